import Derived.Test.YtfaehioeepolhaaGreatJCrashReceiver49
import Derived.Test.YtfaehioeepolhaaGreatJCrashReceiver18
namespace Go.Proofs.YtfaehioeepolhaaGreat
open Go.RowKit
theorem cTable_owned {w : World} {t : PT} {cs : List Value} {bs : List Nat} (h : cTable.own w t cs bs) : ∃ v, cs = [.int .i64 t.rows, v] ∧ OwnSl cCell 157 w t.cells v bs ∧ IntIn t.rows := by
  obtain ⟨c1, c2, b1, b2, rfl, rfl, ⟨rfl, h2, rfl⟩, v, rfl, h3⟩ := h
  exact ⟨v, rfl, by simpa using h3, h2⟩
def hT_ (t : PT) : Nat := sumL gT t.cells + 1
def mkH (q : Nat) (t : PT) : PT := ⟨((q : Nat) : Int), mkL gT mkG (q + 1) t.cells⟩
theorem hT_le (ts : List PT) : sumL hT_ ts ≤ 2 * totL totT ts + ts.length := by
  unfold sumL totL
  induction ts with
  | nil => simp
  | cons x l ih =>
    have h := gT_le x.cells
    have h2 : totT x = x.cells.length + (x.cells.map fun f : PC => f.text.length).sum := rfl
    have h3 : hT_ x = sumL gT x.cells + 1 := rfl
    simp only [List.map_cons, List.sum_cons, List.length_cons] at ih ⊢
    omega
theorem hT_at (ts : List PT) (k : Nat) (h : k < ts.length) (ht : totL totT ts ≤ 1048576) : ts[k].cells.length ≤ 1048576 ∧ (ts[k].cells.map fun x : PC => x.text.length).sum ≤ 1048576 := by
  have h1 := tot_at totT ts k h
  unfold totL at ht
  have h2 : totT ts[k] = ts[k].cells.length + (ts[k].cells.map fun x : PC => x.text.length).sum := rfl
  omega
set_option maxRecDepth 100000 in
set_option maxHeartbeats 8000000 in
theorem markTableS_any (v : Value) (ys : List PT) (bs : List Nat) (m : Nat) (w : World) (h : OwnSl cTable 111 w ys v bs) (hnd : bs.Nodup) (ht : totL totT ys ≤ 1048576) (hm : m ≤ 536870912) :
    Calls Tryz.prog 33 #[v, .int .i64 m] w fun e w' => e = .returned (.int .i64 ((m + sumL hT_ ys : Nat) : Int)) ∧ OwnSl cTable 111 w' (mkL hT_ mkH m ys) v bs ∧ Only bs w w' := by
  obtain ⟨a, cap, rfl, -⟩ := id h.rd
  have hn : ys.length ≤ 1048576 := by unfold totL at ht; omega
  have hsm : sumL hT_ ys ≤ 8388608 := by have h1 := hT_le ys; omega
  have HTE : Hid (∀ k, (hk : k < ys.length) → ys[k].cells.length ≤ 1048576 ∧ (ys[k].cells.map fun x : PC => x.text.length).sum ≤ 1048576) := hid (fun k hk => hT_at ys k hk ht)
  have H0 : Hid (OwnSl cTable 111 w (mixL hT_ mkH m ys 0 0) (.slice a ys.length cap) bs) := hid (by rw [mixL_zero]; exact h)
  have HND := hid hnd
  clear h hnd ht
  go_enter Tryz.func33, Tryz.ntmps33
  go_wp2
  go_loopw [1, 5] (fun q i wr => ∃ k : Nat, k ≤ ys.length ∧ i = .int .i64 k ∧ q = .int .i64 ((m + sumL hT_ (ys.take k) : Nat) : Int) ∧ OwnSl cTable 111 wr (mixL hT_ mkH m ys 0 k) (.slice a ys.length cap) bs ∧ Only bs w wr) (fun _ i _ => ys.length - (intOf i).toNat)
  case atStart => exact ⟨0, Nat.zero_le _, rfl, by simp [sumL], H0.out, Only.refl _ _⟩
  case round =>
    obtain ⟨k, hk, rfl, rfl, how, hon⟩ := hrel
    have HO := hid how
    have HON := hid hon
    clear how hon
    have hki0 := sumL_take hT_ ys k
    by_cases hlt : k < ys.length
    · have hlt2 : k < (mixL hT_ mkH m ys 0 k).length := by rw [mixL_len hT_ mkH m ys 0 k (by omega)]; exact hlt
      have hat : (mixL hT_ mkH m ys 0 k)[k] = ys[k] := by
        have h1 := mixL_at hT_ mkH m ys 0 k (by omega)
        simp only [Nat.zero_add] at h1
        rw [List.getElem?_eq_getElem hlt2, Option.some.injEq] at h1
        exact h1
      obtain ⟨g, cap2, cs, bk, hv, hc, hbn, hbm, hng, hcell, -⟩ := HO.out.focus2 HND.out hlt2
      simp only [Value.slice.injEq] at hv
      obtain ⟨rfl, -, rfl⟩ := hv
      rw [hat] at hc
      obtain ⟨u, rfl, hu, hin⟩ := cTable_owned hc
      obtain ⟨au, cu, rfl, -⟩ := id hu.rd
      have d0 := hcell 0 (by decide)
      have d1 := hcell 1 (by decide)
      rw [show k * cTable.n + 0 = k * 2 from rfl] at d0
      rw [show k * cTable.n + 1 = k * 2 + 1 from rfl] at d1
      simp only [List.getElem?_cons_zero, List.getElem?_cons_succ] at d0 d1
      have f0 := HO.out.frozenAt (k * 2)
      have f1 := HO.out.frozenAt (k * 2 + 1)
      have HTS := hid (sumL_snoc hT_ ys k hlt)
      have hts2 := sumL_take hT_ ys (k + 1)
      have hle2 := HTE.out k hlt
      have HSU : Hid ((mixL hT_ mkH m ys 0 k).set k (mkH (m + sumL hT_ (ys.take k)) ys[k]) = mixL hT_ mkH m ys 0 (k + 1)) := hid (by have h := mixL_succ hT_ mkH m ys 0 k (by omega); simpa only [Nat.zero_add, List.drop_zero] using h)
      have HFT : Hid (hT_ ys[k] = sumL gT ys[k].cells + 1) := hid rfl
      have hsb : sumL hT_ (ys.take k) + sumL gT ys[k].cells + 1 ≤ 8388608 := by have := HTS.out; have := HFT.out; omega
      have hst := HO.out.store HND.out hlt2 (k * 2) 0 [.int .i64 ((m + sumL hT_ (ys.take k) : Nat) : Int)] rfl (by show 1 ≤ 2; decide) ⟨((m + sumL hT_ (ys.take k) : Nat) : Int), ys[k].cells⟩ (fun cs bk w' ho hk => by
        rw [hat] at ho
        obtain ⟨u1, rfl, hd1, hin1⟩ := cTable_owned ho
        exact cTable_own (t := ⟨((m + sumL hT_ (ys.take k) : Nat) : Int), ys[k].cells⟩) (hd1.kept hk) (by dsimp only [IntIn]; omega))
      rw [show wsetAll wr g (k * 2) [.int .i64 ((m + sumL hT_ (ys.take k) : Nat) : Int)] = wr.setCell ⟨g, k * 2, none⟩ (.int .i64 ((m + sumL hT_ (ys.take k) : Nat) : Int)) from rfl] at hst
      obtain ⟨g1, cap1, cs1, bk1, hv1, hc1, hbn1, hbm1, hng1, hcell1, hset1⟩ := hst.1.focus2 HND.out (k := k) (by simpa using hlt2)
      simp only [Value.slice.injEq, Option.some.injEq, Addr.mk.injEq, and_true] at hv1
      obtain ⟨rfl, -, rfl⟩ := hv1
      rw [List.getElem_set_self] at hc1
      obtain ⟨u1, rfl, hu1, hin1⟩ := cTable_owned hc1
      have e1 := hcell1 1 (by decide)
      rw [show k * cTable.n + 1 = k * 2 + 1 from rfl, World.cell?_setCell_other _ _ _ _ (by simp), d1] at e1
      simp only [List.getElem?_cons_zero, List.getElem?_cons_succ, Option.some.injEq] at e1
      subst e1
      have HSET : Hid (∀ w' y, OwnSl cCell 157 w' y (.slice au ys[k].cells.length cu) bk1 → Only bk1 (wr.setCell ⟨g, k * 2, none⟩ (.int .i64 ((m + sumL hT_ (ys.take k) : Nat) : Int))) w' → OwnSl cTable 111 w' ((mixL hT_ mkH m ys 0 k).set k ⟨((m + sumL hT_ (ys.take k) : Nat) : Int), y⟩) (.slice (some ⟨g, 0, none⟩) ys.length cap) bs) := hid (fun w' y h1 h2 => by
        have h := hset1 w' ⟨((m + sumL hT_ (ys.take k) : Nat) : Int), y⟩ (cTable_own (t := ⟨((m + sumL hT_ (ys.take k) : Nat) : Int), y⟩) h1 hin1) h2
        rwa [List.set_set] at h)
      have HU := hid hu1
      have HBN := hid hbn1
      have HOS := hid hst.2
      have HBM := hid hbm1
      have hki : (k : Int) < (ys.length : Int) := by omega
      have HMH : Hid (mkH (m + sumL hT_ (ys.take k)) ys[k] = ⟨((m + sumL hT_ (ys.take k) : Nat) : Int), mkL gT mkG (m + sumL hT_ (ys.take k) + 1) ys[k].cells⟩) := hid rfl
      clear hat hst hset1 hcell1 hcell hu1 hu hc hc1 hbn hbn1 hbm hbm1 hng hng1 hts2 hki0 hin hin1
      rw [HMH.out] at HSU
      clear HMH
      generalize sumL hT_ (ys.take k) = t at *
      rw [show ((m + t : Nat) : Int) = (m : Int) + (t : Int) from by omega] at HU HSET HOS HSU
      go_wp2_with fail
      rw [show ((m : Int) + (t : Int) + 1) = ((m + t + 1 : Nat) : Int) from by omega]
      generalize (wr.setCell ⟨g, k * 2, none⟩ (.int .i64 ((m : Int) + (t : Int)))) = W5 at *
      clear d0 d1 f0 f1
      refine (markCellX_any _ ys[k].cells bk1 (m + t + 1) W5 HU.out HBN.out hle2.1 hle2.2 (by omega)).mono ?_
      rintro e w2 ⟨rfl, o2, on2⟩
      have HN : Hid (OwnSl cTable 111 w2 (mixL hT_ mkH m ys 0 (k + 1)) (.slice (some ⟨g, 0, none⟩) ys.length cap) bs) := hid (by
        rw [← HSU.out]
        exact HSET.out w2 _ o2 on2)
      have HON2 := hid (HON.out.trans (HOS.out.trans (on2.mono HBM.out)))
      generalize hln : sumL gT ys[k].cells = ln at *
      obtain ⟨Z, hZ⟩ : ∃ Z : Int, Z = ((m + t + 1 + ln : Nat) : Int) := ⟨_, rfl⟩
      rw [← hZ]
      have hz0 : 0 ≤ Z := by omega
      have hz1 : Z ≤ 1099511627776 := by omega
      have HZ := hid hZ
      clear hZ o2 on2 HSET HSU HU
      go_wp2
      go_roundw
      case rel => exact ⟨k + 1, by omega, by go_num, by rw [HTS.out, HFT.out]; congr 1; have := HZ.out; omega, HN.out, HON2.out⟩
      case measure => simp [intOf]; omega
    · obtain rfl : k = ys.length := by omega
      have HF : Hid (OwnSl cTable 111 wr (mkL hT_ mkH m ys) (.slice a ys.length cap) bs) := hid (by
        have h := HO.out
        rw [mixL_done hT_ mkH m ys 0 ys.length (by omega)] at h
        simpa only [List.take_zero, List.nil_append, List.drop_zero] using h)
      have HT : Hid (sumL hT_ (ys.take ys.length) = sumL hT_ ys) := hid (by rw [List.take_length])
      rw [HT.out]
      go_wp2
      go_ret
      exact ⟨rfl, HF.out, HON.out⟩
end Go.Proofs.YtfaehioeepolhaaGreat
