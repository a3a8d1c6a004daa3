import Derived.Test.YtfaehioeepolhabGreatJSend18
import Derived.Test.YtfaehioeepolhabGreatJSend2
import Derived.Test.YtfaehioeepolhabGreatJSend10
import Derived.Test.YtfaehioeepolhabGreatJSend27
import Derived.Test.YtfaehioeepolhabGreatJSend32
import Derived.Test.YtfaehioeepolhabGreatJSend4
namespace Go.Proofs.YtfaehioeepolhabGreat
open Go.RowKit
def gT (x : PC) : Nat := x.text.length + 2
def mkG (q : Nat) (x : PC) : PC := ⟨(((q : Nat) : Int) % 3 == 0), ((q + 1 : Nat) : Int), mkByte (q + 2) x.text.length⟩
theorem wset2_3 (w : World) (g off : Nat) (x0 x1 : Value) : wsetAll w g off [x0, x1] = ((w.setCell ⟨g, off, none⟩ x0).setCell ⟨g, off + 1, none⟩ x1) := rfl
theorem gT_le (xs : List PC) : sumL gT xs = (xs.map fun x : PC => x.text.length).sum + 2 * xs.length := by
  unfold sumL
  induction xs with
  | nil => rfl
  | cons x l ih => simp [gT] at ih ⊢; omega
set_option maxHeartbeats 1000000 in
theorem mkG_round {wr : World} {ys : List PC} {g m cap : Nat} {bs : List Nat} (h : OwnSl cCell 102 wr ys (.slice (some ⟨g, 0, none⟩) m cap) bs) (hnd : bs.Nodup) {i : Nat} (hi : i < ys.length) (off : Nat) (hoff : off = i * 3) (q : Nat) (hq : q ≤ 1099511627776) :
    ∃ a0 c0, wr.cell? ⟨g, off, none⟩ = some (.bool ys[i].null) ∧ wr.cell? ⟨g, off + 1, none⟩ = some (.int .i64 ys[i].num) ∧ wr.cell? ⟨g, off + 2, none⟩ = some (.slice a0 ys[i].text.length c0) ∧ (∀ j, wr.frozen? ⟨g, j, none⟩ = false) ∧
      ((wr.setCell ⟨g, off, none⟩ (.bool (((q : Nat) : Int) % 3 == 0))).setCell ⟨g, off + 1, none⟩ (.int .i64 ((q + 1 : Nat) : Int))).ownsRow 0 5 1 (.slice a0 ys[i].text.length c0) ys[i].text.length (byt ys[i].text) ∧
      ∀ w2, w2.ownsRow 0 5 1 (.slice a0 ys[i].text.length c0) ys[i].text.length (byt (mkByte (q + 2) ys[i].text.length)) → ((wr.setCell ⟨g, off, none⟩ (.bool (((q : Nat) : Int) % 3 == 0))).setCell ⟨g, off + 1, none⟩ (.int .i64 ((q + 1 : Nat) : Int))).grownBy w2 (Value.slice a0 ys[i].text.length c0).ownBlock →
        OwnSl cCell 102 w2 (ys.set i (mkG q ys[i])) (.slice (some ⟨g, 0, none⟩) m cap) bs ∧ Only bs wr w2 := by
  have hn : cCell.n = 3 := rfl
  obtain ⟨g0, cap0, cs, bk, hv, hc, hbn, hbm, hng, hcell, -⟩ := h.focus2 hnd hi
  simp only [Value.slice.injEq, Option.some.injEq, Addr.mk.injEq, and_true] at hv
  obtain ⟨rfl, rfl, rfl⟩ := hv
  obtain ⟨u, rfl, hd, hin⟩ := cCell_owned hc
  obtain ⟨a0, c0, rfl, -⟩ := id hd.rd
  have hst := h.store hnd hi off 0 [.bool (((q : Nat) : Int) % 3 == 0), .int .i64 ((q + 1 : Nat) : Int)] (by rw [hn, hoff]; rfl) (by rw [hn]; simp) ⟨(((q : Nat) : Int) % 3 == 0), ((q + 1 : Nat) : Int), ys[i].text⟩ (fun cs bk w' ho hk => by
    obtain ⟨u1, rfl, hd1, hin1⟩ := cCell_owned ho
    exact cCell_own (f := ⟨(((q : Nat) : Int) % 3 == 0), ((q + 1 : Nat) : Int), ys[i].text⟩) (hd1.kept hk) (by dsimp only [IntIn]; omega))
  have hko : ∀ b, b ≠ g → ((wr.setCell ⟨g, off, none⟩ (.bool (((q : Nat) : Int) % 3 == 0))).setCell ⟨g, off + 1, none⟩ (.int .i64 ((q + 1 : Nat) : Int))).heap[b]? = wr.heap[b]? := fun b hb => by
    rw [← wset2_3]; exact wsetAll_other _ wr g off hb
  rw [wset2_3] at hst
  have hbk : bk = (Value.slice a0 ys[i].text.length c0).ownBlock.toList := hd.bytes.2.1
  have d0 := hcell 0 (by decide)
  have d1 := hcell 1 (by decide)
  have d2 := hcell 2 (by decide)
  rw [hn] at d0 d1 d2
  simp only [List.getElem?_cons_zero, List.getElem?_cons_succ, Nat.add_zero] at d0 d1 d2
  subst hoff
  refine ⟨a0, c0, d0, d1, d2, fun j => h.frozenAt j, ownsRow_kept hd.bytes.1 (fun b hb => hko b (fun e => hng (by rw [hbk, ← e, hb]; simp))), fun w2 o2 g2 => ?_⟩
  have h5 : ((wr.setCell ⟨g, i * 3, none⟩ (.bool (((q : Nat) : Int) % 3 == 0))).setCell ⟨g, i * 3 + 1, none⟩ (.int .i64 ((q + 1 : Nat) : Int))).cell? ⟨g, i * 3 + 2, none⟩ = some (.slice a0 ys[i].text.length c0) := by
    rw [World.cell?_setCell_other _ _ _ _ (by simp), World.cell?_setCell_other _ _ _ _ (by simp)]
    exact d2
  obtain ⟨g1, cap1, cs1, bk1, hv1, hc1, hbn1, hbm1, hng1, hcell1, hset1⟩ := hst.1.focus2 hnd (k := i) (by simpa using hi)
  simp only [Value.slice.injEq, Option.some.injEq, Addr.mk.injEq, and_true] at hv1
  obtain ⟨rfl, -, rfl⟩ := hv1
  rw [List.getElem_set_self] at hc1
  obtain ⟨u1, rfl, hd1, hin1⟩ := cCell_owned hc1
  have d51 := hcell1 2 (by decide)
  rw [hn, h5] at d51
  simp only [List.getElem?_cons_zero, List.getElem?_cons_succ, Option.some.injEq] at d51
  subst d51
  have hbk1 : bk1 = (Value.slice a0 ys[i].text.length c0).ownBlock.toList := hd1.bytes.2.1
  have hon2 := only_of_grown g2
  rw [← hbk1] at hon2
  have hy2 := cCell_own (f := ⟨(((q : Nat) : Int) % 3 == 0), ((q + 1 : Nat) : Int), mkByte (q + 2) ys[i].text.length⟩) (v := (.slice a0 ys[i].text.length c0)) (bs := bk1) (w := w2) (by rw [hbk1]; exact ownSl_bytes o2 (mkByte_ok _ _)) hin1
  have h2 := hset1 w2 _ hy2 hon2
  rw [List.set_set] at h2
  exact ⟨h2, hst.2.trans (hon2.mono hbm1)⟩
set_option maxRecDepth 100000 in
set_option maxHeartbeats 8000000 in
theorem markCellX_any (v : Value) (ys : List PC) (bs : List Nat) (m : Nat) (w : World) (h : OwnSl cCell 102 w ys v bs) (hnd : bs.Nodup) (hn : ys.length ≤ 1048576) (ht : (ys.map fun x : PC => x.text.length).sum ≤ 1048576) (hm : m ≤ 1073741824) :
    Calls Tryz.prog 46 #[v, .int .i64 m] w fun e w' => e = .returned (.int .i64 ((m + sumL gT ys : Nat) : Int)) ∧ OwnSl cCell 102 w' (mkL gT mkG m ys) v bs ∧ Only bs w w' := by
  obtain ⟨a, cap, rfl, -⟩ := id h.rd
  have hsm : sumL gT ys ≤ 8388608 := by have h1 := gT_le ys; omega
  have HTE : Hid (∀ k, (hk : k < ys.length) → ys[k].text.length ≤ 1048576) := hid (fun k hk => by have := tot_at (fun x : PC => x.text.length) ys k hk; omega)
  have H0 : Hid (OwnSl cCell 102 w (mixL gT mkG m ys 0 0) (.slice a ys.length cap) bs) := hid (by rw [mixL_zero]; exact h)
  have HND := hid hnd
  clear h hnd ht
  go_enter Tryz.func46, Tryz.ntmps46
  go_wp2
  go_loopw [1, 5] (fun q i wr => ∃ k : Nat, k ≤ ys.length ∧ i = .int .i64 k ∧ q = .int .i64 ((m + sumL gT (ys.take k) : Nat) : Int) ∧ OwnSl cCell 102 wr (mixL gT mkG m ys 0 k) (.slice a ys.length cap) bs ∧ Only bs w wr) (fun _ i _ => ys.length - (intOf i).toNat)
  case atStart => exact ⟨0, Nat.zero_le _, rfl, by simp [sumL], H0.out, Only.refl _ _⟩
  case round =>
    obtain ⟨k, hk, rfl, rfl, how, hon⟩ := hrel
    have HO := hid how
    have HON := hid hon
    clear how hon
    have hki0 := sumL_take gT ys k
    by_cases hlt : k < ys.length
    · have hlt2 : k < (mixL gT mkG m ys 0 k).length := by rw [mixL_len gT mkG m ys 0 k (by omega)]; exact hlt
      have hat : (mixL gT mkG m ys 0 k)[k] = ys[k] := by
        have h1 := mixL_at gT mkG m ys 0 k (by omega)
        simp only [Nat.zero_add] at h1
        rw [List.getElem?_eq_getElem hlt2, Option.some.injEq] at h1
        exact h1
      obtain ⟨g, cap2, cs, bk, hv, -⟩ := HO.out.focus2 HND.out hlt2
      simp only [Value.slice.injEq] at hv
      obtain ⟨rfl, -, rfl⟩ := hv
      have HTS := hid (sumL_snoc gT ys k hlt)
      have hts2 := sumL_take gT ys (k + 1)
      have hle2 := HTE.out k hlt
      have HSU : Hid ((mixL gT mkG m ys 0 k).set k (mkG (m + sumL gT (ys.take k)) ys[k]) = mixL gT mkG m ys 0 (k + 1)) := hid (by have h := mixL_succ gT mkG m ys 0 k (by omega); simpa only [Nat.zero_add, List.drop_zero] using h)
      have HFT : Hid (gT ys[k] = ys[k].text.length + 2) := hid rfl
      have hsb : sumL gT (ys.take k) + ys[k].text.length + 2 ≤ 8388608 := by have := HTS.out; have := HFT.out; omega
      have hR := mkG_round HO.out HND.out hlt2 (k * 3) rfl (m + sumL gT (ys.take k)) (by omega)
      rw [hat, HSU.out] at hR
      clear hat HSU hts2 hki0
      generalize sumL gT (ys.take k) = t at *
      generalize ys[k].text.length = ln at *
      obtain ⟨a0, c0, d0, d1, d2, hfz, o5, hfin⟩ := hR
      have f0 := hfz (k * 3)
      have f1 := hfz (k * 3 + 1)
      have f2 := hfz (k * 3 + 2)
      rw [show ((m + t : Nat) : Int) = (m : Int) + (t : Int) from by omega, show ((m + t + 1 : Nat) : Int) = (m : Int) + (t : Int) + 1 from by omega] at o5 hfin
      have HO5 := hid o5
      have HF := hid hfin
      have hki : (k : Int) < (ys.length : Int) := by omega
      clear o5 hfin hfz
      go_wp2_with fail
      rw [show ((m : Int) + (t : Int) + 1 + 1) = ((m + t + 2 : Nat) : Int) from by omega]
      generalize ((wr.setCell ⟨g, k * 3, none⟩ (.bool (((m : Int) + (t : Int)) % 3 == 0))).setCell ⟨g, k * 3 + 1, none⟩ (.int .i64 ((m : Int) + (t : Int) + 1))) = W5 at *
      clear d0 d1 d2 f0 f1 f2
      refine (markByteS_any 0 _ (m + t + 2) _ _ W5 HO5.out (by omega) (by omega)).mono ?_
      rintro e w2 ⟨rfl, o2, g2⟩
      obtain ⟨Z, hZ⟩ : ∃ Z : Int, Z = ((m + t + 2 + ln : Nat) : Int) := ⟨_, rfl⟩
      have hR2 := HF.out w2 o2 g2
      rw [← hZ]
      have hz0 : 0 ≤ Z := by omega
      have hz1 : Z ≤ 1099511627776 := by omega
      have HZ := hid hZ
      clear hZ
      obtain ⟨hN, hO⟩ := hR2
      have HN := hid hN
      have HON2 := hid (HON.out.trans hO)
      clear hN hO o2 g2 HF HO5
      go_wp2
      go_roundw
      case rel => exact ⟨k + 1, by omega, by go_num, by rw [HTS.out, HFT.out]; congr 1; have := HZ.out; omega, HN.out, HON2.out⟩
      case measure => simp [intOf]; omega
    · obtain rfl : k = ys.length := by omega
      have HF : Hid (OwnSl cCell 102 wr (mkL gT mkG m ys) (.slice a ys.length cap) bs) := hid (by
        have h := HO.out
        rw [mixL_done gT mkG m ys 0 ys.length (by omega)] at h
        simpa only [List.take_zero, List.nil_append, List.drop_zero] using h)
      have HT : Hid (sumL gT (ys.take ys.length) = sumL gT ys) := hid (by rw [List.take_length])
      rw [HT.out]
      go_wp2
      go_ret
      exact ⟨rfl, HF.out, HON.out⟩
end Go.Proofs.YtfaehioeepolhabGreat
namespace Go.Proofs.YtfaehioeepolhabGreat
open Go.RowKit
theorem cTable_owned {w : World} {t : PT} {cs : List Value} {bs : List Nat} (h : cTable.own w t cs bs) : ∃ v, cs = [.int .i64 t.rows, v] ∧ OwnSl cCell 102 w t.cells v bs ∧ IntIn t.rows := by
  obtain ⟨c1, c2, b1, b2, rfl, rfl, ⟨rfl, h2, rfl⟩, v, rfl, h3⟩ := h
  exact ⟨v, rfl, by simpa using h3, h2⟩
def hT_ (t : PT) : Nat := sumL gT t.cells + 1
def mkH (q : Nat) (t : PT) : PT := ⟨((q : Nat) : Int), mkL gT mkG (q + 1) t.cells⟩
theorem hT_le (ts : List PT) : sumL hT_ ts ≤ 2 * totL totT ts + ts.length := by
  unfold sumL totL
  induction ts with
  | nil => simp
  | cons x l ih =>
    have h := gT_le x.cells
    have h2 : totT x = x.cells.length + (x.cells.map fun f : PC => f.text.length).sum := rfl
    have h3 : hT_ x = sumL gT x.cells + 1 := rfl
    simp only [List.map_cons, List.sum_cons, List.length_cons] at ih ⊢
    omega
theorem hT_at (ts : List PT) (k : Nat) (h : k < ts.length) (ht : totL totT ts ≤ 1048576) : ts[k].cells.length ≤ 1048576 ∧ (ts[k].cells.map fun x : PC => x.text.length).sum ≤ 1048576 := by
  have h1 := tot_at totT ts k h
  unfold totL at ht
  have h2 : totT ts[k] = ts[k].cells.length + (ts[k].cells.map fun x : PC => x.text.length).sum := rfl
  omega
set_option maxRecDepth 100000 in
set_option maxHeartbeats 8000000 in
theorem markTableS_any (v : Value) (ys : List PT) (bs : List Nat) (m : Nat) (w : World) (h : OwnSl cTable 51 w ys v bs) (hnd : bs.Nodup) (ht : totL totT ys ≤ 1048576) (hm : m ≤ 536870912) :
    Calls Tryz.prog 43 #[v, .int .i64 m] w fun e w' => e = .returned (.int .i64 ((m + sumL hT_ ys : Nat) : Int)) ∧ OwnSl cTable 51 w' (mkL hT_ mkH m ys) v bs ∧ Only bs w w' := by
  obtain ⟨a, cap, rfl, -⟩ := id h.rd
  have hn : ys.length ≤ 1048576 := by unfold totL at ht; omega
  have hsm : sumL hT_ ys ≤ 8388608 := by have h1 := hT_le ys; omega
  have HTE : Hid (∀ k, (hk : k < ys.length) → ys[k].cells.length ≤ 1048576 ∧ (ys[k].cells.map fun x : PC => x.text.length).sum ≤ 1048576) := hid (fun k hk => hT_at ys k hk ht)
  have H0 : Hid (OwnSl cTable 51 w (mixL hT_ mkH m ys 0 0) (.slice a ys.length cap) bs) := hid (by rw [mixL_zero]; exact h)
  have HND := hid hnd
  clear h hnd ht
  go_enter Tryz.func43, Tryz.ntmps43
  go_wp2
  go_loopw [1, 5] (fun q i wr => ∃ k : Nat, k ≤ ys.length ∧ i = .int .i64 k ∧ q = .int .i64 ((m + sumL hT_ (ys.take k) : Nat) : Int) ∧ OwnSl cTable 51 wr (mixL hT_ mkH m ys 0 k) (.slice a ys.length cap) bs ∧ Only bs w wr) (fun _ i _ => ys.length - (intOf i).toNat)
  case atStart => exact ⟨0, Nat.zero_le _, rfl, by simp [sumL], H0.out, Only.refl _ _⟩
  case round =>
    obtain ⟨k, hk, rfl, rfl, how, hon⟩ := hrel
    have HO := hid how
    have HON := hid hon
    clear how hon
    have hki0 := sumL_take hT_ ys k
    by_cases hlt : k < ys.length
    · have hlt2 : k < (mixL hT_ mkH m ys 0 k).length := by rw [mixL_len hT_ mkH m ys 0 k (by omega)]; exact hlt
      have hat : (mixL hT_ mkH m ys 0 k)[k] = ys[k] := by
        have h1 := mixL_at hT_ mkH m ys 0 k (by omega)
        simp only [Nat.zero_add] at h1
        rw [List.getElem?_eq_getElem hlt2, Option.some.injEq] at h1
        exact h1
      obtain ⟨g, cap2, cs, bk, hv, hc, hbn, hbm, hng, hcell, -⟩ := HO.out.focus2 HND.out hlt2
      simp only [Value.slice.injEq] at hv
      obtain ⟨rfl, -, rfl⟩ := hv
      rw [hat] at hc
      obtain ⟨u, rfl, hu, hin⟩ := cTable_owned hc
      obtain ⟨au, cu, rfl, -⟩ := id hu.rd
      have d0 := hcell 0 (by decide)
      have d1 := hcell 1 (by decide)
      rw [show k * cTable.n + 0 = k * 2 from rfl] at d0
      rw [show k * cTable.n + 1 = k * 2 + 1 from rfl] at d1
      simp only [List.getElem?_cons_zero, List.getElem?_cons_succ] at d0 d1
      have f0 := HO.out.frozenAt (k * 2)
      have f1 := HO.out.frozenAt (k * 2 + 1)
      have HTS := hid (sumL_snoc hT_ ys k hlt)
      have hts2 := sumL_take hT_ ys (k + 1)
      have hle2 := HTE.out k hlt
      have HSU : Hid ((mixL hT_ mkH m ys 0 k).set k (mkH (m + sumL hT_ (ys.take k)) ys[k]) = mixL hT_ mkH m ys 0 (k + 1)) := hid (by have h := mixL_succ hT_ mkH m ys 0 k (by omega); simpa only [Nat.zero_add, List.drop_zero] using h)
      have HFT : Hid (hT_ ys[k] = sumL gT ys[k].cells + 1) := hid rfl
      have hsb : sumL hT_ (ys.take k) + sumL gT ys[k].cells + 1 ≤ 8388608 := by have := HTS.out; have := HFT.out; omega
      have hst := HO.out.store HND.out hlt2 (k * 2) 0 [.int .i64 ((m + sumL hT_ (ys.take k) : Nat) : Int)] rfl (by show 1 ≤ 2; decide) ⟨((m + sumL hT_ (ys.take k) : Nat) : Int), ys[k].cells⟩ (fun cs bk w' ho hk => by
        rw [hat] at ho
        obtain ⟨u1, rfl, hd1, hin1⟩ := cTable_owned ho
        exact cTable_own (t := ⟨((m + sumL hT_ (ys.take k) : Nat) : Int), ys[k].cells⟩) (hd1.kept hk) (by dsimp only [IntIn]; omega))
      rw [show wsetAll wr g (k * 2) [.int .i64 ((m + sumL hT_ (ys.take k) : Nat) : Int)] = wr.setCell ⟨g, k * 2, none⟩ (.int .i64 ((m + sumL hT_ (ys.take k) : Nat) : Int)) from rfl] at hst
      obtain ⟨g1, cap1, cs1, bk1, hv1, hc1, hbn1, hbm1, hng1, hcell1, hset1⟩ := hst.1.focus2 HND.out (k := k) (by simpa using hlt2)
      simp only [Value.slice.injEq, Option.some.injEq, Addr.mk.injEq, and_true] at hv1
      obtain ⟨rfl, -, rfl⟩ := hv1
      rw [List.getElem_set_self] at hc1
      obtain ⟨u1, rfl, hu1, hin1⟩ := cTable_owned hc1
      have e1 := hcell1 1 (by decide)
      rw [show k * cTable.n + 1 = k * 2 + 1 from rfl, World.cell?_setCell_other _ _ _ _ (by simp), d1] at e1
      simp only [List.getElem?_cons_zero, List.getElem?_cons_succ, Option.some.injEq] at e1
      subst e1
      have HSET : Hid (∀ w' y, OwnSl cCell 102 w' y (.slice au ys[k].cells.length cu) bk1 → Only bk1 (wr.setCell ⟨g, k * 2, none⟩ (.int .i64 ((m + sumL hT_ (ys.take k) : Nat) : Int))) w' → OwnSl cTable 51 w' ((mixL hT_ mkH m ys 0 k).set k ⟨((m + sumL hT_ (ys.take k) : Nat) : Int), y⟩) (.slice (some ⟨g, 0, none⟩) ys.length cap) bs) := hid (fun w' y h1 h2 => by
        have h := hset1 w' ⟨((m + sumL hT_ (ys.take k) : Nat) : Int), y⟩ (cTable_own (t := ⟨((m + sumL hT_ (ys.take k) : Nat) : Int), y⟩) h1 hin1) h2
        rwa [List.set_set] at h)
      have HU := hid hu1
      have HBN := hid hbn1
      have HOS := hid hst.2
      have HBM := hid hbm1
      have hki : (k : Int) < (ys.length : Int) := by omega
      have HMH : Hid (mkH (m + sumL hT_ (ys.take k)) ys[k] = ⟨((m + sumL hT_ (ys.take k) : Nat) : Int), mkL gT mkG (m + sumL hT_ (ys.take k) + 1) ys[k].cells⟩) := hid rfl
      clear hat hst hset1 hcell1 hcell hu1 hu hc hc1 hbn hbn1 hbm hbm1 hng hng1 hts2 hki0 hin hin1
      rw [HMH.out] at HSU
      clear HMH
      generalize sumL hT_ (ys.take k) = t at *
      rw [show ((m + t : Nat) : Int) = (m : Int) + (t : Int) from by omega] at HU HSET HOS HSU
      go_wp2_with fail
      rw [show ((m : Int) + (t : Int) + 1) = ((m + t + 1 : Nat) : Int) from by omega]
      generalize (wr.setCell ⟨g, k * 2, none⟩ (.int .i64 ((m : Int) + (t : Int)))) = W5 at *
      clear d0 d1 f0 f1
      refine (markCellX_any _ ys[k].cells bk1 (m + t + 1) W5 HU.out HBN.out hle2.1 hle2.2 (by omega)).mono ?_
      rintro e w2 ⟨rfl, o2, on2⟩
      have HN : Hid (OwnSl cTable 51 w2 (mixL hT_ mkH m ys 0 (k + 1)) (.slice (some ⟨g, 0, none⟩) ys.length cap) bs) := hid (by
        rw [← HSU.out]
        exact HSET.out w2 _ o2 on2)
      have HON2 := hid (HON.out.trans (HOS.out.trans (on2.mono HBM.out)))
      generalize hln : sumL gT ys[k].cells = ln at *
      obtain ⟨Z, hZ⟩ : ∃ Z : Int, Z = ((m + t + 1 + ln : Nat) : Int) := ⟨_, rfl⟩
      rw [← hZ]
      have hz0 : 0 ≤ Z := by omega
      have hz1 : Z ≤ 1099511627776 := by omega
      have HZ := hid hZ
      clear hZ o2 on2 HSET HSU HU
      go_wp2
      go_roundw
      case rel => exact ⟨k + 1, by omega, by go_num, by rw [HTS.out, HFT.out]; congr 1; have := HZ.out; omega, HN.out, HON2.out⟩
      case measure => simp [intOf]; omega
    · obtain rfl : k = ys.length := by omega
      have HF : Hid (OwnSl cTable 51 wr (mkL hT_ mkH m ys) (.slice a ys.length cap) bs) := hid (by
        have h := HO.out
        rw [mixL_done hT_ mkH m ys 0 ys.length (by omega)] at h
        simpa only [List.take_zero, List.nil_append, List.drop_zero] using h)
      have HT : Hid (sumL hT_ (ys.take ys.length) = sumL hT_ ys) := hid (by rw [List.take_length])
      rw [HT.out]
      go_wp2
      go_ret
      exact ⟨rfl, HF.out, HON.out⟩
end Go.Proofs.YtfaehioeepolhabGreat
namespace Go.Proofs.YtfaehioeepolhabGreat
open Go.RowKit
theorem szTable1_any (t : PT) (a : Option Addr) (c : Nat) (l : Int) (w : World) (hr : RdSl cCell w t.cells (.slice a t.cells.length c)) (hi : IntIn t.rows) (h0 : 0 ≤ l) (h1 : l ≤ 1048576) :
    Calls Tryz.prog 6 #[.agg #[.int .i64 t.rows, .slice a t.cells.length c], .int .i64 l] w fun e w' => e = .returned (.int .i64 (rest l (totT t))) ∧ Below w.heap.size w w' :=
  szTable_law w t [.int .i64 t.rows, .slice a t.cells.length c] l (cTable_mkR hr hi) h0 h1
theorem toTable1_any (t : PT) (a : Option Addr) (c : Nat) (w : World) (hr : RdSl cCell w t.cells (.slice a t.cells.length c)) (hi : IntIn t.rows) (ht : totT t ≤ 1048576) :
    Calls Tryz.prog 9 #[.agg #[.int .i64 t.rows, .slice a t.cells.length c]] w fun e w' => ∃ a' c' bs, e = .returned (.agg #[.int .i64 t.rows, .slice a' t.cells.length c']) ∧ OwnSl cCell 102 w' t.cells (.slice a' t.cells.length c') bs ∧ (∀ b ∈ bs, w.heap.size ≤ b) ∧ bs.Nodup ∧ Below w.heap.size w w' := by
  refine (toTable_law w t [.int .i64 t.rows, .slice a t.cells.length c] (cTable_mkR hr hi) ht).mono ?_
  rintro e w' ⟨cs, bs, rfl, ho, h1, h2, h3⟩
  obtain ⟨v, rfl, h4, _⟩ := cTable_owned ho
  obtain ⟨a', c', rfl, -⟩ := id h4.rd
  exact ⟨a', c', bs, rfl, h4, h1, h2, h3⟩
theorem eqTable1_any (t : PT) (a a2 : Option Addr) (c c2 : Nat) (w : World) (hr : RdSl cCell w t.cells (.slice a t.cells.length c)) (hr2 : RdSl cCell w t.cells (.slice a2 t.cells.length c2)) (hi : IntIn t.rows) (ht : totT t ≤ 1048576) :
    Calls Tryz.prog 12 #[.agg #[.int .i64 t.rows, .slice a t.cells.length c], .agg #[.int .i64 t.rows, .slice a2 t.cells.length c2]] w fun e w' => e = .returned (.bool true) ∧ Below w.heap.size w w' :=
  eqTable_law w t [.int .i64 t.rows, .slice a t.cells.length c] [.int .i64 t.rows, .slice a2 t.cells.length c2] (cTable_mkR hr hi) (cTable_mkR hr2 hi) ht
theorem tabN {t : PT} (ht : totT t ≤ 1048576) : t.cells.length ≤ 1048576 ∧ (t.cells.map fun x : PC => x.text.length).sum ≤ 1048576 := by
  have h2 : totT t = t.cells.length + (t.cells.map fun x : PC => x.text.length).sum := rfl
  omega
set_option maxHeartbeats 1000000 in
theorem markTable1_any (t : PT) (a : Option Addr) (c : Nat) (bs : List Nat) (m : Nat) (w : World) (h : OwnSl cCell 102 w t.cells (.slice a t.cells.length c) bs) (hnd : bs.Nodup) (ht : totT t ≤ 1048576) (hm : m ≤ 1073741824) :
    Calls Tryz.prog 14 #[.agg #[.int .i64 t.rows, .slice a t.cells.length c], .int .i64 m] w fun e w' => (∃ q : Nat, q ≤ m + 4194304 ∧ e = .returned (.int .i64 (q : Int))) ∧ Only bs w w' := by
  have HO := hid h
  have hl : ∀ b ∈ bs, b < w.heap.size := h.lt
  clear h
  go_enter Tryz.func14, Tryz.ntmps14
  go_wp2_with fail
  refine (markCellX_any (.slice a t.cells.length c) t.cells bs m _ (HO.out.kept (fun b hb => (below_new1 _ _).block b (HO.out.lt b hb))) hnd (tabN ht).1 (tabN ht).2 hm).mono ?_
  rintro e w2 ⟨rfl, -, on⟩
  have hg := gT_le t.cells
  have hn := tabN ht
  obtain ⟨q, hq⟩ : ∃ q : Nat, q = m + sumL gT t.cells := ⟨_, rfl⟩
  rw [← hq]
  have hq2 : q ≤ m + 4194304 := by omega
  clear hq hg
  have HON : Hid (Only bs w w2) := hid ((Only.of_below (below_new1 _ _)).trans on)
  clear on
  go_wp2
  go_ret
  exact ⟨⟨q, hq2, rfl⟩, HON.out⟩
end Go.Proofs.YtfaehioeepolhabGreat
namespace Go.Proofs.YtfaehioeepolhabGreat
open Go.RowKit
set_option maxHeartbeats 2000000 in
theorem copyTx_any (a : Option Addr) (cap : Nat) (xs : List (List Nat)) (w : World) (hr : RdSl cSS w xs (.slice a xs.length cap)) (ht : totL List.length xs ≤ 1048576) :
    Calls Tryz.prog 128 #[.slice a xs.length cap] w fun e w' => ∃ v bs, e = .returned v ∧ OwnSl cSS 87 w' xs v bs ∧ (∀ b ∈ bs, w.heap.size ≤ b) ∧ bs.Nodup ∧ Below w.heap.size w w' := by
  obtain ⟨i0, hi, hz0, hz1, hz2⟩ := info_parts infoSlT
  have HR := hid hr
  clear hr
  have hlen : xs.length ≤ 1048576 := by unfold totL at ht; omega
  go_enter Tryz.func128, Tryz.ntmps128
  go_wp2_with (first | (at_make; refine wpList_make_full _ rfl (.tmp 7) (.tmp 7) 103 rfl w.heap.size 87 i0 (.slice none 0 0) 1 Tryz.underlying103 hi hz0 hz1 .i64 .i64 _ _ xs.length rfl rfl rfl rfl (by rw [hz2]; omega) (by unfold maxLen; omega) (by simp) ?_))
  intro w1 ho hg1
  have HB1 : Hid (Below w.heap.size w w1) := hid ((Below.refl _ w).grown hg1 (Nat.le_refl _) (by intro k h; cases h))
  have HM : Hid (Made1 cSS 87 w w1 xs 0) := hid ⟨_, [], ho, rfl, fun i h h2 => by simp at h2, by simp, by simp⟩
  clear hg1 hi hz0 hz1 hz2 ho
  go_wp2
  go_loopw [4, 5, 11] (fun _ _ i wr => ∃ k : Nat, k ≤ xs.length ∧ i = .int .i64 k ∧ Made1 cSS 87 w wr xs k ∧ Below w.heap.size w wr) (fun _ _ i _ => xs.length - (intOf i).toNat)
  case atStart => exact ⟨0, Nat.zero_le _, rfl, HM.out, HB1.out⟩
  case round =>
    obtain ⟨k, hk, rfl, hm, hbe⟩ := hrel
    have HV := hid hm
    have HB := hid hbe
    clear hm hbe
    by_cases hlt : k < xs.length
    · obtain ⟨b, off, a', c', rfl, hcb, hrr⟩ := (HR.out.later HB.out).row hlt
      have HRR := hid hrr
      have HBY := hid hrr.rdB.2
      have hki : (k : Int) < (xs.length : Int) := by omega
      clear hrr
      go_wp2_with fail
      refine (bclone_any a' c' xs[k] wr HRR.out (by have := tot_at List.length xs k hlt; unfold totL at ht; omega)).mono ?_
      rintro e w2 ⟨v2, rfl, o2, b2⟩
      obtain ⟨a2, c2, rfl, -⟩ := rd_own o2
      have hg2 : ∀ b ∈ (Value.slice a2 xs[k].length c2).ownBlock.toList, wr.heap.size ≤ b := fun b hb => (own_in o2 (by simpa using hb)).1
      have HN : Hid (Made1 cSS 87 w (w2.setCell ⟨w.heap.size, k, none⟩ (.slice a2 xs[k].length c2)) xs (k + 1)) := hid (HV.out.step hlt b2 ⟨_, rfl, ownSl_bytes o2 HBY.out⟩ hg2 (by cases (Value.slice a2 xs[k].length c2).ownBlock <;> simp))
      have HBB : Hid (Below w.heap.size w (w2.setCell ⟨w.heap.size, k, none⟩ (.slice a2 xs[k].length c2))) := hid ((HB.out.trans (b2.mono HB.out.size)).setCell (p := ⟨w.heap.size, k, none⟩) (Nat.le_refl _) _)
      obtain ⟨vs, hvl, how2⟩ := HV.out.row b2
      have f0 := how2.frozenAt k
      have q0 := how2.cellAt k (by omega)
      rw [List.getElem?_eq_getElem (by omega)] at q0
      generalize vs[k] = y0 at q0
      clear o2 b2 how2 hvl hg2
      go_wp2
      go_roundw
      case rel => exact ⟨k + 1, by omega, by go_num, HN.out, HBB.out⟩
      case measure => simp [intOf]; omega
    · obtain rfl : k = xs.length := by omega
      obtain ⟨bs, h1, h2, h3⟩ := HV.out.done rfl
      have HF := hid h1
      clear h1
      go_wp2
      go_ret
      exact ⟨_, bs, rfl, HF.out, h2, h3, HB.out⟩
end Go.Proofs.YtfaehioeepolhabGreat
