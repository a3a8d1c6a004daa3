import Derived.Test.YtfaehioeepolhaaGreatJCrashReceiver45
import Derived.Test.YtfaehioeepolhaaGreatJCrashReceiver7
import Derived.Test.YtfaehioeepolhaaGreatJCrashReceiver48
import Derived.Test.YtfaehioeepolhaaGreatJCrashReceiver2
namespace Go.Proofs.YtfaehioeepolhaaGreat
open Go.RowKit
theorem tS_le (xs : List (List (List Nat))) : sumL tot xs ≤ totL tS xs := by
  unfold sumL totL
  induction xs with
  | nil => simp
  | cons x l ih => simp [tS, totL, tot] at ih ⊢; omega
theorem tS_at (xs : List (List (List Nat))) (k : Nat) (h : k < xs.length) : xs[k].length ≤ totL tS xs ∧ tot xs[k] ≤ totL tS xs := by
  have h1 := tot_at tS xs k h
  unfold totL
  have h2 : tS xs[k] = xs[k].length + tot xs[k] := rfl
  omega
set_option maxHeartbeats 4000000 in
theorem markSSS_any (v : Value) (xs : List (List (List Nat))) (bs : List Nat) (m : Nat) (w : World) (ho : OwnSl cSSS 123 w xs v bs) (hnd : bs.Nodup) (ht : totL tS xs ≤ 1048576) (hm : m ≤ 536870912) :
    Calls Tryz.prog 119 #[v, .int .i64 m] w fun e w' => e = .returned (.int .i64 ((m + sumL tot xs : Nat) : Int)) ∧ OwnSl cSSS 123 w' (mkL tot mkSS m xs) v bs ∧ Only bs w w' := by
  obtain ⟨a, cap, rfl, -⟩ := id ho.rd
  have hsl := tS_le xs
  have hn : xs.length ≤ 1048576 := by unfold totL at ht; omega
  have HAT : Hid (∀ k, (h : k < xs.length) → xs[k].length ≤ 1048576 ∧ tot xs[k] ≤ 1048576) := hid (fun k h => by have := tS_at xs k h; omega)
  have H0 : Hid (OwnSl cSSS 123 w (mixL tot mkSS m xs 0 0) (.slice a xs.length cap) bs) := hid (by rw [mixL_zero]; exact ho)
  have HND := hid hnd
  clear ho hnd
  go_enter Tryz.func119, Tryz.ntmps119
  go_wp2
  go_loopw [1, 5] (fun q i wr => ∃ k : Nat, k ≤ xs.length ∧ i = .int .i64 k ∧ q = .int .i64 ((m + sumL tot (xs.take k) : Nat) : Int) ∧ OwnSl cSSS 123 wr (mixL tot mkSS m xs 0 k) (.slice a xs.length cap) bs ∧ Only bs w wr) (fun _ i _ => xs.length - (intOf i).toNat)
  case atStart => exact ⟨0, Nat.zero_le _, rfl, by simp [sumL], H0.out, Only.refl _ _⟩
  case round =>
    obtain ⟨k, hk, rfl, rfl, how, hon⟩ := hrel
    have HO := hid how
    have HON := hid hon
    clear how hon
    have hki0 := sumL_take tot xs k
    by_cases hlt : k < xs.length
    · have hlt2 : k < (mixL tot mkSS m xs 0 k).length := by rw [mixL_len tot mkSS m xs 0 k (by omega)]; exact hlt
      have hat : (mixL tot mkSS m xs 0 k)[k] = xs[k] := by
        have h1 := mixL_at tot mkSS m xs 0 k (by omega)
        simp only [Nat.zero_add] at h1
        rw [List.getElem?_eq_getElem hlt2, Option.some.injEq] at h1
        exact h1
      obtain ⟨g, cap2, cs, bk, hv, hc, hbn, hbm, hng, hcell, hset⟩ := HO.out.focus2 HND.out hlt2
      simp only [Value.slice.injEq] at hv
      obtain ⟨rfl, -, rfl⟩ := hv
      rw [hat] at hc
      obtain ⟨u, rfl, hu⟩ := hc
      obtain ⟨au, cu, rfl, -⟩ := id hu.rd
      have hcb := hcell 0 (by decide)
      rw [show k * cSSS.n + 0 = k from by simp [cSl]] at hcb
      have HU := hid hu
      have HBN := hid hbn
      have HSET : Hid (∀ w' y, OwnSl cSS 23 w' y (.slice au xs[k].length cu) bk → Only bk wr w' → OwnSl cSSS 123 w' ((mixL tot mkSS m xs 0 k).set k y) (.slice (some ⟨g, 0, none⟩) xs.length cap) bs) := hid (fun w' y h1 h2 => hset w' y ⟨_, rfl, h1⟩ h2)
      have HBM := hid hbm
      have hki : (k : Int) < (xs.length : Int) := by omega
      have HTS := hid (sumL_snoc tot xs k hlt)
      have HSU : Hid ((mixL tot mkSS m xs 0 k).set k (mkSS (m + sumL tot (xs.take k)) xs[k]) = mixL tot mkSS m xs 0 (k + 1)) := hid (by have h := mixL_succ tot mkSS m xs 0 k (by omega); simpa only [Nat.zero_add, List.drop_zero] using h)
      have hts2 := sumL_take tot xs (k + 1)
      have hle := HAT.out k hlt
      simp at hcb
      clear hset hcell hu hbn hbm hng
      generalize sumL tot (xs.take k) = t at *
      go_wp2_with fail
      refine (markSS_any _ xs[k] bk (m + t) wr HU.out HBN.out hle.1 hle.2 (by omega)).mono ?_
      rintro e w2 ⟨rfl, o2, on2⟩
      have HN : Hid (OwnSl cSSS 123 w2 (mixL tot mkSS m xs 0 (k + 1)) (.slice (some ⟨g, 0, none⟩) xs.length cap) bs) := hid (by
        rw [← HSU.out]
        exact HSET.out w2 _ o2 on2)
      have HON2 := hid (HON.out.trans (on2.mono HBM.out))
      clear o2 on2
      go_wp2
      go_roundw
      case rel => exact ⟨k + 1, by omega, by go_num, by rw [HTS.out]; go_num, HN.out, HON2.out⟩
      case measure => simp [intOf]; omega
    · obtain rfl : k = xs.length := by omega
      have HF : Hid (OwnSl cSSS 123 wr (mkL tot mkSS m xs) (.slice a xs.length cap) bs) := hid (by
        have h := HO.out
        rw [mixL_done tot mkSS m xs 0 xs.length (by omega)] at h
        simpa only [List.take_zero, List.nil_append, List.drop_zero] using h)
      have HT : Hid (sumL tot (xs.take xs.length) = sumL tot xs) := hid (by rw [List.take_length])
      rw [HT.out]
      go_wp2
      go_ret
      exact ⟨rfl, HF.out, HON.out⟩
end Go.Proofs.YtfaehioeepolhaaGreat
namespace Go.Proofs.YtfaehioeepolhaaGreat
open Go.RowKit
set_option maxHeartbeats 2000000 in
theorem markStrX_any (s : PStr) (a b : Option Addr) (c d : Nat) (bs ds : List Nat) (m : Nat) (w : World) (ho : OwnStr w s a c b d bs ds) (hnd : (bs ++ ds).Nodup) (hl : s.fields.length ≤ 1048576) (ht : fT s.fields ≤ 4194304) (htd : totL tS s.dicts ≤ 1048576) (hm : m ≤ 268435456) :
    Calls Tryz.prog 70 #[.agg #[.bool s.opened, .slice a s.fields.length c, .int .i64 s.next, .slice b s.dicts.length d], .int .i64 m] w fun e w' => e = .returned (.int .i64 ((m + fT s.fields + sumL tot s.dicts : Nat) : Int)) ∧ OwnStr w' ⟨s.opened, mkF m s.fields, s.next, mkL tot mkSS (m + fT s.fields) s.dicts⟩ a c b d bs ds ∧ Only (bs ++ ds) w w' := by
  have HF := hid ho.f
  have HT := hid ho.t
  obtain ⟨n1, n2, n3⟩ := List.nodup_append.1 hnd
  have HN1 := hid n1
  have HN2 := hid n2
  have HN3 := hid n3
  have HL1 := hid ho.f.lt
  have HL2 := hid ho.t.lt
  clear ho hnd n1 n2 n3
  go_enter Tryz.func70, Tryz.ntmps70
  go_wp2_with fail
  refine (markFieldS_any _ s.fields bs m _ (HF.out.kept (fun p hp => (below_new1 w _).block p (HL1.out p hp))) HN1.out hl ht (by omega)).mono ?_
  rintro e w2 ⟨rfl, o2, on2⟩
  have hg : w.heap.size ∉ bs := fun h => by have := HL1.out _ h; omega
  have kb : w2.heap[w.heap.size]? = some (.cells #[.bool s.opened, .slice a s.fields.length c, .int .i64 s.next, .slice b s.dicts.length d] 40 (0, 0)) := (on2.block _ (by simp) hg).trans (heap_alloc_new w _)
  have p3 := cell_of_row w2 _ 3 _ _ _ kb
  simp only [List.getElem?_toArray, List.getElem?_cons_zero, List.getElem?_cons_succ] at p3
  have HT2 : Hid (OwnSl cSSS 123 w2 s.dicts (.slice b s.dicts.length d) ds) := hid (HT.out.kept (fun p hp => by
    have hlt := HL2.out p hp
    exact (on2.block p (by simp; omega) (fun h => HN3.out p h p hp rfl)).trans ((below_new1 w _).block p hlt)))
  have HO2 := hid o2
  have HON : Hid (Only (bs ++ ds) w w2) := hid (((Only.of_below (below_new1 w _)).trans on2).mono (fun x hx => List.mem_append_left _ hx))
  clear o2 on2 kb hg
  generalize hQ : fT s.fields = Q at *
  have HQ := hid hQ
  clear hQ
  go_wp2_with fail
  (first | rw [show ((m : Int) + (Q : Int)) = ((m + Q : Nat) : Int) from by omega] | skip)
  refine (markSSS_any _ s.dicts ds (m + Q) w2 HT2.out HN2.out htd (by omega)).mono ?_
  rintro e w3 ⟨rfl, o3, on3⟩
  have HO3 := hid o3
  have HF3 := hid (HO2.out.kept (w' := w3) (fun p hp => on3.block p (HO2.out.lt p hp) (fun h => HN3.out p hp p h rfl)))
  have HON3 := hid (HON.out.trans (on3.mono (fun x hx => List.mem_append_right _ hx)))
  clear o3 on3
  obtain ⟨Z, hZ⟩ : ∃ Z : Int, Z = ((m + Q + sumL tot s.dicts : Nat) : Int) := ⟨_, rfl⟩
  rw [← hZ]
  have HZ := hid hZ
  clear hZ
  go_wp2
  go_ret
  refine ⟨by rw [HQ.out, HZ.out]; rfl, ⟨?_, ?_⟩, HON3.out⟩
  · have h := HF3.out
    show OwnSl cField 98 w3 (mkF m s.fields) (.slice a (mkF m s.fields).length c) bs
    rw [mkF_len]
    exact h
  · have h := HO3.out
    show OwnSl cSSS 123 w3 (mkL tot mkSS (m + fT s.fields) s.dicts) (.slice b (mkL tot mkSS (m + fT s.fields) s.dicts).length d) ds
    rw [mkL_len, HQ.out]
    exact h
end Go.Proofs.YtfaehioeepolhaaGreat
namespace Go.Proofs.YtfaehioeepolhaaGreat
open Go.RowKit
def gT (x : PC) : Nat := x.text.length + 2
def mkG (q : Nat) (x : PC) : PC := ⟨(((q : Nat) : Int) % 3 == 0), ((q + 1 : Nat) : Int), mkByte (q + 2) x.text.length⟩
theorem wset2_3 (w : World) (g off : Nat) (x0 x1 : Value) : wsetAll w g off [x0, x1] = ((w.setCell ⟨g, off, none⟩ x0).setCell ⟨g, off + 1, none⟩ x1) := rfl
theorem gT_le (xs : List PC) : sumL gT xs = (xs.map fun x : PC => x.text.length).sum + 2 * xs.length := by
  unfold sumL
  induction xs with
  | nil => rfl
  | cons x l ih => simp [gT] at ih ⊢; omega
set_option maxHeartbeats 1000000 in
theorem mkG_round {wr : World} {ys : List PC} {g m cap : Nat} {bs : List Nat} (h : OwnSl cCell 157 wr ys (.slice (some ⟨g, 0, none⟩) m cap) bs) (hnd : bs.Nodup) {i : Nat} (hi : i < ys.length) (off : Nat) (hoff : off = i * 3) (q : Nat) (hq : q ≤ 1099511627776) :
    ∃ a0 c0, wr.cell? ⟨g, off, none⟩ = some (.bool ys[i].null) ∧ wr.cell? ⟨g, off + 1, none⟩ = some (.int .i64 ys[i].num) ∧ wr.cell? ⟨g, off + 2, none⟩ = some (.slice a0 ys[i].text.length c0) ∧ (∀ j, wr.frozen? ⟨g, j, none⟩ = false) ∧
      ((wr.setCell ⟨g, off, none⟩ (.bool (((q : Nat) : Int) % 3 == 0))).setCell ⟨g, off + 1, none⟩ (.int .i64 ((q + 1 : Nat) : Int))).ownsRow 0 5 1 (.slice a0 ys[i].text.length c0) ys[i].text.length (byt ys[i].text) ∧
      ∀ w2, w2.ownsRow 0 5 1 (.slice a0 ys[i].text.length c0) ys[i].text.length (byt (mkByte (q + 2) ys[i].text.length)) → ((wr.setCell ⟨g, off, none⟩ (.bool (((q : Nat) : Int) % 3 == 0))).setCell ⟨g, off + 1, none⟩ (.int .i64 ((q + 1 : Nat) : Int))).grownBy w2 (Value.slice a0 ys[i].text.length c0).ownBlock →
        OwnSl cCell 157 w2 (ys.set i (mkG q ys[i])) (.slice (some ⟨g, 0, none⟩) m cap) bs ∧ Only bs wr w2 := by
  have hn : cCell.n = 3 := rfl
  obtain ⟨g0, cap0, cs, bk, hv, hc, hbn, hbm, hng, hcell, -⟩ := h.focus2 hnd hi
  simp only [Value.slice.injEq, Option.some.injEq, Addr.mk.injEq, and_true] at hv
  obtain ⟨rfl, rfl, rfl⟩ := hv
  obtain ⟨u, rfl, hd, hin⟩ := cCell_owned hc
  obtain ⟨a0, c0, rfl, -⟩ := id hd.rd
  have hst := h.store hnd hi off 0 [.bool (((q : Nat) : Int) % 3 == 0), .int .i64 ((q + 1 : Nat) : Int)] (by rw [hn, hoff]; rfl) (by rw [hn]; simp) ⟨(((q : Nat) : Int) % 3 == 0), ((q + 1 : Nat) : Int), ys[i].text⟩ (fun cs bk w' ho hk => by
    obtain ⟨u1, rfl, hd1, hin1⟩ := cCell_owned ho
    exact cCell_own (f := ⟨(((q : Nat) : Int) % 3 == 0), ((q + 1 : Nat) : Int), ys[i].text⟩) (hd1.kept hk) (by dsimp only [IntIn]; omega))
  have hko : ∀ b, b ≠ g → ((wr.setCell ⟨g, off, none⟩ (.bool (((q : Nat) : Int) % 3 == 0))).setCell ⟨g, off + 1, none⟩ (.int .i64 ((q + 1 : Nat) : Int))).heap[b]? = wr.heap[b]? := fun b hb => by
    rw [← wset2_3]; exact wsetAll_other _ wr g off hb
  rw [wset2_3] at hst
  have hbk : bk = (Value.slice a0 ys[i].text.length c0).ownBlock.toList := hd.bytes.2.1
  have d0 := hcell 0 (by decide)
  have d1 := hcell 1 (by decide)
  have d2 := hcell 2 (by decide)
  rw [hn] at d0 d1 d2
  simp only [List.getElem?_cons_zero, List.getElem?_cons_succ, Nat.add_zero] at d0 d1 d2
  subst hoff
  refine ⟨a0, c0, d0, d1, d2, fun j => h.frozenAt j, ownsRow_kept hd.bytes.1 (fun b hb => hko b (fun e => hng (by rw [hbk, ← e, hb]; simp))), fun w2 o2 g2 => ?_⟩
  have h5 : ((wr.setCell ⟨g, i * 3, none⟩ (.bool (((q : Nat) : Int) % 3 == 0))).setCell ⟨g, i * 3 + 1, none⟩ (.int .i64 ((q + 1 : Nat) : Int))).cell? ⟨g, i * 3 + 2, none⟩ = some (.slice a0 ys[i].text.length c0) := by
    rw [World.cell?_setCell_other _ _ _ _ (by simp), World.cell?_setCell_other _ _ _ _ (by simp)]
    exact d2
  obtain ⟨g1, cap1, cs1, bk1, hv1, hc1, hbn1, hbm1, hng1, hcell1, hset1⟩ := hst.1.focus2 hnd (k := i) (by simpa using hi)
  simp only [Value.slice.injEq, Option.some.injEq, Addr.mk.injEq, and_true] at hv1
  obtain ⟨rfl, -, rfl⟩ := hv1
  rw [List.getElem_set_self] at hc1
  obtain ⟨u1, rfl, hd1, hin1⟩ := cCell_owned hc1
  have d51 := hcell1 2 (by decide)
  rw [hn, h5] at d51
  simp only [List.getElem?_cons_zero, List.getElem?_cons_succ, Option.some.injEq] at d51
  subst d51
  have hbk1 : bk1 = (Value.slice a0 ys[i].text.length c0).ownBlock.toList := hd1.bytes.2.1
  have hon2 := only_of_grown g2
  rw [← hbk1] at hon2
  have hy2 := cCell_own (f := ⟨(((q : Nat) : Int) % 3 == 0), ((q + 1 : Nat) : Int), mkByte (q + 2) ys[i].text.length⟩) (v := (.slice a0 ys[i].text.length c0)) (bs := bk1) (w := w2) (by rw [hbk1]; exact ownSl_bytes o2 (mkByte_ok _ _)) hin1
  have h2 := hset1 w2 _ hy2 hon2
  rw [List.set_set] at h2
  exact ⟨h2, hst.2.trans (hon2.mono hbm1)⟩
set_option maxRecDepth 100000 in
set_option maxHeartbeats 8000000 in
theorem markCellX_any (v : Value) (ys : List PC) (bs : List Nat) (m : Nat) (w : World) (h : OwnSl cCell 157 w ys v bs) (hnd : bs.Nodup) (hn : ys.length ≤ 1048576) (ht : (ys.map fun x : PC => x.text.length).sum ≤ 1048576) (hm : m ≤ 1073741824) :
    Calls Tryz.prog 80 #[v, .int .i64 m] w fun e w' => e = .returned (.int .i64 ((m + sumL gT ys : Nat) : Int)) ∧ OwnSl cCell 157 w' (mkL gT mkG m ys) v bs ∧ Only bs w w' := by
  obtain ⟨a, cap, rfl, -⟩ := id h.rd
  have hsm : sumL gT ys ≤ 8388608 := by have h1 := gT_le ys; omega
  have HTE : Hid (∀ k, (hk : k < ys.length) → ys[k].text.length ≤ 1048576) := hid (fun k hk => by have := tot_at (fun x : PC => x.text.length) ys k hk; omega)
  have H0 : Hid (OwnSl cCell 157 w (mixL gT mkG m ys 0 0) (.slice a ys.length cap) bs) := hid (by rw [mixL_zero]; exact h)
  have HND := hid hnd
  clear h hnd ht
  go_enter Tryz.func80, Tryz.ntmps80
  go_wp2
  go_loopw [1, 5] (fun q i wr => ∃ k : Nat, k ≤ ys.length ∧ i = .int .i64 k ∧ q = .int .i64 ((m + sumL gT (ys.take k) : Nat) : Int) ∧ OwnSl cCell 157 wr (mixL gT mkG m ys 0 k) (.slice a ys.length cap) bs ∧ Only bs w wr) (fun _ i _ => ys.length - (intOf i).toNat)
  case atStart => exact ⟨0, Nat.zero_le _, rfl, by simp [sumL], H0.out, Only.refl _ _⟩
  case round =>
    obtain ⟨k, hk, rfl, rfl, how, hon⟩ := hrel
    have HO := hid how
    have HON := hid hon
    clear how hon
    have hki0 := sumL_take gT ys k
    by_cases hlt : k < ys.length
    · have hlt2 : k < (mixL gT mkG m ys 0 k).length := by rw [mixL_len gT mkG m ys 0 k (by omega)]; exact hlt
      have hat : (mixL gT mkG m ys 0 k)[k] = ys[k] := by
        have h1 := mixL_at gT mkG m ys 0 k (by omega)
        simp only [Nat.zero_add] at h1
        rw [List.getElem?_eq_getElem hlt2, Option.some.injEq] at h1
        exact h1
      obtain ⟨g, cap2, cs, bk, hv, -⟩ := HO.out.focus2 HND.out hlt2
      simp only [Value.slice.injEq] at hv
      obtain ⟨rfl, -, rfl⟩ := hv
      have HTS := hid (sumL_snoc gT ys k hlt)
      have hts2 := sumL_take gT ys (k + 1)
      have hle2 := HTE.out k hlt
      have HSU : Hid ((mixL gT mkG m ys 0 k).set k (mkG (m + sumL gT (ys.take k)) ys[k]) = mixL gT mkG m ys 0 (k + 1)) := hid (by have h := mixL_succ gT mkG m ys 0 k (by omega); simpa only [Nat.zero_add, List.drop_zero] using h)
      have HFT : Hid (gT ys[k] = ys[k].text.length + 2) := hid rfl
      have hsb : sumL gT (ys.take k) + ys[k].text.length + 2 ≤ 8388608 := by have := HTS.out; have := HFT.out; omega
      have hR := mkG_round HO.out HND.out hlt2 (k * 3) rfl (m + sumL gT (ys.take k)) (by omega)
      rw [hat, HSU.out] at hR
      clear hat HSU hts2 hki0
      generalize sumL gT (ys.take k) = t at *
      generalize ys[k].text.length = ln at *
      obtain ⟨a0, c0, d0, d1, d2, hfz, o5, hfin⟩ := hR
      have f0 := hfz (k * 3)
      have f1 := hfz (k * 3 + 1)
      have f2 := hfz (k * 3 + 2)
      rw [show ((m + t : Nat) : Int) = (m : Int) + (t : Int) from by omega, show ((m + t + 1 : Nat) : Int) = (m : Int) + (t : Int) + 1 from by omega] at o5 hfin
      have HO5 := hid o5
      have HF := hid hfin
      have hki : (k : Int) < (ys.length : Int) := by omega
      clear o5 hfin hfz
      go_wp2_with fail
      rw [show ((m : Int) + (t : Int) + 1 + 1) = ((m + t + 2 : Nat) : Int) from by omega]
      generalize ((wr.setCell ⟨g, k * 3, none⟩ (.bool (((m : Int) + (t : Int)) % 3 == 0))).setCell ⟨g, k * 3 + 1, none⟩ (.int .i64 ((m : Int) + (t : Int) + 1))) = W5 at *
      clear d0 d1 d2 f0 f1 f2
      refine (markByteS_any 0 _ (m + t + 2) _ _ W5 HO5.out (by omega) (by omega)).mono ?_
      rintro e w2 ⟨rfl, o2, g2⟩
      obtain ⟨Z, hZ⟩ : ∃ Z : Int, Z = ((m + t + 2 + ln : Nat) : Int) := ⟨_, rfl⟩
      have hR2 := HF.out w2 o2 g2
      rw [← hZ]
      have hz0 : 0 ≤ Z := by omega
      have hz1 : Z ≤ 1099511627776 := by omega
      have HZ := hid hZ
      clear hZ
      obtain ⟨hN, hO⟩ := hR2
      have HN := hid hN
      have HON2 := hid (HON.out.trans hO)
      clear hN hO o2 g2 HF HO5
      go_wp2
      go_roundw
      case rel => exact ⟨k + 1, by omega, by go_num, by rw [HTS.out, HFT.out]; congr 1; have := HZ.out; omega, HN.out, HON2.out⟩
      case measure => simp [intOf]; omega
    · obtain rfl : k = ys.length := by omega
      have HF : Hid (OwnSl cCell 157 wr (mkL gT mkG m ys) (.slice a ys.length cap) bs) := hid (by
        have h := HO.out
        rw [mixL_done gT mkG m ys 0 ys.length (by omega)] at h
        simpa only [List.take_zero, List.nil_append, List.drop_zero] using h)
      have HT : Hid (sumL gT (ys.take ys.length) = sumL gT ys) := hid (by rw [List.take_length])
      rw [HT.out]
      go_wp2
      go_ret
      exact ⟨rfl, HF.out, HON.out⟩
end Go.Proofs.YtfaehioeepolhaaGreat
