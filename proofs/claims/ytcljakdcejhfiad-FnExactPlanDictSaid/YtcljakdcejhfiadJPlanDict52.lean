import Derived.Test.YtcljakdcejhfiadJPlanDict43
import Derived.Test.YtcljakdcejhfiadJPlanDict51
namespace Go.Proofs.Ytcljakdcejhfiad
open Go.RowKit
def f3 : PF := ⟨[], 3, 0⟩
theorem f3_rd (w : World) : cField.rd w f3 [.slice none 0 0, .int .i64 3, .int .i64 0] := cField_mk (f := f3) (RdSl.empty none) (by unfold IntIn f3; decide) (by unfold IntIn f3; decide)
theorem planOwn_set {w w4 : World} {p q : PP} {C D : Int} {a1 a2 : Option Addr} {c1 c2 : Nat} {x1 x2 : List Nat} {v0 v1 v2 : Value} (hp : q = p) (hC : D = C) (o1 : OwnSl cSS 69 w4 p.fresh (.slice a1 p.fresh.length c1) x1) (o2 : OwnSl cSS 69 w4 p.values (.slice a2 p.values.length c2) x2) (hl : ∀ b ∈ x1 ++ x2, w.heap.size + 1 ≤ b) (nd : (x1 ++ x2).Nodup) (hb : Below w.heap.size w w4) :
    PlanOwn w q D (.returned (.tuple #[.agg #[.int .i64 p.act, .slice a1 p.fresh.length c1, .slice a2 p.values.length c2], .int .i64 C])) (((w4.setCell ⟨w.heap.size, 0, none⟩ v0).setCell ⟨w.heap.size, 1, none⟩ v1).setCell ⟨w.heap.size, 2, none⟩ v2) := by
  subst hp hC
  exact ⟨a1, c1, a2, c2, x1, x2, rfl, own_set3 o1 (fun b h => by have := hl b (List.mem_append_left _ h); omega), own_set3 o2 (fun b h => by have := hl b (List.mem_append_right _ h); omega), fun b h => by have := hl b h; omega, nd, set3b hb (Nat.le_refl _)⟩
set_option maxRecDepth 100000 in
set_option maxHeartbeats 4000000 in
theorem implPlan_any (a1 a2 : Option Addr) (c1 c2 : Nat) (vs : List (List Nat)) (cs : List PC) (w : World) (h1 : RdSl cSS w vs (.slice a1 vs.length c1)) (h2 : RdSl cCell w cs (.slice a2 cs.length c2)) (ht : totL List.length vs + (cs.length + txt cs) ≤ 1048576) :
    Calls Try.prog 30 #[.slice a1 vs.length c1, .slice a2 cs.length c2] w (PlanOwn w (planP vs cs) (planC vs cs)) := by
  have H1 := hid h1
  have H2 := hid h2
  clear h1 h2
  have hl2 : cs.length ≤ 1048576 := by omega
  have HB0 := hid (below_new1 w (.cells #[.int .i64 0, .slice none 0 0, .slice none 0 0] 56))
  have HKK : Hid (∀ w', Below (w.heap.size + 1) (w.alloc (.cells #[.int .i64 0, .slice none 0 0, .slice none 0 0] 56)) w' → w'.heap[w.heap.size]? = some (.cells #[.int .i64 0, .slice none 0 0, .slice none 0 0] 56 (0, 0)) ∧ Below w.heap.size w w') := hid (fun w' h => ⟨heap1 _ h, HB0.out.trans (h.mono (by omega))⟩)
  have HSZ : Hid ((w.alloc (.cells #[.int .i64 0, .slice none 0 0, .slice none 0 0] 56)).heap.size = w.heap.size + 1) := hid (by simp)
  by_cases h100 : 100 < cs.length
  · have HBAD := hid (plan_bad (inOK_no (vs := vs) (cs := cs) (.inr (.inl (by omega)))))
    have HK := hid (HKK.out _ (Below.refl _ _)).1
    have f0 := frozen_of_row _ _ 0 _ _ HK.out
    have f1 := frozen_of_row _ _ 1 _ _ HK.out
    have f2 := frozen_of_row _ _ 2 _ _ HK.out
    go_enter Try.func30, Try.ntmps30
    go_wp2
    refine bodyPost_ret (results_cell_row_tmp rfl _ _ w.heap.size 56 #[.int .i64 0, .slice none 0 0, .slice none 0 0] (0, 0) _ rfl HK.out Try.underlying56 rfl (by kernel_rfl)) rfl ?_
    exact planOwn_nil HB0.out HBAD.out.1 HBAD.out.2
  go_enter Try.func30, Try.ntmps30
  go_wp2_with fail
  refine (validCells_any f3 [.slice none 0 0, .int .i64 3, .int .i64 0] a2 c2 cs _ (f3_rd _) (H2.out.later HB0.out) hl2).mono ?_
  rintro e w1 ⟨rfl, b1⟩
  rw [HSZ.out] at b1
  rw [cellsOK3 f3 cs rfl]
  have HK1 := hid (HKK.out _ b1).1
  have HB1 := hid (HKK.out _ b1).2
  have HC1 := hid b1
  clear b1
  cases hcs : cs.all (cellOK cell3)
  · have HBAD := hid (plan_bad (inOK_no (vs := vs) (cs := cs) (.inr (.inr hcs))))
    have q0 := cell_of_row w1 _ 0 _ _ _ HK1.out
    have q1 := cell_of_row w1 _ 1 _ _ _ HK1.out
    have q2 := cell_of_row w1 _ 2 _ _ _ HK1.out
    have f0 := frozen_of_row w1 _ 0 _ _ HK1.out
    have f1 := frozen_of_row w1 _ 1 _ _ HK1.out
    have f2 := frozen_of_row w1 _ 2 _ _ HK1.out
    simp at q0 q1 q2
    go_wp2
    refine bodyPost_ret (results_cell_row_tmp rfl _ _ w.heap.size 56 #[.int .i64 0, .slice none 0 0, .slice none 0 0] (0, 0) _ rfl (set3 HK1.out) Try.underlying56 rfl (by kernel_rfl)) rfl ?_
    exact planOwn_nil (set3b HB1.out (Nat.le_refl _)) HBAD.out.1 HBAD.out.2
  have HCS := hid hcs
  clear hcs
  go_wp2_with fail
  refine (implDict_any a1 c1 vs w1 (H1.out.later HB1.out) (by omega)).mono ?_
  rintro e w2 ⟨rfl, b2⟩
  have HC2 := hid (HC1.out.trans (b2.mono (by have := HC1.out.size; rw [HSZ.out] at this; exact this)))
  have HK2 := hid (HKK.out _ HC2.out).1
  have HB2 := hid (HKK.out _ HC2.out).2
  clear b2
  cases hd : dictOK vs
  · have HBAD := hid (plan_bad (inOK_no (vs := vs) (cs := cs) (.inl hd)))
    have q0 := cell_of_row w2 _ 0 _ _ _ HK2.out
    have q1 := cell_of_row w2 _ 1 _ _ _ HK2.out
    have q2 := cell_of_row w2 _ 2 _ _ _ HK2.out
    have f0 := frozen_of_row w2 _ 0 _ _ HK2.out
    have f1 := frozen_of_row w2 _ 1 _ _ HK2.out
    have f2 := frozen_of_row w2 _ 2 _ _ HK2.out
    simp at q0 q1 q2
    go_wp2
    refine bodyPost_ret (results_cell_row_tmp rfl _ _ w.heap.size 56 #[.int .i64 0, .slice none 0 0, .slice none 0 0] (0, 0) _ rfl (set3 HK2.out) Try.underlying56 rfl (by kernel_rfl)) rfl ?_
    exact planOwn_nil (set3b HB2.out (Nat.le_refl _)) HBAD.out.1 HBAD.out.2
  have HIN : Hid (inOK vs cs = true) := hid (by unfold inOK; rw [hd, HCS.out, decide_eq_true (show cs.length ≤ 100 by omega)]; rfl)
  clear hd
  go_wp2_with fail
  refine (missing_any a1 a2 c1 c2 vs cs w2 (H1.out.later HB2.out) (H2.out.later HB2.out) (by omega) hl2 (by omega)).mono ?_
  rintro e w3 ⟨v3, rfl, r3, b3⟩
  obtain ⟨a3, c3, rfl, -⟩ := id r3
  have HR3 := hid r3
  have HC3 := hid (HC2.out.trans (b3.mono (by have := HC2.out.size; rw [HSZ.out] at this; exact this)))
  have HK3 := hid (HKK.out _ HC3.out).1
  have HB3 := hid (HKK.out _ HC3.out).2
  have hs3 : w.heap.size + 1 ≤ w3.heap.size := by have := HC3.out.size; rw [HSZ.out] at this; exact this
  clear r3 b3
  have hL := lack_small vs (nn cs)
  have hN := tot_nn cs
  have htL : totL List.length vs + totL List.length (lack vs (nn cs)) ≤ 1048576 := by rw [totL_tot (lack vs (nn cs))]; omega
  have hE := lack_small [] (nn cs)
  have htE : totL List.length vs + totL List.length (lack [] (nn cs)) ≤ 1048576 := by rw [totL_tot (lack [] (nn cs))]; omega
  have HL0 : Hid (lack vs (nn cs) = [] → planP vs cs = planOfP vs 0 [] ∧ planC vs cs = planOfC vs 0 []) := hid (fun h => plan_keep HIN.out h)
  have HL1 : Hid (lack vs (nn cs) ≠ [] → applyC vs 1 (lack vs (nn cs)) = 0 → planP vs cs = planOfP vs 1 (lack vs (nn cs)) ∧ planC vs cs = 0) := hid (fun h => plan_delta HIN.out h)
  have HL2 : Hid (lack vs (nn cs) ≠ [] → applyC vs 1 (lack vs (nn cs)) ≠ 0 → planP vs cs = planOfP vs 2 (lack [] (nn cs)) ∧ planC vs cs = planOfC vs 2 (lack [] (nn cs))) := hid (fun h => plan_else HIN.out h)
  have HMI : Hid (∀ w', Below w.heap.size w w' → Calls Try.prog 81 #[.slice none 0 0, .slice a2 cs.length c2] w' fun e w2 => ∃ v, e = .returned v ∧ RdSl cSS w2 (lack [] (nn cs)) v ∧ Below w'.heap.size w' w2) := hid (fun w' hb => missing_any none a2 0 c2 [] cs w' (RdSl.empty none) (H2.out.later hb) (by simp [totL]) hl2 (by omega))
  clear hL hE hN
  generalize lack vs (nn cs) = L at *
  generalize lack [] (nn cs) = E at *
  by_cases hl0 : L = []
  · subst hl0
    have HEQ := hid (HL0.out rfl)
    go_wp2_with fail
    refine (planOf_any a1 none c1 0 vs [] 0 w3 (H1.out.later HB3.out) (RdSl.empty none) (by unfold IntIn; omega) htL).mono ?_
    rintro e w4 ⟨x1, y1, x2, y2, z1, z2, rfl, o1, o2, l4, n4, b4⟩
    have HC4 := hid (HC3.out.trans (b4.mono hs3))
    have HK4 := hid (HKK.out _ HC4.out).1
    have HB4 := hid (HKK.out _ HC4.out).2
    have HO1 := hid o1
    have HO2 := hid o2
    have HL4 : Hid (∀ b ∈ z1 ++ z2, w.heap.size + 1 ≤ b) := hid (fun b hb => by have := l4 b hb; omega)
    have HN4 := hid n4
    clear o1 o2 l4 n4 b4
    generalize planOfP vs 0 [] = P at *
    generalize planOfC vs 0 [] = C at *
    have q0 := cell_of_row w4 _ 0 _ _ _ HK4.out
    have q1 := cell_of_row w4 _ 1 _ _ _ HK4.out
    have q2 := cell_of_row w4 _ 2 _ _ _ HK4.out
    have f0 := frozen_of_row w4 _ 0 _ _ HK4.out
    have f1 := frozen_of_row w4 _ 1 _ _ HK4.out
    have f2 := frozen_of_row w4 _ 2 _ _ HK4.out
    simp at q0 q1 q2
    go_wp2
    refine bodyPost_ret (results_cell_row_tmp rfl _ _ w.heap.size 56 #[.int .i64 P.act, .slice x1 P.fresh.length y1, .slice x2 P.values.length y2] (0, 0) _ rfl (set3 HK4.out) Try.underlying56 rfl (by kernel_rfl)) rfl ?_
    exact planOwn_set HEQ.out.1 HEQ.out.2 HO1.out HO2.out HL4.out HN4.out HB4.out
  have hln : ((L.length : Int) == 0) = false := by
    have : L.length ≠ 0 := fun e => hl0 (List.length_eq_zero_iff.1 e)
    simp; intro e; exact this (by simp [e])
  have HL0' := hid hl0
  clear hl0
  go_wp2_with fail
  refine (planOf_any a1 a3 c1 c3 vs L 1 w3 (H1.out.later HB3.out) HR3.out (by unfold IntIn; omega) htL).mono ?_
  rintro e w4 ⟨x1, y1, x2, y2, z1, z2, rfl, o1, o2, l4, n4, b4⟩
  have hs4 : w.heap.size + 1 ≤ w4.heap.size := Nat.le_trans hs3 b4.size
  have HC4 := hid (HC3.out.trans (b4.mono hs3))
  have HO1 := hid o1
  have HO2 := hid o2
  have HL4 : Hid (∀ b ∈ z1 ++ z2, w.heap.size + 1 ≤ b) := hid (fun b hb => by have := l4 b hb; omega)
  have HN4 := hid n4
  have HT1 := hid o1.lt
  have HT2 := hid o2.lt
  clear o1 o2 l4 n4 b4
  by_cases hc : applyC vs 1 L = 0
  · have HEQ := hid (HL1.out HL0'.out hc)
    have HPC : Hid (planOfC vs 1 L = 0) := hid (by unfold planOfC; rw [if_pos hc])
    clear hc
    rw [HPC.out]
    generalize planOfP vs 1 L = P at *
    have HC5 := hid (HC4.out.trans ((below_new1 w4 (.cells #[.int .i64 P.act, .slice x1 P.fresh.length y1, .slice x2 P.values.length y2] 56)).mono hs4))
    have HK5 := hid (HKK.out _ HC5.out).1
    have HB5 := hid (HKK.out _ HC5.out).2
    have HO5 : Hid (OwnSl cSS 69 (w4.alloc (.cells #[.int .i64 P.act, .slice x1 P.fresh.length y1, .slice x2 P.values.length y2] 56)) P.fresh (.slice x1 P.fresh.length y1) z1) := hid (HO1.out.kept (fun b hb => (below_new1 w4 _).block b (HT1.out b hb)))
    have HO6 : Hid (OwnSl cSS 69 (w4.alloc (.cells #[.int .i64 P.act, .slice x1 P.fresh.length y1, .slice x2 P.values.length y2] 56)) P.values (.slice x2 P.values.length y2) z2) := hid (HO2.out.kept (fun b hb => (below_new1 w4 _).block b (HT2.out b hb)))
    have q0 := cell_of_row _ _ 0 _ _ _ HK5.out
    have q1 := cell_of_row _ _ 1 _ _ _ HK5.out
    have q2 := cell_of_row _ _ 2 _ _ _ HK5.out
    have f0 := frozen_of_row _ _ 0 _ _ HK5.out
    have f1 := frozen_of_row _ _ 1 _ _ HK5.out
    have f2 := frozen_of_row _ _ 2 _ _ HK5.out
    simp only [List.getElem?_toArray, List.getElem?_cons_zero, List.getElem?_cons_succ] at q0 q1 q2
    go_wp2
    refine bodyPost_ret (results_cell_row_tmp rfl _ _ w.heap.size 56 #[.int .i64 P.act, .slice x1 P.fresh.length y1, .slice x2 P.values.length y2] (0, 0) _ rfl (set3 HK5.out) Try.underlying56 rfl (by kernel_rfl)) rfl ?_
    exact planOwn_set HEQ.out.1 HEQ.out.2 HO5.out HO6.out HL4.out HN4.out HB5.out
  · have HEQ := hid (HL2.out HL0'.out hc)
    have HPC : Hid (planOfC vs 1 L = 2) := hid (by unfold planOfC; rw [if_neg hc])
    clear hc
    rw [HPC.out]
    have hC5 := HC4.out.trans ((below_new1 w4 (.cells #[.int .i64 (planOfP vs 1 L).act, .slice x1 (planOfP vs 1 L).fresh.length y1, .slice x2 (planOfP vs 1 L).values.length y2] 56)).mono hs4)
    have HC5 := hid hC5
    clear HO1 HO2 HT1 HT2 HL4 HN4 hC5
    generalize planOfP vs 1 L = P at *
    go_wp2_with fail
    refine (HMI.out _ (HKK.out _ HC5.out).2).mono ?_
    rintro e w6 ⟨v6, rfl, r6, b6⟩
    obtain ⟨a6, c6, rfl, -⟩ := id r6
    have hs5 := HC5.out.size
    have HC6 := hid (HC5.out.trans (b6.mono (by rw [HSZ.out] at hs5; exact hs5)))
    have hs6 : w.heap.size + 1 ≤ w6.heap.size := by have := HC6.out.size; rw [HSZ.out] at this; exact this
    have HR6 := hid r6
    clear hs5 b6 r6
    go_wp2_with fail
    refine (planOf_any a1 a6 c1 c6 vs E 2 w6 (H1.out.later (HKK.out _ HC6.out).2) HR6.out (by unfold IntIn; omega) htE).mono ?_
    rintro e w7 ⟨x1, y1, x2, y2, z1, z2, rfl, o1, o2, l7, n7, b7⟩
    have HC7 := hid (HC6.out.trans (b7.mono hs6))
    have HK7 := hid (HKK.out _ HC7.out).1
    have HB7 := hid (HKK.out _ HC7.out).2
    have HO1 := hid o1
    have HO2 := hid o2
    have HL7 : Hid (∀ b ∈ z1 ++ z2, w.heap.size + 1 ≤ b) := hid (fun b hb => by have := l7 b hb; omega)
    have HN7 := hid n7
    clear o1 o2 l7 n7 b7
    generalize planOfP vs 2 E = P2 at *
    generalize planOfC vs 2 E = C at *
    have q0 := cell_of_row w7 _ 0 _ _ _ HK7.out
    have q1 := cell_of_row w7 _ 1 _ _ _ HK7.out
    have q2 := cell_of_row w7 _ 2 _ _ _ HK7.out
    have f0 := frozen_of_row w7 _ 0 _ _ HK7.out
    have f1 := frozen_of_row w7 _ 1 _ _ HK7.out
    have f2 := frozen_of_row w7 _ 2 _ _ HK7.out
    simp at q0 q1 q2
    go_wp2
    refine bodyPost_ret (results_cell_row_tmp rfl _ _ w.heap.size 56 #[.int .i64 P2.act, .slice x1 P2.fresh.length y1, .slice x2 P2.values.length y2] (0, 0) _ rfl (set3 HK7.out) Try.underlying56 rfl (by kernel_rfl)) rfl ?_
    exact planOwn_set HEQ.out.1 HEQ.out.2 HO1.out HO2.out HL7.out HN7.out HB7.out
end Go.Proofs.Ytcljakdcejhfiad
