import Derived.Test.YtcljakdcejhfiadJValidTable9
import Derived.Test.YtcljakdcejhfiadJValidTable10
import Derived.Test.YtcljakdcejhfiadJValidTable12
namespace Go.Proofs.Ytcljakdcejhfiad
open Go.RowKit
structure PT where
  rows : Int
  cells : List PC
def cTable : Cod PT := cMap (cPair cInt (cSl cCell 86)) fun f => (f.rows, f.cells)
abbrev totT (t : PT) : Nat := totL (fun f : PC => f.text.length) t.cells
theorem cTable_rd {w : World} {t : PT} {cs : List Value} (h : cTable.rd w t cs) : ∃ v, cs = [.int .i64 t.rows, v] ∧ RdSl cCell w t.cells v ∧ IntIn t.rows := by
  obtain ⟨c1, c2, rfl, ⟨rfl, h2⟩, v, rfl, h3⟩ := h
  exact ⟨v, rfl, h3, h2⟩
theorem cTable_own {w : World} {t : PT} {v : Value} {bs : List Nat} (h1 : OwnSl cCell 86 w t.cells v bs) (h2 : IntIn t.rows) : cTable.own w t [.int .i64 t.rows, v] bs :=
  ⟨[_], _, [], bs, rfl, rfl, ⟨rfl, h2, rfl⟩, v, rfl, h1⟩
theorem cTable_shape {w : World} {f : PT} {cs : List Value} (h : cTable.rd w f cs) : ∃ a cap, cs = [.int .i64 f.rows, .slice a f.cells.length cap] ∧ RdSl cCell w f.cells (.slice a f.cells.length cap) ∧ IntIn f.rows := by
  obtain ⟨v, rfl, hv, hi⟩ := cTable_rd h
  obtain ⟨a, cap, rfl, _⟩ := id hv
  exact ⟨a, cap, rfl, hv, hi⟩
theorem set2b {B : Nat} {a w : World} {g : Nat} {x y : Value} (h : Below B a w) (hg : B ≤ g) : Below B a ((w.setCell ⟨g, 0, none⟩ x).setCell ⟨g, 1, none⟩ y) :=
  (h.setCell (p := ⟨g, 0, none⟩) hg _).setCell (p := ⟨g, 1, none⟩) hg _
theorem set2o {w : World} {g k : Nat} {x y : Value} (h : k ≠ g) : ((w.setCell ⟨g, 0, none⟩ x).setCell ⟨g, 1, none⟩ y).heap[k]? = w.heap[k]? := by
  rw [Below.heap_setCell _ _ _ _ h, Below.heap_setCell _ _ _ _ h]
set_option maxHeartbeats 1000000 in
theorem toTable_law : ToLaw Try.prog 11 cTable totT := by
  intro w t cs h ht
  obtain ⟨a, cap, rfl, hv, hi⟩ := cTable_shape h
  simp only [val]
  have HV := hid hv
  clear h hv
  go_enter Try.func11, Try.ntmps11
  go_wp2_with fail
  refine (toCellS_any a cap t.cells _ (HV.out.later (below_new3 _ _ _ _)) ht).mono ?_
  rintro e w2 ⟨v, bs, rfl, o2, hbs, hnd, b2⟩
  obtain ⟨a2, c2, rfl, -⟩ := id o2.rd
  rw [size3] at hbs b2
  obtain ⟨k0, k1, k2⟩ := heap3 _ _ _ b2
  have c10 := cell_of_row w2 _ 0 _ _ _ k1
  have c11 := cell_of_row w2 _ 1 _ _ _ k1
  have f10 := frozen_of_row w2 _ 0 _ _ k1
  have f11 := frozen_of_row w2 _ 1 _ _ k1
  have c20 := cell_of_row w2 _ 0 _ _ _ k2
  have c21 := cell_of_row w2 _ 1 _ _ _ k2
  have f21 := frozen_of_row w2 _ 1 _ _ k2
  simp at c10 c11 c20 c21
  have K1 := hid k1
  have HO := hid o2
  have HBS := hid hbs
  have HB : Hid (Below w.heap.size w w2) := hid ((below_new3 w _ _ _).trans (b2.mono (by omega)))
  clear k0 k1 k2 o2 hbs b2
  go_wp2
  have h12 : w.heap.size + 1 ≠ w.heap.size + 1 + 1 := by omega
  refine bodyPost_ret (results_cell_row rfl _ _ (w.heap.size + 1) 33 #[.int .i64 t.rows, .slice a2 t.cells.length c2] (0, 0) _ rfl (set2 ((Below.heap_setCell _ ⟨w.heap.size + 1 + 1, 1, none⟩ _ _ h12).trans K1.out)) Try.underlying33 rfl (by kernel_rfl)) rfl ?_
  refine ⟨[.int .i64 t.rows, .slice a2 t.cells.length c2], bs, rfl, ?_, fun b hb => by have := HBS.out b hb; omega, hnd, ?_⟩
  · refine cTable_own (OwnSl.kept HO.out (fun b hb => ?_)) hi
    have := HBS.out b hb
    have hb2 : b ≠ w.heap.size + 1 + 1 := by omega
    exact (set2o (by omega)).trans (Below.heap_setCell _ ⟨w.heap.size + 1 + 1, 1, none⟩ _ _ hb2)
  · exact set2b (HB.out.setCell (p := ⟨w.heap.size + 1 + 1, 1, none⟩) (by simp only []; omega) _) (by omega)
set_option maxHeartbeats 1000000 in
theorem szTable_law : SzLaw Try.prog 8 cTable totT := by
  intro w t cs l h h0 h1
  obtain ⟨a, cap, rfl, hv, hi⟩ := cTable_shape h
  simp only [val]
  have HV := hid hv
  clear h hv
  have hm1 : rest l (totT t) < 0 → rest l (totT t) = -1 := rest_neg1
  go_enter Try.func8, Try.ntmps8
  go_wp2_with fail
  refine (szCellS_any a cap t.cells l _ (HV.out.later (below_new1 _ _)) h0 h1).mono ?_
  rintro e w2 ⟨rfl, b2⟩
  have HB : Hid (Below w.heap.size w w2) := hid ((below_new1 w _).trans (b2.mono (by simp)))
  have HM := hid hm1
  clear b2 hm1
  have HT : Hid (rest l (totL (fun f : PC => f.text.length) t.cells) = rest l (totT t)) := hid rfl
  rw [HT.out]
  generalize hrr : rest l (totT t) = r at *
  by_cases hneg : r < 0
  · go_wp2
    go_ret
    exact ⟨by rw [hrr, HM.out hneg]; rfl, HB.out⟩
  · go_wp2
    go_ret
    exact ⟨by rw [hrr]; rfl, HB.out⟩
set_option maxHeartbeats 1000000 in
theorem eqTable_law : EqLaw Try.prog 14 cTable totT := by
  intro w t cs cs' h1 h2 ht
  obtain ⟨a1, c1, rfl, hv1, hi⟩ := cTable_shape h1
  obtain ⟨a2, c2, rfl, hv2, -⟩ := cTable_shape h2
  simp only [val]
  have H1 := hid hv1
  have H2 := hid hv2
  clear h1 h2 hv1 hv2
  go_enter Try.func14, Try.ntmps14
  go_wp2_with fail
  refine (eqCellS_any a1 a2 c1 c2 t.cells _ (H1.out.later (below_new2 _ _ _)) (H2.out.later (below_new2 _ _ _)) ht).mono ?_
  rintro e w2 ⟨rfl, b2⟩
  have HB : Hid (Below w.heap.size w w2) := hid ((below_new2 w _ _).trans (b2.mono (by simp; omega)))
  clear b2
  go_wp2
  go_ret
  exact ⟨rfl, HB.out⟩
end Go.Proofs.Ytcljakdcejhfiad
