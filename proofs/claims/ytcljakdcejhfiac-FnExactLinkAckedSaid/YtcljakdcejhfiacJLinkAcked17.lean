import Derived.Test.YtcljakdcejhfiacJLinkAcked0
import Derived.Test.YtcljakdcejhfiacJLinkAcked16
namespace Go.Proofs.Ytcljakdcejhfiac
open Go.RowKit
theorem set4 {w : World} {g : Nat} {e : TypeId} {a b c d x y z u : Value} (h : w.heap[g]? = some (.cells #[a, b, c, d] e (0, 0))) :
    ((((w.setCell ⟨g, 0, none⟩ x).setCell ⟨g, 1, none⟩ y).setCell ⟨g, 2, none⟩ z).setCell ⟨g, 3, none⟩ u).heap[g]? = some (.cells #[x, y, z, u] e (0, 0)) := by
  have h1 := heap_setCell_same w g 0 _ e x h
  have h2 := heap_setCell_same _ g 1 _ e y h1
  have h3 := heap_setCell_same _ g 2 _ e z h2
  have h4 := heap_setCell_same _ g 3 _ e u h3
  rw [h4]; rfl
theorem set4o {w : World} {g k : Nat} {x y z u : Value} (h : k ≠ g) : ((((w.setCell ⟨g, 0, none⟩ x).setCell ⟨g, 1, none⟩ y).setCell ⟨g, 2, none⟩ z).setCell ⟨g, 3, none⟩ u).heap[k]? = w.heap[k]? := by
  rw [Below.heap_setCell _ _ _ _ h, Below.heap_setCell _ _ _ _ h, Below.heap_setCell _ _ _ _ h, Below.heap_setCell _ _ _ _ h]
theorem set4b {B : Nat} {a w : World} {g : Nat} {x y z u : Value} (h : Below B a w) (hg : B ≤ g) : Below B a ((((w.setCell ⟨g, 0, none⟩ x).setCell ⟨g, 1, none⟩ y).setCell ⟨g, 2, none⟩ z).setCell ⟨g, 3, none⟩ u) :=
  (((h.setCell (p := ⟨g, 0, none⟩) hg _).setCell (p := ⟨g, 1, none⟩) hg _).setCell (p := ⟨g, 2, none⟩) hg _).setCell (p := ⟨g, 3, none⟩) hg _
end Go.Proofs.Ytcljakdcejhfiac
namespace Go.Proofs.Ytcljakdcejhfiac
open Go.RowKit
structure PO where
  epoch : Int
  next : Int
  now : Int
  wait : List PW
set_option maxHeartbeats 1000000 in
theorem szLinkOut_any (m : PO) (a : Option Addr) (cap : Nat) (l : Int) (w : World) (hr : RdSl cSnt w m.wait (.slice a m.wait.length cap)) (h0 : 0 ≤ l) (h1 : l ≤ 1048576) :
    Calls Try.prog 9 #[.agg #[.int .i64 m.epoch, .int .i64 m.next, .int .i64 m.now, .slice a m.wait.length cap], .int .i64 l] w fun e w' => e = .returned (.int .i64 (rest l (totL wN m.wait))) ∧ Below w.heap.size w w' := by
  have HR := hid hr
  clear hr
  go_enter Try.func9, Try.ntmps9
  go_wp2_with fail
  refine (szSentS_any a cap m.wait l _ (HR.out.later (below_new1 _ _)) h0 h1).mono ?_
  rintro e w2 ⟨rfl, b2⟩
  have HB2 : Hid (Below w.heap.size w w2) := hid (below_chain (below_new1 _ _) b2)
  clear b2
  by_cases hneg : rest l (totL wN m.wait) < 0
  · have HN : Hid (rest l (totL wN m.wait) = -1) := hid (rest_neg1 hneg)
    generalize hq : rest l (totL wN m.wait) = r at *
    have HE := hid hq
    clear hq
    go_wp2
    go_ret
    exact ⟨by rw [HE.out, HN.out]; rfl, HB2.out⟩
  · generalize hq : rest l (totL wN m.wait) = r at *
    have HE := hid hq
    clear hq
    go_wp2
    go_ret
    exact ⟨by rw [HE.out]; rfl, HB2.out⟩
set_option maxHeartbeats 1000000 in
theorem eqLinkOut_any (m : PO) (a b : Option Addr) (c d : Nat) (w : World) (h1 : RdSl cSnt w m.wait (.slice a m.wait.length c)) (h2 : RdSl cSnt w m.wait (.slice b m.wait.length d)) (ht : totL wN m.wait ≤ 1048576) :
    Calls Try.prog 13 #[.agg #[.int .i64 m.epoch, .int .i64 m.next, .int .i64 m.now, .slice a m.wait.length c], .agg #[.int .i64 m.epoch, .int .i64 m.next, .int .i64 m.now, .slice b m.wait.length d]] w fun e w' => e = .returned (.bool true) ∧ Below w.heap.size w w' := by
  have H1 := hid h1
  have H2 := hid h2
  clear h1 h2
  have x1 : (m.epoch != m.epoch) = false := by simp
  have x2 : (m.next != m.next) = false := by simp
  have x3 : (m.now != m.now) = false := by simp
  go_enter Try.func13, Try.ntmps13
  go_wp2_with fail
  refine (eqSentS_any a b c d m.wait _ (H1.out.later (below_new2 _ _ _)) (H2.out.later (below_new2 _ _ _)) ht).mono ?_
  rintro e w2 ⟨rfl, b2⟩
  have HB : Hid (Below w.heap.size w w2) := hid ((below_new2 w _ _).trans (b2.mono (by simp; omega)))
  clear b2
  go_wp2
  go_ret
  exact ⟨rfl, HB.out⟩
set_option maxHeartbeats 2000000 in
theorem toLinkOut_any (m : PO) (a : Option Addr) (cap : Nat) (w : World) (hr : RdSl cSnt w m.wait (.slice a m.wait.length cap)) (ht : totL wN m.wait ≤ 1048576) :
    Calls Try.prog 11 #[.agg #[.int .i64 m.epoch, .int .i64 m.next, .int .i64 m.now, .slice a m.wait.length cap]] w fun e w' => ∃ a' c' bs, e = .returned (.agg #[.int .i64 m.epoch, .int .i64 m.next, .int .i64 m.now, .slice a' m.wait.length c']) ∧ OwnSl cSnt 85 w' m.wait (.slice a' m.wait.length c') bs ∧ (∀ b ∈ bs, w.heap.size ≤ b) ∧ bs.Nodup ∧ Below w.heap.size w w' := by
  have HR := hid hr
  clear hr
  go_enter Try.func11, Try.ntmps11
  go_wp2_with fail
  refine (toSentS_any a cap m.wait _ (HR.out.later (below_new3 _ _ _ _)) ht).mono ?_
  rintro e w2 ⟨v2, bs, rfl, o2, l2, n2, b2⟩
  obtain ⟨a2, c2, rfl, -⟩ := id o2.rd
  rw [size3] at b2 l2
  obtain ⟨k0, k1, k2⟩ := heap3 _ _ _ b2
  have c10 := cell_of_row w2 _ 0 _ _ _ k1
  have c11 := cell_of_row w2 _ 1 _ _ _ k1
  have c12 := cell_of_row w2 _ 2 _ _ _ k1
  have c13 := cell_of_row w2 _ 3 _ _ _ k1
  have f10 := frozen_of_row w2 _ 0 _ _ k1
  have f11 := frozen_of_row w2 _ 1 _ _ k1
  have f12 := frozen_of_row w2 _ 2 _ _ k1
  have f13 := frozen_of_row w2 _ 3 _ _ k1
  have c20 := cell_of_row w2 _ 0 _ _ _ k2
  have c21 := cell_of_row w2 _ 1 _ _ _ k2
  have c22 := cell_of_row w2 _ 2 _ _ _ k2
  have c23 := cell_of_row w2 _ 3 _ _ _ k2
  have f23 := frozen_of_row w2 _ 3 _ _ k2
  simp at c10 c11 c12 c13 c20 c21 c22 c23
  have K1 := hid k1
  have HB : Hid (Below w.heap.size w w2) := hid ((below_new3 w _ _ _).trans (b2.mono (by omega)))
  have HO2 := hid o2
  have HL2 := hid l2
  have HN2 := hid n2
  clear k0 k1 k2 b2 o2 l2 n2
  go_wp2
  have h12 : w.heap.size + 1 ≠ w.heap.size + 1 + 1 := by omega
  refine bodyPost_ret (results_cell_row rfl _ _ (w.heap.size + 1) 29 #[.int .i64 m.epoch, .int .i64 m.next, .int .i64 m.now, .slice a2 m.wait.length c2] (0, 0) _ rfl (set4 ((Below.heap_setCell _ ⟨w.heap.size + 1 + 1, 3, none⟩ _ _ h12).trans K1.out)) Try.underlying29 rfl (by kernel_rfl)) rfl ?_
  refine ⟨a2, c2, bs, rfl, HO2.out.kept (fun b hb => ?_), fun b hb => by have := HL2.out b hb; omega, HN2.out, set4b (HB.out.setCell (p := ⟨w.heap.size + 1 + 1, 3, none⟩) (by simp only []; omega) _) (by omega)⟩
  have := HL2.out b hb
  exact (set4o (by omega)).trans (Below.heap_setCell _ ⟨w.heap.size + 1 + 1, 3, none⟩ _ _ (by simp only []; omega))
end Go.Proofs.Ytcljakdcejhfiac
