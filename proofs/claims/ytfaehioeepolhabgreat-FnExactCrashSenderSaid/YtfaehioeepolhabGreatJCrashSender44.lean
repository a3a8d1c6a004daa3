import Derived.Test.YtfaehioeepolhabGreatJCrashSender8
namespace Go.Proofs.YtfaehioeepolhabGreat
open Go.RowKit
theorem set13F {w : World} {g : Nat} {e : TypeId} {x0 x1 x2 x3 x4 x5 x6 x7 x8 x9 x10 x11 x12 y0 : Value} (h : w.heap[g]? = some (.cells #[x0, x1, x2, x3, x4, x5, x6, x7, x8, x9, x10, x11, x12] e (0, 0))) : (w.setCell ⟨g, 0, none⟩ y0).heap[g]? = some (.cells #[y0, x1, x2, x3, x4, x5, x6, x7, x8, x9, x10, x11, x12] e (0, 0)) := by
 have h0 := heap_setCell_same _ g 0 _ e y0 h
 replace h0 : (w.setCell ⟨g, 0, none⟩ y0).heap[g]? = some (.cells #[y0, x1, x2, x3, x4, x5, x6, x7, x8, x9, x10, x11, x12] e (0, 0)) := h0
 exact h0
theorem set13Fo {w : World} {g k : Nat} {y0 : Value} (h : k ≠ g) : (w.setCell ⟨g, 0, none⟩ y0).heap[k]? = w.heap[k]? := by
 rw [Below.heap_setCell _ _ _ _ h]
theorem set13Fb {B : Nat} {a w : World} {g : Nat} {y0 : Value} (h : Below B a w) (hg : B ≤ g) : Below B a (w.setCell ⟨g, 0, none⟩ y0) := by
 exact (h.setCell (p := ⟨g, 0, none⟩) hg _)
theorem set13T {w : World} {g : Nat} {e : TypeId} {x0 x1 x2 x3 x4 x5 x6 x7 x8 x9 x10 x11 x12 y3 : Value} (h : w.heap[g]? = some (.cells #[x0, x1, x2, x3, x4, x5, x6, x7, x8, x9, x10, x11, x12] e (0, 0))) : (w.setCell ⟨g, 3, none⟩ y3).heap[g]? = some (.cells #[x0, x1, x2, y3, x4, x5, x6, x7, x8, x9, x10, x11, x12] e (0, 0)) := by
 have h0 := heap_setCell_same _ g 3 _ e y3 h
 replace h0 : (w.setCell ⟨g, 3, none⟩ y3).heap[g]? = some (.cells #[x0, x1, x2, y3, x4, x5, x6, x7, x8, x9, x10, x11, x12] e (0, 0)) := h0
 exact h0
theorem set13To {w : World} {g k : Nat} {y3 : Value} (h : k ≠ g) : (w.setCell ⟨g, 3, none⟩ y3).heap[k]? = w.heap[k]? := by
 rw [Below.heap_setCell _ _ _ _ h]
theorem set13Tb {B : Nat} {a w : World} {g : Nat} {y3 : Value} (h : Below B a w) (hg : B ≤ g) : Below B a (w.setCell ⟨g, 3, none⟩ y3) := by
 exact (h.setCell (p := ⟨g, 3, none⟩) hg _)
theorem set13O {w : World} {g : Nat} {e : TypeId} {x0 x1 x2 x3 x4 x5 x6 x7 x8 x9 x10 x11 x12 y5 y6 y7 y8 : Value} (h : w.heap[g]? = some (.cells #[x0, x1, x2, x3, x4, x5, x6, x7, x8, x9, x10, x11, x12] e (0, 0))) : ((((w.setCell ⟨g, 5, none⟩ y5).setCell ⟨g, 6, none⟩ y6).setCell ⟨g, 7, none⟩ y7).setCell ⟨g, 8, none⟩ y8).heap[g]? = some (.cells #[x0, x1, x2, x3, x4, y5, y6, y7, y8, x9, x10, x11, x12] e (0, 0)) := by
 have h0 := heap_setCell_same _ g 5 _ e y5 h
 replace h0 : (w.setCell ⟨g, 5, none⟩ y5).heap[g]? = some (.cells #[x0, x1, x2, x3, x4, y5, x6, x7, x8, x9, x10, x11, x12] e (0, 0)) := h0
 have h1 := heap_setCell_same _ g 6 _ e y6 h0
 replace h1 : ((w.setCell ⟨g, 5, none⟩ y5).setCell ⟨g, 6, none⟩ y6).heap[g]? = some (.cells #[x0, x1, x2, x3, x4, y5, y6, x7, x8, x9, x10, x11, x12] e (0, 0)) := h1
 have h2 := heap_setCell_same _ g 7 _ e y7 h1
 replace h2 : (((w.setCell ⟨g, 5, none⟩ y5).setCell ⟨g, 6, none⟩ y6).setCell ⟨g, 7, none⟩ y7).heap[g]? = some (.cells #[x0, x1, x2, x3, x4, y5, y6, y7, x8, x9, x10, x11, x12] e (0, 0)) := h2
 have h3 := heap_setCell_same _ g 8 _ e y8 h2
 replace h3 : ((((w.setCell ⟨g, 5, none⟩ y5).setCell ⟨g, 6, none⟩ y6).setCell ⟨g, 7, none⟩ y7).setCell ⟨g, 8, none⟩ y8).heap[g]? = some (.cells #[x0, x1, x2, x3, x4, y5, y6, y7, y8, x9, x10, x11, x12] e (0, 0)) := h3
 exact h3
theorem set13Oo {w : World} {g k : Nat} {y5 y6 y7 y8 : Value} (h : k ≠ g) : ((((w.setCell ⟨g, 5, none⟩ y5).setCell ⟨g, 6, none⟩ y6).setCell ⟨g, 7, none⟩ y7).setCell ⟨g, 8, none⟩ y8).heap[k]? = w.heap[k]? := by
 rw [Below.heap_setCell _ _ _ _ h, Below.heap_setCell _ _ _ _ h, Below.heap_setCell _ _ _ _ h, Below.heap_setCell _ _ _ _ h]
theorem set13Ob {B : Nat} {a w : World} {g : Nat} {y5 y6 y7 y8 : Value} (h : Below B a w) (hg : B ≤ g) : Below B a ((((w.setCell ⟨g, 5, none⟩ y5).setCell ⟨g, 6, none⟩ y6).setCell ⟨g, 7, none⟩ y7).setCell ⟨g, 8, none⟩ y8) := by
 exact ((((h.setCell (p := ⟨g, 5, none⟩) hg _).setCell (p := ⟨g, 6, none⟩) hg _).setCell (p := ⟨g, 7, none⟩) hg _).setCell (p := ⟨g, 8, none⟩) hg _)
theorem set13S {w : World} {g : Nat} {e : TypeId} {x0 x1 x2 x3 x4 x5 x6 x7 x8 x9 x10 x11 x12 y9 y10 y11 y12 : Value} (h : w.heap[g]? = some (.cells #[x0, x1, x2, x3, x4, x5, x6, x7, x8, x9, x10, x11, x12] e (0, 0))) : ((((w.setCell ⟨g, 9, none⟩ y9).setCell ⟨g, 10, none⟩ y10).setCell ⟨g, 11, none⟩ y11).setCell ⟨g, 12, none⟩ y12).heap[g]? = some (.cells #[x0, x1, x2, x3, x4, x5, x6, x7, x8, y9, y10, y11, y12] e (0, 0)) := by
 have h0 := heap_setCell_same _ g 9 _ e y9 h
 replace h0 : (w.setCell ⟨g, 9, none⟩ y9).heap[g]? = some (.cells #[x0, x1, x2, x3, x4, x5, x6, x7, x8, y9, x10, x11, x12] e (0, 0)) := h0
 have h1 := heap_setCell_same _ g 10 _ e y10 h0
 replace h1 : ((w.setCell ⟨g, 9, none⟩ y9).setCell ⟨g, 10, none⟩ y10).heap[g]? = some (.cells #[x0, x1, x2, x3, x4, x5, x6, x7, x8, y9, y10, x11, x12] e (0, 0)) := h1
 have h2 := heap_setCell_same _ g 11 _ e y11 h1
 replace h2 : (((w.setCell ⟨g, 9, none⟩ y9).setCell ⟨g, 10, none⟩ y10).setCell ⟨g, 11, none⟩ y11).heap[g]? = some (.cells #[x0, x1, x2, x3, x4, x5, x6, x7, x8, y9, y10, y11, x12] e (0, 0)) := h2
 have h3 := heap_setCell_same _ g 12 _ e y12 h2
 replace h3 : ((((w.setCell ⟨g, 9, none⟩ y9).setCell ⟨g, 10, none⟩ y10).setCell ⟨g, 11, none⟩ y11).setCell ⟨g, 12, none⟩ y12).heap[g]? = some (.cells #[x0, x1, x2, x3, x4, x5, x6, x7, x8, y9, y10, y11, y12] e (0, 0)) := h3
 exact h3
theorem set13So {w : World} {g k : Nat} {y9 y10 y11 y12 : Value} (h : k ≠ g) : ((((w.setCell ⟨g, 9, none⟩ y9).setCell ⟨g, 10, none⟩ y10).setCell ⟨g, 11, none⟩ y11).setCell ⟨g, 12, none⟩ y12).heap[k]? = w.heap[k]? := by
 rw [Below.heap_setCell _ _ _ _ h, Below.heap_setCell _ _ _ _ h, Below.heap_setCell _ _ _ _ h, Below.heap_setCell _ _ _ _ h]
theorem set13Sb {B : Nat} {a w : World} {g : Nat} {y9 y10 y11 y12 : Value} (h : Below B a w) (hg : B ≤ g) : Below B a ((((w.setCell ⟨g, 9, none⟩ y9).setCell ⟨g, 10, none⟩ y10).setCell ⟨g, 11, none⟩ y11).setCell ⟨g, 12, none⟩ y12) := by
 exact ((((h.setCell (p := ⟨g, 9, none⟩) hg _).setCell (p := ⟨g, 10, none⟩) hg _).setCell (p := ⟨g, 11, none⟩) hg _).setCell (p := ⟨g, 12, none⟩) hg _)
theorem set13P {w : World} {g : Nat} {e : TypeId} {x0 x1 x2 x3 x4 x5 x6 x7 x8 x9 x10 x11 x12 y4 : Value} (h : w.heap[g]? = some (.cells #[x0, x1, x2, x3, x4, x5, x6, x7, x8, x9, x10, x11, x12] e (0, 0))) : (w.setCell ⟨g, 4, none⟩ y4).heap[g]? = some (.cells #[x0, x1, x2, x3, y4, x5, x6, x7, x8, x9, x10, x11, x12] e (0, 0)) := by
 have h0 := heap_setCell_same _ g 4 _ e y4 h
 replace h0 : (w.setCell ⟨g, 4, none⟩ y4).heap[g]? = some (.cells #[x0, x1, x2, x3, y4, x5, x6, x7, x8, x9, x10, x11, x12] e (0, 0)) := h0
 exact h0
theorem set13Po {w : World} {g k : Nat} {y4 : Value} (h : k ≠ g) : (w.setCell ⟨g, 4, none⟩ y4).heap[k]? = w.heap[k]? := by
 rw [Below.heap_setCell _ _ _ _ h]
theorem set13Pb {B : Nat} {a w : World} {g : Nat} {y4 : Value} (h : Below B a w) (hg : B ≤ g) : Below B a (w.setCell ⟨g, 4, none⟩ y4) := by
 exact (h.setCell (p := ⟨g, 4, none⟩) hg _)
theorem set13E {w : World} {g : Nat} {e : TypeId} {x0 x1 x2 x3 x4 x5 x6 x7 x8 x9 x10 x11 x12 y1 : Value} (h : w.heap[g]? = some (.cells #[x0, x1, x2, x3, x4, x5, x6, x7, x8, x9, x10, x11, x12] e (0, 0))) : (w.setCell ⟨g, 1, none⟩ y1).heap[g]? = some (.cells #[x0, y1, x2, x3, x4, x5, x6, x7, x8, x9, x10, x11, x12] e (0, 0)) := by
 have h0 := heap_setCell_same _ g 1 _ e y1 h
 replace h0 : (w.setCell ⟨g, 1, none⟩ y1).heap[g]? = some (.cells #[x0, y1, x2, x3, x4, x5, x6, x7, x8, x9, x10, x11, x12] e (0, 0)) := h0
 exact h0
theorem set13Eo {w : World} {g k : Nat} {y1 : Value} (h : k ≠ g) : (w.setCell ⟨g, 1, none⟩ y1).heap[k]? = w.heap[k]? := by
 rw [Below.heap_setCell _ _ _ _ h]
theorem set13Eb {B : Nat} {a w : World} {g : Nat} {y1 : Value} (h : Below B a w) (hg : B ≤ g) : Below B a (w.setCell ⟨g, 1, none⟩ y1) := by
 exact (h.setCell (p := ⟨g, 1, none⟩) hg _)
end Go.Proofs.YtfaehioeepolhabGreat
