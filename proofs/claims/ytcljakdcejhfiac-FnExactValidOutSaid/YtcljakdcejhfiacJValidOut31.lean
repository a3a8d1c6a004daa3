import Derived.Test.YtcljakdcejhfiacJValidOut21
namespace Go.Proofs.Ytcljakdcejhfiac
open Go.RowKit
abbrev BoxO (w' : World) (g : Nat) (s : PO) (a : Option Addr) (c : Nat) : Prop :=
  w'.cell? ⟨g, 0, none⟩ = some (.int .i64 s.epoch) ∧ w'.cell? ⟨g, 1, none⟩ = some (.int .i64 s.next) ∧ w'.cell? ⟨g, 2, none⟩ = some (.int .i64 s.now) ∧ w'.cell? ⟨g, 3, none⟩ = some (.slice a s.wait.length c)
theorem boxO_later {wa wb : World} {g : Nat} {s : PO} {a : Option Addr} {c : Nat} (h : BoxO wa g s a c) (k : Below wa.heap.size wa wb) : BoxO wb g s a c :=
  ⟨(k.cell (World.block_lt_of_cell? _ _ h.1)).trans h.1, (k.cell (World.block_lt_of_cell? _ _ h.2.1)).trans h.2.1, (k.cell (World.block_lt_of_cell? _ _ h.2.2.1)).trans h.2.2.1, (k.cell (World.block_lt_of_cell? _ _ h.2.2.2)).trans h.2.2.2⟩
theorem boxO_of {w : World} {g : Nat} {e : TypeId} {s : PO} {a : Option Addr} {c : Nat} (hh : w.heap[g]? = some (.cells #[.int .i64 s.epoch, .int .i64 s.next, .int .i64 s.now, .slice a s.wait.length c] e (0, 0))) : BoxO w g s a c := by
  have p0 := cell_of_row _ _ 0 _ _ _ hh
  have p1 := cell_of_row _ _ 1 _ _ _ hh
  have p2 := cell_of_row _ _ 2 _ _ _ hh
  have p3 := cell_of_row _ _ 3 _ _ _ hh
  simp only [List.getElem?_toArray, List.getElem?_cons_zero, List.getElem?_cons_succ] at p0 p1 p2 p3
  exact ⟨p0, p1, p2, p3⟩
theorem boxO_new {w : World} {e : TypeId} {s : PO} {a : Option Addr} {c : Nat} : BoxO (w.alloc (.cells #[.int .i64 s.epoch, .int .i64 s.next, .int .i64 s.now, .slice a s.wait.length c] e)) w.heap.size s a c := boxO_of (heap_alloc_new w _)
end Go.Proofs.Ytcljakdcejhfiac
