import Derived.Test.YtcljakdcejhfiabJValidIn20
namespace Go.Proofs.Ytcljakdcejhfiab
open Go.RowKit
abbrev BoxI (w' : World) (g : Nat) (s : PI) (a : Option Addr) (c : Nat) (b : Option Addr) (d : Nat) : Prop :=
  w'.cell? ⟨g, 0, none⟩ = some (.int .i64 s.epoch) ∧ w'.cell? ⟨g, 1, none⟩ = some (.int .i64 s.expect) ∧ w'.cell? ⟨g, 2, none⟩ = some (.slice a s.held.length c) ∧ w'.cell? ⟨g, 3, none⟩ = some (.slice b s.part.length d)
theorem boxI_later {wa wb : World} {g : Nat} {s : PI} {a b : Option Addr} {c d : Nat} (h : BoxI wa g s a c b d) (k : Below wa.heap.size wa wb) : BoxI wb g s a c b d :=
  ⟨(k.cell (World.block_lt_of_cell? _ _ h.1)).trans h.1, (k.cell (World.block_lt_of_cell? _ _ h.2.1)).trans h.2.1, (k.cell (World.block_lt_of_cell? _ _ h.2.2.1)).trans h.2.2.1, (k.cell (World.block_lt_of_cell? _ _ h.2.2.2)).trans h.2.2.2⟩
theorem boxI_new {w : World} {e : TypeId} {s : PI} {a b : Option Addr} {c d : Nat} : BoxI (w.alloc (.cells #[.int .i64 s.epoch, .int .i64 s.expect, .slice a s.held.length c, .slice b s.part.length d] e)) w.heap.size s a c b d := by
  have hh := heap_alloc_new w (.cells #[.int .i64 s.epoch, .int .i64 s.expect, .slice a s.held.length c, .slice b s.part.length d] e)
  have p0 := cell_of_row _ _ 0 _ _ _ hh
  have p1 := cell_of_row _ _ 1 _ _ _ hh
  have p2 := cell_of_row _ _ 2 _ _ _ hh
  have p3 := cell_of_row _ _ 3 _ _ _ hh
  simp only [List.getElem?_toArray, List.getElem?_cons_zero, List.getElem?_cons_succ] at p0 p1 p2 p3
  exact ⟨p0, p1, p2, p3⟩
end Go.Proofs.Ytcljakdcejhfiab
