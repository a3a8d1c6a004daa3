import Derived.Test.YtcljakdcejhfiacJLinkAcked4
import Derived.Test.YtcljakdcejhfiacJLinkAcked13
import Derived.Test.YtcljakdcejhfiacJLinkAcked17
namespace Go.Proofs.Ytcljakdcejhfiac
open Go.ChangeShapes Go.WideShapes Go.ChangeAt Go.RowKit
theorem opens_Sent {H : Type} (enc : TypeId × Value → H) (W : World) : Opens enc Try.prog W 135 cSnt :=
  opens_struct2 Try.underlying135 rfl rfl rfl (by kernel_rfl) (by kernel_rfl) (by kernel_rfl) (opens_Pkt enc W) (opens_int Try.underlying3) (fun x y => ⟨x, y⟩) (fun _ _ => rfl)
theorem opens_SentS {H : Type} (enc : TypeId × Value → H) (W : World) : Opens enc Try.prog W 22 (cSl cSnt 85) :=
  opens_slice Try.underlying22 (by kernel_rfl) (by decide) (opens_Sent enc W) _
def cOut : Cod PO := cMap (cPair cInt (cPair cInt (cPair cInt (cSl cSnt 85)))) fun s => (s.epoch, s.next, s.now, s.wait)
theorem opens_Out {H : Type} (enc : TypeId × Value → H) (W : World) : Opens enc Try.prog W 24 cOut :=
  opens_struct4 Try.underlying24 rfl rfl rfl rfl rfl (by kernel_rfl) (by kernel_rfl) (by kernel_rfl) (by kernel_rfl) (by kernel_rfl) (opens_int Try.underlying3) (opens_int Try.underlying3) (opens_int Try.underlying3) (opens_SentS enc W) (fun x y z u => ⟨x, y, z, u⟩) (fun _ _ _ _ => rfl)
def LinkOutIn (w : World) (v : Value) : Prop := ∃ (o : PO) (a : Option Addr) (c : Nat), v = .agg #[.int .i64 o.epoch, .int .i64 o.next, .int .i64 o.now, .slice a o.wait.length c] ∧ RdSl cSnt w o.wait (.slice a o.wait.length c) ∧ IntIn o.epoch ∧ IntIn o.next ∧ IntIn o.now
theorem linkOutIn_of {H : Type} {enc : TypeId × Value → H} {W : World} {v : Value} {d : DataW H} {p : List MemPlace} (hv : ∃ cs, v = .agg cs ∧ cs.size = Try.prog.cellsOf 24) (h : DataW.Trod enc Try.prog W 0 (fun _ => true) true 24 v d p) : LinkOutIn W v := by
  obtain ⟨s, cs, rfl, hr⟩ := Opens.st (opens_Out enc W) hv (by decide +kernel) h
  obtain ⟨_, _, rfl, ⟨rfl, i1⟩, _, _, rfl, ⟨rfl, i2⟩, _, _, rfl, ⟨rfl, i3⟩, u2, rfl, hu2⟩ := hr
  obtain ⟨b, d, rfl, -⟩ := id hu2
  exact ⟨s, b, d, rfl, hu2, i1, i2, i3⟩
end Go.Proofs.Ytcljakdcejhfiac
namespace Go.Proofs.Ytcljakdcejhfiac
open Go.RowKit
abbrev BoxO (w' : World) (g : Nat) (s : PO) (a : Option Addr) (c : Nat) : Prop :=
  w'.cell? ⟨g, 0, none⟩ = some (.int .i64 s.epoch) ∧ w'.cell? ⟨g, 1, none⟩ = some (.int .i64 s.next) ∧ w'.cell? ⟨g, 2, none⟩ = some (.int .i64 s.now) ∧ w'.cell? ⟨g, 3, none⟩ = some (.slice a s.wait.length c)
theorem boxO_later {wa wb : World} {g : Nat} {s : PO} {a : Option Addr} {c : Nat} (h : BoxO wa g s a c) (k : Below wa.heap.size wa wb) : BoxO wb g s a c :=
  ⟨(k.cell (World.block_lt_of_cell? _ _ h.1)).trans h.1, (k.cell (World.block_lt_of_cell? _ _ h.2.1)).trans h.2.1, (k.cell (World.block_lt_of_cell? _ _ h.2.2.1)).trans h.2.2.1, (k.cell (World.block_lt_of_cell? _ _ h.2.2.2)).trans h.2.2.2⟩
theorem boxO_of {w : World} {g : Nat} {e : TypeId} {s : PO} {a : Option Addr} {c : Nat} (hh : w.heap[g]? = some (.cells #[.int .i64 s.epoch, .int .i64 s.next, .int .i64 s.now, .slice a s.wait.length c] e (0, 0))) : BoxO w g s a c := by
  have p0 := cell_of_row _ _ 0 _ _ _ hh
  have p1 := cell_of_row _ _ 1 _ _ _ hh
  have p2 := cell_of_row _ _ 2 _ _ _ hh
  have p3 := cell_of_row _ _ 3 _ _ _ hh
  simp only [List.getElem?_toArray, List.getElem?_cons_zero, List.getElem?_cons_succ] at p0 p1 p2 p3
  exact ⟨p0, p1, p2, p3⟩
end Go.Proofs.Ytcljakdcejhfiac
