import Derived.Test.YtcljakdcejhfiadJLinkTick25
import Derived.Test.YtcljakdcejhfiadJLinkTick30
namespace Go.Proofs.Ytcljakdcejhfiad
open Go.RowKit
def StOwn (w : World) (R : PO) (G : List (List Nat)) (C : Int) (e : Ending) (w' : World) : Prop :=
  ∃ a c v bs, e = .returned (.tuple #[.agg #[.int .i64 R.epoch, .int .i64 R.next, .int .i64 R.now, .slice a R.wait.length c], v, .int .i64 C]) ∧ OwnSl cSnt 101 w' R.wait (.slice a R.wait.length c) bs ∧ bs.Nodup ∧ (∀ b ∈ bs, w.heap.size ≤ b) ∧ RdSl cSS w' G v ∧ Below w.heap.size w w'
theorem stOwn_nil {w w' : World} {R : PO} {G : List (List Nat)} {C C' : Int} (hb : Below w.heap.size w w') (hp : R = noOut) (hG : G = []) (hC : C = C') : StOwn w R G C (.returned (.tuple #[.agg #[.int .i64 0, .int .i64 0, .int .i64 0, .slice none 0 0], .slice none 0 0, .int .i64 C'])) w' := by
  subst hp hC hG
  exact ⟨none, 0, _, [], rfl, .inl ⟨rfl, rfl, rfl⟩, by simp, by simp, RdSl.empty none, hb⟩
theorem StOwn.st {w w' : World} {R : PO} {G : List (List Nat)} {C : Int} {e : Ending} (h : StOwn w R G C e w') : StPost w R G C e w' := by
  obtain ⟨a, c, v, bs, h1, h2, _, _, h5, h6⟩ := h
  exact ⟨a, c, v, h1, h2.rd, h5, h6⟩
end Go.Proofs.Ytcljakdcejhfiad
