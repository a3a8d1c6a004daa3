import Derived.Test.YtcljakdcejhfiacJLinkAcked33
import Derived.Test.YtcljakdcejhfiacJLinkAcked40
namespace Go.Proofs.Ytcljakdcejhfiac
open Go.RowKit
def SoOwn (w : World) (R : PO) (C : Int) (e : Ending) (w' : World) : Prop :=
  ∃ a c bs, e = .returned (.tuple #[.agg #[.int .i64 R.epoch, .int .i64 R.next, .int .i64 R.now, .slice a R.wait.length c], .int .i64 C]) ∧ OwnSl cSnt 85 w' R.wait (.slice a R.wait.length c) bs ∧ bs.Nodup ∧ (∀ b ∈ bs, w.heap.size ≤ b) ∧ Below w.heap.size w w'
theorem soOwn_nil {w w' : World} {R : PO} {C C' : Int} (hb : Below w.heap.size w w') (hp : R = noOut) (hC : C = C') : SoOwn w R C (.returned (.tuple #[.agg #[.int .i64 0, .int .i64 0, .int .i64 0, .slice none 0 0], .int .i64 C'])) w' := by
  subst hp hC
  exact ⟨none, 0, [], rfl, .inl ⟨rfl, rfl, rfl⟩, by simp, by simp, hb⟩
theorem SoOwn.so {w w' : World} {R : PO} {C : Int} {e : Ending} (h : SoOwn w R C e w') : SoPost w R C e w' := by
  obtain ⟨a, c, bs, h1, h2, _, _, h5⟩ := h
  exact ⟨a, c, h1, h2.rd, h5⟩
def StOwn (w : World) (R : PO) (G : List (List Nat)) (C : Int) (e : Ending) (w' : World) : Prop :=
  ∃ a c v bs, e = .returned (.tuple #[.agg #[.int .i64 R.epoch, .int .i64 R.next, .int .i64 R.now, .slice a R.wait.length c], v, .int .i64 C]) ∧ OwnSl cSnt 85 w' R.wait (.slice a R.wait.length c) bs ∧ bs.Nodup ∧ (∀ b ∈ bs, w.heap.size ≤ b) ∧ RdSl cSS w' G v ∧ Below w.heap.size w w'
theorem StOwn.st {w w' : World} {R : PO} {G : List (List Nat)} {C : Int} {e : Ending} (h : StOwn w R G C e w') : StPost w R G C e w' := by
  obtain ⟨a, c, v, bs, h1, h2, _, _, h5, h6⟩ := h
  exact ⟨a, c, v, h1, h2.rd, h5, h6⟩
end Go.Proofs.Ytcljakdcejhfiac
