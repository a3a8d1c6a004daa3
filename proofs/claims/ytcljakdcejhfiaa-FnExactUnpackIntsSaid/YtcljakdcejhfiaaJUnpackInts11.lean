import Derived.Test.YtcljakdcejhfiaaJUnpackInts0
import Derived.Test.YtcljakdcejhfiaaJUnpackInts8
namespace Go.Proofs.Ytcljakdcejhfiaa
open Go.RowKit
theorem infoInt' : (Try.prog.info? 3).map (fun i => (i.zero, i.size, i.bytes)) = some (some (.int .i64 0), 1, 8) := by kernel_rfl
def UniPost (w : World) (R : List Int × Int) (e : Ending) (w' : World) : Prop :=
  ∃ a c, e = .returned (.tuple #[.slice a R.1.length c, .int .i64 R.2]) ∧ w'.ownsRow w.heap.size 3 1 (.slice a R.1.length c) R.1.length (ints R.1) ∧ Below w.heap.size w w'
theorem uniPost_mk {w w' : World} {R : List Int} {n c : Nat} {C : Int} {a : Option Addr} (hl : R.length = n) (ho : w'.ownsRow w.heap.size 3 1 (.slice a n c) n (ints R)) (hb : Below w.heap.size w w') :
    UniPost w (R, C) (.returned (.tuple #[.slice a n c, .int .i64 C])) w' := by
  subst hl
  exact ⟨a, c, rfl, ho, hb⟩
theorem uniPost_nil (w : World) (C : Int) : UniPost w ([], C) (.returned (.tuple #[.slice none 0 0, .int .i64 C])) w :=
  ⟨none, 0, rfl, World.ownsRow_nil _ _ _ _, Below.refl _ _⟩
end Go.Proofs.Ytcljakdcejhfiaa
