import Derived.Test.YtcljakdcejhfiadJValidTable18
import Derived.Test.YtcljakdcejhfiadJValidTable23
namespace Go.Proofs.Ytcljakdcejhfiad
def fitsW (n width : Int) : Bool := (pki [n] width).2 == 0
theorem fitsW_zero (width : Int) : fitsW 0 width = widthOK width := by
  unfold fitsW widthOK
  by_cases h : width = 1 ∨ width = 2 ∨ width = 4 ∨ width = 8
  · rw [decide_eq_true h]
    rcases h with rfl | rfl | rfl | rfl <;> rfl
  · rw [decide_eq_false h, pki_no _ _ h]; rfl
theorem fitsR (W : Nat) (k : IntKind) (n : Int) : ((pkiR W k [n]).2 == 0) = decide (k.wrap n = n) := by
  by_cases h : k.wrap n = n
  · rw [pkiR_ok (by simpa using h), decide_eq_true h]; rfl
  · rw [pkiR_bad 0 (by simp) (by simpa using h), decide_eq_false h]; rfl
end Go.Proofs.Ytcljakdcejhfiad
