import Derived.Test.YtcljakdcejhfiabJValidFields13
import Derived.Test.YtcljakdcejhfiabJValidFields20
namespace Go.Proofs.Ytcljakdcejhfiab
def fitsW (n width : Int) : Bool := (pki [n] width).2 == 0
theorem fitsW_zero (width : Int) : fitsW 0 width = widthOK width := by
  unfold fitsW widthOK
  by_cases h : width = 1 ∨ width = 2 ∨ width = 4 ∨ width = 8
  · rw [decide_eq_true h]
    rcases h with rfl | rfl | rfl | rfl <;> rfl
  · rw [decide_eq_false h, pki_no _ _ h]; rfl
end Go.Proofs.Ytcljakdcejhfiab
