import Derived.Test.YtcljakdcejhfiaaJPackInts9
import Derived.Test.YtcljakdcejhfiaaJPackInts0
namespace Go.Proofs.Ytcljakdcejhfiaa
open Go.RowKit
set_option maxHeartbeats 400000 in
theorem l1fits_i64 (v : Int) (w : World) (hv : IntIn v) :
    Calls Try.prog 49 #[.int .i64 v, .int .i64 8] w fun e w' => e = .returned (.bool (decide (IntKind.i64.wrap v = v))) ∧ w' = w := by
  obtain ⟨h1, h2⟩ := hv
  have HD : Hid (decide (IntKind.i64.wrap v = v) = true) := hid (decide_eq_true ((fit_i64 v).2 ⟨h1, by omega⟩))
  rw [HD.out]
  go_enter Try.func49, Try.ntmps49
  go_wp2
  go_ret
  exact ⟨rfl, rfl⟩
end Go.Proofs.Ytcljakdcejhfiaa
