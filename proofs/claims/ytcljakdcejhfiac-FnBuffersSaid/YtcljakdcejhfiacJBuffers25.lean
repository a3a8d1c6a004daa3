import Derived.Test.YtcljakdcejhfiacJBuffers5
import Derived.Test.YtcljakdcejhfiacJBuffers0
namespace Go.Proofs.Ytcljakdcejhfiac
open Go.RowKit
set_option maxRecDepth 1000000 in
set_option maxHeartbeats 400000 in
theorem l1fits_i64 (v : Int) (w : World) (hv : IntIn v) :
    Calls Try.prog 72 #[.int .i64 v, .int .i64 8] w fun e w' => e = .returned (.bool (decide (IntKind.i64.wrap v = v))) ∧ w' = w := by
  obtain ⟨h1, h2⟩ := hv
  have HD : Hid (decide (IntKind.i64.wrap v = v) = true) := hid (decide_eq_true ((fit_i64 v).2 ⟨h1, by omega⟩))
  rw [HD.out]
  go_enter Try.func72, Try.ntmps72
  go_wp2
  go_ret
  exact ⟨rfl, rfl⟩
end Go.Proofs.Ytcljakdcejhfiac
