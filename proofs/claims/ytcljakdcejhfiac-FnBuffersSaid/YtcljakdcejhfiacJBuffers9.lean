import Derived.Test.YtcljakdcejhfiacJBuffers5
import Derived.Test.YtcljakdcejhfiacJBuffers0
namespace Go.Proofs.Ytcljakdcejhfiac
open Go.RowKit
set_option maxRecDepth 1000000 in
set_option maxHeartbeats 400000 in
theorem l1fits_i8 (v : Int) (w : World) (hv : IntIn v) :
    Calls Try.prog 72 #[.int .i64 v, .int .i64 1] w fun e w' => e = .returned (.bool (decide (IntKind.i8.wrap v = v))) ∧ w' = w := by
  obtain ⟨h1, h2⟩ := hv
  have HI := hid (fit_i8 v)
  by_cases hlo : -128 ≤ v
  · by_cases hhi : v < 128
    · have HD : Hid (decide (IntKind.i8.wrap v = v) = true) := hid (decide_eq_true (HI.out.2 ⟨hlo, hhi⟩))
      rw [HD.out]
      go_enter Try.func72, Try.ntmps72
      go_wp2
      go_ret
      exact ⟨rfl, rfl⟩
    · have HD : Hid (decide (IntKind.i8.wrap v = v) = false) := hid (decide_eq_false (fun h => hhi (HI.out.1 h).2))
      rw [HD.out]
      go_enter Try.func72, Try.ntmps72
      go_wp2
      go_ret
      exact ⟨rfl, rfl⟩
  · have HD : Hid (decide (IntKind.i8.wrap v = v) = false) := hid (decide_eq_false (fun h => hlo (HI.out.1 h).1))
    rw [HD.out]
    go_enter Try.func72, Try.ntmps72
    go_wp2
    go_ret
    exact ⟨rfl, rfl⟩
end Go.Proofs.Ytcljakdcejhfiac
