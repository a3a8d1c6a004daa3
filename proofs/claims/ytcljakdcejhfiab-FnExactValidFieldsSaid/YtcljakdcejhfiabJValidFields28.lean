import Derived.Test.YtcljakdcejhfiabJValidFields21
import Derived.Test.YtcljakdcejhfiabJValidFields27
import Derived.Handy
namespace Go.Proofs.Ytcljakdcejhfiab
open Go.RowKit
set_option maxHeartbeats 2000000 in
theorem nameByte_any (c : Nat) (w : World) : Calls Try.prog 88 #[.int .u8 (c : Int)] w fun e w' => e = .returned (.bool (nameB c)) ∧ w' = w := by
  rcases nameB_split c with ⟨hs, hn⟩ | ⟨hs, hn⟩
  · have HN := hid hn
    clear hn
    rcases hs with h | h | h | h | h <;> (go_enter Try.func88, Try.ntmps88; go_wp2 <;> first | (exfalso; omega) | (go_ret; exact ⟨by rw [HN.out]; simp; omega, rfl⟩) | (go_ret; exact ⟨by rw [HN.out]; rfl, rfl⟩))
  · have HN := hid hn
    clear hn
    rcases hs with h | h | h | h <;> (go_enter Try.func88, Try.ntmps88; go_wp2 <;> first | (exfalso; omega) | (go_ret; exact ⟨by rw [HN.out]; simp; omega, rfl⟩) | (go_ret; exact ⟨by rw [HN.out]; rfl, rfl⟩))
end Go.Proofs.Ytcljakdcejhfiab
