import Derived.Test.YtcljakdcejhfiadJValidTable24
import Derived.Test.YtcljakdcejhfiadJValidTable45
import Derived.Handy
namespace Go.Proofs.Ytcljakdcejhfiad
open Go.RowKit
set_option maxHeartbeats 2000000 in
theorem nameByte_any (c : Nat) (w : World) : Calls Try.prog 145 #[.int .u8 (c : Int)] w fun e w' => e = .returned (.bool (nameB c)) ∧ w' = w := by
  rcases nameB_split c with ⟨hs, hn⟩ | ⟨hs, hn⟩
  · have HN := hid hn
    clear hn
    rcases hs with h | h | h | h | h <;> (go_enter Try.func145, Try.ntmps145; go_wp2 <;> first | (exfalso; omega) | (go_ret; exact ⟨by rw [HN.out]; simp; omega, rfl⟩) | (go_ret; exact ⟨by rw [HN.out]; rfl, rfl⟩))
  · have HN := hid hn
    clear hn
    rcases hs with h | h | h | h <;> (go_enter Try.func145, Try.ntmps145; go_wp2 <;> first | (exfalso; omega) | (go_ret; exact ⟨by rw [HN.out]; simp; omega, rfl⟩) | (go_ret; exact ⟨by rw [HN.out]; rfl, rfl⟩))
end Go.Proofs.Ytcljakdcejhfiad
