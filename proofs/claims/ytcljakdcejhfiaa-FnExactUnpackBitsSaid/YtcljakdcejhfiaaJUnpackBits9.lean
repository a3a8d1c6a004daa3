import Derived.Test.YtcljakdcejhfiaaJUnpackBits0
import Derived.Test.YtcljakdcejhfiaaJUnpackBits8
import Derived.BigRegion
namespace Go.Proofs.Ytcljakdcejhfiaa
open Go.RowKit
set_option maxHeartbeats 400000 in
theorem bytesForBits_any (n : Nat) (w : World) (hn : n ≤ 9223372036854775807) :
    Calls Try.prog 37 #[.int .i64 n] w fun e w' => e = .returned (.int .i64 ((nb n : Nat) : Int)) ∧ w' = w := by
  by_cases h : n % 8 = 0
  · have ht : ((n : Int) % 8 == 0) = true := by simp; omega
    have HN : Hid (((n : Int) / 8) = ((nb n : Nat) : Int)) := hid (by unfold nb; rw [if_pos h]; simp)
    clear h
    go_enter Try.func37, Try.ntmps37
    go_wp2
    go_ret
    exact ⟨ret_int HN.out, rfl⟩
  · have ht : ((n : Int) % 8 == 0) = false := by simp; omega
    have HN : Hid (((n : Int) / 8 + 1) = ((nb n : Nat) : Int)) := hid (by unfold nb; rw [if_neg h]; simp)
    clear h
    go_enter Try.func37, Try.ntmps37
    go_wp2
    go_ret
    exact ⟨ret_int HN.out, rfl⟩
end Go.Proofs.Ytcljakdcejhfiaa
