import Derived.Test.YtcljakdcejhfiabJApplyDict0
namespace Go.Proofs.Ytcljakdcejhfiab
open Go.RowKit
def rest (l : Int) (n : Nat) : Int := if l - n < 0 then -1 else l - n
theorem rest_two {l : Int} {n m : Nat} (h : 0 ≤ rest l n) : rest (rest l n) m = rest l (n + m) := by
  unfold rest at *
  by_cases h1 : l - n < 0
  · rw [if_pos h1] at h; omega
  · rw [if_neg h1]
    by_cases h2 : l - n - m < 0
    · rw [if_pos h2, if_pos (by omega)]
    · rw [if_neg h2, if_neg (by omega)]; omega
theorem rest_neg {l : Int} {n m : Nat} (h : rest l n < 0) : rest l (n + m) = -1 := by
  unfold rest at *
  by_cases h1 : l - n < 0
  · rw [if_pos (by omega)]
  · rw [if_neg h1] at h; omega
theorem rest_le {l : Int} {n : Nat} (h : l ≤ 1048576) : rest l n ≤ 1048576 := by unfold rest; split <;> omega
theorem rest_fits {l : Int} {n : Nat} (h : 0 ≤ rest l n) : (n : Int) ≤ l := by unfold rest at h; split at h <;> omega
set_option maxHeartbeats 400000 in
theorem szBytes_any (a : Option Addr) (n cap : Nat) (l : Int) (w : World) (hn : n ≤ maxLen) (h0 : 0 ≤ l) (h1 : l ≤ 1048576) :
    Calls Try.prog 41 #[.slice a n cap, .int .i64 l] w fun e w' => e = .returned (.int .i64 (rest l n)) ∧ w' = w := by
  unfold maxLen at hn
  unfold rest
  by_cases h : l - n < 0
  · rw [if_pos h]
    go_enter Try.func41, Try.ntmps41
    go_wp2
    go_ret
    exact ⟨rfl, rfl⟩
  · rw [if_neg h]
    go_enter Try.func41, Try.ntmps41
    go_wp2
    go_ret
    exact ⟨rfl, rfl⟩
end Go.Proofs.Ytcljakdcejhfiab
