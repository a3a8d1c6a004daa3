import Derived.Test.YtcljakdcejhfiabJEncodePacket0
namespace Go.Proofs.Ytcljakdcejhfiab
open Go.RowKit
def rest (l : Int) (n : Nat) : Int := if l - n < 0 then -1 else l - n
theorem rest_fits {l : Int} {n : Nat} (h : 0 ≤ rest l n) : (n : Int) ≤ l := by unfold rest at h; split at h <;> omega
theorem rest_neg1 {l : Int} {n : Nat} (h : rest l n < 0) : rest l n = -1 := by unfold rest at *; split <;> simp_all <;> omega
set_option maxHeartbeats 400000 in
theorem szBytes_any (a : Option Addr) (n cap : Nat) (l : Int) (w : World) (hn : n ≤ maxLen) (h0 : 0 ≤ l) (h1 : l ≤ 1048576) :
    Calls Try.prog 41 #[.slice a n cap, .int .i64 l] w fun e w' => e = .returned (.int .i64 (rest l n)) ∧ w' = w := by
  unfold maxLen at hn
  unfold rest
  by_cases h : l - n < 0
  · rw [if_pos h]
    go_enter Try.func41, Try.ntmps41
    go_wp2
    go_ret
    exact ⟨rfl, rfl⟩
  · rw [if_neg h]
    go_enter Try.func41, Try.ntmps41
    go_wp2
    go_ret
    exact ⟨rfl, rfl⟩
end Go.Proofs.Ytcljakdcejhfiab
