import Derived.Test.YtcljakdcejhfiaaJUnpackInts6
namespace Go.Proofs.Ytcljakdcejhfiaa
open Go.RowKit
set_option maxHeartbeats 400000 in
theorem heldIntS_zero (a : Option Addr) (cap m : Nat) (w : World) (_hm : m ≤ 1099511627776) :
    Calls Try.prog 27 #[.slice a 0 cap, .int .i64 m] w fun e w' => e = .returned (.int .i64 m) ∧ Below w.heap.size w w' := by
  go_enter Try.func27, Try.ntmps27
  go_wp2
  refine wp_loop_rounds 1 ?_; rw [rounds_succ]
  go_wp2
  go_ret
  exact ⟨rfl, Below.refl _ _⟩
set_option maxHeartbeats 400000 in
theorem heldIntS_some (b off n cap m : Nat) (w : World) (hx : ∀ i, i < n → w.cell? ⟨b, off + i, none⟩ = some (.int .i64 ((fun j : Nat => (j : Int)) (m + i)))) (hn : n ≤ 1099511627776) (hm : m ≤ 1099511627776) :
    Calls Try.prog 27 #[.slice (some ⟨b, off, none⟩) n cap, .int .i64 m] w fun e w' => e = .returned (.int .i64 ((m + n : Nat) : Int)) ∧ Below w.heap.size w w' := by
  go_enter Try.func27, Try.ntmps27
  go_wp2
  go_loop [1, 5] (fun q i => ∃ k : Nat, k ≤ n ∧ i = .int .i64 k ∧ q = .int .i64 ((m + k : Nat) : Int)) (fun _ i => n - (intOf i).toNat)
  case atStart => exact ⟨0, Nat.zero_le _, rfl, rfl⟩
  case round =>
    obtain ⟨k, hk, rfl, rfl⟩ := hrel
    by_cases hlt : k < n
    · have g1 := hx k hlt
      have hki : (k : Int) < (n : Int) := by omega
      clear hx
      go_wp2
      go_round
      case rel => exact ⟨k + 1, by omega, by go_num, by go_num⟩
      case measure => simp [intOf]; omega
    · obtain rfl : k = n := by omega
      go_wp2
      go_ret
      exact ⟨rfl, Below.refl _ _⟩
theorem heldIntS_any (a : Option Addr) (n cap m : Nat) (w : World) (hr : Rd w a (ints (mkInt m n))) (hn : n ≤ 1099511627776) (hm : m ≤ 1099511627776) :
    Calls Try.prog 27 #[.slice a n cap, .int .i64 m] w fun e w' => e = .returned (.int .i64 ((m + n : Nat) : Int)) ∧ Below w.heap.size w w' := by
  rcases hr with h0 | ⟨b, off, rfl, hc⟩
  · obtain rfl : n = 0 := by have := mkInt_len m n; rw [h0] at this; simpa using this.symm
    exact heldIntS_zero a cap m w hm
  · refine heldIntS_some b off n cap m w (fun i hi => ?_) hn hm
    have h1 := mkInt_at m n i hi
    have h2 := hc i (by rw [mkInt_len]; exact hi)
    rw [h2, ← h1, List.getElem?_eq_getElem]
end Go.Proofs.Ytcljakdcejhfiaa
