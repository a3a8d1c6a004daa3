import Derived.Test.YtcljakdcejhfiaaJUnpackInts0
namespace Go.Proofs.Ytcljakdcejhfiaa
open Go.RowKit
set_option maxHeartbeats 400000 in
theorem eqIntS_zero (a1 a2 : Option Addr) (c1 c2 : Nat) (w : World) :
    Calls Try.prog 25 #[.slice a1 0 c1, .slice a2 0 c2] w fun e w' => e = .returned (.bool true) ∧ ∃ m, w' = w.drewN m := by
  go_enter Try.func25, Try.ntmps25
  go_wp2
  refine wp_loop_rounds 1 ?_; rw [rounds_succ]
  go_wp2
  go_ret
  exact ⟨rfl, 0, rfl⟩
set_option maxHeartbeats 400000 in
theorem eqIntS_some (b1 o1 b2 o2 c1 c2 : Nat) (xs : List Int) (w : World) (hx : ∀ i, (h : i < xs.length) → w.cell? ⟨b1, o1 + i, none⟩ = some (.int .i64 (xs[i]))) (hy : ∀ i, (h : i < xs.length) → w.cell? ⟨b2, o2 + i, none⟩ = some (.int .i64 (xs[i]))) (hn : xs.length ≤ 1099511627776) :
    Calls Try.prog 25 #[.slice (some ⟨b1, o1, none⟩) xs.length c1, .slice (some ⟨b2, o2, none⟩) xs.length c2] w fun e w' => e = .returned (.bool true) ∧ ∃ m, w' = w.drewN m := by
  go_enter Try.func25, Try.ntmps25
  go_wp2
  go_loopw [5] (fun i wr => ∃ k : Nat, k ≤ xs.length ∧ i = .int .i64 k ∧ ∃ m, wr = w.drewN m) (fun i _ => xs.length - (intOf i).toNat)
  case atStart => exact ⟨0, Nat.zero_le _, rfl, 0, rfl⟩
  case round =>
    obtain ⟨k, hk, rfl, m, rfl⟩ := hrel
    by_cases hlt : k < xs.length
    · have g1 := hx k hlt
      have g2 := hy k hlt
      have hki : (k : Int) < (xs.length : Int) := by omega
      clear hx hy
      go_wp2
      go_quiet (fail)
      go_wp2
      go_roundw
      case rel => exact ⟨k + 1, by omega, by go_num, _, rfl⟩
      case measure => simp [intOf]; omega
    · obtain rfl : k = xs.length := by omega
      go_wp2
      go_ret
      exact ⟨rfl, m, rfl⟩
theorem eqIntS_quiet (a1 a2 : Option Addr) (c1 c2 n : Nat) (xs : List Int) (w : World) (h1 : Rd w a1 (ints xs)) (h2 : Rd w a2 (ints xs)) (hl : xs.length = n) (hn : n ≤ 1099511627776) :
    Calls Try.prog 25 #[.slice a1 n c1, .slice a2 n c2] w fun e w' => e = .returned (.bool true) ∧ ∃ m, w' = w.drewN m := by
  subst hl
  by_cases h0 : xs = []
  · subst h0
    exact eqIntS_zero a1 a2 c1 c2 w
  · have hne : ints xs ≠ [] := by simpa [ints] using h0
    rcases h1 with h | ⟨b1, o1, rfl, e1⟩
    · exact absurd h hne
    rcases h2 with h | ⟨b2, o2, rfl, e2⟩
    · exact absurd h hne
    exact eqIntS_some b1 o1 b2 o2 c1 c2 xs w (rdInt e1) (rdInt e2) hn
theorem eqIntS_any (a1 a2 : Option Addr) (c1 c2 n : Nat) (xs : List Int) (w : World) (h1 : Rd w a1 (ints xs)) (h2 : Rd w a2 (ints xs)) (hl : xs.length = n) (hn : n ≤ 1099511627776) :
    Calls Try.prog 25 #[.slice a1 n c1, .slice a2 n c2] w fun e w' => e = .returned (.bool true) ∧ Below w.heap.size w w' := by
  refine (eqIntS_quiet a1 a2 c1 c2 n xs w h1 h2 hl hn).mono ?_
  rintro e w' ⟨rfl, m, rfl⟩
  exact ⟨rfl, below_drewN (Below.refl _ _) m⟩
end Go.Proofs.Ytcljakdcejhfiaa
