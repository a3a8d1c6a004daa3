import Derived.Test.YtfaehioeepolhaaJLinkTake17
import Derived.Test.YtfaehioeepolhaaJLinkTake10
namespace Go.Proofs.Ytfaehioeepolhaa
open Go.RowKit
set_option maxHeartbeats 1000000 in
theorem eqSS_any (a1 a2 : Option Addr) (c1 c2 : Nat) (xs : List (List Nat)) (w : World) (h1 : RdSl cSS w xs (.slice a1 xs.length c1)) (h2 : RdSl cSS w xs (.slice a2 xs.length c2)) (ht : totL List.length xs ≤ 1048576) :
    Calls Try.prog 11 #[.slice a1 xs.length c1, .slice a2 xs.length c2] w fun e w' => e = .returned (.bool true) ∧ Below w.heap.size w w' := by
  have H1 := hid h1
  have H2 := hid h2
  clear h1 h2
  have hlen : xs.length ≤ 1048576 := by unfold totL at ht; omega
  go_enter Try.func11, Try.ntmps11
  go_wp2
  go_loopw [5] (fun i wr => ∃ k : Nat, k ≤ xs.length ∧ i = .int .i64 k ∧ Below w.heap.size w wr) (fun i _ => xs.length - (intOf i).toNat)
  case atStart => exact ⟨0, Nat.zero_le _, rfl, Below.refl _ _⟩
  case round =>
    obtain ⟨k, hk, rfl, hbe⟩ := hrel
    have HB := hid hbe
    clear hbe
    by_cases hlt : k < xs.length
    · obtain ⟨b1, o1, a1', c1', rfl, g1, r1⟩ := (H1.out.later HB.out).row hlt
      obtain ⟨b2, o2, a2', c2', rfl, g2, r2⟩ := (H2.out.later HB.out).row hlt
      obtain ⟨_, _, e', -, -, -, q1, -⟩ := r1.bytes
      simp only [Value.slice.injEq] at e'
      obtain ⟨rfl, -, rfl⟩ := e'
      obtain ⟨_, _, e', -, -, -, q2, -⟩ := r2.bytes
      simp only [Value.slice.injEq] at e'
      obtain ⟨rfl, -, rfl⟩ := e'
      have HQ : Hid (∀ n, Calls Try.prog 34 #[.slice a1' xs[k].length c1', .slice a2' xs[k].length c2'] (wr.drewN n) fun e w' => e = .returned (.bool true) ∧ ∃ m, w' = (wr.drewN n).drewN m) := hid (fun n => by
        have hlk := tot_at List.length xs k hlt
        unfold totL at ht
        exact eqByteS_quiet _ _ _ _ _ xs[k] _ (q1.later (below_drewN (Below.refl _ _) n)) (q2.later (below_drewN (Below.refl _ _) n)) rfl (by omega))
      have hki : (k : Int) < (xs.length : Int) := by omega
      clear r1 r2 q1 q2
      go_wp2
      go_quiet ((go_at_call 34; exact Calls.quiet_of (HQ.out _)))
      go_wp2
      go_roundw
      case rel => exact ⟨k + 1, by omega, by go_num, below_drewN HB.out _⟩
      case measure => simp [intOf]; omega
    · obtain rfl : k = xs.length := by omega
      go_wp2
      go_ret
      exact ⟨rfl, HB.out⟩
end Go.Proofs.Ytfaehioeepolhaa
