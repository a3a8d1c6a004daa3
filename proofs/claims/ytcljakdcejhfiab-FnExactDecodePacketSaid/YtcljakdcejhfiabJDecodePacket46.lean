import Derived.Test.YtcljakdcejhfiabJDecodePacket0
import Derived.Test.YtcljakdcejhfiabJDecodePacket10
namespace Go.Proofs.Ytcljakdcejhfiab
open Go.RowKit
set_option maxHeartbeats 400000 in
theorem read_u64 (b off cap n : Nat) (xs : List Nat) (w : World) (hc : ∀ i, (h : i < xs.length) → w.cell? ⟨b, off + i, none⟩ = some (.int .u8 (xs[i] : Int))) (hx : ∀ x ∈ xs, x < 256) (hn : xs.length = n) (hl : n ≤ 8) :
    Calls Try.prog 61 #[.slice (some ⟨b, off, none⟩) n cap] w fun e w' => e = .returned (.int .u64 ((num xs : Nat) : Int)) ∧ w' = w := by
  subst hn
  go_enter Try.func61, Try.ntmps61
  go_wp2
  go_loop [3, 8] (fun v i => ∃ k : Nat, k ≤ xs.length ∧ i = .int .i64 k ∧ v = .int .u64 ((num (xs.take k) : Nat) : Int)) (fun _ i => xs.length - (intOf i).toNat)
  case atStart => exact ⟨0, Nat.zero_le _, rfl, rfl⟩
  case round =>
    obtain ⟨k, hk, rfl, rfl⟩ := hrel
    by_cases hlt : k < xs.length
    · have g1 := hc k hlt
      have hki : (k : Int) < (xs.length : Int) := by omega
      have hxk : xs[k] < 256 := hx _ (List.getElem_mem _)
      have HS := hid (or_step xs k hlt hx hl)
      generalize num (xs.take k) = N at *
      go_wp2
      go_round
      case rel => exact ⟨k + 1, by omega, by go_num, by rw [← HS.out]⟩
      case measure => simp [intOf]; omega
    · obtain rfl : k = xs.length := by omega
      rw [List.take_length]
      go_wp2
      go_ret
      exact ⟨rfl, rfl⟩
end Go.Proofs.Ytcljakdcejhfiab
