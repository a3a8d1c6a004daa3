import Derived.Test.YtcljakdcejhfiaaJUnpackInts0
import Derived.Test.YtcljakdcejhfiaaJUnpackInts8
namespace Go.Proofs.Ytcljakdcejhfiaa
open Go.RowKit
set_option maxHeartbeats 400000 in
theorem read_i32 (b off cap n : Nat) (xs : List Nat) (w : World) (hc : ∀ i, (h : i < xs.length) → w.cell? ⟨b, off + i, none⟩ = some (.int .u8 (xs[i] : Int))) (hx : ∀ x ∈ xs, x < 256) (hn : xs.length = n) (hl : n ≤ 8) :
    Calls Try.prog 57 #[.slice (some ⟨b, off, none⟩) n cap] w fun e w' => e = .returned (.int .i32 (IntKind.i32.wrap ((num xs : Nat) : Int))) ∧ w' = w := by
  subst hn
  go_enter Try.func57, Try.ntmps57
  go_wp2
  go_loop [3, 8] (fun v i => ∃ k : Nat, k ≤ xs.length ∧ i = .int .i64 k ∧ v = .int .u64 ((num (xs.take k) : Nat) : Int)) (fun _ i => xs.length - (intOf i).toNat)
  case atStart => exact ⟨0, Nat.zero_le _, rfl, rfl⟩
  case round =>
    obtain ⟨k, hk, rfl, rfl⟩ := hrel
    by_cases hlt : k < xs.length
    · have g1 := hc k hlt
      have hki : (k : Int) < (xs.length : Int) := by omega
      have hxk : xs[k] < 256 := hx _ (List.getElem_mem _)
      have HS := hid (or_step xs k hlt hx hl)
      generalize num (xs.take k) = N at *
      go_wp2
      go_round
      case rel => exact ⟨k + 1, by omega, by go_num, by rw [← HS.out]⟩
      case measure => simp [intOf]; omega
    · obtain rfl : k = xs.length := by omega
      rw [List.take_length]
      go_wp2
      go_ret
      exact ⟨ret_int (wr32 _), rfl⟩
theorem readc_i32 (b off off' cap n k : Nat) (xs : List Nat) (w : World) (hc : ∀ i, (h : i < xs.length) → w.cell? ⟨b, off + i, none⟩ = some (.int .u8 (xs[i] : Int))) (hx : ∀ x ∈ xs, x < 256) (hin : 4 * k + 4 ≤ xs.length) (ho : off' = off + 4 * k) (hn : n = 4) :
    Calls Try.prog 57 #[.slice (some ⟨b, off', none⟩) n cap] w fun e w' => e = .returned (.int .i32 (IntKind.i32.wrap ((num (chunk xs 4 k) : Nat) : Int))) ∧ w' = w := by
  subst ho
  refine read_i32 b _ cap n (chunk xs 4 k) w (fun i h => ?_) (chunk_lt hx) (by rw [chunk_len hin, hn]) (by omega)
  have hl := chunk_len hin
  have h2 : 4 * k + i < xs.length := by omega
  have := hc (4 * k + i) h2
  rw [chunk_at h h2, ← this, Nat.add_assoc]
theorem wrapb_i32 (n : Int) : -9223372036854775808 ≤ IntKind.i32.wrap n ∧ IntKind.i32.wrap n ≤ 9223372036854775807 := by
  simp only [IntKind.wrap, IntKind.bits, IntKind.signed]
  simp
  first | (split <;> omega) | omega
end Go.Proofs.Ytcljakdcejhfiaa
