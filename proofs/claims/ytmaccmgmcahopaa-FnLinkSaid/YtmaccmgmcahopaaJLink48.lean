import Derived.Test.YtmaccmgmcahopaaJLink14
import Derived.Test.YtmaccmgmcahopaaJLink1
import Derived.Test.YtmaccmgmcahopaaJLink23
import Derived.Test.YtmaccmgmcahopaaJLink0
namespace Go.Proofs.Ytmaccmgmcahopaa
open Go.RowKit
theorem num_below {xs : List Nat} {n : Nat} (h : ∀ x ∈ xs, x < 256) (hl : xs.length ≤ n) : num xs < 256 ^ n := Nat.lt_of_lt_of_le (num_lt xs h) (Nat.pow_le_pow_right (by omega) hl)
end Go.Proofs.Ytmaccmgmcahopaa
namespace Go.Proofs.Ytmaccmgmcahopaa
open Go.RowKit
set_option maxHeartbeats 400000 in
theorem bytesEqual_any (a1 a2 : Option Addr) (c1 c2 : Nat) (xs ys : List Nat) (w : World) (h1 : Rd w a1 (byt xs)) (h2 : Rd w a2 (byt ys)) (hx : ∀ x ∈ xs, x < 256) (hy : ∀ x ∈ ys, x < 256) :
    Calls Try.prog 49 #[.slice a1 xs.length c1, .slice a2 ys.length c2] w fun e w' => e = .returned (.bool (decide (xs = ys))) ∧ w' = w := by
  have e1 := run_bstr (P := Try.prog) (c := c1) Try.underlying22 Try.underlying5 Try.underlying9 h1
  have e2 := run_bstr (P := Try.prog) (c := c2) Try.underlying22 Try.underlying5 Try.underlying9 h2
  have HD : Hid (decide (xs = ys) = ((bstr xs).toList == (bstr ys).toList)) := hid (bstr_beq hx hy)
  rw [HD.out]
  clear h1 h2
  generalize bstr xs = s at *
  generalize bstr ys = t at *
  go_enter Try.func49, Try.ntmps49
  go_wp2
  go_ret
  exact ⟨rfl, rfl⟩
end Go.Proofs.Ytmaccmgmcahopaa
namespace Go.Proofs.Ytmaccmgmcahopaa
open Go.RowKit
set_option maxHeartbeats 400000 in
theorem read_u32 (b off cap n : Nat) (xs : List Nat) (w : World) (hc : ∀ i, (h : i < xs.length) → w.cell? ⟨b, off + i, none⟩ = some (.int .u8 (xs[i] : Int))) (hx : ∀ x ∈ xs, x < 256) (hn : xs.length = n) (hl : n ≤ 8) :
    Calls Try.prog 46 #[.slice (some ⟨b, off, none⟩) n cap] w fun e w' => e = .returned (.int .u32 (IntKind.u32.wrap ((num xs : Nat) : Int))) ∧ w' = w := by
  subst hn
  go_enter Try.func46, Try.ntmps46
  go_wp2
  go_loop [3, 8] (fun v i => ∃ k : Nat, k ≤ xs.length ∧ i = .int .i64 k ∧ v = .int .u64 ((num (xs.take k) : Nat) : Int)) (fun _ i => xs.length - (intOf i).toNat)
  case atStart => exact ⟨0, Nat.zero_le _, rfl, rfl⟩
  case round =>
    obtain ⟨k, hk, rfl, rfl⟩ := hrel
    by_cases hlt : k < xs.length
    · have g1 := hc k hlt
      have hki : (k : Int) < (xs.length : Int) := by omega
      have hxk : xs[k] < 256 := hx _ (List.getElem_mem _)
      have HS := hid (or_step xs k hlt hx hl)
      generalize num (xs.take k) = N at *
      go_wp2
      go_round
      case rel => exact ⟨k + 1, by omega, by go_num, by rw [← HS.out]⟩
      case measure => simp [intOf]; omega
    · obtain rfl : k = xs.length := by omega
      rw [List.take_length]
      go_wp2
      go_ret
      exact ⟨ret_int rfl, rfl⟩
end Go.Proofs.Ytmaccmgmcahopaa
namespace Go.Proofs.Ytmaccmgmcahopaa
open Go.RowKit
set_option maxHeartbeats 400000 in
theorem read_u64 (b off cap n : Nat) (xs : List Nat) (w : World) (hc : ∀ i, (h : i < xs.length) → w.cell? ⟨b, off + i, none⟩ = some (.int .u8 (xs[i] : Int))) (hx : ∀ x ∈ xs, x < 256) (hn : xs.length = n) (hl : n ≤ 8) :
    Calls Try.prog 47 #[.slice (some ⟨b, off, none⟩) n cap] w fun e w' => e = .returned (.int .u64 ((num xs : Nat) : Int)) ∧ w' = w := by
  subst hn
  go_enter Try.func47, Try.ntmps47
  go_wp2
  go_loop [3, 8] (fun v i => ∃ k : Nat, k ≤ xs.length ∧ i = .int .i64 k ∧ v = .int .u64 ((num (xs.take k) : Nat) : Int)) (fun _ i => xs.length - (intOf i).toNat)
  case atStart => exact ⟨0, Nat.zero_le _, rfl, rfl⟩
  case round =>
    obtain ⟨k, hk, rfl, rfl⟩ := hrel
    by_cases hlt : k < xs.length
    · have g1 := hc k hlt
      have hki : (k : Int) < (xs.length : Int) := by omega
      have hxk : xs[k] < 256 := hx _ (List.getElem_mem _)
      have HS := hid (or_step xs k hlt hx hl)
      generalize num (xs.take k) = N at *
      go_wp2
      go_round
      case rel => exact ⟨k + 1, by omega, by go_num, by rw [← HS.out]⟩
      case measure => simp [intOf]; omega
    · obtain rfl : k = xs.length := by omega
      rw [List.take_length]
      go_wp2
      go_ret
      exact ⟨rfl, rfl⟩
end Go.Proofs.Ytmaccmgmcahopaa
