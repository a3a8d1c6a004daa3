import Derived.Test.YtcljakdcejhfiabJDecodePacket7
import Derived.Test.YtcljakdcejhfiabJDecodePacket10
namespace Go.Proofs.Ytcljakdcejhfiab
open Go.RowKit
theorem wrap64_step (N x : Nat) : wrap64 (wrap64 (wrap64 (N : Int) * 256) + (x : Int)) = wrap64 ((x + 256 * N : Nat) : Int) := by unfold wrap64; omega
theorem wrap64_step2 (N x : Nat) : wrap64 (wrap64 (N : Int) * 256 + (x : Int)) = wrap64 ((x + 256 * N : Nat) : Int) := by unfold wrap64; omega
theorem num_below {xs : List Nat} {n : Nat} (h : ∀ x ∈ xs, x < 256) (hl : xs.length ≤ n) : num xs < 256 ^ n := Nat.lt_of_lt_of_le (num_lt xs h) (Nat.pow_le_pow_right (by omega) hl)
set_option maxHeartbeats 2000000 in
theorem number8_any (a : Option Addr) (cap : Nat) (xs : List Nat) (w : World) (hr : RdSl cByte w xs (.slice a xs.length cap)) (hl : xs.length ≤ 8) :
    Calls Try.prog 58 #[.slice a xs.length cap] w fun e w' => e = .returned (.int .i64 (wrap64 ((num xs : Nat) : Int))) ∧ w' = w := by
  have HR := hid hr
  have HBY := hid hr.rdB.2
  clear hr
  go_enter Try.func58, Try.ntmps58
  go_wp2
  go_loop [3, 4] (fun v i => ∃ k : Nat, k ≤ xs.length ∧ i = .int .i64 ((k : Int) - 1) ∧ v = .int .i64 (wrap64 ((num (xs.drop k) : Nat) : Int))) (fun _ i => ((intOf i) + 1).toNat)
  case atStart => exact ⟨xs.length, Nat.le_refl _, rfl, by simp [num, wrap64]⟩
  case round =>
    obtain ⟨k, hk, rfl, rfl⟩ := hrel
    cases k with
    | zero =>
      have h0 : num (xs.drop 0) = num xs := by rw [List.drop_zero]
      rw [h0]
      go_wp2
      go_ret
      exact ⟨rfl, rfl⟩
    | succ k =>
      have hk' : k < xs.length := hk
      obtain ⟨b, off, rfl, hcb⟩ : ∃ b off, a = some ⟨b, off, none⟩ ∧ w.cell? ⟨b, off + k, none⟩ = some (.int .u8 (xs[k] : Int)) := by
        obtain ⟨b, off, v, e, ⟨h1, _⟩, h2⟩ := HR.out.at1 (k := k) rfl hk'
        simp only [List.cons.injEq, and_true] at h1
        exact ⟨b, off, e, by rw [h2, h1]⟩
      have HS := hid (num_drop xs k hk')
      have hx := HBY.out _ (List.getElem_mem hk')
      have hki : (((k + 1 : Nat) : Int) - 1) = (k : Int) := by omega
      rw [hki]
      have HST := hid (wrap64_step (num (xs.drop (k + 1))) xs[k])
      have HST2 := hid (wrap64_step2 (num (xs.drop (k + 1))) xs[k])
      generalize num (xs.drop (k + 1)) = t at *
      generalize hv : wrap64 (t : Int) = tv at *
      clear hv
      go_wp2
      go_round
      case rel => exact ⟨k, by omega, by go_num, by rw [HS.out]; first | rw [← HST.out] | rw [← HST2.out]⟩
      case measure => simp [intOf]
end Go.Proofs.Ytcljakdcejhfiab
