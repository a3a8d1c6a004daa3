import Derived.Test.YtcljakdcejhfiaaJUnpackInts0
import Derived.Test.YtcljakdcejhfiaaJUnpackInts8
import Derived.Test.YtcljakdcejhfiaaJUnpackInts9
namespace Go.Proofs.Ytcljakdcejhfiaa
open Go.RowKit
theorem wrap64_nil : wrap64 ((num [] : Nat) : Int) = 0 := by unfold wrap64 num; rfl
theorem wrap_step (N b V : Int) (hV : V = wrap64 N) : wrap64 (wrap64 (V * 256) + b) = wrap64 (b + 256 * N) := by
  subst hV
  unfold wrap64
  omega
set_option maxHeartbeats 400000 in
theorem l1number_some (b off cap : Nat) (xs : List Nat) (w : World) (hc : ∀ i, (h : i < xs.length) → w.cell? ⟨b, off + i, none⟩ = some (.int .u8 (xs[i] : Int))) (hx : ∀ x ∈ xs, x < 256) (hl : xs.length ≤ 1099511627776) :
    Calls Try.prog 40 #[.slice (some ⟨b, off, none⟩) xs.length cap] w fun e w' => e = .returned (.int .i64 (wrap64 ((num xs : Nat) : Int))) ∧ w' = w := by
  go_enter Try.func40, Try.ntmps40
  go_wp2
  go_loop [3, 4] (fun v i => ∃ k : Nat, k ≤ xs.length ∧ i = .int .i64 ((k : Int) - 1) ∧ v = .int .i64 (wrap64 ((num (xs.drop k) : Nat) : Int))) (fun _ i => (intOf i + 1).toNat)
  case atStart => exact ⟨xs.length, Nat.le_refl _, rfl, by rw [List.drop_length, wrap64_nil]⟩
  case round =>
    obtain ⟨k, hk, rfl, rfl⟩ := hrel
    by_cases h0 : k = 0
    · subst h0
      rw [List.drop_zero]
      go_wp2
      go_ret
      exact ⟨rfl, rfl⟩
    · obtain ⟨p, rfl⟩ : ∃ p, k = p + 1 := ⟨k - 1, by omega⟩
      rw [show ((p + 1 : Nat) : Int) - 1 = (p : Int) from by omega]
      have hp : p < xs.length := by omega
      have g1 := hc p hp
      have hpi : (p : Int) < (xs.length : Int) := by omega
      have hxp : xs[p] < 256 := hx _ (List.getElem_mem _)
      have HS : Hid ((num (xs.drop p) : Int) = (xs[p] : Int) + 256 * (num (xs.drop (p + 1)) : Int)) := hid (by have := num_drop xs p hp; omega)
      generalize hV : wrap64 ((num (xs.drop (p + 1)) : Nat) : Int) = V
      have HV := hid (wrap_step _ (xs[p] : Int) V hV.symm)
      clear hV hc
      go_wp2
      go_round
      case rel => exact ⟨p, by omega, by go_num, by rw [HS.out, ← HV.out]⟩
      case measure => simp [intOf]
end Go.Proofs.Ytcljakdcejhfiaa
