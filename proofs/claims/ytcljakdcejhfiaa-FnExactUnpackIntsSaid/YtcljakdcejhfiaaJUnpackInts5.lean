import Derived.Test.YtcljakdcejhfiaaJUnpackInts0
namespace Go.Proofs.Ytcljakdcejhfiaa
open Go.RowKit
def mkByte (k n : Nat) : List Nat := (List.range n).map fun i => (fun j : Nat => j % 256) (k + i)
theorem mkByte_len (k n : Nat) : (byt (mkByte k n)).length = n := by simp [byt, mkByte]
theorem mkByte_at (k n i : Nat) (h : i < n) : (byt (mkByte k n))[i]? = some (.int .u8 (((fun j : Nat => j % 256) (k + i) : Nat) : Int)) := by simp [byt, mkByte, h]
set_option maxHeartbeats 400000 in
theorem markByteS_zero (a : Option Addr) (cap m : Nat) (w : World) (_hm : m ≤ 1099511627776) :
    Calls Try.prog 18 #[.slice a 0 cap, .int .i64 m] w fun e w' => e = .returned (.int .i64 m) ∧ w' = w := by
  go_enter Try.func18, Try.ntmps18
  go_wp2
  refine wp_loop_rounds 1 ?_; rw [rounds_succ]
  go_wp2
  go_ret
  exact ⟨rfl, rfl⟩
set_option maxHeartbeats 400000 in
theorem markByteS_some (B g n cap m : Nat) (vs : List Value) (w : World) (ho : w.ownsRow B 5 1 (.slice (some ⟨g, 0, none⟩) n cap) n vs) (hn : n ≤ 1099511627776) (hm : m ≤ 1099511627776) :
    Calls Try.prog 18 #[.slice (some ⟨g, 0, none⟩) n cap, .int .i64 m] w fun e w' => e = .returned (.int .i64 ((m + n : Nat) : Int)) ∧ w'.ownsRow B 5 1 (.slice (some ⟨g, 0, none⟩) n cap) n (byt (mkByte m n)) ∧ w.grownBy w' (some g) := by
  have hvl : vs.length = n := by have := ho.1; omega
  have HV : Hid (vs.length = n) := hvl
  clear hvl
  go_enter Try.func18, Try.ntmps18
  go_wp2
  go_loopw [1, 5] (fun q i wr => ∃ k : Nat, k ≤ n ∧ i = .int .i64 k ∧ q = .int .i64 ((m + k : Nat) : Int) ∧ wr.ownsRow B 5 1 (.slice (some ⟨g, 0, none⟩) n cap) n ((byt (mkByte m n)).take k ++ vs.drop k) ∧ w.grownBy wr (some g)) (fun _ i _ => n - (intOf i).toNat)
  case atStart => exact ⟨0, Nat.zero_le _, rfl, rfl, by simpa using ho, World.grownBy.refl _ _⟩
  case round =>
    obtain ⟨k, hk, rfl, rfl, how, hgr⟩ := hrel
    by_cases hlt : k < n
    · have hfz := how.frozenAt k
      obtain ⟨o, hco⟩ := own_cell how hlt
      have hR := (World.ownsRow.stored how k (.int .u8 (((fun j : Nat => j % 256) (m + k) : Nat) : Int)))
      rw [set_take _ _ k _ (mkByte_at m n k hlt) (by rw [mkByte_len, HV.out]; exact Nat.le_refl _)] at hR
      have hG := grown_two hgr hR.2
      clear how hgr ho
      go_wp2
      go_roundw
      case rel => exact ⟨k + 1, by omega, by go_num, by go_num, hR.1, hG⟩
      case measure => simp [intOf]; omega
    · obtain rfl : k = n := by omega
      rw [fill_done (mkByte_len m k) HV.out] at how
      go_wp2
      go_ret
      exact ⟨rfl, how, hgr⟩
theorem markByteS_any (B n m : Nat) (v : Value) (vs : List Value) (w : World) (ho : w.ownsRow B 5 1 v n vs) (hn : n ≤ 1099511627776) (hm : m ≤ 1099511627776) :
    Calls Try.prog 18 #[v, .int .i64 m] w fun e w' => e = .returned (.int .i64 ((m + n : Nat) : Int)) ∧ w'.ownsRow B 5 1 v n (byt (mkByte m n)) ∧ w.grownBy w' v.ownBlock := by
  rcases ho.2 with ⟨rfl, rfl⟩ | ⟨g, cap, cur, rfl, _⟩
  · refine (markByteS_zero none 0 m w hm).mono ?_
    rintro e w' ⟨rfl, rfl⟩
    exact ⟨rfl, by simpa [mkByte, byt] using World.ownsRow_nil _ _ _ _, World.grownBy.refl _ _⟩
  · exact markByteS_some B g n cap m vs w ho hn hm
end Go.Proofs.Ytcljakdcejhfiaa
