import Derived.Test.YtcljakdcejhfiaaJUnpackInts0
namespace Go.Proofs.Ytcljakdcejhfiaa
open Go.RowKit
def mkInt (k n : Nat) : List Int := (List.range n).map fun i => (fun j : Nat => (j : Int)) (k + i)
theorem mkInt_len (k n : Nat) : (ints (mkInt k n)).length = n := by simp [ints, mkInt]
theorem mkInt_at (k n i : Nat) (h : i < n) : (ints (mkInt k n))[i]? = some (.int .i64 ((fun j : Nat => (j : Int)) (k + i))) := by simp [ints, mkInt, h]
set_option maxHeartbeats 400000 in
theorem markIntS_zero (a : Option Addr) (cap m : Nat) (w : World) (_hm : m ≤ 1099511627776) :
    Calls Try.prog 26 #[.slice a 0 cap, .int .i64 m] w fun e w' => e = .returned (.int .i64 m) ∧ w' = w := by
  go_enter Try.func26, Try.ntmps26
  go_wp2
  refine wp_loop_rounds 1 ?_; rw [rounds_succ]
  go_wp2
  go_ret
  exact ⟨rfl, rfl⟩
set_option maxHeartbeats 400000 in
theorem markIntS_some (B g n cap m : Nat) (vs : List Value) (w : World) (ho : w.ownsRow B 3 1 (.slice (some ⟨g, 0, none⟩) n cap) n vs) (hn : n ≤ 1099511627776) (hm : m ≤ 1099511627776) :
    Calls Try.prog 26 #[.slice (some ⟨g, 0, none⟩) n cap, .int .i64 m] w fun e w' => e = .returned (.int .i64 ((m + n : Nat) : Int)) ∧ w'.ownsRow B 3 1 (.slice (some ⟨g, 0, none⟩) n cap) n (ints (mkInt m n)) ∧ w.grownBy w' (some g) := by
  have hvl : vs.length = n := by have := ho.1; omega
  have HV : Hid (vs.length = n) := hvl
  clear hvl
  go_enter Try.func26, Try.ntmps26
  go_wp2
  go_loopw [1, 5] (fun q i wr => ∃ k : Nat, k ≤ n ∧ i = .int .i64 k ∧ q = .int .i64 ((m + k : Nat) : Int) ∧ wr.ownsRow B 3 1 (.slice (some ⟨g, 0, none⟩) n cap) n ((ints (mkInt m n)).take k ++ vs.drop k) ∧ w.grownBy wr (some g)) (fun _ i _ => n - (intOf i).toNat)
  case atStart => exact ⟨0, Nat.zero_le _, rfl, rfl, by simpa using ho, World.grownBy.refl _ _⟩
  case round =>
    obtain ⟨k, hk, rfl, rfl, how, hgr⟩ := hrel
    by_cases hlt : k < n
    · have hfz := how.frozenAt k
      obtain ⟨o, hco⟩ := own_cell how hlt
      have hR := (World.ownsRow.stored how k (.int .i64 ((fun j : Nat => (j : Int)) (m + k))))
      rw [set_take _ _ k _ (mkInt_at m n k hlt) (by rw [mkInt_len, HV.out]; exact Nat.le_refl _)] at hR
      have hG := grown_two hgr hR.2
      clear how hgr ho
      go_wp2
      go_roundw
      case rel => exact ⟨k + 1, by omega, by go_num, by go_num, hR.1, hG⟩
      case measure => simp [intOf]; omega
    · obtain rfl : k = n := by omega
      rw [fill_done (mkInt_len m k) HV.out] at how
      go_wp2
      go_ret
      exact ⟨rfl, how, hgr⟩
theorem markIntS_any (B n m : Nat) (v : Value) (vs : List Value) (w : World) (ho : w.ownsRow B 3 1 v n vs) (hn : n ≤ 1099511627776) (hm : m ≤ 1099511627776) :
    Calls Try.prog 26 #[v, .int .i64 m] w fun e w' => e = .returned (.int .i64 ((m + n : Nat) : Int)) ∧ w'.ownsRow B 3 1 v n (ints (mkInt m n)) ∧ w.grownBy w' v.ownBlock := by
  rcases ho.2 with ⟨rfl, rfl⟩ | ⟨g, cap, cur, rfl, _⟩
  · refine (markIntS_zero none 0 m w hm).mono ?_
    rintro e w' ⟨rfl, rfl⟩
    exact ⟨rfl, by simpa [mkInt, ints] using World.ownsRow_nil _ _ _ _, World.grownBy.refl _ _⟩
  · exact markIntS_some B g n cap m vs w ho hn hm
end Go.Proofs.Ytcljakdcejhfiaa
