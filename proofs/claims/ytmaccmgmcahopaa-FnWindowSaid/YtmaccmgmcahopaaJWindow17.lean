import Derived.Test.YtmaccmgmcahopaaJWindow4
import Derived.Test.YtmaccmgmcahopaaJWindow2
namespace Go.Proofs.Ytmaccmgmcahopaa
open Go.RowKit
theorem infoByteL : (Try.prog.info? 5).map (fun i => (i.zero, i.size, i.bytes)) = some (some (.int .u8 0), 1, 1) := by kernel_rfl
set_option maxRecDepth 100000 in
set_option maxHeartbeats 1000000 in
theorem fill_any (x n : Nat) (w : World) (hn : n ≤ 1048576) :
    Calls Try.prog 81 #[.int .u8 (x : Int), .int .i64 (n : Int)] w fun e w' => ∃ a c, e = .returned (.slice a n c) ∧ w'.ownsRow w.heap.size 5 1 (.slice a n c) n (byt (List.replicate n x)) ∧ Below w.heap.size w w' := by
  obtain ⟨i0, hi, hz0, hz1, hz2⟩ := info_parts infoByteL
  go_enter Try.func81, Try.ntmps81
  go_wp2
  go_loopw [5, 6] (fun v i wr => ∃ k : Nat, k ≤ n ∧ i = .int .i64 k ∧ wr.ownsRow w.heap.size 5 1 v k (byt (List.replicate k x)) ∧ Below w.heap.size w wr) (fun _ i _ => n - (intOf i).toNat)
  case atStart => exact ⟨0, Nat.zero_le _, rfl, World.ownsRow_nil _ _ _ _, Below.refl _ _⟩
  case round =>
    obtain ⟨k, hk, rfl, how, hbe⟩ := hrel
    have HO := hid how
    have HB := hid hbe
    clear how hbe
    by_cases hlt : k < n
    · have hki : (k : Int) < (n : Int) := by omega
      have hs := HB.out.size
      have HR1 : Hid (byt (List.replicate (k + 1) x) = byt (List.replicate k x) ++ [.int .u8 (x : Int)]) := hid (by rw [List.replicate_succ']; simp [byt])
      go_wp2_with (first | (at_builtin; refine wpList_append_own _ rfl _ _ 22 rfl w.heap.size 5 i0 (.int .u8 0) 1 1 Try.underlying22 hi hz0 hz1 hz2 rfl (by decide) _ k _ rfl (HO.out.alloc _) ⟨wr.heap.size, 0, none⟩ 1 1 [.int .u8 (x : Int)] rfl rfl (cell_one_new _ _ _) (one_cell rfl) (by unfold maxLen; omega) (by omega) (by simp; omega) ?_))
      intro v' w3 hown' hgrow _
      have HB3 : Hid (Below w.heap.size w w3) := hid ((HB.out.alloc hs _).grown hgrow (by simp; omega) (fun p hp => (own_in HO.out hp).1))
      have HO3 : Hid (w3.ownsRow w.heap.size 5 1 v' (k + 1) (byt (List.replicate (k + 1) x))) := hid (by rw [HR1.out]; exact hown')
      clear hown' hgrow
      go_wp2
      go_roundw
      case rel => exact ⟨k + 1, by omega, by go_num, HO3.out, HB3.out⟩
      case measure => simp [intOf]; omega
    · obtain rfl : k = n := by omega
      obtain ⟨a', c', e', -⟩ := rd_own HO.out
      subst e'
      go_wp2
      go_ret
      exact ⟨a', c', rfl, HO.out, HB.out⟩
end Go.Proofs.Ytmaccmgmcahopaa
namespace Go.Proofs.Ytmaccmgmcahopaa
open Go.RowKit
structure PF where
  name : List Nat
  kind : Int
  width : Int
end Go.Proofs.Ytmaccmgmcahopaa
namespace Go.Proofs.Ytmaccmgmcahopaa
end Go.Proofs.Ytmaccmgmcahopaa
namespace Go.Proofs.Ytmaccmgmcahopaa
open Go.RowKit
structure PC where
  null : Bool
  num : Int
  text : List Nat
end Go.Proofs.Ytmaccmgmcahopaa
