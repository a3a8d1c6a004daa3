import Derived.WalkKit
namespace Go.Proofs.Ytcljakdcejhfiab
def padn (n : Nat) : Nat := (8 - n % 8) % 8
def joinStep (acc ys : List Nat) : List Nat := (acc ++ ys) ++ List.replicate (padn (acc ++ ys).length) 0
def join (xss : List (List Nat)) : List Nat := xss.foldl joinStep []
theorem join_snoc (xss : List (List Nat)) (k : Nat) (h : k < xss.length) : join (xss.take (k + 1)) = joinStep (join (xss.take k)) xss[k] := by
  unfold join
  rw [List.take_succ_eq_append_getElem h, List.foldl_append]; rfl
theorem padn_le (n : Nat) : padn n ≤ 7 := by unfold padn; omega
theorem padn_done {n p : Nat} (h : p ≤ padn n) : (n + p) % 8 = 0 ↔ p = padn n := by unfold padn at *; omega
theorem joinStep_len (acc ys : List Nat) : (joinStep acc ys).length = acc.length + ys.length + padn (acc.length + ys.length) := by simp [joinStep]; omega
end Go.Proofs.Ytcljakdcejhfiab
