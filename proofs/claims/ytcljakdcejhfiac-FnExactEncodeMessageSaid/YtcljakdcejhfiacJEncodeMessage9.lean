import Derived.WalkKit
namespace Go.Proofs.Ytcljakdcejhfiac
def padn (n : Nat) : Nat := (8 - n % 8) % 8
def joinStep (acc ys : List Nat) : List Nat := (acc ++ ys) ++ List.replicate (padn (acc ++ ys).length) 0
def join (xss : List (List Nat)) : List Nat := xss.foldl joinStep []
theorem join_snoc (xss : List (List Nat)) (k : Nat) (h : k < xss.length) : join (xss.take (k + 1)) = joinStep (join (xss.take k)) xss[k] := by
  unfold join
  rw [List.take_succ_eq_append_getElem h, List.foldl_append]; rfl
theorem padn_le (n : Nat) : padn n ≤ 7 := by unfold padn; omega
theorem padn_done {n p : Nat} (h : p ≤ padn n) : (n + p) % 8 = 0 ↔ p = padn n := by unfold padn at *; omega
theorem joinStep_len (acc ys : List Nat) : (joinStep acc ys).length = acc.length + ys.length + padn (acc.length + ys.length) := by simp [joinStep]; omega
theorem joinStep_lt {acc ys : List Nat} (h1 : ∀ x ∈ acc, x < 256) (h2 : ∀ x ∈ ys, x < 256) : ∀ x ∈ joinStep acc ys, x < 256 := by
  intro x hx
  unfold joinStep at hx
  rcases List.mem_append.1 hx with h | h
  · rcases List.mem_append.1 h with h | h
    · exact h1 x h
    · exact h2 x h
  · have := List.eq_of_mem_replicate h; omega
end Go.Proofs.Ytcljakdcejhfiac
