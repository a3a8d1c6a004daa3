import Derived.Test.YtcljakdcejhfiabJEncodePacket7
namespace Go.Proofs.Ytcljakdcejhfiab
open Go.RowKit
def U (v : Int) : Nat := (IntKind.u64.wrap v).toNat
theorem U_eq (v : Int) : IntKind.u64.wrap v = (U v : Int) := by
  unfold U
  rw [IntKind.wrap_u64]
  omega
def digs (u W : Nat) : List Nat := (List.range W).map fun i => u / 256 ^ i % 256
theorem digs_len (u W : Nat) : (digs u W).length = W := by simp [digs]
theorem digs_snoc (u W k : Nat) (h : k < W) : (digs u W).take (k + 1) = (digs u W).take k ++ [u / 256 ^ k % 256] := by
  rw [List.take_succ_eq_append_getElem (by rw [digs_len]; exact h)]
  simp [digs]
theorem digs_lt (u W : Nat) : ∀ x ∈ digs u W, x < 256 := by
  intro x hx
  obtain ⟨i, _, rfl⟩ := List.mem_map.1 hx
  exact Nat.mod_lt _ (by decide)
theorem div_next (u k : Nat) : u / 256 ^ k / 256 = u / 256 ^ (k + 1) := by rw [Nat.div_div_eq_div_mul, Nat.pow_succ]
theorem U_lt (v : Int) : U v < 18446744073709551616 := by
  unfold U; rw [IntKind.wrap_u64]; omega
theorem wrapU_div (R : Nat) (h : R < 18446744073709551616) : IntKind.u64.wrap ((R : Int) / 256) = ((R / 256 : Nat) : Int) := by
  rw [IntKind.wrap_u64]; omega
theorem div_lt (u k : Nat) (h : u < 18446744073709551616) : u / 256 ^ k < 18446744073709551616 := Nat.lt_of_le_of_lt (Nat.div_le_self _ _) h
end Go.Proofs.Ytcljakdcejhfiab
