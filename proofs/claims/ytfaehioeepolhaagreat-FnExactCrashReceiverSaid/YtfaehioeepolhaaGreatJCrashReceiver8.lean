import Derived.Test.YtfaehioeepolhaaGreatJCrashReceiver7
import Derived.WalkKit
namespace Go.Proofs.YtfaehioeepolhaaGreat
open Go.RowKit
def U (v : Int) : Nat := (IntKind.u64.wrap v).toNat
theorem U_eq (v : Int) : IntKind.u64.wrap v = (U v : Int) := by
  unfold U
  rw [IntKind.wrap_u64]
  omega
def digs (u W : Nat) : List Nat := (List.range W).map fun i => u / 256 ^ i % 256
theorem digs_len (u W : Nat) : (digs u W).length = W := by simp [digs]
theorem digs_snoc (u W k : Nat) (h : k < W) : (digs u W).take (k + 1) = (digs u W).take k ++ [u / 256 ^ k % 256] := by
  rw [List.take_succ_eq_append_getElem (by rw [digs_len]; exact h)]
  simp [digs]
theorem div_next (u k : Nat) : u / 256 ^ k / 256 = u / 256 ^ (k + 1) := by rw [Nat.div_div_eq_div_mul, Nat.pow_succ]
theorem U_lt (v : Int) : U v < 18446744073709551616 := by
  unfold U; rw [IntKind.wrap_u64]; omega
theorem div_lt (u k : Nat) (h : u < 18446744073709551616) : u / 256 ^ k < 18446744073709551616 := Nat.lt_of_le_of_lt (Nat.div_le_self _ _) h
def flat (W : Nat) (xs : List Int) : List Nat := xs.flatMap fun v => digs (U v) W
theorem flat_len (W : Nat) (xs : List Int) : (flat W xs).length = W * xs.length := by
  induction xs with
  | nil => simp [flat]
  | cons x xs ih =>
    have : flat W (x :: xs) = digs (U x) W ++ flat W xs := by simp [flat]
    rw [this, List.length_append, digs_len, ih, List.length_cons, Nat.mul_add, Nat.mul_one, Nat.add_comm]
theorem flat_snoc (W : Nat) (xs : List Int) (k : Nat) (h : k < xs.length) : flat W (xs.take (k + 1)) = flat W (xs.take k) ++ digs (U xs[k]) W := by
  unfold flat
  rw [List.take_succ_eq_append_getElem h, List.flatMap_append]
  simp only [List.flatMap_cons, List.flatMap_nil, List.append_nil]
def fits (k : IntKind) (xs : List Int) : Bool := xs.all fun v => k.wrap v == v
theorem fits_iff {k : IntKind} {xs : List Int} : fits k xs = true ↔ ∀ v ∈ xs, k.wrap v = v := by simp [fits]
def pkiR (W : Nat) (k : IntKind) (xs : List Int) : List Nat × Int := if fits k xs = true then (flat W xs, 0) else ([], 1)
def pki (xs : List Int) (n : Int) : List Nat × Int :=
  if n = 1 then pkiR 1 .i8 xs else if n = 2 then pkiR 2 .i16 xs else if n = 4 then pkiR 4 .i32 xs else if n = 8 then pkiR 8 .i64 xs else ([], 1)
theorem pki_no (xs : List Int) (n : Int) (h : ¬ (n = 1 ∨ n = 2 ∨ n = 4 ∨ n = 8)) : pki xs n = ([], 1) := by
  unfold pki
  rw [if_neg (by omega), if_neg (by omega), if_neg (by omega), if_neg (by omega)]
theorem pkiR_ok {W : Nat} {k : IntKind} {xs : List Int} (h : ∀ v ∈ xs, k.wrap v = v) : pkiR W k xs = (flat W xs, 0) := by unfold pkiR; rw [if_pos (fits_iff.2 h)]
theorem pkiR_bad {W : Nat} {k : IntKind} {xs : List Int} (j : Nat) (h : j < xs.length) (hb : k.wrap xs[j] ≠ xs[j]) : pkiR W k xs = ([], 1) := by
  unfold pkiR
  rw [if_neg (fun hf => hb (fits_iff.1 hf _ (List.getElem_mem _)))]
theorem fit_i8 (v : Int) : IntKind.i8.wrap v = v ↔ -128 ≤ v ∧ v < 128 := by
  simp only [IntKind.wrap, IntKind.bits, IntKind.signed]; simp; split <;> omega
theorem fit_i16 (v : Int) : IntKind.i16.wrap v = v ↔ -32768 ≤ v ∧ v < 32768 := by
  simp only [IntKind.wrap, IntKind.bits, IntKind.signed]; simp; split <;> omega
theorem fit_i32 (v : Int) : IntKind.i32.wrap v = v ↔ -2147483648 ≤ v ∧ v < 2147483648 := by
  simp only [IntKind.wrap, IntKind.bits, IntKind.signed]; simp; split <;> omega
theorem fit_i64 (v : Int) : IntKind.i64.wrap v = v ↔ -9223372036854775808 ≤ v ∧ v < 9223372036854775808 := by
  simp only [IntKind.wrap, IntKind.bits, IntKind.signed]; simp; split <;> omega
end Go.Proofs.YtfaehioeepolhaaGreat
namespace Go.Proofs.YtfaehioeepolhaaGreat
end Go.Proofs.YtfaehioeepolhaaGreat
