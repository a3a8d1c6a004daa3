import Derived.WalkKit
import Derived.Laws.Bits64
namespace Go.Proofs.Ytcljakdcejhfiaa
open Go.RowKit
def num : List Nat → Nat
  | [] => 0
  | y :: ys => y + 256 * num ys
theorem num_append (xs ys : List Nat) : num (xs ++ ys) = num xs + 256 ^ xs.length * num ys := by
  induction xs with
  | nil => simp [num]
  | cons x xs ih =>
    simp only [List.cons_append, num, ih, List.length_cons, Nat.pow_succ, Nat.mul_add]
    rw [Nat.mul_assoc (256 ^ xs.length), Nat.mul_left_comm (256 ^ xs.length)]
    omega
theorem num_lt (xs : List Nat) (h : ∀ x ∈ xs, x < 256) : num xs < 256 ^ xs.length := by
  induction xs with
  | nil => simp [num]
  | cons x xs ih =>
    have h1 := ih (fun y hy => h y (List.mem_cons_of_mem _ hy))
    have h2 := h x List.mem_cons_self
    simp only [num, List.length_cons, Nat.pow_succ]
    omega
theorem num_snoc (xs : List Nat) (k : Nat) (h : k < xs.length) : num (xs.take (k + 1)) = num (xs.take k) + xs[k] * 256 ^ k := by
  rw [List.take_succ_eq_append_getElem h, num_append]
  simp only [num, List.length_take, Nat.mul_zero, Nat.add_zero]
  rw [Nat.min_eq_left (by omega), Nat.mul_comm]
theorem num_drop (xs : List Nat) (k : Nat) (h : k < xs.length) : num (xs.drop k) = xs[k] + 256 * num (xs.drop (k + 1)) := by
  rw [List.drop_eq_getElem_cons h]; rfl
theorem bits_or_u64 (a b : Nat) (ha : a < 18446744073709551616) (hb : b < 18446744073709551616) : bits .or .u64 (a : Int) (b : Int) = ((a ||| b : Nat) : Int) := by
  have hx : a ||| b < 2 ^ 64 := Nat.or_lt_two_pow (by omega) (by omega)
  have h1 : (BitVec.ofInt 64 (a : Int)).toNat = a := by
    rw [BitVec.ofInt_natCast, BitVec.toNat_ofNat]; exact Nat.mod_eq_of_lt (by omega)
  have h2 : (BitVec.ofInt 64 (b : Int)).toNat = b := by
    rw [BitVec.ofInt_natCast, BitVec.toNat_ofNat]; exact Nat.mod_eq_of_lt (by omega)
  show IntKind.u64.wrap ((BitVec.ofInt 64 (a : Int) ||| BitVec.ofInt 64 (b : Int)).toNat : Int) = _
  rw [BitVec.toNat_or, h1, h2, IntKind.wrap_u64]
  omega
theorem pow_256 (k : Nat) : 2 ^ (8 * k) = 256 ^ k := by rw [Nat.pow_mul]
theorem or_step (xs : List Nat) (k : Nat) (h : k < xs.length) (hx : ∀ x ∈ xs, x < 256) (h8 : xs.length ≤ 8) :
    bits .or .u64 ((num (xs.take k) : Nat) : Int) (IntKind.u64.wrap ((xs[k] : Int) * 2 ^ (8 * k))) = ((num (xs.take (k + 1)) : Nat) : Int) := by
  have hN := num_lt (xs.take k) (fun x hm => hx x (List.mem_of_mem_take hm))
  rw [List.length_take, Nat.min_eq_left (by omega)] at hN
  have hb : xs[k] < 256 := hx _ (List.getElem_mem _)
  have hp : 256 ^ k ≤ 256 ^ 7 := Nat.pow_le_pow_right (by decide) (by omega)
  have hP : xs[k] * 256 ^ k < 18446744073709551616 := by
    have h1 : xs[k] * 256 ^ k ≤ 255 * 256 ^ k := Nat.mul_le_mul_right _ (by omega)
    have h2 : 255 * 256 ^ k ≤ 255 * 256 ^ 7 := Nat.mul_le_mul_left _ hp
    have h3 : 255 * 256 ^ 7 < 18446744073709551616 := by decide
    omega
  have e : IntKind.u64.wrap ((xs[k] : Int) * 2 ^ (8 * k)) = ((xs[k] * 256 ^ k : Nat) : Int) := by
    have e1 : ((xs[k] : Int) * 2 ^ (8 * k)) = ((xs[k] * 256 ^ k : Nat) : Int) := by
      rw [← pow_256, Int.natCast_mul, Int.natCast_pow]; rfl
    rw [e1, IntKind.wrap_u64]
    omega
  have hlt : num (xs.take k) < 18446744073709551616 := by
    have h3 : 256 ^ 7 < 18446744073709551616 := by decide
    omega
  rw [e, bits_or_u64 _ _ hlt hP, num_snoc xs k h]
  have hor := Nat.two_pow_add_eq_or_of_lt (i := 8 * k) (b := num (xs.take k)) (by rw [pow_256]; exact hN) xs[k]
  rw [pow_256, Nat.mul_comm] at hor
  rw [Nat.or_comm, ← hor, Nat.add_comm]
theorem wr32 (n : Int) : wrap32 n = IntKind.i32.wrap n := by
  unfold wrap32; simp [IntKind.wrap, IntKind.bits, IntKind.signed]; split <;> omega
theorem wr64 (n : Int) : wrap64 n = IntKind.i64.wrap n := by
  unfold wrap64; simp [IntKind.wrap, IntKind.bits, IntKind.signed]; split <;> omega
def chunk (xs : List Nat) (W j : Nat) : List Nat := (xs.drop (W * j)).take W
def uniR (W : Nat) (k : IntKind) (xs : List Nat) : List Int × Int :=
  if xs.length % W = 0 then ((List.range (xs.length / W)).map fun j => k.wrap ((num (chunk xs W j) : Nat) : Int), 0) else ([], 3)
def uniL (W : Nat) (k : IntKind) (xs : List Nat) : List Int := (List.range (xs.length / W)).map fun j => k.wrap ((num (chunk xs W j) : Nat) : Int)
def uni (xs : List Nat) (n : Int) : List Int × Int :=
  if n = 1 then uniR 1 .i8 xs else if n = 2 then uniR 2 .i16 xs else if n = 4 then uniR 4 .i32 xs else if n = 8 then uniR 8 .i64 xs else ([], 1)
theorem uniL_len (W : Nat) (k : IntKind) (xs : List Nat) : (uniL W k xs).length = xs.length / W := by simp [uniL]
theorem uniL_at (W : Nat) (k : IntKind) (xs : List Nat) (j : Nat) (h : j < xs.length / W) : (uniL W k xs)[j]? = some (k.wrap ((num (chunk xs W j) : Nat) : Int)) := by simp [uniL, h]
theorem uniL_snoc (W : Nat) (k : IntKind) (xs : List Nat) (j : Nat) (h : j < xs.length / W) : (uniL W k xs).take (j + 1) = (uniL W k xs).take j ++ [k.wrap ((num (chunk xs W j) : Nat) : Int)] := by
  rw [List.take_succ_eq_append_getElem (by rw [uniL_len]; exact h)]
  simp [uniL]
theorem uniR_ok {W : Nat} {k : IntKind} {xs : List Nat} (h : xs.length % W = 0) : uniR W k xs = (uniL W k xs, 0) := by unfold uniR; rw [if_pos h]; rfl
theorem uniR_bad {W : Nat} {k : IntKind} {xs : List Nat} (h : xs.length % W ≠ 0) : uniR W k xs = ([], 3) := by unfold uniR; rw [if_neg h]
theorem chunk_len {xs : List Nat} {W j : Nat} (h : W * j + W ≤ xs.length) : (chunk xs W j).length = W := by simp [chunk]; omega
theorem chunk_lt {xs : List Nat} {W j : Nat} (hx : ∀ x ∈ xs, x < 256) : ∀ x ∈ chunk xs W j, x < 256 := fun x h => hx x (List.mem_of_mem_drop (List.mem_of_mem_take h))
theorem chunk_at {xs : List Nat} {W j i : Nat} (h : i < (chunk xs W j).length) (h2 : W * j + i < xs.length) : (chunk xs W j)[i] = xs[W * j + i] := by simp [chunk]
theorem uniR_short (W : Nat) (k : IntKind) (xs : List Nat) : (uniR W k xs).1.length ≤ 8 * xs.length := by
  unfold uniR
  split
  · simp; have := Nat.div_le_self xs.length W; omega
  · simp
theorem uni_short (xs : List Nat) (n : Int) : (uni xs n).1.length ≤ 8 * xs.length := by
  unfold uni
  repeat' split
  · exact uniR_short 1 _ _
  · exact uniR_short 2 _ _
  · exact uniR_short 4 _ _
  · exact uniR_short 8 _ _
  · simp
theorem chunk_num {xs : List Nat} {W j : Nat} (hx : ∀ x ∈ xs, x < 256) (hW : 1 ≤ W) (hin : W * j + W ≤ xs.length) :
    ∃ lo, num (chunk xs W j) = lo + xs[W * j + W - 1] * 256 ^ (W - 1) ∧ lo < 256 ^ (W - 1) := by
  have hl := chunk_len hin
  have hs := num_snoc (chunk xs W j) (W - 1) (by omega)
  rw [show W - 1 + 1 = W from by omega, List.take_of_length_le (by omega)] at hs
  refine ⟨num ((chunk xs W j).take (W - 1)), ?_, ?_⟩
  · rw [hs, chunk_at (by omega) (by omega)]
    have e : xs[W * j + (W - 1)]'(by omega) = xs[W * j + W - 1]'(by omega) := by congr 1; omega
    rw [e]
  · have := num_lt ((chunk xs W j).take (W - 1)) (fun x h => chunk_lt hx x (List.mem_of_mem_take h))
    rwa [List.length_take, Nat.min_eq_left (by omega)] at this
theorem sign_i8 (N : Nat) (h : N < 256) : IntKind.i8.wrap (N : Int) = if 128 ≤ N then (N : Int) - 256 else N := by
  simp only [IntKind.wrap, IntKind.bits, IntKind.signed]; simp; split <;> split <;> omega
theorem sign_i16 (N : Nat) (h : N < 65536) : IntKind.i16.wrap (N : Int) = if 32768 ≤ N then (N : Int) - 65536 else N := by
  simp only [IntKind.wrap, IntKind.bits, IntKind.signed]; simp; split <;> split <;> omega
theorem sign_i32 (N : Nat) (h : N < 4294967296) : IntKind.i32.wrap (N : Int) = if 2147483648 ≤ N then (N : Int) - 4294967296 else N := by
  simp only [IntKind.wrap, IntKind.bits, IntKind.signed]; simp; split <;> split <;> omega
theorem wrap64_small (N : Nat) (h : N < 4294967296) : wrap64 (N : Int) = N := by unfold wrap64; omega
end Go.Proofs.Ytcljakdcejhfiaa
