import Derived.Test.YtcljakdcejhfiaaJUnpackBits8
namespace Go.Proofs.Ytcljakdcejhfiaa
def bitOf (xs : List Nat) (i : Nat) : Bool := xs[i / 8]?.getD 0 / 2 ^ (i % 8) % 2 == 1
def clearFrom (xs : List Nat) (n : Nat) : Bool := (List.range (8 * xs.length)).all fun i => decide (i < n) || !bitOf xs i
def bitsOf (xs : List Nat) (n : Nat) : List Bool := (List.range n).map (bitOf xs)
def unp (xs : List Nat) (n : Int) : List Bool × Int :=
  if n < 0 then ([], 1) else if nb n.toNat = xs.length then (if clearFrom xs n.toNat = true then (bitsOf xs n.toNat, 0) else ([], 3)) else ([], 3)
theorem bitsOf_len (xs : List Nat) (n : Nat) : (bitsOf xs n).length = n := by simp [bitsOf]
theorem bitsOf_snoc (xs : List Nat) (n : Nat) : bitsOf xs (n + 1) = bitsOf xs n ++ [bitOf xs n] := by simp [bitsOf, List.range_succ]
theorem clearFrom_iff {xs : List Nat} {n : Nat} : clearFrom xs n = true ↔ ∀ i, n ≤ i → i < 8 * xs.length → bitOf xs i = false := by
  unfold clearFrom
  rw [List.all_eq_true]
  constructor
  · intro h i h1 h2
    have := h i (List.mem_range.2 h2)
    simpa [show ¬ i < n from by omega] using this
  · intro h i hi
    have hi := List.mem_range.1 hi
    by_cases hlt : i < n
    · simp [hlt]
    · simp [h i (by omega) hi]
theorem bitOf_at {xs : List Nat} {i : Nat} (h : i / 8 < xs.length) : bitOf xs i = (xs[i / 8] / 2 ^ (i % 8) % 2 == 1) := by simp [bitOf, h]
theorem nb_fit {n len : Nat} : nb n = len ↔ (n ≤ 8 * len ∧ 8 * (len - 1) < n ∨ n = 0 ∧ len = 0) := by unfold nb; split <;> omega
theorem clear_last {xs : List Nat} {n : Nat} (hf : nb n = xs.length) (hx : ∀ x ∈ xs, x < 256) (h8 : n % 8 ≠ 0) :
    clearFrom xs n = true ↔ xs[xs.length - 1]?.getD 0 / 2 ^ (n % 8) = 0 := by
  have hf' := nb_fit.1 hf
  have hlen : 1 ≤ xs.length := by omega
  have hlast : xs.length - 1 < xs.length := by omega
  rw [clearFrom_iff]
  have hL : xs[xs.length - 1]?.getD 0 < 256 := by
    rw [List.getElem?_eq_getElem hlast]; exact hx _ (List.getElem_mem _)
  constructor
  · intro h
    generalize hLd : xs[xs.length - 1]?.getD 0 = L at *
    have key : ∀ j, n % 8 ≤ j → j < 8 → L / 2 ^ j % 2 = 0 := by
      intro j h1 h2
      have hi := h (8 * (xs.length - 1) + j) (by omega) (by omega)
      unfold bitOf at hi
      rw [show (8 * (xs.length - 1) + j) / 8 = xs.length - 1 from by omega, show (8 * (xs.length - 1) + j) % 8 = j from by omega, hLd] at hi
      have : ¬ L / 2 ^ j % 2 = 1 := by simpa using hi
      omega
    have hr : n % 8 = 1 ∨ n % 8 = 2 ∨ n % 8 = 3 ∨ n % 8 = 4 ∨ n % 8 = 5 ∨ n % 8 = 6 ∨ n % 8 = 7 := by omega
    have k7 := key 7 (by omega) (by omega)
    rcases hr with e | e | e | e | e | e | e <;> rw [e] at key ⊢
    · have := key 1 (by omega) (by omega); have := key 2 (by omega) (by omega); have := key 3 (by omega) (by omega); have := key 4 (by omega) (by omega); have := key 5 (by omega) (by omega); have := key 6 (by omega) (by omega); omega
    · have := key 2 (by omega) (by omega); have := key 3 (by omega) (by omega); have := key 4 (by omega) (by omega); have := key 5 (by omega) (by omega); have := key 6 (by omega) (by omega); omega
    · have := key 3 (by omega) (by omega); have := key 4 (by omega) (by omega); have := key 5 (by omega) (by omega); have := key 6 (by omega) (by omega); omega
    · have := key 4 (by omega) (by omega); have := key 5 (by omega) (by omega); have := key 6 (by omega) (by omega); omega
    · have := key 5 (by omega) (by omega); have := key 6 (by omega) (by omega); omega
    · have := key 6 (by omega) (by omega); omega
    · omega
  · intro h i h1 h2
    unfold bitOf
    rw [show i / 8 = xs.length - 1 from by omega]
    have hle : n % 8 ≤ i % 8 := by omega
    have : xs[xs.length - 1]?.getD 0 / 2 ^ (i % 8) = 0 := by
      rw [show i % 8 = n % 8 + (i % 8 - n % 8) from by omega, Nat.pow_add, ← Nat.div_div_eq_div_mul, h, Nat.zero_div]
    rw [this]; rfl
theorem bits_and_one (a : Nat) (ha : a < 256) : bits .and .u8 (a : Int) 1 = ((a % 2 : Nat) : Int) := by
  have h1 : (BitVec.ofInt 8 (a : Int)).toNat = a := by
    rw [BitVec.ofInt_natCast, BitVec.toNat_ofNat]; exact Nat.mod_eq_of_lt (by omega)
  have h2 : (BitVec.ofInt 8 (1 : Int)).toNat = 1 := by decide
  show IntKind.u8.wrap ((BitVec.ofInt 8 (a : Int) &&& BitVec.ofInt 8 (1 : Int)).toNat : Int) = _
  rw [BitVec.toNat_and, h1, h2, Nat.and_one_is_mod]
  simp [IntKind.wrap, IntKind.bits, IntKind.signed]
  omega
theorem div_pow_cast (x k : Nat) : (x : Int) / 2 ^ k = ((x / 2 ^ k : Nat) : Int) := by
  rw [Int.natCast_ediv, Int.natCast_pow]; rfl
theorem bit_spec {xs : List Nat} {i : Nat} (h : i / 8 < xs.length) : ((((xs[i / 8] : Nat) : Int) / 2 ^ (i % 8)).tmod 2 == 1) = bitOf xs i := by
  rw [bitOf_at h, div_pow_cast, Int.tmod_eq_emod_of_nonneg (Int.natCast_nonneg _), Bool.eq_iff_iff, beq_iff_eq, beq_iff_eq]
  omega
theorem bit_impl {xs : List Nat} {i : Nat} (h : i / 8 < xs.length) (hx : ∀ x ∈ xs, x < 256) : (bits .and .u8 (((xs[i / 8] : Nat) : Int) / 2 ^ (i % 8)) 1 == 1) = bitOf xs i := by
  have hl : xs[i / 8] / 2 ^ (i % 8) < 256 := Nat.lt_of_le_of_lt (Nat.div_le_self _ _) (hx _ (List.getElem_mem _))
  rw [bitOf_at h, div_pow_cast, bits_and_one _ hl, Bool.eq_iff_iff, beq_iff_eq, beq_iff_eq]
  omega
theorem last_spell {xs : List Nat} {n : Nat} (hf : nb n = xs.length) (hx : ∀ x ∈ xs, x < 256) (h8 : n % 8 ≠ 0) (hl : xs.length - 1 < xs.length) :
    (((xs[xs.length - 1] : Nat) : Int) / 2 ^ (n % 8) == 0) = clearFrom xs n := by
  have h := clear_last hf hx h8
  rw [List.getElem?_eq_getElem hl] at h
  rw [Bool.eq_iff_iff, h, div_pow_cast, beq_iff_eq]
  simp only [Option.getD_some]
  omega
theorem unp_neg (xs : List Nat) (n : Int) (h : n < 0) : unp xs n = ([], 1) := by unfold unp; rw [if_pos h]
theorem unp_len (xs : List Nat) (n : Nat) (h : nb n ≠ xs.length) : unp xs (n : Int) = ([], 3) := by
  unfold unp; rw [if_neg (by omega), if_neg (by simpa using h)]
theorem unp_bad (xs : List Nat) (n : Nat) (hc : clearFrom xs n = false) : unp xs (n : Int) = ([], 3) := by
  unfold unp; rw [if_neg (by omega), Int.toNat_natCast, hc]
  simp
theorem unp_ok (xs : List Nat) (n : Nat) (h : nb n = xs.length) (hc : clearFrom xs n = true) : unp xs (n : Int) = (bitsOf xs n, 0) := by
  unfold unp; rw [if_neg (by omega), Int.toNat_natCast, if_pos h, if_pos hc]
theorem unp_short (xs : List Nat) (n : Int) : (unp xs n).1.length ≤ 8 * xs.length := by
  unfold unp
  split
  · simp
  · split
    · split
      · rw [bitsOf_len]; have h := nb_fit.1 ‹_›; omega
      · simp
    · simp
end Go.Proofs.Ytcljakdcejhfiaa
