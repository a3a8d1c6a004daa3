import Derived.WalkKit
namespace Go.Proofs.Ytcljakdcejhfiab
def cstep (h : Nat) : Nat := if h % 2 = 1 then h / 2 ^^^ 3988292384 else h / 2
def csteps : Nat → Nat → Nat
  | 0, h => h
  | n + 1, h => cstep (csteps n h)
def crcIn (h x : Nat) : Nat := csteps 8 (h ^^^ x)
def crcFold (xs : List Nat) : Nat := xs.foldl crcIn 4294967295
theorem cstep_lt {h : Nat} (hh : h < 4294967296) : cstep h < 4294967296 := by
  unfold cstep
  split
  · exact Nat.xor_lt_two_pow (n := 32) (by omega) (by omega)
  · omega
theorem csteps_lt (n : Nat) {h : Nat} (hh : h < 4294967296) : csteps n h < 4294967296 := by
  induction n with
  | zero => exact hh
  | succ n ih => exact cstep_lt ih
theorem crcIn_lt {h x : Nat} (hh : h < 4294967296) (hx : x < 256) : crcIn h x < 4294967296 :=
  csteps_lt 8 (Nat.xor_lt_two_pow (n := 32) (by omega) (by omega))
theorem xor_div2 (a b : Nat) : (a ^^^ b) / 2 = a / 2 ^^^ b / 2 := by
  have := Nat.shiftRight_xor_distrib (a := a) (b := b) (i := 1)
  simpa [Nat.shiftRight_succ] using this
theorem xor_mod2 (a b : Nat) : (a ^^^ b) % 2 = (a % 2 + b % 2) % 2 := by
  have h := Nat.testBit_xor a b 0
  rw [Nat.testBit_zero, Nat.testBit_zero, Nat.testBit_zero] at h
  rcases Nat.mod_two_eq_zero_or_one a with ha | ha <;> rcases Nat.mod_two_eq_zero_or_one b with hb | hb <;> rcases Nat.mod_two_eq_zero_or_one (a ^^^ b) with hc | hc <;> simp [ha, hb, hc] at h ⊢
theorem cstep_xor (a b : Nat) : cstep (a ^^^ b) = cstep a ^^^ cstep b := by
  unfold cstep
  rw [xor_div2, xor_mod2]
  rcases Nat.mod_two_eq_zero_or_one a with ha | ha <;> rcases Nat.mod_two_eq_zero_or_one b with hb | hb <;> simp [ha, hb]
  · rw [Nat.xor_assoc]
  · rw [Nat.xor_assoc, Nat.xor_assoc, Nat.xor_comm 3988292384 (b / 2)]
  · rw [Nat.xor_assoc, Nat.xor_comm 3988292384, Nat.xor_assoc, Nat.xor_self, Nat.xor_zero]
theorem csteps_xor (n a b : Nat) : csteps n (a ^^^ b) = csteps n a ^^^ csteps n b := by
  induction n with
  | zero => rfl
  | succ n ih => show cstep _ = _; rw [ih, cstep_xor]; rfl
theorem cstep_even (m : Nat) : cstep (2 * m) = m := by
  unfold cstep
  rw [if_neg (by omega)]; omega
theorem csteps_shift (q : Nat) : csteps 8 (256 * q) = q := by
  show cstep (cstep (cstep (cstep (cstep (cstep (cstep (cstep (256 * q)))))))) = q
  rw [show 256 * q = 2 * (128 * q) from by omega, cstep_even, show 128 * q = 2 * (64 * q) from by omega, cstep_even,
    show 64 * q = 2 * (32 * q) from by omega, cstep_even, show 32 * q = 2 * (16 * q) from by omega, cstep_even,
    show 16 * q = 2 * (8 * q) from by omega, cstep_even, show 8 * q = 2 * (4 * q) from by omega, cstep_even,
    show 4 * q = 2 * (2 * q) from by omega, cstep_even, cstep_even]
theorem split_low (h : Nat) : h = 256 * (h / 256) ^^^ h % 256 := by
  apply Nat.eq_of_testBit_eq
  intro i
  have e1 : 256 * (h / 256) = 2 ^ 8 * (h / 2 ^ 8) := rfl
  have e2 : h % 256 = h % 2 ^ 8 := rfl
  rw [Nat.testBit_xor, e1, e2, Nat.testBit_two_pow_mul, Nat.testBit_mod_two_pow, Nat.testBit_div_two_pow]
  by_cases hi : i < 8
  · simp [hi, show ¬ 8 ≤ i from by omega]
  · simp [hi, show 8 ≤ i from by omega, show i - 8 + 8 = i from by omega]
theorem crcIn_table (h x : Nat) : crcIn h x = h / 256 ^^^ csteps 8 (h % 256 ^^^ x) := by
  unfold crcIn
  conv => lhs; rw [split_low h]
  rw [Nat.xor_assoc, csteps_xor, csteps_shift]
theorem foldl_snoc (xs : List Nat) (k : Nat) (hk : k < xs.length) : (xs.take (k + 1)).foldl crcIn 4294967295 = crcIn ((xs.take k).foldl crcIn 4294967295) xs[k] := by
  rw [List.take_succ_eq_append_getElem hk, List.foldl_append]
  rfl
theorem fold_lt (xs : List Nat) (hx : ∀ x ∈ xs, x < 256) : ∀ h, h < 4294967296 → xs.foldl crcIn h < 4294967296 := by
  induction xs with
  | nil => intro h hh; exact hh
  | cons x xs ih =>
    intro h hh
    exact ih (fun y hy => hx y (List.mem_cons_of_mem _ hy)) _ (crcIn_lt hh (hx x List.mem_cons_self))
theorem crcTake_lt (xs : List Nat) (hx : ∀ x ∈ xs, x < 256) (k : Nat) : crcFold (xs.take k) < 4294967296 :=
  fold_lt _ (fun x h => hx x (List.mem_of_mem_take h)) _ (by decide)
theorem bits_xor_u32 (a b : Nat) (ha : a < 4294967296) (hb : b < 4294967296) : bits .xor .u32 (a : Int) (b : Int) = ((a ^^^ b : Nat) : Int) := by
  have hx : a ^^^ b < 2 ^ 32 := Nat.xor_lt_two_pow (by omega) (by omega)
  have h1 : (BitVec.ofInt 32 (a : Int)).toNat = a := by
    rw [BitVec.ofInt_natCast, BitVec.toNat_ofNat]; exact Nat.mod_eq_of_lt (by omega)
  have h2 : (BitVec.ofInt 32 (b : Int)).toNat = b := by
    rw [BitVec.ofInt_natCast, BitVec.toNat_ofNat]; exact Nat.mod_eq_of_lt (by omega)
  show IntKind.u32.wrap ((BitVec.ofInt 32 (a : Int) ^^^ BitVec.ofInt 32 (b : Int)).toNat : Int) = _
  rw [BitVec.toNat_xor, h1, h2]
  simp [IntKind.wrap, IntKind.bits, IntKind.signed]
  omega
theorem bits_xor_u8 (a b : Nat) (ha : a < 256) (hb : b < 256) : bits .xor .u8 (a : Int) (b : Int) = ((a ^^^ b : Nat) : Int) := by
  have hx : a ^^^ b < 2 ^ 8 := Nat.xor_lt_two_pow (by omega) (by omega)
  have h1 : (BitVec.ofInt 8 (a : Int)).toNat = a := by
    rw [BitVec.ofInt_natCast, BitVec.toNat_ofNat]; exact Nat.mod_eq_of_lt (by omega)
  have h2 : (BitVec.ofInt 8 (b : Int)).toNat = b := by
    rw [BitVec.ofInt_natCast, BitVec.toNat_ofNat]; exact Nat.mod_eq_of_lt (by omega)
  show IntKind.u8.wrap ((BitVec.ofInt 8 (a : Int) ^^^ BitVec.ofInt 8 (b : Int)).toNat : Int) = _
  rw [BitVec.toNat_xor, h1, h2]
  simp [IntKind.wrap, IntKind.bits, IntKind.signed]
  omega
theorem bits_xor_full (a : Nat) (ha : a < 4294967296) : bits .xor .u32 (a : Int) 4294967295 = ((a ^^^ 4294967295 : Nat) : Int) := by
  simpa using bits_xor_u32 a 4294967295 ha (by decide)
theorem bits_xor_poly (a : Nat) (ha : a < 4294967296) : bits .xor .u32 (a : Int) 3988292384 = ((a ^^^ 3988292384 : Nat) : Int) := by
  simpa using bits_xor_u32 a 3988292384 ha (by decide)
theorem cstep_odd {s : Nat} (h : s % 2 = 1) : cstep s = s / 2 ^^^ 3988292384 := by unfold cstep; rw [if_pos h]
theorem cstep_not {s : Nat} (h : ¬ s % 2 = 1) : cstep s = s / 2 := by unfold cstep; rw [if_neg h]
theorem xor_odd {s : Nat} (hs : s < 4294967296) (h : s % 2 = 1) : bits .xor .u32 ((s : Int) / 2) 3988292384 = ((cstep s : Nat) : Int) := by
  have := bits_xor_poly (s / 2) (by omega)
  rw [cstep_odd h, ← this]
  simp
end Go.Proofs.Ytcljakdcejhfiab
