import Derived.Test.YtfaehioeepolhabGreatJCrashSender4
import Derived.WalkKit
namespace Go.Proofs.YtfaehioeepolhabGreat
open Go.RowKit
def U (v : Int) : Nat := (IntKind.u64.wrap v).toNat
theorem U_eq (v : Int) : IntKind.u64.wrap v = (U v : Int) := by
 unfold U
 rw [IntKind.wrap_u64]
 omega
def digs (u W : Nat) : List Nat := (List.range W).map fun i => u / 256 ^ i % 256
theorem digs_len (u W : Nat) : (digs u W).length = W := by simp [digs]
theorem digs_snoc (u W k : Nat) (h : k < W) : (digs u W).take (k + 1) = (digs u W).take k ++ [u / 256 ^ k % 256] := by
 rw [List.take_succ_eq_append_getElem (by rw [digs_len]; exact h)]
 simp [digs]
theorem digs_lt (u W : Nat) : ∀ x ∈ digs u W, x < 256 := by
 intro x hx
 obtain ⟨i, _, rfl⟩ := List.mem_map.1 hx
 exact Nat.mod_lt _ (by decide)
theorem div_next (u k : Nat) : u / 256 ^ k / 256 = u / 256 ^ (k + 1) := by rw [Nat.div_div_eq_div_mul, Nat.pow_succ]
theorem U_lt (v : Int) : U v < 18446744073709551616 := by
 unfold U; rw [IntKind.wrap_u64]; omega
theorem wrapU_div (R : Nat) (h : R < 18446744073709551616) : IntKind.u64.wrap ((R : Int) / 256) = ((R / 256 : Nat) : Int) := by
 rw [IntKind.wrap_u64]; omega
theorem div_lt (u k : Nat) (h : u < 18446744073709551616) : u / 256 ^ k < 18446744073709551616 := Nat.lt_of_le_of_lt (Nat.div_le_self _ _) h
def flat (W : Nat) (xs : List Int) : List Nat := xs.flatMap fun v => digs (U v) W
theorem flat_len (W : Nat) (xs : List Int) : (flat W xs).length = W * xs.length := by
 induction xs with
 | nil => simp [flat]
 | cons x xs ih =>
  have : flat W (x :: xs) = digs (U x) W ++ flat W xs := by simp [flat]
  rw [this, List.length_append, digs_len, ih, List.length_cons, Nat.mul_add, Nat.mul_one, Nat.add_comm]
theorem flat_snoc (W : Nat) (xs : List Int) (k : Nat) (h : k < xs.length) : flat W (xs.take (k + 1)) = flat W (xs.take k) ++ digs (U xs[k]) W := by
 unfold flat
 rw [List.take_succ_eq_append_getElem h, List.flatMap_append]
 simp only [List.flatMap_cons, List.flatMap_nil, List.append_nil]
def fits (k : IntKind) (xs : List Int) : Bool := xs.all fun v => k.wrap v == v
theorem fits_iff {k : IntKind} {xs : List Int} : fits k xs = true ↔ ∀ v ∈ xs, k.wrap v = v := by simp [fits]
def pkiR (W : Nat) (k : IntKind) (xs : List Int) : List Nat × Int := if fits k xs = true then (flat W xs, 0) else ([], 1)
def pki (xs : List Int) (n : Int) : List Nat × Int :=
 if n = 1 then pkiR 1 .i8 xs else if n = 2 then pkiR 2 .i16 xs else if n = 4 then pkiR 4 .i32 xs else if n = 8 then pkiR 8 .i64 xs else ([], 1)
theorem pki_no (xs : List Int) (n : Int) (h : ¬ (n = 1 ∨ n = 2 ∨ n = 4 ∨ n = 8)) : pki xs n = ([], 1) := by
 unfold pki
 rw [if_neg (by omega), if_neg (by omega), if_neg (by omega), if_neg (by omega)]
theorem pkiR_ok {W : Nat} {k : IntKind} {xs : List Int} (h : ∀ v ∈ xs, k.wrap v = v) : pkiR W k xs = (flat W xs, 0) := by unfold pkiR; rw [if_pos (fits_iff.2 h)]
theorem pkiR_bad {W : Nat} {k : IntKind} {xs : List Int} (j : Nat) (h : j < xs.length) (hb : k.wrap xs[j] ≠ xs[j]) : pkiR W k xs = ([], 1) := by
 unfold pkiR
 rw [if_neg (fun hf => hb (fits_iff.1 hf _ (List.getElem_mem _)))]
theorem fit_i8 (v : Int) : IntKind.i8.wrap v = v ↔ -128 ≤ v ∧ v < 128 := by
 simp only [IntKind.wrap, IntKind.bits, IntKind.signed]; simp; split <;> omega
theorem fit_i16 (v : Int) : IntKind.i16.wrap v = v ↔ -32768 ≤ v ∧ v < 32768 := by
 simp only [IntKind.wrap, IntKind.bits, IntKind.signed]; simp; split <;> omega
theorem fit_i32 (v : Int) : IntKind.i32.wrap v = v ↔ -2147483648 ≤ v ∧ v < 2147483648 := by
 simp only [IntKind.wrap, IntKind.bits, IntKind.signed]; simp; split <;> omega
theorem fit_i64 (v : Int) : IntKind.i64.wrap v = v ↔ -9223372036854775808 ≤ v ∧ v < 9223372036854775808 := by
 simp only [IntKind.wrap, IntKind.bits, IntKind.signed]; simp; split <;> omega
end Go.Proofs.YtfaehioeepolhabGreat
namespace Go.Proofs.YtfaehioeepolhabGreat
def cstep (h : Nat) : Nat := if h % 2 = 1 then h / 2 ^^^ 3988292384 else h / 2
def csteps : Nat → Nat → Nat
 | 0, h => h
 | n + 1, h => cstep (csteps n h)
def crcIn (h x : Nat) : Nat := csteps 8 (h ^^^ x)
def crcFold (xs : List Nat) : Nat := xs.foldl crcIn 4294967295
theorem cstep_lt {h : Nat} (hh : h < 4294967296) : cstep h < 4294967296 := by
 unfold cstep
 split
 ·exact Nat.xor_lt_two_pow (n := 32) (by omega) (by omega)
 ·omega
theorem csteps_lt (n : Nat) {h : Nat} (hh : h < 4294967296) : csteps n h < 4294967296 := by
 induction n with
 | zero => exact hh
 | succ n ih => exact cstep_lt ih
theorem crcIn_lt {h x : Nat} (hh : h < 4294967296) (hx : x < 256) : crcIn h x < 4294967296 :=
 csteps_lt 8 (Nat.xor_lt_two_pow (n := 32) (by omega) (by omega))
theorem xor_div2 (a b : Nat) : (a ^^^ b) / 2 = a / 2 ^^^ b / 2 := by
 have := Nat.shiftRight_xor_distrib (a := a) (b := b) (i := 1)
 simpa [Nat.shiftRight_succ] using this
theorem xor_mod2 (a b : Nat) : (a ^^^ b) % 2 = (a % 2 + b % 2) % 2 := by
 have h := Nat.testBit_xor a b 0
 rw [Nat.testBit_zero, Nat.testBit_zero, Nat.testBit_zero] at h
 rcases Nat.mod_two_eq_zero_or_one a with ha | ha <;> rcases Nat.mod_two_eq_zero_or_one b with hb | hb <;> rcases Nat.mod_two_eq_zero_or_one (a ^^^ b) with hc | hc <;> simp [ha, hb, hc] at h ⊢
theorem cstep_xor (a b : Nat) : cstep (a ^^^ b) = cstep a ^^^ cstep b := by
 unfold cstep
 rw [xor_div2, xor_mod2]
 rcases Nat.mod_two_eq_zero_or_one a with ha | ha <;> rcases Nat.mod_two_eq_zero_or_one b with hb | hb <;> simp [ha, hb]
 ·rw [Nat.xor_assoc]
 ·rw [Nat.xor_assoc, Nat.xor_assoc, Nat.xor_comm 3988292384 (b / 2)]
 ·rw [Nat.xor_assoc, Nat.xor_comm 3988292384, Nat.xor_assoc, Nat.xor_self, Nat.xor_zero]
theorem csteps_xor (n a b : Nat) : csteps n (a ^^^ b) = csteps n a ^^^ csteps n b := by
 induction n with
 | zero => rfl
 | succ n ih => show cstep _ = _; rw [ih, cstep_xor]; rfl
theorem cstep_even (m : Nat) : cstep (2 * m) = m := by
 unfold cstep
 rw [if_neg (by omega)]; omega
theorem csteps_shift (q : Nat) : csteps 8 (256 * q) = q := by
 show cstep (cstep (cstep (cstep (cstep (cstep (cstep (cstep (256 * q)))))))) = q
 rw [show 256 * q = 2 * (128 * q) from by omega, cstep_even, show 128 * q = 2 * (64 * q) from by omega, cstep_even,
  show 64 * q = 2 * (32 * q) from by omega, cstep_even, show 32 * q = 2 * (16 * q) from by omega, cstep_even,
  show 16 * q = 2 * (8 * q) from by omega, cstep_even, show 8 * q = 2 * (4 * q) from by omega, cstep_even,
  show 4 * q = 2 * (2 * q) from by omega, cstep_even, cstep_even]
theorem split_low (h : Nat) : h = 256 * (h / 256) ^^^ h % 256 := by
 apply Nat.eq_of_testBit_eq
 intro i
 have e1 : 256 * (h / 256) = 2 ^ 8 * (h / 2 ^ 8) := rfl
 have e2 : h % 256 = h % 2 ^ 8 := rfl
 rw [Nat.testBit_xor, e1, e2, Nat.testBit_two_pow_mul, Nat.testBit_mod_two_pow, Nat.testBit_div_two_pow]
 by_cases hi : i < 8
 ·simp [hi, show ¬ 8 ≤ i from by omega]
 ·simp [hi, show 8 ≤ i from by omega, show i - 8 + 8 = i from by omega]
theorem crcIn_table (h x : Nat) : crcIn h x = h / 256 ^^^ csteps 8 (h % 256 ^^^ x) := by
 unfold crcIn
 conv => lhs; rw [split_low h]
 rw [Nat.xor_assoc, csteps_xor, csteps_shift]
theorem foldl_snoc (xs : List Nat) (k : Nat) (hk : k < xs.length) : (xs.take (k + 1)).foldl crcIn 4294967295 = crcIn ((xs.take k).foldl crcIn 4294967295) xs[k] := by
 rw [List.take_succ_eq_append_getElem hk, List.foldl_append]
 rfl
theorem fold_lt (xs : List Nat) (hx : ∀ x ∈ xs, x < 256) : ∀ h, h < 4294967296 → xs.foldl crcIn h < 4294967296 := by
 induction xs with
 | nil => intro h hh; exact hh
 | cons x xs ih =>
  intro h hh
  exact ih (fun y hy => hx y (List.mem_cons_of_mem _ hy)) _ (crcIn_lt hh (hx x List.mem_cons_self))
theorem crcTake_lt (xs : List Nat) (hx : ∀ x ∈ xs, x < 256) (k : Nat) : crcFold (xs.take k) < 4294967296 :=
 fold_lt _ (fun x h => hx x (List.mem_of_mem_take h)) _ (by decide)
theorem bits_xor_u32 (a b : Nat) (ha : a < 4294967296) (hb : b < 4294967296) : bits .xor .u32 (a : Int) (b : Int) = ((a ^^^ b : Nat) : Int) := by
 have hx : a ^^^ b < 2 ^ 32 := Nat.xor_lt_two_pow (by omega) (by omega)
 have h1 : (BitVec.ofInt 32 (a : Int)).toNat = a := by
  rw [BitVec.ofInt_natCast, BitVec.toNat_ofNat]; exact Nat.mod_eq_of_lt (by omega)
 have h2 : (BitVec.ofInt 32 (b : Int)).toNat = b := by
  rw [BitVec.ofInt_natCast, BitVec.toNat_ofNat]; exact Nat.mod_eq_of_lt (by omega)
 show IntKind.u32.wrap ((BitVec.ofInt 32 (a : Int) ^^^ BitVec.ofInt 32 (b : Int)).toNat : Int) = _
 rw [BitVec.toNat_xor, h1, h2]
 simp [IntKind.wrap, IntKind.bits, IntKind.signed]
 omega
theorem bits_xor_u8 (a b : Nat) (ha : a < 256) (hb : b < 256) : bits .xor .u8 (a : Int) (b : Int) = ((a ^^^ b : Nat) : Int) := by
 have hx : a ^^^ b < 2 ^ 8 := Nat.xor_lt_two_pow (by omega) (by omega)
 have h1 : (BitVec.ofInt 8 (a : Int)).toNat = a := by
  rw [BitVec.ofInt_natCast, BitVec.toNat_ofNat]; exact Nat.mod_eq_of_lt (by omega)
 have h2 : (BitVec.ofInt 8 (b : Int)).toNat = b := by
  rw [BitVec.ofInt_natCast, BitVec.toNat_ofNat]; exact Nat.mod_eq_of_lt (by omega)
 show IntKind.u8.wrap ((BitVec.ofInt 8 (a : Int) ^^^ BitVec.ofInt 8 (b : Int)).toNat : Int) = _
 rw [BitVec.toNat_xor, h1, h2]
 simp [IntKind.wrap, IntKind.bits, IntKind.signed]
 omega
theorem bits_xor_full (a : Nat) (ha : a < 4294967296) : bits .xor .u32 (a : Int) 4294967295 = ((a ^^^ 4294967295 : Nat) : Int) := by
 simpa using bits_xor_u32 a 4294967295 ha (by decide)
theorem bits_xor_poly (a : Nat) (ha : a < 4294967296) : bits .xor .u32 (a : Int) 3988292384 = ((a ^^^ 3988292384 : Nat) : Int) := by
 simpa using bits_xor_u32 a 3988292384 ha (by decide)
theorem cstep_odd {s : Nat} (h : s % 2 = 1) : cstep s = s / 2 ^^^ 3988292384 := by unfold cstep; rw [if_pos h]
theorem cstep_not {s : Nat} (h : ¬ s % 2 = 1) : cstep s = s / 2 := by unfold cstep; rw [if_neg h]
theorem xor_odd {s : Nat} (hs : s < 4294967296) (h : s % 2 = 1) : bits .xor .u32 ((s : Int) / 2) 3988292384 = ((cstep s : Nat) : Int) := by
 have := bits_xor_poly (s / 2) (by omega)
 rw [cstep_odd h, ← this]
 simp
end Go.Proofs.YtfaehioeepolhabGreat
namespace Go.Proofs.YtfaehioeepolhabGreat
open Go.RowKit
def evn (n : Nat) : Nat := (n + 7) / 8 * 8
theorem evn_pad (a n : Nat) (h : a % 8 = 0) : n + padn (a + n) = evn n := by unfold padn evn; omega
theorem evn_le (n : Nat) : n ≤ evn n ∧ evn n ≤ n + 7 ∧ evn n % 8 = 0 := by unfold evn; omega
theorem join_mod8 (xss : List (List Nat)) : ∀ k, k ≤ xss.length → (join (xss.take k)).length % 8 = 0 := by
 intro k
 induction k with
 | zero => intro _; simp [join]
 | succ k ih =>
  intro h
  rw [join_snoc xss k (by omega), joinStep_len]
  have := ih (by omega)
  have h2 := evn_pad (join (xss.take k)).length xss[k].length this
  have h3 := (evn_le xss[k].length).2.2
  omega
theorem join_next (xss : List (List Nat)) (k : Nat) (hk : k < xss.length) : (join (xss.take (k + 1))).length = (join (xss.take k)).length + evn xss[k].length := by
 rw [join_snoc xss k hk, joinStep_len]
 have h2 := evn_pad (join (xss.take k)).length xss[k].length (join_mod8 xss k (by omega))
 omega
def lensM (bs : List (List Nat)) : List Nat := bs.flatMap fun b => digs b.length 4
theorem lensM_len (bs : List (List Nat)) : (lensM bs).length = 4 * bs.length := by
 induction bs with
 | nil => rfl
 | cons b bs ih =>
  unfold lensM at ih ⊢
  rw [List.flatMap_cons, List.length_append, ih, digs_len]; simp; omega
theorem lensM_snoc (bs : List (List Nat)) (k : Nat) (h : k < bs.length) : lensM (bs.take (k + 1)) = lensM (bs.take k) ++ digs bs[k].length 4 := by
 unfold lensM
 rw [List.take_succ_eq_append_getElem h, List.flatMap_append]; simp
theorem lensM_lt (bs : List (List Nat)) : ∀ x ∈ lensM bs, x < 256 := by
 intro x hx
 simp only [lensM, List.mem_flatMap] at hx
 obtain ⟨b, _, h⟩ := hx
 exact digs_lt _ _ x h
def crcM (xs : List Nat) : Nat := crcFold xs ^^^ 4294967295
def headM (K F C n : Nat) : List Nat := [67, 77, K, F] ++ digs C 2 ++ [n, 0]
theorem headM_len (K F C n : Nat) : (headM K F C n).length = 8 := by simp [headM, digs_len]
def bodyM (K F C : Nat) (bs : List (List Nat)) : List Nat := headM K F C bs.length ++ join (lensM bs :: bs)
def encM (K F C : Nat) (bs : List (List Nat)) : List Nat := bodyM K F C bs ++ digs (crcM (bodyM K F C bs)) 4
structure PM where
 kind : Int
 field : Int
 count : Int
 bufs : List (List Nat)
def msgOK (m : PM) : Bool := decide (1 ≤ m.kind ∧ m.kind ≤ 4 ∧ 0 ≤ m.field ∧ m.field < 12 ∧ 0 ≤ m.count ∧ m.count ≤ 1000 ∧ m.bufs.length ≤ 40 ∧ (m.field = 0 ∨ m.kind = 2 ∨ m.kind = 3))
def encB (m : PM) : List Nat := encM m.kind.toNat m.field.toNat m.count.toNat m.bufs
def encR (m : PM) : List Nat := if msgOK m = true ∧ (encB m).length ≤ 20000 then encB m else []
end Go.Proofs.YtfaehioeepolhabGreat
