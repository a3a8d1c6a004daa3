import Derived.WalkKit
namespace Go.Proofs.Ytcljakdcejhfiab
def bitN (bs : List Bool) (i : Nat) : Nat := if bs[i]?.getD false then 1 else 0
def low (bs : List Bool) (j : Nat) : Nat → Nat
  | 0 => 0
  | m + 1 => low bs j m + bitN bs (8 * j + m) * 2 ^ m
def hor (bs : List Bool) (j : Nat) : Nat → Nat
  | 0 => 0
  | n + 1 => hor bs j n * 2 + bitN bs (8 * j + 7 - n)
def nb (n : Nat) : Nat := if n % 8 = 0 then n / 8 else n / 8 + 1
def packed (bs : List Bool) : List Nat := (List.range (nb bs.length)).map fun j => low bs j 8
def packedTo (bs : List Bool) (i : Nat) : List Nat := (List.range (nb bs.length)).map fun j => low bs j (min 8 (i - 8 * j))
theorem bitN_le (bs : List Bool) (i : Nat) : bitN bs i ≤ 1 := by unfold bitN; split <;> omega
theorem low_lt (bs : List Bool) (j m : Nat) : low bs j m < 2 ^ m := by
  induction m with
  | zero => simp [low]
  | succ m ih =>
    have := bitN_le bs (8 * j + m)
    have h2 : bitN bs (8 * j + m) * 2 ^ m ≤ 1 * 2 ^ m := Nat.mul_le_mul_right _ this
    simp only [low, Nat.pow_succ]
    omega
theorem low_lt256 (bs : List Bool) (j m : Nat) (h : m ≤ 8) : low bs j m < 256 :=
  Nat.lt_of_lt_of_le (low_lt bs j m) (by have := Nat.pow_le_pow_right (n := 2) (by decide) h; simpa using this)
theorem nb_le (n : Nat) : nb n ≤ n := by unfold nb; split <;> omega
theorem packedTo_len (bs : List Bool) (i : Nat) : (packedTo bs i).length = nb bs.length := by simp [packedTo]
theorem packedTo_zero (bs : List Bool) : packedTo bs 0 = List.replicate (nb bs.length) 0 := by
  apply List.ext_getElem (by simp [packedTo])
  intro i h1 h2
  simp [packedTo, low]
theorem packedTo_all (bs : List Bool) : packedTo bs bs.length = packed bs := by
  unfold packedTo packed
  refine List.map_congr_left fun j hj => ?_
  have hj := List.mem_range.1 hj
  by_cases h : 8 ≤ bs.length - 8 * j
  · rw [show min 8 (bs.length - 8 * j) = 8 from by omega]
  · have hd : ∀ d, low bs j (min 8 (bs.length - 8 * j) + d) = low bs j (min 8 (bs.length - 8 * j)) := by
      intro d
      induction d with
      | zero => rfl
      | succ d ih =>
        rw [show min 8 (bs.length - 8 * j) + (d + 1) = (min 8 (bs.length - 8 * j) + d) + 1 from rfl, low, ih]
        have : bitN bs (8 * j + (min 8 (bs.length - 8 * j) + d)) = 0 := by
          unfold bitN
          rw [List.getElem?_eq_none (by omega)]
          rfl
        rw [this]; simp
    have := hd (8 - min 8 (bs.length - 8 * j))
    rw [show min 8 (bs.length - 8 * j) + (8 - min 8 (bs.length - 8 * j)) = 8 from by omega] at this
    exact this.symm
theorem packedTo_at (bs : List Bool) (i j : Nat) (h : j < nb bs.length) : (packedTo bs i)[j]? = some (low bs j (min 8 (i - 8 * j))) := by simp [packedTo, h]
theorem packedTo_succ (bs : List Bool) (i : Nat) (h : i < bs.length) : packedTo bs (i + 1) = (packedTo bs i).set (i / 8) (low bs (i / 8) (i % 8 + 1)) := by
  apply List.ext_getElem?
  intro j
  rw [List.getElem?_set, packedTo_len]
  by_cases hj : j < nb bs.length
  · rw [packedTo_at bs _ j hj, packedTo_at bs _ j hj]
    by_cases e : i / 8 = j
    · subst e
      rw [if_pos rfl, if_pos hj, show min 8 (i + 1 - 8 * (i / 8)) = i % 8 + 1 from by omega]
    · rw [if_neg e, show min 8 (i + 1 - 8 * j) = min 8 (i - 8 * j) from by omega]
  · have hn : i / 8 < nb bs.length := by unfold nb; split <;> omega
    rw [if_neg (by omega), List.getElem?_eq_none (by rw [packedTo_len]; omega), List.getElem?_eq_none (by rw [packedTo_len]; omega)]
theorem low_same (bs : List Bool) (i : Nat) (h : bs[i]?.getD false = false) : low bs (i / 8) (i % 8 + 1) = low bs (i / 8) (i % 8) := by
  have e : bitN bs (8 * (i / 8) + i % 8) = 0 := by
    rw [show 8 * (i / 8) + i % 8 = i from by omega]; simp [bitN, h]
  simp [low, e]
theorem low_up (bs : List Bool) (i : Nat) (h : bs[i]?.getD false = true) : low bs (i / 8) (i % 8 + 1) = low bs (i / 8) (i % 8) ||| 2 ^ (i % 8) := by
  have e : bitN bs (8 * (i / 8) + i % 8) = 1 := by
    rw [show 8 * (i / 8) + i % 8 = i from by omega]; simp [bitN, h]
  have := Nat.two_pow_add_eq_or_of_lt (low_lt bs (i / 8) (i % 8)) 1
  rw [Nat.mul_one] at this
  show low bs (i / 8) (i % 8) + bitN bs (8 * (i / 8) + i % 8) * 2 ^ (i % 8) = _
  rw [e, Nat.one_mul, Nat.or_comm, ← this]; omega
theorem packedTo_skip (bs : List Bool) (i : Nat) (h : i < bs.length) (hb : bs[i]?.getD false = false) : packedTo bs (i + 1) = packedTo bs i := by
  rw [packedTo_succ bs i h, low_same bs i hb]
  have hn : i / 8 < nb bs.length := by unfold nb; split <;> omega
  have := packedTo_at bs i (i / 8) hn
  rw [show min 8 (i - 8 * (i / 8)) = i % 8 from by omega] at this
  obtain ⟨h1, h2⟩ := List.getElem?_eq_some_iff.1 this
  rw [← h2, List.set_getElem_self]
theorem bits_or_u8 (a b : Nat) (ha : a < 256) (hb : b < 256) : bits .or .u8 (a : Int) (b : Int) = ((a ||| b : Nat) : Int) := by
  have hx : a ||| b < 2 ^ 8 := Nat.or_lt_two_pow (by omega) (by omega)
  have h1 : (BitVec.ofInt 8 (a : Int)).toNat = a := by
    rw [BitVec.ofInt_natCast, BitVec.toNat_ofNat]; exact Nat.mod_eq_of_lt (by omega)
  have h2 : (BitVec.ofInt 8 (b : Int)).toNat = b := by
    rw [BitVec.ofInt_natCast, BitVec.toNat_ofNat]; exact Nat.mod_eq_of_lt (by omega)
  show IntKind.u8.wrap ((BitVec.ofInt 8 (a : Int) ||| BitVec.ofInt 8 (b : Int)).toNat : Int) = _
  rw [BitVec.toNat_or, h1, h2]
  simp [IntKind.wrap, IntKind.bits, IntKind.signed]
  omega
theorem or_up (bs : List Bool) (i : Nat) (h : bs[i]?.getD false = true) : bits .or .u8 ((low bs (i / 8) (i % 8) : Nat) : Int) ((2 : Int) ^ (i % 8) % 256) = ((low bs (i / 8) (i % 8 + 1) : Nat) : Int) := by
  have h8 : 2 ^ (i % 8) < 256 := by have := Nat.pow_lt_pow_right (a := 2) (n := 8) (m := i % 8) (by decide) (by omega); simpa using this
  have e : ((2 : Int) ^ (i % 8) % 256) = ((2 ^ (i % 8) : Nat) : Int) := by
    rw [Int.natCast_pow]
    have : ((2 ^ (i % 8) : Nat) : Int) < 256 := by omega
    rw [Int.natCast_pow] at this
    have h0 : (0 : Int) ≤ (2 : Int) ^ (i % 8) := Int.pow_nonneg (by decide)
    exact Int.emod_eq_of_lt h0 this
  rw [e, bits_or_u8 _ _ (low_lt256 bs _ _ (by omega)) h8, low_up bs i h]
end Go.Proofs.Ytcljakdcejhfiab
