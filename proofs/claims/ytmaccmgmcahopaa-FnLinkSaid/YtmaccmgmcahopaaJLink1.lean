/- Open, JoinMath, NumMath. -/
import Derived.Test.YtmaccmgmcahopaaJLink0
import Derived.ProofKit
import Derived.OpenShut
import Derived.ShutString
import Derived.ChangeOld
import Derived.Below
import Derived.Deep.Grids
import Derived.WalkKit
import Derived.Laws.Bits64
/- What came in, as the walks want it. -/
namespace Go.Proofs.Ytmaccmgmcahopaa
open Go.ChangeShapes Go.WideShapes Go.ChangeAt Go.RowKit

theorem own : ownKnob Try.prog.godebug = none := by kernel_rfl
theorem laidOut : laidOutB Try.prog = true := by kernel_rfl

/-- A slice of integers that came in: nil, or a row of numbers up to its capacity. -/
def IsRow (k : IntKind) (w : World) (a : Option Addr) (len cap : Nat) (zs : List Int) : Prop :=
  (a = none ∧ len = 0 ∧ cap = 0 ∧ zs = []) ∨
  ∃ x, a = some x ∧ len ≤ cap ∧ cap ≤ maxLen ∧ zs.length = cap ∧ (∀ i, i < zs.length → w.cell? (x.add i) = some (.int k (zs.getD i 0))) ∧ ∀ n ∈ zs, (Lit.int k n).wf = true

theorem IsRow.len {k : IntKind} {w : World} {a : Option Addr} {len cap : Nat} {zs : List Int} (h : IsRow k w a len cap zs) : len ≤ maxLen := by
  rcases h with ⟨_, rfl, _⟩ | ⟨x, _, hl, hm, _⟩
  · exact Nat.zero_le _
  · omega

theorem IsRow.room {k : IntKind} {w : World} {a : Option Addr} {len cap : Nat} {zs : List Int} (h : IsRow k w a len cap zs) : len ≤ cap ∧ (a = none → cap = 0) := by
  rcases h with ⟨_, rfl, rfl, _⟩ | ⟨x, rfl, hl, _⟩
  · exact ⟨Nat.le_refl _, fun _ => rfl⟩
  · exact ⟨hl, fun h => by cases h⟩

theorem IsRow.rd {k : IntKind} {w : World} {a : Option Addr} {len cap : Nat} {zs : List Int} (h : IsRow k w a len cap zs) :
    (zs.take len).length = len ∧ Rd w a ((zs.take len).map (Value.int k)) ∧ ∀ n ∈ zs.take len, (Lit.int k n).wf = true := by
  rcases h with ⟨_, rfl, _, rfl⟩ | ⟨x, rfl, hl, hm, hz, hc, hw⟩
  · exact ⟨rfl, .inl rfl, by simp⟩
  · refine ⟨by simp; omega, ?_, fun n hn => hw n (List.mem_of_mem_take hn)⟩
    by_cases h0 : len = 0
    · subst h0; exact .inl rfl
    · obtain ⟨b, off, spot⟩ := x
      have h1 := hc 0 (by omega)
      have hspot : spot = none := by simpa [Addr.add] using World.cell?_spot h1
      subst hspot
      refine .inr ⟨b, off, rfl, fun i hi => ?_⟩
      have hi' : i < zs.length := by simp at hi; omega
      have h2 := hc i hi'
      have hadd : (⟨b, off, none⟩ : Addr).add i = ⟨b, off + i, none⟩ := by unfold Addr.add; split <;> simp_all
      rw [hadd] at h2
      rw [h2]
      simp [List.getD, hi']

theorem IsRow.bytes {w : World} {a : Option Addr} {len cap : Nat} {zs : List Int} (h : IsRow .u8 w a len cap zs) :
    ∃ xs : List Nat, len = xs.length ∧ (∀ x ∈ xs, x < 256) ∧ Rd w a (byt xs) := by
  obtain ⟨h1, h2, h3⟩ := h.rd
  refine ⟨(zs.take len).map Int.toNat, by simpa using h1.symm, ?_, ?_⟩
  · intro x hx
    obtain ⟨n, hn, rfl⟩ := List.mem_map.1 hx
    have := bounds_u8 (h3 n hn)
    omega
  · have e : byt ((zs.take len).map Int.toNat) = (zs.take len).map (Value.int .u8) := by
      simp only [byt, List.map_map]
      refine List.map_congr_left fun n hn => ?_
      have := bounds_u8 (h3 n hn)
      simp only [Function.comp]
      rw [show ((n.toNat : Nat) : Int) = n from by omega]
    rw [e]; exact h2

theorem IsRow.ints {w : World} {a : Option Addr} {len cap : Nat} {zs : List Int} (h : IsRow .i64 w a len cap zs) :
    ∃ xs : List Int, len = xs.length ∧ (∀ x ∈ xs, IntIn x) ∧ Rd w a (ints xs) := by
  obtain ⟨h1, h2, h3⟩ := h.rd
  exact ⟨zs.take len, h1.symm, fun x hx => bounds_i64 (h3 x hx), h2⟩

/-- What the walks are told of a slice that came in. -/
def BytesIn (w : World) (a : Option Addr) (len cap : Nat) : Prop := len ≤ maxLen ∧ (len ≤ cap ∧ (a = none → cap = 0)) ∧ ∃ xs : List Nat, len = xs.length ∧ (∀ x ∈ xs, x < 256) ∧ Rd w a (byt xs)
def IntsIn (w : World) (a : Option Addr) (len cap : Nat) : Prop := len ≤ maxLen ∧ (len ≤ cap ∧ (a = none → cap = 0)) ∧ ∃ xs : List Int, len = xs.length ∧ (∀ x ∈ xs, IntIn x) ∧ Rd w a (ints xs)
def BoolsIn (w : World) (a : Option Addr) (len : Nat) : Prop := len ≤ maxLen ∧ ∃ xs : List Bool, len = xs.length ∧ Rd w a (bls xs)

theorem boolsIn_of {w : World} {a : Addr} {len cap : Nat} {B : Nat → Bool} (hl : len ≤ cap) (hm : cap ≤ maxLen) (hc : ∀ i, i < cap → w.cell? (a.add i) = some (.bool (B i))) : BoolsIn w (some a) len := by
  refine ⟨by omega, (List.range len).map B, by simp, ?_⟩
  by_cases h0 : len = 0
  · subst h0; exact .inl rfl
  · obtain ⟨b, off, spot⟩ := a
    have h1 := hc 0 (by omega)
    have hspot : spot = none := by simpa [Addr.add] using World.cell?_spot h1
    subst hspot
    refine .inr ⟨b, off, rfl, fun i hi => ?_⟩
    have hi' : i < len := by simpa [bls] using hi
    have h2 := hc i (by omega)
    have hadd : (⟨b, off, none⟩ : Addr).add i = ⟨b, off + i, none⟩ := by unfold Addr.add; split <;> simp_all
    rw [hadd] at h2
    rw [h2]
    simp [bls]

end Go.Proofs.Ytmaccmgmcahopaa

/- Parts at multiples of 8, plain. No program. -/
namespace Go.Proofs.Ytmaccmgmcahopaa

def padn (n : Nat) : Nat := (8 - n % 8) % 8
def joinStep (acc ys : List Nat) : List Nat := (acc ++ ys) ++ List.replicate (padn (acc ++ ys).length) 0
def join (xss : List (List Nat)) : List Nat := xss.foldl joinStep []
theorem join_snoc (xss : List (List Nat)) (k : Nat) (h : k < xss.length) : join (xss.take (k + 1)) = joinStep (join (xss.take k)) xss[k] := by
  unfold join
  rw [List.take_succ_eq_append_getElem h, List.foldl_append]; rfl
theorem padn_le (n : Nat) : padn n ≤ 7 := by unfold padn; omega
theorem padn_done {n p : Nat} (h : p ≤ padn n) : (n + p) % 8 = 0 ↔ p = padn n := by unfold padn at *; omega
theorem joinStep_len (acc ys : List Nat) : (joinStep acc ys).length = acc.length + ys.length + padn (acc.length + ys.length) := by simp [joinStep]; omega
theorem joinStep_lt {acc ys : List Nat} (h1 : ∀ x ∈ acc, x < 256) (h2 : ∀ x ∈ ys, x < 256) : ∀ x ∈ joinStep acc ys, x < 256 := by
  intro x hx
  unfold joinStep at hx
  rcases List.mem_append.1 hx with h | h
  · rcases List.mem_append.1 h with h | h
    · exact h1 x h
    · exact h2 x h
  · have := List.eq_of_mem_replicate h; omega

end Go.Proofs.Ytmaccmgmcahopaa

/- Numbers in bytes, plain. No program. -/
namespace Go.Proofs.Ytmaccmgmcahopaa
open Go.RowKit

/-- The number of some bytes, lowest first, without a sign. -/
def num : List Nat → Nat
  | [] => 0
  | y :: ys => y + 256 * num ys
theorem num_append (xs ys : List Nat) : num (xs ++ ys) = num xs + 256 ^ xs.length * num ys := by
  induction xs with
  | nil => simp [num]
  | cons x xs ih =>
    simp only [List.cons_append, num, ih, List.length_cons, Nat.pow_succ, Nat.mul_add]
    rw [Nat.mul_assoc (256 ^ xs.length), Nat.mul_left_comm (256 ^ xs.length)]
    omega
theorem num_lt (xs : List Nat) (h : ∀ x ∈ xs, x < 256) : num xs < 256 ^ xs.length := by
  induction xs with
  | nil => simp [num]
  | cons x xs ih =>
    have h1 := ih (fun y hy => h y (List.mem_cons_of_mem _ hy))
    have h2 := h x List.mem_cons_self
    simp only [num, List.length_cons, Nat.pow_succ]
    omega
theorem num_snoc (xs : List Nat) (k : Nat) (h : k < xs.length) : num (xs.take (k + 1)) = num (xs.take k) + xs[k] * 256 ^ k := by
  rw [List.take_succ_eq_append_getElem h, num_append]
  simp only [num, List.length_take, Nat.mul_zero, Nat.add_zero]
  rw [Nat.min_eq_left (by omega), Nat.mul_comm]
theorem num_drop (xs : List Nat) (k : Nat) (h : k < xs.length) : num (xs.drop k) = xs[k] + 256 * num (xs.drop (k + 1)) := by
  rw [List.drop_eq_getElem_cons h]; rfl

theorem bits_or_u64 (a b : Nat) (ha : a < 18446744073709551616) (hb : b < 18446744073709551616) : bits .or .u64 (a : Int) (b : Int) = ((a ||| b : Nat) : Int) := by
  have hx : a ||| b < 2 ^ 64 := Nat.or_lt_two_pow (by omega) (by omega)
  have h1 : (BitVec.ofInt 64 (a : Int)).toNat = a := by
    rw [BitVec.ofInt_natCast, BitVec.toNat_ofNat]; exact Nat.mod_eq_of_lt (by omega)
  have h2 : (BitVec.ofInt 64 (b : Int)).toNat = b := by
    rw [BitVec.ofInt_natCast, BitVec.toNat_ofNat]; exact Nat.mod_eq_of_lt (by omega)
  show IntKind.u64.wrap ((BitVec.ofInt 64 (a : Int) ||| BitVec.ofInt 64 (b : Int)).toNat : Int) = _
  rw [BitVec.toNat_or, h1, h2, IntKind.wrap_u64]
  omega
theorem pow_256 (k : Nat) : 2 ^ (8 * k) = 256 ^ k := by rw [Nat.pow_mul]
theorem or_step (xs : List Nat) (k : Nat) (h : k < xs.length) (hx : ∀ x ∈ xs, x < 256) (h8 : xs.length ≤ 8) :
    bits .or .u64 ((num (xs.take k) : Nat) : Int) (IntKind.u64.wrap ((xs[k] : Int) * 2 ^ (8 * k))) = ((num (xs.take (k + 1)) : Nat) : Int) := by
  have hN := num_lt (xs.take k) (fun x hm => hx x (List.mem_of_mem_take hm))
  rw [List.length_take, Nat.min_eq_left (by omega)] at hN
  have hb : xs[k] < 256 := hx _ (List.getElem_mem _)
  have hp : 256 ^ k ≤ 256 ^ 7 := Nat.pow_le_pow_right (by decide) (by omega)
  have hP : xs[k] * 256 ^ k < 18446744073709551616 := by
    have h1 : xs[k] * 256 ^ k ≤ 255 * 256 ^ k := Nat.mul_le_mul_right _ (by omega)
    have h2 : 255 * 256 ^ k ≤ 255 * 256 ^ 7 := Nat.mul_le_mul_left _ hp
    have h3 : 255 * 256 ^ 7 < 18446744073709551616 := by decide
    omega
  have e : IntKind.u64.wrap ((xs[k] : Int) * 2 ^ (8 * k)) = ((xs[k] * 256 ^ k : Nat) : Int) := by
    have e1 : ((xs[k] : Int) * 2 ^ (8 * k)) = ((xs[k] * 256 ^ k : Nat) : Int) := by
      rw [← pow_256, Int.natCast_mul, Int.natCast_pow]; rfl
    rw [e1, IntKind.wrap_u64]
    omega
  have hlt : num (xs.take k) < 18446744073709551616 := by
    have h3 : 256 ^ 7 < 18446744073709551616 := by decide
    omega
  rw [e, bits_or_u64 _ _ hlt hP, num_snoc xs k h]
  have hor := Nat.two_pow_add_eq_or_of_lt (i := 8 * k) (b := num (xs.take k)) (by rw [pow_256]; exact hN) xs[k]
  rw [pow_256, Nat.mul_comm] at hor
  rw [Nat.or_comm, ← hor, Nat.add_comm]

theorem wr32 (n : Int) : wrap32 n = IntKind.i32.wrap n := by
  unfold wrap32; simp [IntKind.wrap, IntKind.bits, IntKind.signed]; split <;> omega
theorem wr64 (n : Int) : wrap64 n = IntKind.i64.wrap n := by
  unfold wrap64; simp [IntKind.wrap, IntKind.bits, IntKind.signed]; split <;> omega

/-- The numbers of the chunks, each by its sign. -/
def chunk (xs : List Nat) (W j : Nat) : List Nat := (xs.drop (W * j)).take W
def uniR (W : Nat) (k : IntKind) (xs : List Nat) : List Int × Int :=
  if xs.length % W = 0 then ((List.range (xs.length / W)).map fun j => k.wrap ((num (chunk xs W j) : Nat) : Int), 0) else ([], 3)
def uniL (W : Nat) (k : IntKind) (xs : List Nat) : List Int := (List.range (xs.length / W)).map fun j => k.wrap ((num (chunk xs W j) : Nat) : Int)
def uni (xs : List Nat) (n : Int) : List Int × Int :=
  if n = 1 then uniR 1 .i8 xs else if n = 2 then uniR 2 .i16 xs else if n = 4 then uniR 4 .i32 xs else if n = 8 then uniR 8 .i64 xs else ([], 1)

theorem uniL_len (W : Nat) (k : IntKind) (xs : List Nat) : (uniL W k xs).length = xs.length / W := by simp [uniL]
theorem uniL_at (W : Nat) (k : IntKind) (xs : List Nat) (j : Nat) (h : j < xs.length / W) : (uniL W k xs)[j]? = some (k.wrap ((num (chunk xs W j) : Nat) : Int)) := by simp [uniL, h]
theorem uniL_snoc (W : Nat) (k : IntKind) (xs : List Nat) (j : Nat) (h : j < xs.length / W) : (uniL W k xs).take (j + 1) = (uniL W k xs).take j ++ [k.wrap ((num (chunk xs W j) : Nat) : Int)] := by
  rw [List.take_succ_eq_append_getElem (by rw [uniL_len]; exact h)]
  simp [uniL]
theorem uniR_ok {W : Nat} {k : IntKind} {xs : List Nat} (h : xs.length % W = 0) : uniR W k xs = (uniL W k xs, 0) := by unfold uniR; rw [if_pos h]; rfl
theorem uniR_bad {W : Nat} {k : IntKind} {xs : List Nat} (h : xs.length % W ≠ 0) : uniR W k xs = ([], 3) := by unfold uniR; rw [if_neg h]
theorem chunk_len {xs : List Nat} {W j : Nat} (h : W * j + W ≤ xs.length) : (chunk xs W j).length = W := by simp [chunk]; omega
theorem chunk_lt {xs : List Nat} {W j : Nat} (hx : ∀ x ∈ xs, x < 256) : ∀ x ∈ chunk xs W j, x < 256 := fun x h => hx x (List.mem_of_mem_drop (List.mem_of_mem_take h))
theorem chunk_at {xs : List Nat} {W j i : Nat} (h : i < (chunk xs W j).length) (h2 : W * j + i < xs.length) : (chunk xs W j)[i] = xs[W * j + i] := by simp [chunk]
theorem uniR_short (W : Nat) (k : IntKind) (xs : List Nat) : (uniR W k xs).1.length ≤ 8 * xs.length := by
  unfold uniR
  split
  · simp; have := Nat.div_le_self xs.length W; omega
  · simp
theorem uni_short (xs : List Nat) (n : Int) : (uni xs n).1.length ≤ 8 * xs.length := by
  unfold uni
  repeat' split
  · exact uniR_short 1 _ _
  · exact uniR_short 2 _ _
  · exact uniR_short 4 _ _
  · exact uniR_short 8 _ _
  · simp

theorem chunk_num {xs : List Nat} {W j : Nat} (hx : ∀ x ∈ xs, x < 256) (hW : 1 ≤ W) (hin : W * j + W ≤ xs.length) :
    ∃ lo, num (chunk xs W j) = lo + xs[W * j + W - 1] * 256 ^ (W - 1) ∧ lo < 256 ^ (W - 1) := by
  have hl := chunk_len hin
  have hs := num_snoc (chunk xs W j) (W - 1) (by omega)
  rw [show W - 1 + 1 = W from by omega, List.take_of_length_le (by omega)] at hs
  refine ⟨num ((chunk xs W j).take (W - 1)), ?_, ?_⟩
  · rw [hs, chunk_at (by omega) (by omega)]
    have e : xs[W * j + (W - 1)]'(by omega) = xs[W * j + W - 1]'(by omega) := by congr 1; omega
    rw [e]
  · have := num_lt ((chunk xs W j).take (W - 1)) (fun x h => chunk_lt hx x (List.mem_of_mem_take h))
    rwa [List.length_take, Nat.min_eq_left (by omega)] at this
theorem sign_i8 (N : Nat) (h : N < 256) : IntKind.i8.wrap (N : Int) = if 128 ≤ N then (N : Int) - 256 else N := by
  simp only [IntKind.wrap, IntKind.bits, IntKind.signed]; simp; split <;> split <;> omega
theorem sign_i16 (N : Nat) (h : N < 65536) : IntKind.i16.wrap (N : Int) = if 32768 ≤ N then (N : Int) - 65536 else N := by
  simp only [IntKind.wrap, IntKind.bits, IntKind.signed]; simp; split <;> split <;> omega
theorem sign_i32 (N : Nat) (h : N < 4294967296) : IntKind.i32.wrap (N : Int) = if 2147483648 ≤ N then (N : Int) - 4294967296 else N := by
  simp only [IntKind.wrap, IntKind.bits, IntKind.signed]; simp; split <;> split <;> omega
theorem wrap64_small (N : Nat) (h : N < 4294967296) : wrap64 (N : Int) = N := by unfold wrap64; omega

end Go.Proofs.Ytmaccmgmcahopaa
