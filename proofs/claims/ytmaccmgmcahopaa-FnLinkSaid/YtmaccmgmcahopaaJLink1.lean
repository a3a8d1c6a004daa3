import Derived.Test.YtmaccmgmcahopaaJLink0
import Derived.ProofKit
import Derived.OpenShut
import Derived.ShutString
import Derived.ChangeOld
import Derived.Below
import Derived.Deep.Grids
import Derived.WalkKit
import Derived.Laws.Bits64
namespace Go.Proofs.Ytmaccmgmcahopaa
open Go.ChangeShapes Go.WideShapes Go.ChangeAt Go.RowKit
theorem own : ownKnob Try.prog.godebug = none := by kernel_rfl
theorem laidOut : laidOutB Try.prog = true := by kernel_rfl
def IsRow (k : IntKind) (w : World) (a : Option Addr) (len cap : Nat) (zs : List Int) : Prop :=
  (a = none ∧ len = 0 ∧ cap = 0 ∧ zs = []) ∨
  ∃ x, a = some x ∧ len ≤ cap ∧ cap ≤ maxLen ∧ zs.length = cap ∧ (∀ i, i < zs.length → w.cell? (x.add i) = some (.int k (zs.getD i 0))) ∧ ∀ n ∈ zs, (Lit.int k n).wf = true
theorem IsRow.len {k : IntKind} {w : World} {a : Option Addr} {len cap : Nat} {zs : List Int} (h : IsRow k w a len cap zs) : len ≤ maxLen := by
  rcases h with ⟨_, rfl, _⟩ | ⟨x, _, hl, hm, _⟩
  · exact Nat.zero_le _
  · omega
theorem IsRow.room {k : IntKind} {w : World} {a : Option Addr} {len cap : Nat} {zs : List Int} (h : IsRow k w a len cap zs) : len ≤ cap ∧ (a = none → cap = 0) := by
  rcases h with ⟨_, rfl, rfl, _⟩ | ⟨x, rfl, hl, _⟩
  · exact ⟨Nat.le_refl _, fun _ => rfl⟩
  · exact ⟨hl, fun h => by cases h⟩
theorem IsRow.rd {k : IntKind} {w : World} {a : Option Addr} {len cap : Nat} {zs : List Int} (h : IsRow k w a len cap zs) :
    (zs.take len).length = len ∧ Rd w a ((zs.take len).map (Value.int k)) ∧ ∀ n ∈ zs.take len, (Lit.int k n).wf = true := by
  rcases h with ⟨_, rfl, _, rfl⟩ | ⟨x, rfl, hl, hm, hz, hc, hw⟩
  · exact ⟨rfl, .inl rfl, by simp⟩
  · refine ⟨by simp; omega, ?_, fun n hn => hw n (List.mem_of_mem_take hn)⟩
    by_cases h0 : len = 0
    · subst h0; exact .inl rfl
    · obtain ⟨b, off, spot⟩ := x
      have h1 := hc 0 (by omega)
      have hspot : spot = none := by simpa [Addr.add] using World.cell?_spot h1
      subst hspot
      refine .inr ⟨b, off, rfl, fun i hi => ?_⟩
      have hi' : i < zs.length := by simp at hi; omega
      have h2 := hc i hi'
      have hadd : (⟨b, off, none⟩ : Addr).add i = ⟨b, off + i, none⟩ := by unfold Addr.add; split <;> simp_all
      rw [hadd] at h2
      rw [h2]
      simp [List.getD, hi']
theorem IsRow.bytes {w : World} {a : Option Addr} {len cap : Nat} {zs : List Int} (h : IsRow .u8 w a len cap zs) :
    ∃ xs : List Nat, len = xs.length ∧ (∀ x ∈ xs, x < 256) ∧ Rd w a (byt xs) := by
  obtain ⟨h1, h2, h3⟩ := h.rd
  refine ⟨(zs.take len).map Int.toNat, by simpa using h1.symm, ?_, ?_⟩
  · intro x hx
    obtain ⟨n, hn, rfl⟩ := List.mem_map.1 hx
    have := bounds_u8 (h3 n hn)
    omega
  · have e : byt ((zs.take len).map Int.toNat) = (zs.take len).map (Value.int .u8) := by
      simp only [byt, List.map_map]
      refine List.map_congr_left fun n hn => ?_
      have := bounds_u8 (h3 n hn)
      simp only [Function.comp]
      rw [show ((n.toNat : Nat) : Int) = n from by omega]
    rw [e]; exact h2
def BytesIn (w : World) (a : Option Addr) (len cap : Nat) : Prop := len ≤ maxLen ∧ (len ≤ cap ∧ (a = none → cap = 0)) ∧ ∃ xs : List Nat, len = xs.length ∧ (∀ x ∈ xs, x < 256) ∧ Rd w a (byt xs)
end Go.Proofs.Ytmaccmgmcahopaa
namespace Go.Proofs.Ytmaccmgmcahopaa
end Go.Proofs.Ytmaccmgmcahopaa
namespace Go.Proofs.Ytmaccmgmcahopaa
open Go.RowKit
def num : List Nat → Nat
  | [] => 0
  | y :: ys => y + 256 * num ys
theorem num_append (xs ys : List Nat) : num (xs ++ ys) = num xs + 256 ^ xs.length * num ys := by
  induction xs with
  | nil => simp [num]
  | cons x xs ih =>
    simp only [List.cons_append, num, ih, List.length_cons, Nat.pow_succ, Nat.mul_add]
    rw [Nat.mul_assoc (256 ^ xs.length), Nat.mul_left_comm (256 ^ xs.length)]
    omega
theorem num_lt (xs : List Nat) (h : ∀ x ∈ xs, x < 256) : num xs < 256 ^ xs.length := by
  induction xs with
  | nil => simp [num]
  | cons x xs ih =>
    have h1 := ih (fun y hy => h y (List.mem_cons_of_mem _ hy))
    have h2 := h x List.mem_cons_self
    simp only [num, List.length_cons, Nat.pow_succ]
    omega
theorem num_snoc (xs : List Nat) (k : Nat) (h : k < xs.length) : num (xs.take (k + 1)) = num (xs.take k) + xs[k] * 256 ^ k := by
  rw [List.take_succ_eq_append_getElem h, num_append]
  simp only [num, List.length_take, Nat.mul_zero, Nat.add_zero]
  rw [Nat.min_eq_left (by omega), Nat.mul_comm]
theorem bits_or_u64 (a b : Nat) (ha : a < 18446744073709551616) (hb : b < 18446744073709551616) : bits .or .u64 (a : Int) (b : Int) = ((a ||| b : Nat) : Int) := by
  have hx : a ||| b < 2 ^ 64 := Nat.or_lt_two_pow (by omega) (by omega)
  have h1 : (BitVec.ofInt 64 (a : Int)).toNat = a := by
    rw [BitVec.ofInt_natCast, BitVec.toNat_ofNat]; exact Nat.mod_eq_of_lt (by omega)
  have h2 : (BitVec.ofInt 64 (b : Int)).toNat = b := by
    rw [BitVec.ofInt_natCast, BitVec.toNat_ofNat]; exact Nat.mod_eq_of_lt (by omega)
  show IntKind.u64.wrap ((BitVec.ofInt 64 (a : Int) ||| BitVec.ofInt 64 (b : Int)).toNat : Int) = _
  rw [BitVec.toNat_or, h1, h2, IntKind.wrap_u64]
  omega
theorem pow_256 (k : Nat) : 2 ^ (8 * k) = 256 ^ k := by rw [Nat.pow_mul]
theorem or_step (xs : List Nat) (k : Nat) (h : k < xs.length) (hx : ∀ x ∈ xs, x < 256) (h8 : xs.length ≤ 8) :
    bits .or .u64 ((num (xs.take k) : Nat) : Int) (IntKind.u64.wrap ((xs[k] : Int) * 2 ^ (8 * k))) = ((num (xs.take (k + 1)) : Nat) : Int) := by
  have hN := num_lt (xs.take k) (fun x hm => hx x (List.mem_of_mem_take hm))
  rw [List.length_take, Nat.min_eq_left (by omega)] at hN
  have hb : xs[k] < 256 := hx _ (List.getElem_mem _)
  have hp : 256 ^ k ≤ 256 ^ 7 := Nat.pow_le_pow_right (by decide) (by omega)
  have hP : xs[k] * 256 ^ k < 18446744073709551616 := by
    have h1 : xs[k] * 256 ^ k ≤ 255 * 256 ^ k := Nat.mul_le_mul_right _ (by omega)
    have h2 : 255 * 256 ^ k ≤ 255 * 256 ^ 7 := Nat.mul_le_mul_left _ hp
    have h3 : 255 * 256 ^ 7 < 18446744073709551616 := by decide
    omega
  have e : IntKind.u64.wrap ((xs[k] : Int) * 2 ^ (8 * k)) = ((xs[k] * 256 ^ k : Nat) : Int) := by
    have e1 : ((xs[k] : Int) * 2 ^ (8 * k)) = ((xs[k] * 256 ^ k : Nat) : Int) := by
      rw [← pow_256, Int.natCast_mul, Int.natCast_pow]; rfl
    rw [e1, IntKind.wrap_u64]
    omega
  have hlt : num (xs.take k) < 18446744073709551616 := by
    have h3 : 256 ^ 7 < 18446744073709551616 := by decide
    omega
  rw [e, bits_or_u64 _ _ hlt hP, num_snoc xs k h]
  have hor := Nat.two_pow_add_eq_or_of_lt (i := 8 * k) (b := num (xs.take k)) (by rw [pow_256]; exact hN) xs[k]
  rw [pow_256, Nat.mul_comm] at hor
  rw [Nat.or_comm, ← hor, Nat.add_comm]
theorem wr64 (n : Int) : wrap64 n = IntKind.i64.wrap n := by
  unfold wrap64; simp [IntKind.wrap, IntKind.bits, IntKind.signed]; split <;> omega
theorem wrap64_small (N : Nat) (h : N < 4294967296) : wrap64 (N : Int) = N := by unfold wrap64; omega
end Go.Proofs.Ytmaccmgmcahopaa
