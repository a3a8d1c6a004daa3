import Derived.Test.YtfaehioeepolhaaGreatJValidReceiver0
import Derived.ProofKit
import Derived.OpenShut
import Derived.ShutString
import Derived.ChangeOld
import Derived.Below
import Derived.Deep.Grids
namespace Go.Proofs.YtfaehioeepolhaaGreat
open Go.ChangeShapes Go.WideShapes Go.ChangeAt Go.RowKit
theorem own : ownKnob Tryz.prog.godebug = none := by kernel_rfl
theorem laidOut : laidOutB Tryz.prog = true := by kernel_rfl
def IsRow (k : IntKind) (w : World) (a : Option Addr) (len cap : Nat) (zs : List Int) : Prop :=
  (a = none ∧ len = 0 ∧ cap = 0 ∧ zs = []) ∨
  ∃ x, a = some x ∧ len ≤ cap ∧ cap ≤ maxLen ∧ zs.length = cap ∧ (∀ i, i < zs.length → w.cell? (x.add i) = some (.int k (zs.getD i 0))) ∧ ∀ n ∈ zs, (Lit.int k n).wf = true
theorem IsRow.len {k : IntKind} {w : World} {a : Option Addr} {len cap : Nat} {zs : List Int} (h : IsRow k w a len cap zs) : len ≤ maxLen := by
  rcases h with ⟨_, rfl, _⟩ | ⟨x, _, hl, hm, _⟩
  · exact Nat.zero_le _
  · omega
theorem IsRow.rd {k : IntKind} {w : World} {a : Option Addr} {len cap : Nat} {zs : List Int} (h : IsRow k w a len cap zs) :
    (zs.take len).length = len ∧ Rd w a ((zs.take len).map (Value.int k)) ∧ ∀ n ∈ zs.take len, (Lit.int k n).wf = true := by
  rcases h with ⟨_, rfl, _, rfl⟩ | ⟨x, rfl, hl, hm, hz, hc, hw⟩
  · exact ⟨rfl, .inl rfl, by simp⟩
  · refine ⟨by simp; omega, ?_, fun n hn => hw n (List.mem_of_mem_take hn)⟩
    by_cases h0 : len = 0
    · subst h0; exact .inl rfl
    · obtain ⟨b, off, spot⟩ := x
      have h1 := hc 0 (by omega)
      have hspot : spot = none := by simpa [Addr.add] using World.cell?_spot h1
      subst hspot
      refine .inr ⟨b, off, rfl, fun i hi => ?_⟩
      have hi' : i < zs.length := by simp at hi; omega
      have h2 := hc i hi'
      have hadd : (⟨b, off, none⟩ : Addr).add i = ⟨b, off + i, none⟩ := by unfold Addr.add; split <;> simp_all
      rw [hadd] at h2
      rw [h2]
      simp [List.getD, hi']
theorem IsRow.bytes {w : World} {a : Option Addr} {len cap : Nat} {zs : List Int} (h : IsRow .u8 w a len cap zs) :
    ∃ xs : List Nat, len = xs.length ∧ (∀ x ∈ xs, x < 256) ∧ Rd w a (byt xs) := by
  obtain ⟨h1, h2, h3⟩ := h.rd
  refine ⟨(zs.take len).map Int.toNat, by simpa using h1.symm, ?_, ?_⟩
  · intro x hx
    obtain ⟨n, hn, rfl⟩ := List.mem_map.1 hx
    have := bounds_u8 (h3 n hn)
    omega
  · have e : byt ((zs.take len).map Int.toNat) = (zs.take len).map (Value.int .u8) := by
      simp only [byt, List.map_map]
      refine List.map_congr_left fun n hn => ?_
      have := bounds_u8 (h3 n hn)
      simp only [Function.comp]
      rw [show ((n.toNat : Nat) : Int) = n from by omega]
    rw [e]; exact h2
theorem IsRow.ints {w : World} {a : Option Addr} {len cap : Nat} {zs : List Int} (h : IsRow .i64 w a len cap zs) :
    ∃ xs : List Int, len = xs.length ∧ (∀ x ∈ xs, IntIn x) ∧ Rd w a (ints xs) := by
  obtain ⟨h1, h2, h3⟩ := h.rd
  exact ⟨zs.take len, h1.symm, fun x hx => bounds_i64 (h3 x hx), h2⟩
end Go.Proofs.YtfaehioeepolhaaGreat
namespace Go.Proofs.YtfaehioeepolhaaGreat
open Go.RowKit
def rest (l : Int) (n : Nat) : Int := if l - n < 0 then -1 else l - n
theorem rest_two {l : Int} {n m : Nat} (h : 0 ≤ rest l n) : rest (rest l n) m = rest l (n + m) := by
  unfold rest at *
  by_cases h1 : l - n < 0
  · rw [if_pos h1] at h; omega
  · rw [if_neg h1]
    by_cases h2 : l - n - m < 0
    · rw [if_pos h2, if_pos (by omega)]
    · rw [if_neg h2, if_neg (by omega)]; omega
theorem rest_neg {l : Int} {n m : Nat} (h : rest l n < 0) : rest l (n + m) = -1 := by
  unfold rest at *
  by_cases h1 : l - n < 0
  · rw [if_pos (by omega)]
  · rw [if_neg h1] at h; omega
theorem rest_le {l : Int} {n : Nat} (h : l ≤ 1048576) : rest l n ≤ 1048576 := by unfold rest; split <;> omega
theorem rest_fits {l : Int} {n : Nat} (h : 0 ≤ rest l n) : (n : Int) ≤ l := by unfold rest at h; split at h <;> omega
theorem rest_neg1 {l : Int} {n : Nat} (h : rest l n < 0) : rest l n = -1 := by unfold rest at *; split <;> simp_all <;> omega
set_option maxHeartbeats 400000 in
theorem szBytes_any (a : Option Addr) (n cap : Nat) (l : Int) (w : World) (hn : n ≤ maxLen) (h0 : 0 ≤ l) (h1 : l ≤ 1048576) :
    Calls Tryz.prog 83 #[.slice a n cap, .int .i64 l] w fun e w' => e = .returned (.int .i64 (rest l n)) ∧ w' = w := by
  unfold maxLen at hn
  unfold rest
  by_cases h : l - n < 0
  · rw [if_pos h]
    go_enter Tryz.func83, Tryz.ntmps83
    go_wp2
    go_ret
    exact ⟨rfl, rfl⟩
  · rw [if_neg h]
    go_enter Tryz.func83, Tryz.ntmps83
    go_wp2
    go_ret
    exact ⟨rfl, rfl⟩
end Go.Proofs.YtfaehioeepolhaaGreat
