import Derived.Test.YtcljakdcejhfiabJJoinAligned1
import Derived.Test.YtcljakdcejhfiabJJoinAligned5
import Derived.Deep.Matrix
namespace Go.Proofs.Ytcljakdcejhfiab
open Go.ChangeShapes Go.WideShapes Go.ChangeAt Go.RowKit
def SSIn (w : World) (a : Option Addr) (len : Nat) : Prop := ∃ xss : List (List Nat), len = xss.length ∧ RdSSB w a xss
theorem ssIn_nil (w : World) : SSIn w none 0 := ⟨[], rfl, ⟨[], rfl, .inl rfl, fun i h => by simp at h⟩, Nat.zero_le _, fun ys h => by simp at h⟩
theorem ssIn_of {w : World} {a : Addr} {len cap : Nat} {A : Nat → Option Addr} {L C : Nat → Nat} {Z : Nat → List Int} (hl : len ≤ cap) (hm : cap ≤ maxLen)
    (h : ∀ r, r < cap → w.cell? (a.add r) = some (.slice (A r) (L r) (C r)) ∧ L r ≤ C r ∧ C r ≤ maxLen ∧ (Z r).length = C r ∧ (∀ n ∈ Z r, (Lit.int .u8 n).wf = true) ∧ (A r = none → C r = 0) ∧
        ∀ a', A r = some a' → 0 ≤ a'.block ∧ ∀ c, c < C r → w.cell? (a'.add c) = some (.int .u8 ((Z r).getD c 0))) : SSIn w (some a) len := by
  have row : ∀ r, r < cap → IsRow .u8 w (A r) (L r) (C r) (Z r) := by
    intro r hr
    obtain ⟨_, h2, h3, h4, h5, h6, h7⟩ := h r hr
    cases hA : A r with
    | none =>
      have hc := h6 hA
      have hz : Z r = [] := List.length_eq_zero_iff.1 (by omega)
      exact .inl ⟨rfl, by omega, hc, hz⟩
    | some a' => exact .inr ⟨a', rfl, h2, h3, h4, fun i hi => (h7 a' hA).2 i (by omega), h5⟩
  have each : ∀ r, r < cap → ∃ xs : List Nat, L r = xs.length ∧ (∀ x ∈ xs, x < 256) ∧ Rd w (A r) (byt xs) := fun r hr => (row r hr).bytes
  obtain ⟨X, hX⟩ := Go.Deep.choose_lt each
  refine ⟨(List.range len).map X, by simp, ⟨(List.range len).map (fun r => Value.slice (A r) (L r) (C r)), by simp, ?_, ?_⟩, by simp; omega, ?_⟩
  · by_cases h0 : len = 0
    · subst h0; exact .inl rfl
    · obtain ⟨b, off, spot⟩ := a
      have h1 := (h 0 (by omega)).1
      have hspot : spot = none := by simpa [Addr.add] using World.cell?_spot h1
      subst hspot
      refine .inr ⟨b, off, rfl, fun i hi => ?_⟩
      have hi' : i < len := by simpa using hi
      have h2 := (h i (by omega)).1
      have hadd : (⟨b, off, none⟩ : Addr).add i = ⟨b, off + i, none⟩ := by unfold Addr.add; split <;> simp_all
      rw [hadd] at h2
      rw [h2]
      simp
  · intro i hi
    have hi' : i < len := by simpa using hi
    obtain ⟨e1, _, e3⟩ := hX i (by omega)
    refine ⟨A i, C i, ?_, ?_, (h i (by omega)).2.2.2.2.2.1⟩
    · simp [hi', e1]
    · simpa using e3
  · intro ys hys
    obtain ⟨r, hr, rfl⟩ := List.mem_map.1 hys
    have hr' := List.mem_range.1 hr
    have := (hX r (by omega)).1
    have h3 := (h r (by omega)).2
    omega
end Go.Proofs.Ytcljakdcejhfiab
