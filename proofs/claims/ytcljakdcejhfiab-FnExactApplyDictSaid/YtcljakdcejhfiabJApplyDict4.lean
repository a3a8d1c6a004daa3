import Derived.Test.YtcljakdcejhfiabJApplyDict3
import Derived.ProofKit
import Derived.OpenShut
import Derived.ShutString
import Derived.ChangeOld
import Derived.Below
import Derived.Deep.Grids
import Derived.Deep.Slices
import Derived.ChangeArms
namespace Go.Proofs.Ytcljakdcejhfiab
open Go.ChangeShapes Go.WideShapes Go.ChangeAt Go.RowKit
section
variable {H : Type} (enc : TypeId × Value → H) (P : Program) (w : World)
def Opens {α : Type} (t : TypeId) (c : Cod α) : Prop :=
  ∀ fuel cs x, DataW.trod enc P w 0 (fun _ => true) true fuel t cs = some x → ∃ y, c.rd w y cs
variable {enc P w}
theorem opens_byte {t : TypeId} (ht : P.underlying t = some (.int .u8)) : Opens enc P w t cByte := by
  intro fuel cs x h
  obtain ⟨n, rfl, _, hw⟩ := DataW.trod_int ht h
  have hb := bounds_u8 hw
  refine ⟨n.toNat, ?_, by omega⟩
  rw [show ((n.toNat : Nat) : Int) = n from by omega]
theorem addr_add (b off i : Nat) : (⟨b, off, none⟩ : Addr).add i = ⟨b, off + i, none⟩ := by unfold Addr.add; split <;> simp_all
theorem opens_slice {α : Type} {t e : TypeId} {c : Cod α} (ht : P.underlying t = some (.slice e)) (hn : P.cellsOf e = c.n) (hp : 0 < c.n) (he : Opens enc P w e c) (e2 : TypeId) : Opens enc P w t (cSl c e2) := by
  intro fuel cs x h
  rcases Go.Deep.open_slice ht h with ⟨rfl, _⟩ | ⟨a, len, cap, m, n, D, Pl, rfl, _, hl, hm, hmm, _, hx⟩
  · exact ⟨[], _, rfl, none, 0, rfl, Nat.le_refl _, Nat.zero_le _, fun _ => rfl, .inl rfl⟩
  · simp only [if_true] at hmm
    subst hmm
    have each : ∀ i, i < len → ∃ y : α, ∃ cs', c.rd w y cs' ∧ ∀ j, (h : j < cs'.length) → w.cell? ((a.add (i * c.n)).add j) = some cs'[j] := by
      intro i hi
      obtain ⟨cs', h1, h2⟩ := hx i (by omega)
      obtain ⟨y, hy⟩ := he _ _ _ h2
      obtain ⟨_, h4, h5⟩ := World.cells?_some h1
      rw [hn] at h4 h5
      refine ⟨y, cs', hy, fun j hj => ?_⟩
      rw [h5 j (by omega), List.getElem?_eq_getElem hj]
    by_cases h0 : len = 0
    · subst h0
      exact ⟨[], _, rfl, some a, m, rfl, Nat.zero_le _, hm, (fun h => by cases h), .inl rfl⟩
    · obtain ⟨y0, _, _⟩ := each 0 (by omega)
      have : Inhabited α := ⟨y0⟩
      obtain ⟨Y, hY⟩ := Go.Deep.choose_lt each
      obtain ⟨b, off, spot⟩ := a
      have hspot : spot = none := by
        obtain ⟨cs', h1, h2⟩ := hY 0 (by omega)
        have h3 := h2 0 (by rw [c.len h1]; exact hp)
        simpa [Addr.add] using World.cell?_spot h3
      subst hspot
      refine ⟨(List.range len).map Y, _, rfl, some ⟨b, off, none⟩, m, by simp, by simpa using hl, hm, (fun h => by cases h), .inr ⟨b, off, rfl, fun i hi => ?_⟩⟩
      have hi' : i < len := by simpa using hi
      obtain ⟨cs', h1, h2⟩ := hY i hi'
      refine ⟨cs', by simpa using h1, fun j hj => ?_⟩
      have h3 := h2 j hj
      rw [addr_add, addr_add, Nat.add_assoc] at h3
      exact h3
theorem Opens.sl {α : Type} {t : TypeId} {c : Cod (List α)} {v : Value} {d : DataW H} {p : List MemPlace} (ho : Opens enc P w t c) (hv : ∃ a len cap, v = .slice a len cap) (h : DataW.Trod enc P w 0 (fun _ => true) true t v d p) : ∃ xs, c.rd w xs [v] := by
  obtain ⟨a, len, cap, rfl⟩ := hv
  obtain ⟨fuel, hf⟩ := h
  exact ho _ _ _ hf
end
end Go.Proofs.Ytcljakdcejhfiab
