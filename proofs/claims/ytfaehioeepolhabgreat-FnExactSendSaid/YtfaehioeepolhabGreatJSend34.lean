import Derived.Test.YtfaehioeepolhabGreatJSend14
import Derived.Test.YtfaehioeepolhabGreatJSend33
import Derived.Test.YtfaehioeepolhabGreatJSend3
import Derived.Test.YtfaehioeepolhabGreatJSend4
import Derived.Laws.AppendOwnNone
import Derived.Test.YtfaehioeepolhabGreatJSend12
import Derived.Lib.AppendZeros
namespace Go.Proofs.YtfaehioeepolhabGreat
open Go.RowKit
end Go.Proofs.YtfaehioeepolhabGreat
namespace Go.Proofs.YtfaehioeepolhabGreat
open Go.RowKit
end Go.Proofs.YtfaehioeepolhabGreat
namespace Go.Proofs.YtfaehioeepolhabGreat
open Go.RowKit
end Go.Proofs.YtfaehioeepolhabGreat
namespace Go.Proofs.YtfaehioeepolhabGreat
open Go.RowKit
end Go.Proofs.YtfaehioeepolhabGreat
namespace Go.Proofs.YtfaehioeepolhabGreat
open Go.RowKit
end Go.Proofs.YtfaehioeepolhabGreat
namespace Go.Proofs.YtfaehioeepolhabGreat
open Go.RowKit
theorem RdSl.vals {w : World} {xss : List (List Nat)} {a : Option Addr} {n cap : Nat} (h : RdSl cSS w xss (.slice a n cap)) :
    ∃ vals : List Value, vals.length = xss.length ∧ Rd w a vals ∧ (∀ u ∈ vals, u.oneCell' = true) ∧ ∀ i, (h : i < xss.length) → ∃ u, vals[i]? = some u ∧ RdSl cByte w xss[i] u := by
  obtain ⟨a', cap', e', _, _, _, h4⟩ := id h
  simp only [Value.slice.injEq] at e'
  obtain ⟨rfl, rfl, rfl⟩ := e'
  rcases h4 with rfl | ⟨b, off, rfl, hat⟩
  · exact ⟨[], rfl, .inl rfl, by simp, fun i h => by simp at h⟩
  · have hx : ∀ i : Fin xss.length, ∃ u : Value, w.cell? ⟨b, off + i.1, none⟩ = some u ∧ RdSl cByte w xss[i.1] u := fun i => by
      obtain ⟨b', off', a', c', e, hc, hr⟩ := h.row i.2
      simp at e
      obtain ⟨rfl, rfl⟩ := e
      exact ⟨_, hc, hr⟩
    refine ⟨(List.finRange xss.length).map fun i => Classical.choose (hx i), by simp, .inr ⟨b, off, rfl, fun i hi => ?_⟩, fun u hu => ?_, fun i hi => ?_⟩
    · have hi' : i < xss.length := by simpa using hi
      have := (Classical.choose_spec (hx ⟨i, hi'⟩)).1
      rw [this]; simp
    · simp only [List.mem_map] at hu
      obtain ⟨i, _, rfl⟩ := hu
      obtain ⟨_, _, e, _⟩ := (Classical.choose_spec (hx i)).2
      rw [e]; rfl
    · exact ⟨_, by simp [hi], (Classical.choose_spec (hx ⟨i, hi⟩)).2⟩
end Go.Proofs.YtfaehioeepolhabGreat
namespace Go.Proofs.YtfaehioeepolhabGreat
open Go.RowKit
def Fct.bytes (xs : List Nat) : Fct := ⟨fun v w => RdSl cByte w xs v, fun _ _ _ h hb => h.later hb⟩
def Fct.row (B : Nat) (xs : List Nat) : Fct := ⟨fun v w => w.ownsRow B 5 1 v xs.length (byt xs), fun _ _ _ h hb => own_later h hb⟩
theorem RdSl.slice {α : Type} {c : Cod α} {w : World} {xs : List α} {v : Value} (h : RdSl c w xs v) : ∃ a k, v = .slice a xs.length k ∧ RdSl c w xs (.slice a xs.length k) := by
  obtain ⟨a, k, e, r⟩ := id h
  exact ⟨a, k, e, e ▸ h⟩
end Go.Proofs.YtfaehioeepolhabGreat
