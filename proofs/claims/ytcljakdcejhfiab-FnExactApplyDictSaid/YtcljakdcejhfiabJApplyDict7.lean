import Derived.Test.YtcljakdcejhfiabJApplyDict1
import Derived.Test.YtcljakdcejhfiabJApplyDict4
import Derived.Test.YtcljakdcejhfiabJApplyDict6
namespace Go.Proofs.Ytcljakdcejhfiab
open Go.ChangeShapes Go.WideShapes Go.ChangeAt Go.RowKit
theorem opens_SS {H : Type} (enc : TypeId × Value → H) (W : World) : Opens enc Try.prog W 22 (cSl cSS 24) :=
  opens_slice Try.underlying22 (by kernel_rfl) (by decide) (opens_slice Try.underlying24 (by kernel_rfl) (by decide) (opens_byte Try.underlying5) _) _
def BSSIn (w : World) (a : Option Addr) (len cap : Nat) : Prop := ∃ xs : List (List Nat), len = xs.length ∧ RdSl cSS w xs (.slice a len cap)
theorem bssIn_of {H : Type} {enc : TypeId × Value → H} {W : World} {a : Option Addr} {len cap : Nat} {d : DataW H} {p : List MemPlace} (h : DataW.Trod enc Try.prog W 0 (fun _ => true) true 22 (.slice a len cap) d p) : BSSIn W a len cap := by
  obtain ⟨xs, v, e, hv⟩ := Opens.sl (opens_SS enc W) ⟨a, len, cap, rfl⟩ h
  simp at e
  subst e
  obtain ⟨a', cap', e, r⟩ := id hv
  simp at e
  obtain ⟨_, rfl, _⟩ := e
  exact ⟨xs, rfl, hv⟩
end Go.Proofs.Ytcljakdcejhfiab
