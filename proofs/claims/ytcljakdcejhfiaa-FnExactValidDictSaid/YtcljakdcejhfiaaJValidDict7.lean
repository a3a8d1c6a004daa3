import Derived.Test.YtcljakdcejhfiaaJValidDict1
import Derived.Test.YtcljakdcejhfiaaJValidDict4
import Derived.Test.YtcljakdcejhfiaaJValidDict6
namespace Go.Proofs.Ytcljakdcejhfiaa
open Go.ChangeShapes Go.WideShapes Go.ChangeAt Go.RowKit
theorem opens_SS {H : Type} (enc : TypeId × Value → H) (W : World) : Opens enc Try.prog W 43 (cSl cSS 22) :=
  opens_slice Try.underlying43 (by kernel_rfl) (by decide) (opens_slice Try.underlying22 (by kernel_rfl) (by decide) (opens_byte Try.underlying5) _) _
def BSSIn (w : World) (a : Option Addr) (len cap : Nat) : Prop := ∃ xs : List (List Nat), len = xs.length ∧ RdSl cSS w xs (.slice a len cap)
theorem bssIn_of {H : Type} {enc : TypeId × Value → H} {W : World} {a : Option Addr} {len cap : Nat} {d : DataW H} {p : List MemPlace} (h : DataW.Trod enc Try.prog W 0 (fun _ => true) true 43 (.slice a len cap) d p) : BSSIn W a len cap := by
  obtain ⟨xs, v, e, hv⟩ := Opens.sl (opens_SS enc W) ⟨a, len, cap, rfl⟩ h
  simp at e
  subst e
  obtain ⟨a', cap', e, r⟩ := id hv
  simp at e
  obtain ⟨_, rfl, _⟩ := e
  exact ⟨xs, rfl, hv⟩
end Go.Proofs.Ytcljakdcejhfiaa
