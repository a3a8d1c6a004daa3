import Derived.Test.YtcljakdcejhfiabJValidFields1
import Derived.Test.YtcljakdcejhfiabJValidFields4
import Derived.Test.YtcljakdcejhfiabJValidFields5
namespace Go.Proofs.Ytcljakdcejhfiab
open Go.ChangeShapes Go.WideShapes Go.ChangeAt Go.RowKit
theorem opens_bytes {H : Type} (enc : TypeId × Value → H) (W : World) : Opens enc Try.prog W 24 (cSl cByte 5) :=
  opens_slice Try.underlying24 (by kernel_rfl) (by decide) (opens_byte Try.underlying5) _
theorem opens_Field {H : Type} (enc : TypeId × Value → H) (W : World) : Opens enc Try.prog W 79 cField :=
  opens_struct3 Try.underlying79 rfl rfl rfl rfl (by kernel_rfl) (by kernel_rfl) (by kernel_rfl) (by kernel_rfl) (opens_bytes enc W) (opens_int Try.underlying3) (opens_int Try.underlying3) (fun x y z => ⟨x, y, z⟩) (fun _ _ _ => rfl)
theorem opens_FieldS {H : Type} (enc : TypeId × Value → H) (W : World) : Opens enc Try.prog W 40 (cSl cField 81) :=
  opens_slice Try.underlying40 (by kernel_rfl) (by decide) (opens_Field enc W) _
def FieldsIn (w : World) (a : Option Addr) (len cap : Nat) : Prop := ∃ xs : List PF, len = xs.length ∧ RdSl cField w xs (.slice a len cap)
theorem fieldsIn_of {H : Type} {enc : TypeId × Value → H} {W : World} {a : Option Addr} {len cap : Nat} {d : DataW H} {p : List MemPlace} (h : DataW.Trod enc Try.prog W 0 (fun _ => true) true 40 (.slice a len cap) d p) : FieldsIn W a len cap := by
  obtain ⟨xs, v, e, hv⟩ := Opens.sl (opens_FieldS enc W) ⟨a, len, cap, rfl⟩ h
  simp at e
  subst e
  obtain ⟨a', cap', e, r⟩ := id hv
  simp at e
  obtain ⟨_, rfl, _⟩ := e
  exact ⟨xs, rfl, hv⟩
end Go.Proofs.Ytcljakdcejhfiab
