import Derived.Test.YtcljakdcejhfiadJValidTable3
import Derived.Test.YtcljakdcejhfiadJValidTable1
import Derived.Test.YtcljakdcejhfiadJValidTable4
namespace Go.Proofs.Ytcljakdcejhfiad
open Go.RowKit
structure PF where
  name : List Nat
  kind : Int
  width : Int
def cField : Cod PF := cMap (cPair (cSl cByte 5) (cPair cInt cInt)) fun f => (f.name, f.kind, f.width)
theorem cField_rd {w : World} {f : PF} {cs : List Value} (h : cField.rd w f cs) : ∃ v, cs = [v, .int .i64 f.kind, .int .i64 f.width] ∧ RdSl cByte w f.name v ∧ IntIn f.kind ∧ IntIn f.width := by
  obtain ⟨c1, c2, rfl, ⟨v, rfl, h1⟩, c3, c4, rfl, ⟨rfl, h2⟩, rfl, h3⟩ := h
  exact ⟨v, rfl, h1, h2, h3⟩
theorem cField_own {w : World} {f : PF} {v : Value} {bs : List Nat} (h1 : OwnSl cByte 5 w f.name v bs) (h2 : IntIn f.kind) (h3 : IntIn f.width) : cField.own w f [v, .int .i64 f.kind, .int .i64 f.width] bs :=
  ⟨[v], _, bs, [], rfl, by simp, ⟨v, rfl, h1⟩, _, _, [], [], rfl, rfl, ⟨rfl, h2, rfl⟩, rfl, h3, rfl⟩
theorem cField_shape {w : World} {f : PF} {cs : List Value} (h : cField.rd w f cs) : ∃ a cap, cs = [.slice a f.name.length cap, .int .i64 f.kind, .int .i64 f.width] := by
  obtain ⟨v, rfl, ⟨a, cap, rfl, _⟩, _⟩ := cField_rd h
  exact ⟨a, cap, rfl⟩
end Go.Proofs.Ytcljakdcejhfiad
namespace Go.Proofs.Ytcljakdcejhfiad
open Go.ChangeShapes Go.WideShapes Go.ChangeAt Go.RowKit
theorem opens_bytes {H : Type} (enc : TypeId × Value → H) (W : World) : Opens enc Try.prog W 69 (cSl cByte 5) :=
  opens_slice Try.underlying69 (by kernel_rfl) (by decide) (opens_byte Try.underlying5) _
theorem opens_Field {H : Type} (enc : TypeId × Value → H) (W : World) : Opens enc Try.prog W 80 cField :=
  opens_struct3 Try.underlying80 rfl rfl rfl rfl (by kernel_rfl) (by kernel_rfl) (by kernel_rfl) (by kernel_rfl) (opens_bytes enc W) (opens_int Try.underlying3) (opens_int Try.underlying3) (fun x y z => ⟨x, y, z⟩) (fun _ _ _ => rfl)
theorem opens_FieldS {H : Type} (enc : TypeId × Value → H) (W : World) : Opens enc Try.prog W 22 (cSl cField 84) :=
  opens_slice Try.underlying22 (by kernel_rfl) (by decide) (opens_Field enc W) _
def FieldsIn (w : World) (a : Option Addr) (len cap : Nat) : Prop := ∃ xs : List PF, len = xs.length ∧ RdSl cField w xs (.slice a len cap)
theorem fieldsIn_of {H : Type} {enc : TypeId × Value → H} {W : World} {a : Option Addr} {len cap : Nat} {d : DataW H} {p : List MemPlace} (h : DataW.Trod enc Try.prog W 0 (fun _ => true) true 22 (.slice a len cap) d p) : FieldsIn W a len cap := by
  obtain ⟨xs, v, e, hv⟩ := Opens.sl (opens_FieldS enc W) ⟨a, len, cap, rfl⟩ h
  simp at e
  subst e
  obtain ⟨a', cap', e, r⟩ := id hv
  simp at e
  obtain ⟨_, rfl, _⟩ := e
  exact ⟨xs, rfl, hv⟩
end Go.Proofs.Ytcljakdcejhfiad
