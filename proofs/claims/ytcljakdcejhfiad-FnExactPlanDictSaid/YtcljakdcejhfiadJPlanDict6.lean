import Derived.Test.YtcljakdcejhfiadJPlanDict1
import Derived.Test.YtcljakdcejhfiadJPlanDict3
import Derived.Test.YtcljakdcejhfiadJPlanDict5
import Derived.Test.YtcljakdcejhfiadJPlanDict2
namespace Go.Proofs.Ytcljakdcejhfiad
open Go.ChangeShapes Go.WideShapes Go.ChangeAt Go.RowKit
theorem opens_SS {H : Type} (enc : TypeId × Value → H) (W : World) : Opens enc Try.prog W 45 (cSl cSS 69) :=
  opens_slice Try.underlying45 (by kernel_rfl) (by decide) (opens_slice Try.underlying69 (by kernel_rfl) (by decide) (opens_byte Try.underlying5) _) _
def BSSIn (w : World) (a : Option Addr) (len cap : Nat) : Prop := ∃ xs : List (List Nat), len = xs.length ∧ RdSl cSS w xs (.slice a len cap)
theorem bssIn_of {H : Type} {enc : TypeId × Value → H} {W : World} {a : Option Addr} {len cap : Nat} {d : DataW H} {p : List MemPlace} (h : DataW.Trod enc Try.prog W 0 (fun _ => true) true 45 (.slice a len cap) d p) : BSSIn W a len cap := by
  obtain ⟨xs, v, e, hv⟩ := Opens.sl (opens_SS enc W) ⟨a, len, cap, rfl⟩ h
  simp at e
  subst e
  obtain ⟨a', cap', e, r⟩ := id hv
  simp at e
  obtain ⟨_, rfl, _⟩ := e
  exact ⟨xs, rfl, hv⟩
end Go.Proofs.Ytcljakdcejhfiad
namespace Go.Proofs.Ytcljakdcejhfiad
open Go.RowKit
structure PF where
  name : List Nat
  kind : Int
  width : Int
def cField : Cod PF := cMap (cPair (cSl cByte 5) (cPair cInt cInt)) fun f => (f.name, f.kind, f.width)
theorem cField_rd {w : World} {f : PF} {cs : List Value} (h : cField.rd w f cs) : ∃ v, cs = [v, .int .i64 f.kind, .int .i64 f.width] ∧ RdSl cByte w f.name v ∧ IntIn f.kind ∧ IntIn f.width := by
  obtain ⟨c1, c2, rfl, ⟨v, rfl, h1⟩, c3, c4, rfl, ⟨rfl, h2⟩, rfl, h3⟩ := h
  exact ⟨v, rfl, h1, h2, h3⟩
theorem cField_mk {w : World} {f : PF} {v : Value} (h1 : RdSl cByte w f.name v) (h2 : IntIn f.kind) (h3 : IntIn f.width) : cField.rd w f [v, .int .i64 f.kind, .int .i64 f.width] :=
  ⟨[v], _, rfl, ⟨v, rfl, h1⟩, _, _, rfl, ⟨rfl, h2⟩, rfl, h3⟩
theorem cField_shape {w : World} {f : PF} {cs : List Value} (h : cField.rd w f cs) : ∃ a cap, cs = [.slice a f.name.length cap, .int .i64 f.kind, .int .i64 f.width] := by
  obtain ⟨v, rfl, ⟨a, cap, rfl, _⟩, _⟩ := cField_rd h
  exact ⟨a, cap, rfl⟩
end Go.Proofs.Ytcljakdcejhfiad
namespace Go.Proofs.Ytcljakdcejhfiad
open Go.ChangeShapes Go.WideShapes Go.ChangeAt Go.RowKit
theorem opens_bytes {H : Type} (enc : TypeId × Value → H) (W : World) : Opens enc Try.prog W 69 (cSl cByte 5) :=
  opens_slice Try.underlying69 (by kernel_rfl) (by decide) (opens_byte Try.underlying5) _
end Go.Proofs.Ytcljakdcejhfiad
