import Derived.Test.YtcljakdcejhfiacJValidStream5
import Derived.Test.YtcljakdcejhfiacJValidStream8
import Derived.Test.YtcljakdcejhfiacJValidStream27
namespace Go.Proofs.Ytcljakdcejhfiac
open Go.ChangeShapes Go.WideShapes Go.ChangeAt Go.RowKit
theorem opens_SSS {H : Type} (enc : TypeId × Value → H) (W : World) : Opens enc Try.prog W 63 (cSl cSSS 33) :=
  opens_slice Try.underlying63 (by kernel_rfl) (by decide) (opens_SS enc W) _
def cStr : Cod PStr := cMap (cPair cBool (cPair (cSl cField 118) (cPair cInt (cSl cSSS 33)))) fun s => (s.opened, s.fields, s.next, s.dicts)
theorem opens_Str {H : Type} (enc : TypeId × Value → H) (W : World) : Opens enc Try.prog W 65 cStr :=
  opens_struct4 Try.underlying65 rfl rfl rfl rfl rfl (by kernel_rfl) (by kernel_rfl) (by kernel_rfl) (by kernel_rfl) (by kernel_rfl) (opens_bool Try.underlying4) (opens_FieldS enc W) (opens_int Try.underlying3) (opens_SSS enc W) (fun x y z u => ⟨x, y, z, u⟩) (fun _ _ _ _ => rfl)
def StreamIn (w : World) (v : Value) : Prop := ∃ (s : PStr) (a b : Option Addr) (c d : Nat), v = .agg #[.bool s.opened, .slice a s.fields.length c, .int .i64 s.next, .slice b s.dicts.length d] ∧ RdStr w s a c b d ∧ IntIn s.next
theorem streamIn_of {H : Type} {enc : TypeId × Value → H} {W : World} {v : Value} {d : DataW H} {p : List MemPlace} (hv : ∃ cs, v = .agg cs ∧ cs.size = Try.prog.cellsOf 65) (h : DataW.Trod enc Try.prog W 0 (fun _ => true) true 65 v d p) : StreamIn W v := by
  obtain ⟨s, cs, rfl, hr⟩ := Opens.st (opens_Str enc W) hv (by decide +kernel) h
  obtain ⟨_, _, rfl, rfl, _, _, rfl, ⟨u, rfl, hu⟩, _, _, rfl, ⟨rfl, i3⟩, u2, rfl, hu2⟩ := hr
  obtain ⟨a, c, rfl, -⟩ := id hu
  obtain ⟨b, d, rfl, -⟩ := id hu2
  exact ⟨s, a, b, c, d, rfl, ⟨hu, hu2⟩, i3⟩
end Go.Proofs.Ytcljakdcejhfiac
