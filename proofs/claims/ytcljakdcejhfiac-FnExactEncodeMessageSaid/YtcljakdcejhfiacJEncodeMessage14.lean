import Derived.Test.YtcljakdcejhfiacJEncodeMessage7
import Derived.Test.YtcljakdcejhfiacJEncodeMessage8
import Derived.Test.YtcljakdcejhfiacJEncodeMessage13
namespace Go.Proofs.Ytcljakdcejhfiac
open Go.ChangeShapes Go.WideShapes Go.ChangeAt Go.RowKit
def cMsg : Cod PM := cMap (cPair cInt (cPair cInt (cPair cInt (cSl cSS 37)))) fun m => (m.kind, m.field, m.count, m.bufs)
theorem opens_Msg {H : Type} (enc : TypeId × Value → H) (W : World) : Opens enc Try.prog W 35 cMsg :=
  opens_struct4 Try.underlying35 rfl rfl rfl rfl rfl (by kernel_rfl) (by kernel_rfl) (by kernel_rfl) (by kernel_rfl) (by kernel_rfl) (opens_int Try.underlying3) (opens_int Try.underlying3) (opens_int Try.underlying3) (opens_SS enc W) (fun x y z u => ⟨x, y, z, u⟩) (fun _ _ _ _ => rfl)
def MessageIn (w : World) (v : Value) : Prop := ∃ (m : PM) (a : Option Addr) (cap : Nat), v = .agg #[.int .i64 m.kind, .int .i64 m.field, .int .i64 m.count, .slice a m.bufs.length cap] ∧ RdSl cSS w m.bufs (.slice a m.bufs.length cap) ∧ IntIn m.kind ∧ IntIn m.field ∧ IntIn m.count
theorem messageIn_of {H : Type} {enc : TypeId × Value → H} {W : World} {v : Value} {d : DataW H} {p : List MemPlace} (hv : ∃ cs, v = .agg cs ∧ cs.size = Try.prog.cellsOf 35) (h : DataW.Trod enc Try.prog W 0 (fun _ => true) true 35 v d p) : MessageIn W v := by
  obtain ⟨m, cs, rfl, hr⟩ := Opens.st (opens_Msg enc W) hv (by decide +kernel) h
  obtain ⟨_, _, rfl, ⟨rfl, i1⟩, _, _, rfl, ⟨rfl, i2⟩, _, _, rfl, ⟨rfl, i3⟩, u, rfl, hu⟩ := hr
  obtain ⟨a, cap, rfl, -⟩ := id hu
  exact ⟨m, a, cap, rfl, hu, i1, i2, i3⟩
end Go.Proofs.Ytcljakdcejhfiac
