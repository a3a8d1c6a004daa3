import Derived.Test.YtcljakdcejhfiabJValidIn5
import Derived.Test.YtcljakdcejhfiabJValidIn16
import Derived.Test.YtcljakdcejhfiabJValidIn20
namespace Go.Proofs.Ytcljakdcejhfiab
open Go.ChangeShapes Go.WideShapes Go.ChangeAt Go.RowKit
theorem opens_PktS {H : Type} (enc : TypeId × Value → H) (W : World) : Opens enc Try.prog W 51 (cSl cPkt 35) :=
  opens_slice Try.underlying51 (by kernel_rfl) (by decide) (opens_Pkt enc W) _
def cIn : Cod PI := cMap (cPair cInt (cPair cInt (cPair (cSl cPkt 35) (cSl cByte 5)))) fun s => (s.epoch, s.expect, s.held, s.part)
theorem opens_In {H : Type} (enc : TypeId × Value → H) (W : World) : Opens enc Try.prog W 53 cIn :=
  opens_struct4 Try.underlying53 rfl rfl rfl rfl rfl (by kernel_rfl) (by kernel_rfl) (by kernel_rfl) (by kernel_rfl) (by kernel_rfl) (opens_int Try.underlying3) (opens_int Try.underlying3) (opens_PktS enc W) (opens_slice Try.underlying24 (by kernel_rfl) (by decide) (opens_byte Try.underlying5) 5) (fun x y z u => ⟨x, y, z, u⟩) (fun _ _ _ _ => rfl)
def LinkInIn (w : World) (v : Value) : Prop := ∃ (s : PI) (a b : Option Addr) (c d : Nat), v = .agg #[.int .i64 s.epoch, .int .i64 s.expect, .slice a s.held.length c, .slice b s.part.length d] ∧ RdIn w s a c b d ∧ IntIn s.epoch ∧ IntIn s.expect
theorem linkInIn_of {H : Type} {enc : TypeId × Value → H} {W : World} {v : Value} {d : DataW H} {p : List MemPlace} (hv : ∃ cs, v = .agg cs ∧ cs.size = Try.prog.cellsOf 53) (h : DataW.Trod enc Try.prog W 0 (fun _ => true) true 53 v d p) : LinkInIn W v := by
  obtain ⟨s, cs, rfl, hr⟩ := Opens.st (opens_In enc W) hv (by decide +kernel) h
  obtain ⟨_, _, rfl, ⟨rfl, i1⟩, _, _, rfl, ⟨rfl, i2⟩, _, _, rfl, ⟨u, rfl, hu⟩, u2, rfl, hu2⟩ := hr
  obtain ⟨a, c, rfl, -⟩ := id hu
  obtain ⟨b, d, rfl, -⟩ := id hu2
  exact ⟨s, a, b, c, d, rfl, ⟨hu, hu2⟩, i1, i2⟩
end Go.Proofs.Ytcljakdcejhfiab
