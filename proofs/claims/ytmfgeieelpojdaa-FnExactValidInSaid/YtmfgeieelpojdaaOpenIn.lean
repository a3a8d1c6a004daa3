/- Receiving ends that came in. -/
import Derived.Test.YtmfgeieelpojdaaOpn4
import Derived.Test.YtmfgeieelpojdaaOpenPkt
import Derived.Test.YtmfgeieelpojdaaLnkI
namespace Go.Proofs.Ytmfgeieelpojdaa
open Go.ChangeShapes Go.WideShapes Go.ChangeAt Go.RowKit

theorem opens_PktS {H : Type} (enc : TypeId × Value → H) (W : World) : Opens enc Try.prog W 38 (cSl cPkt 27) :=
  opens_slice Try.underlying38 (by kernel_rfl) (by decide) (opens_Pkt enc W) _
def cIn : Cod PI := cMap (cPair cInt (cPair cInt (cPair (cSl cPkt 27) (cSl cByte 5)))) fun s => (s.epoch, s.expect, s.held, s.part)
theorem opens_In {H : Type} (enc : TypeId × Value → H) (W : World) : Opens enc Try.prog W 40 cIn :=
  opens_struct4 Try.underlying40 rfl rfl rfl rfl rfl (by kernel_rfl) (by kernel_rfl) (by kernel_rfl) (by kernel_rfl) (by kernel_rfl) (opens_int Try.underlying3) (opens_int Try.underlying3) (opens_PktS enc W) (opens_slice Try.underlying22 (by kernel_rfl) (by decide) (opens_byte Try.underlying5) 5) (fun x y z u => ⟨x, y, z, u⟩) (fun _ _ _ _ => rfl)
def LinkInIn (w : World) (v : Value) : Prop := ∃ (s : PI) (a b : Option Addr) (c d : Nat), v = .agg #[.int .i64 s.epoch, .int .i64 s.expect, .slice a s.held.length c, .slice b s.part.length d] ∧ RdIn w s a c b d ∧ IntIn s.epoch ∧ IntIn s.expect
theorem linkInIn_of {H : Type} {enc : TypeId × Value → H} {W : World} {v : Value} {d : DataW H} {p : List MemPlace} (hv : ∃ cs, v = .agg cs ∧ cs.size = Try.prog.cellsOf 40) (h : DataW.Trod enc Try.prog W 0 (fun _ => true) true 40 v d p) : LinkInIn W v := by
  obtain ⟨s, cs, rfl, hr⟩ := Opens.st (opens_In enc W) hv (by decide +kernel) h
  obtain ⟨_, _, rfl, ⟨rfl, i1⟩, _, _, rfl, ⟨rfl, i2⟩, _, _, rfl, ⟨u, rfl, hu⟩, u2, rfl, hu2⟩ := hr
  obtain ⟨a, c, rfl, -⟩ := id hu
  obtain ⟨b, d, rfl, -⟩ := id hu2
  exact ⟨s, a, b, c, d, rfl, ⟨hu, hu2⟩, i1, i2⟩

end Go.Proofs.Ytmfgeieelpojdaa
