import Derived.Test.YtcljakdcejhfiacJValidOut5
import Derived.Test.YtcljakdcejhfiacJValidOut16
import Derived.Test.YtcljakdcejhfiacJValidOut21
namespace Go.Proofs.Ytcljakdcejhfiac
open Go.ChangeShapes Go.WideShapes Go.ChangeAt Go.RowKit
theorem opens_Sent {H : Type} (enc : TypeId × Value → H) (W : World) : Opens enc Try.prog W 135 cSnt :=
  opens_struct2 Try.underlying135 rfl rfl rfl (by kernel_rfl) (by kernel_rfl) (by kernel_rfl) (opens_Pkt enc W) (opens_int Try.underlying3) (fun x y => ⟨x, y⟩) (fun _ _ => rfl)
theorem opens_SentS {H : Type} (enc : TypeId × Value → H) (W : World) : Opens enc Try.prog W 22 (cSl cSnt 85) :=
  opens_slice Try.underlying22 (by kernel_rfl) (by decide) (opens_Sent enc W) _
def cOut : Cod PO := cMap (cPair cInt (cPair cInt (cPair cInt (cSl cSnt 85)))) fun s => (s.epoch, s.next, s.now, s.wait)
theorem opens_Out {H : Type} (enc : TypeId × Value → H) (W : World) : Opens enc Try.prog W 24 cOut :=
  opens_struct4 Try.underlying24 rfl rfl rfl rfl rfl (by kernel_rfl) (by kernel_rfl) (by kernel_rfl) (by kernel_rfl) (by kernel_rfl) (opens_int Try.underlying3) (opens_int Try.underlying3) (opens_int Try.underlying3) (opens_SentS enc W) (fun x y z u => ⟨x, y, z, u⟩) (fun _ _ _ _ => rfl)
def LinkOutIn (w : World) (v : Value) : Prop := ∃ (o : PO) (a : Option Addr) (c : Nat), v = .agg #[.int .i64 o.epoch, .int .i64 o.next, .int .i64 o.now, .slice a o.wait.length c] ∧ RdSl cSnt w o.wait (.slice a o.wait.length c) ∧ IntIn o.epoch ∧ IntIn o.next ∧ IntIn o.now
theorem linkOutIn_of {H : Type} {enc : TypeId × Value → H} {W : World} {v : Value} {d : DataW H} {p : List MemPlace} (hv : ∃ cs, v = .agg cs ∧ cs.size = Try.prog.cellsOf 24) (h : DataW.Trod enc Try.prog W 0 (fun _ => true) true 24 v d p) : LinkOutIn W v := by
  obtain ⟨s, cs, rfl, hr⟩ := Opens.st (opens_Out enc W) hv (by decide +kernel) h
  obtain ⟨_, _, rfl, ⟨rfl, i1⟩, _, _, rfl, ⟨rfl, i2⟩, _, _, rfl, ⟨rfl, i3⟩, u2, rfl, hu2⟩ := hr
  obtain ⟨b, d, rfl, -⟩ := id hu2
  exact ⟨s, b, d, rfl, hu2, i1, i2, i3⟩
end Go.Proofs.Ytcljakdcejhfiac
