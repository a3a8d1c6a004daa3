import Derived.Test.YtcljakdcejhfiabJEncodePacket5
import Derived.Test.YtcljakdcejhfiabJEncodePacket14
namespace Go.Proofs.Ytcljakdcejhfiab
open Go.ChangeShapes Go.WideShapes Go.ChangeAt Go.RowKit
theorem opens_Pkt {H : Type} (enc : TypeId × Value → H) (W : World) : Opens enc Try.prog W 32 cPkt :=
  opens_struct6 Try.underlying32 rfl rfl rfl rfl rfl rfl rfl (by kernel_rfl) (by kernel_rfl) (by kernel_rfl) (by kernel_rfl) (by kernel_rfl) (by kernel_rfl) (by kernel_rfl) (opens_int Try.underlying3) (opens_int Try.underlying3) (opens_int Try.underlying3) (opens_int Try.underlying3) (opens_bool Try.underlying4) (opens_slice Try.underlying24 (by kernel_rfl) (by decide) (opens_byte Try.underlying5) 5) (fun x y z u v s => ⟨x, y, z, u, v, s⟩) (fun _ _ _ _ _ _ => rfl)
def PacketIn (w : World) (v : Value) : Prop := ∃ (p : PP) (a : Option Addr) (cap : Nat), v = .agg #[.int .i64 p.kind, .int .i64 p.epoch, .int .i64 p.seq, .int .i64 p.count, .bool p.last, .slice a p.data.length cap] ∧ RdSl cByte w p.data (.slice a p.data.length cap) ∧ PPIn p
theorem packetIn_of {H : Type} {enc : TypeId × Value → H} {W : World} {v : Value} {d : DataW H} {p : List MemPlace} (hv : ∃ cs, v = .agg cs ∧ cs.size = Try.prog.cellsOf 32) (h : DataW.Trod enc Try.prog W 0 (fun _ => true) true 32 v d p) : PacketIn W v := by
  obtain ⟨m, cs, rfl, hr⟩ := Opens.st (opens_Pkt enc W) hv (by decide +kernel) h
  obtain ⟨a, cap, rfl, hu, hi⟩ := cPkt_rd hr
  exact ⟨m, a, cap, rfl, hu, hi⟩
end Go.Proofs.Ytcljakdcejhfiab
