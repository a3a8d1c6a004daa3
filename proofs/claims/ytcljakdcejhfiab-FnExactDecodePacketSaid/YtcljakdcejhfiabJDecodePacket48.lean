import Derived.Test.YtcljakdcejhfiabJDecodePacket17
namespace Go.Proofs.Ytcljakdcejhfiab
open Go.RowKit
theorem eqPacket_any (p : PP) (a b : Option Addr) (c d : Nat) (w : World) (h1 : RdSl cByte w p.data (.slice a p.data.length c)) (h2 : RdSl cByte w p.data (.slice b p.data.length d)) (hi : PPIn p) (ht : p.data.length ≤ 1048576) :
    Calls Try.prog 22 #[.agg #[.int .i64 p.kind, .int .i64 p.epoch, .int .i64 p.seq, .int .i64 p.count, .bool p.last, .slice a p.data.length c], .agg #[.int .i64 p.kind, .int .i64 p.epoch, .int .i64 p.seq, .int .i64 p.count, .bool p.last, .slice b p.data.length d]] w fun e w' => e = .returned (.bool true) ∧ Below w.heap.size w w' := by
  have h := eqPacket_law w p _ _ (cPkt_mk h1 hi) (cPkt_mk h2 hi) ht
  simp only [val] at h
  exact h
end Go.Proofs.Ytcljakdcejhfiab
