import Derived.Test.YtcljakdcejhfiabJEncodePacket14
namespace Go.Proofs.Ytcljakdcejhfiab
open Go.RowKit
theorem szPacket_any (p : PP) (a : Option Addr) (cap : Nat) (l : Int) (w : World) (hr : RdSl cByte w p.data (.slice a p.data.length cap)) (hi : PPIn p) (h0 : 0 ≤ l) (h1 : l ≤ 1048576) :
    Calls Try.prog 18 #[.agg #[.int .i64 p.kind, .int .i64 p.epoch, .int .i64 p.seq, .int .i64 p.count, .bool p.last, .slice a p.data.length cap], .int .i64 l] w fun e w' => e = .returned (.int .i64 (rest l p.data.length)) ∧ Below w.heap.size w w' := by
  have h := szPacket_law w p _ l (cPkt_mk hr hi) h0 h1
  simp only [val] at h
  exact h
theorem eqPacket_any (p : PP) (a b : Option Addr) (c d : Nat) (w : World) (h1 : RdSl cByte w p.data (.slice a p.data.length c)) (h2 : RdSl cByte w p.data (.slice b p.data.length d)) (hi : PPIn p) (ht : p.data.length ≤ 1048576) :
    Calls Try.prog 22 #[.agg #[.int .i64 p.kind, .int .i64 p.epoch, .int .i64 p.seq, .int .i64 p.count, .bool p.last, .slice a p.data.length c], .agg #[.int .i64 p.kind, .int .i64 p.epoch, .int .i64 p.seq, .int .i64 p.count, .bool p.last, .slice b p.data.length d]] w fun e w' => e = .returned (.bool true) ∧ Below w.heap.size w w' := by
  have h := eqPacket_law w p _ _ (cPkt_mk h1 hi) (cPkt_mk h2 hi) ht
  simp only [val] at h
  exact h
theorem toPacket_any (p : PP) (a : Option Addr) (cap : Nat) (w : World) (hr : RdSl cByte w p.data (.slice a p.data.length cap)) (hi : PPIn p) (ht : p.data.length ≤ 1048576) :
    Calls Try.prog 20 #[.agg #[.int .i64 p.kind, .int .i64 p.epoch, .int .i64 p.seq, .int .i64 p.count, .bool p.last, .slice a p.data.length cap]] w fun e w' => ∃ a' c' bs, e = .returned (.agg #[.int .i64 p.kind, .int .i64 p.epoch, .int .i64 p.seq, .int .i64 p.count, .bool p.last, .slice a' p.data.length c']) ∧ OwnSl cByte 5 w' p.data (.slice a' p.data.length c') bs ∧ (∀ b ∈ bs, w.heap.size ≤ b) ∧ bs.Nodup ∧ Below w.heap.size w w' := by
  have h := toPacket_law w p _ (cPkt_mk hr hi) ht
  simp only [val] at h
  refine h.mono ?_
  rintro e w' ⟨cs', bs, he, ho, h1, h2, h3⟩
  obtain ⟨a', c', rfl, h4, -⟩ := cPkt_owned ho
  subst he
  exact ⟨a', c', bs, rfl, h4, h1, h2, h3⟩
end Go.Proofs.Ytcljakdcejhfiab
