/- SntFct. -/
import Derived.Test.YtmfgeieelpojdaaJLinkPush15
import Derived.Test.YtmfgeieelpojdaaJLinkPush27
/- What is known of packets being copied. No program. -/
namespace Go.Proofs.Ytmfgeieelpojdaa
open Go.RowKit

theorem ownB_kept {w w' : World} {xs : List Nat} {v : Value} {bs : List Nat} (h : OwnSl cByte 5 w xs v bs) (hb : Below w.heap.size w w') : OwnSl cByte 5 w' xs v bs := h.kept (fun b hm => hb.block b (h.lt b hm))
def fcSameL (W : World) : Fct := ⟨fun _ w => Below W.heap.size W w, fun _ _ _ h hb => below_chain h hb⟩
/-- A packet whose data lies in memory from 'lo' on. -/
def fcPk (lo : Nat) (p : PP) : Fct := ⟨fun v w => ∃ a c bk, v = .agg #[.int .i64 p.kind, .int .i64 p.epoch, .int .i64 p.seq, .int .i64 p.count, .bool p.last, .slice a p.data.length c] ∧ OwnSl cByte 5 w p.data (.slice a p.data.length c) bk ∧ (∀ b ∈ bk, lo ≤ b) ∧ bk.Nodup, fun _ _ _ ⟨a, c, bk, e, h1, h2, h3⟩ hb => ⟨a, c, bk, e, ownB_kept h1 hb, h2, h3⟩⟩
def fcSn (lo : Nat) (s : PW) : Fct := ⟨fun v w => ∃ a c bk, v = .agg #[.int .i64 s.pkt.kind, .int .i64 s.pkt.epoch, .int .i64 s.pkt.seq, .int .i64 s.pkt.count, .bool s.pkt.last, .slice a s.pkt.data.length c, .int .i64 s.at_] ∧ OwnSl cByte 5 w s.pkt.data (.slice a s.pkt.data.length c) bk ∧ (∀ b ∈ bk, lo ≤ b) ∧ bk.Nodup, fun _ _ _ ⟨a, c, bk, e, h1, h2, h3⟩ hb => ⟨a, c, bk, e, ownB_kept h1 hb, h2, h3⟩⟩
theorem MadeN.later {α : Type} {n : Nat} {c : Cod α} {e : TypeId} {w wr w2 : World} {xs : List α} {k : Nat} (hm : MadeN n c e w wr xs k) (b2 : Below wr.heap.size wr w2) : MadeN n c e w w2 xs k := by
  obtain ⟨vs, bss, how, hbl, hown, hin, hnn⟩ := hm
  refine ⟨vs, bss, ownsRow_kept how (fun b hb => b2.block b (World.ownsRow.lt how b hb).2), hbl, fun i h1 h2 => c.ownLater (hown i h1 h2) b2, fun b hb => ?_, hnn⟩
  have := hin b hb
  have := b2.size
  omega
def fcMadeS (w : World) (xs : List PW) (k : Nat) : Fct := ⟨fun _ wx => MadeN 7 cSnt 87 w wx xs k, fun _ _ _ h hb => h.later hb⟩

end Go.Proofs.Ytmfgeieelpojdaa
