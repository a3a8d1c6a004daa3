import Derived.Test.YtmaccmgmcahopaaJBound7
import Derived.Deep.Cut
import Derived.Deep.RegionHeld
import Derived.Test.YtmaccmgmcahopaaJBound0
import Derived.Test.YtmaccmgmcahopaaJBound5
namespace Go.Proofs.Ytmaccmgmcahopaa
open Go.RowKit
structure PW where
  pkt : PP
  at_ : Int
def cSnt : Cod PW := cMap (cPair cPkt cInt) fun s => (s.pkt, s.at_)
theorem cSnt_rd {w : World} {s : PW} {cs : List Value} (h : cSnt.rd w s cs) : ∃ a cap, cs = [.int .i64 s.pkt.kind, .int .i64 s.pkt.epoch, .int .i64 s.pkt.seq, .int .i64 s.pkt.count, .bool s.pkt.last, .slice a s.pkt.data.length cap, .int .i64 s.at_] ∧ RdSl cByte w s.pkt.data (.slice a s.pkt.data.length cap) ∧ PPIn s.pkt ∧ IntIn s.at_ := by
  obtain ⟨c1, c2, rfl, h1, rfl, h2⟩ := h
  obtain ⟨a, cap, rfl, h3, h4⟩ := cPkt_rd h1
  exact ⟨a, cap, rfl, h3, h4, h2⟩
theorem cSnt_own {w : World} {s : PW} {v : Value} {bs : List Nat} (h : OwnSl cByte 5 w s.pkt.data v bs) (hi : PPIn s.pkt) (h2 : IntIn s.at_) : cSnt.own w s [.int .i64 s.pkt.kind, .int .i64 s.pkt.epoch, .int .i64 s.pkt.seq, .int .i64 s.pkt.count, .bool s.pkt.last, v, .int .i64 s.at_] bs :=
  ⟨_, _, bs, [], rfl, by simp, cPkt_own h hi, rfl, h2, rfl⟩
def wN (s : PW) : Nat := s.pkt.data.length
end Go.Proofs.Ytmaccmgmcahopaa
namespace Go.Proofs.Ytmaccmgmcahopaa
open Go.RowKit
theorem infoImSent : (Try.prog.info? 63).map (fun i => (i.zero, i.size, i.bytes)) = some (some (.agg #[.int .i64 0, .int .i64 0, .int .i64 0, .int .i64 0, .bool false, .slice none 0 0, .int .i64 0]), 7, 72) := by kernel_rfl
end Go.Proofs.Ytmaccmgmcahopaa
namespace Go.Proofs.Ytmaccmgmcahopaa
open Go.RowKit
theorem set4 {w : World} {g : Nat} {e : TypeId} {a b c d x y z u : Value} (h : w.heap[g]? = some (.cells #[a, b, c, d] e (0, 0))) :
    ((((w.setCell ⟨g, 0, none⟩ x).setCell ⟨g, 1, none⟩ y).setCell ⟨g, 2, none⟩ z).setCell ⟨g, 3, none⟩ u).heap[g]? = some (.cells #[x, y, z, u] e (0, 0)) := by
  have h1 := heap_setCell_same w g 0 _ e x h
  have h2 := heap_setCell_same _ g 1 _ e y h1
  have h3 := heap_setCell_same _ g 2 _ e z h2
  have h4 := heap_setCell_same _ g 3 _ e u h3
  rw [h4]; rfl
theorem set4o {w : World} {g k : Nat} {x y z u : Value} (h : k ≠ g) : ((((w.setCell ⟨g, 0, none⟩ x).setCell ⟨g, 1, none⟩ y).setCell ⟨g, 2, none⟩ z).setCell ⟨g, 3, none⟩ u).heap[k]? = w.heap[k]? := by
  rw [Below.heap_setCell _ _ _ _ h, Below.heap_setCell _ _ _ _ h, Below.heap_setCell _ _ _ _ h, Below.heap_setCell _ _ _ _ h]
theorem set4b {B : Nat} {a w : World} {g : Nat} {x y z u : Value} (h : Below B a w) (hg : B ≤ g) : Below B a ((((w.setCell ⟨g, 0, none⟩ x).setCell ⟨g, 1, none⟩ y).setCell ⟨g, 2, none⟩ z).setCell ⟨g, 3, none⟩ u) :=
  (((h.setCell (p := ⟨g, 0, none⟩) hg _).setCell (p := ⟨g, 1, none⟩) hg _).setCell (p := ⟨g, 2, none⟩) hg _).setCell (p := ⟨g, 3, none⟩) hg _
end Go.Proofs.Ytmaccmgmcahopaa
namespace Go.Proofs.Ytmaccmgmcahopaa
open Go.RowKit
structure PO where
  epoch : Int
  next : Int
  now : Int
  wait : List PW
end Go.Proofs.Ytmaccmgmcahopaa
namespace Go.Proofs.Ytmaccmgmcahopaa
def dataB (p : PP) (e : Int) : Bool := pktOK p && (decide (p.kind = 1) && decide (p.epoch = e))
end Go.Proofs.Ytmaccmgmcahopaa
namespace Go.Proofs.Ytmaccmgmcahopaa
open Go.RowKit
def outW (o : PO) (i : Nat) (s : PW) : Bool := dataB s.pkt o.epoch && decide (s.pkt.seq = o.next - o.wait.length + i ∧ -1 ≤ s.at_ ∧ s.at_ ≤ o.now)
abbrev OutH (o : PO) : Prop := 1 ≤ o.epoch ∧ o.epoch ≤ 1000000000 ∧ 0 ≤ o.next ∧ o.next ≤ 1000000000000 ∧ 0 ≤ o.now ∧ o.now ≤ 1000000000 ∧ o.wait.length ≤ 300
def outOK (o : PO) : Bool := decide (OutH o) && (List.range o.wait.length).all fun i => match o.wait[i]? with | some s => outW o i s | none => true
theorem outOK_head {o : PO} (h : ¬ OutH o) : outOK o = false := by unfold outOK; rw [decide_eq_false h]; rfl
theorem outOK_at {o : PO} {k : Nat} (hk : k < o.wait.length) (h : outW o k o.wait[k] = false) : outOK o = false := by
  unfold outOK
  rw [Bool.and_eq_false_iff]
  refine .inr ?_
  rw [List.all_eq_false]
  refine ⟨k, List.mem_range.2 hk, ?_⟩
  simp [hk, h]
theorem outOK_all {o : PO} (h : OutH o) (ha : ∀ k, (hk : k < o.wait.length) → outW o k o.wait[k] = true) : outOK o = true := by
  unfold outOK
  rw [decide_eq_true h, Bool.true_and, List.all_eq_true]
  intro i hi
  have hi' := List.mem_range.1 hi
  simp [hi', ha i hi']
theorem outOK_of {o : PO} (h : outOK o = true) : OutH o ∧ ∀ k, (hk : k < o.wait.length) → outW o k o.wait[k] = true := by
  unfold outOK at h
  rw [Bool.and_eq_true, List.all_eq_true] at h
  refine ⟨of_decide_eq_true h.1, fun k hk => ?_⟩
  have := h.2 k (List.mem_range.2 hk)
  simpa [hk] using this
end Go.Proofs.Ytmaccmgmcahopaa
