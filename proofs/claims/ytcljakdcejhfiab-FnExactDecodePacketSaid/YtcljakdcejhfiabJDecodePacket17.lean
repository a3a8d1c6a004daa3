import Derived.Test.YtcljakdcejhfiabJDecodePacket14
import Derived.Test.YtcljakdcejhfiabJDecodePacket3
import Derived.Test.YtcljakdcejhfiabJDecodePacket15
import Derived.Test.YtcljakdcejhfiabJDecodePacket16
import Derived.Handy
namespace Go.Proofs.Ytcljakdcejhfiab
open Go.RowKit
theorem set6 {w : World} {g : Nat} {e : TypeId} {a b c d i j x y z u p q : Value} (h : w.heap[g]? = some (.cells #[a, b, c, d, i, j] e (0, 0))) :
    ((((((w.setCell ⟨g, 0, none⟩ x).setCell ⟨g, 1, none⟩ y).setCell ⟨g, 2, none⟩ z).setCell ⟨g, 3, none⟩ u).setCell ⟨g, 4, none⟩ p).setCell ⟨g, 5, none⟩ q).heap[g]? = some (.cells #[x, y, z, u, p, q] e (0, 0)) := by
  have h1 := heap_setCell_same w g 0 _ e x h
  have h2 := heap_setCell_same _ g 1 _ e y h1
  have h3 := heap_setCell_same _ g 2 _ e z h2
  have h4 := heap_setCell_same _ g 3 _ e u h3
  have h5 := heap_setCell_same _ g 4 _ e p h4
  have h6 := heap_setCell_same _ g 5 _ e q h5
  rw [h6]; rfl
theorem set6o {w : World} {g k : Nat} {x y z u p q : Value} (h : k ≠ g) : ((((((w.setCell ⟨g, 0, none⟩ x).setCell ⟨g, 1, none⟩ y).setCell ⟨g, 2, none⟩ z).setCell ⟨g, 3, none⟩ u).setCell ⟨g, 4, none⟩ p).setCell ⟨g, 5, none⟩ q).heap[k]? = w.heap[k]? := by
  rw [Below.heap_setCell _ _ _ _ h, Below.heap_setCell _ _ _ _ h, Below.heap_setCell _ _ _ _ h, Below.heap_setCell _ _ _ _ h, Below.heap_setCell _ _ _ _ h, Below.heap_setCell _ _ _ _ h]
theorem set6b {B : Nat} {a w : World} {g : Nat} {x y z u p q : Value} (h : Below B a w) (hg : B ≤ g) : Below B a ((((((w.setCell ⟨g, 0, none⟩ x).setCell ⟨g, 1, none⟩ y).setCell ⟨g, 2, none⟩ z).setCell ⟨g, 3, none⟩ u).setCell ⟨g, 4, none⟩ p).setCell ⟨g, 5, none⟩ q) :=
  (((((h.setCell (p := ⟨g, 0, none⟩) hg _).setCell (p := ⟨g, 1, none⟩) hg _).setCell (p := ⟨g, 2, none⟩) hg _).setCell (p := ⟨g, 3, none⟩) hg _).setCell (p := ⟨g, 4, none⟩) hg _).setCell (p := ⟨g, 5, none⟩) hg _
def cPkt : Cod PP := cMap (cPair cInt (cPair cInt (cPair cInt (cPair cInt (cPair cBool (cSl cByte 5)))))) fun p => (p.kind, p.epoch, p.seq, p.count, p.last, p.data)
structure PPIn (p : PP) : Prop where
  kind : IntIn p.kind
  epoch : IntIn p.epoch
  seq : IntIn p.seq
  count : IntIn p.count
theorem cPkt_rd {w : World} {p : PP} {cs : List Value} (h : cPkt.rd w p cs) : ∃ a cap, cs = [.int .i64 p.kind, .int .i64 p.epoch, .int .i64 p.seq, .int .i64 p.count, .bool p.last, .slice a p.data.length cap] ∧ RdSl cByte w p.data (.slice a p.data.length cap) ∧ PPIn p := by
  obtain ⟨_, _, rfl, ⟨rfl, i1⟩, _, _, rfl, ⟨rfl, i2⟩, _, _, rfl, ⟨rfl, i3⟩, _, _, rfl, ⟨rfl, i4⟩, _, _, rfl, rfl, u, rfl, hu⟩ := h
  obtain ⟨a, cap, rfl, -⟩ := id hu
  exact ⟨a, cap, rfl, hu, ⟨i1, i2, i3, i4⟩⟩
theorem cPkt_mk {w : World} {p : PP} {v : Value} (h : RdSl cByte w p.data v) (hi : PPIn p) : cPkt.rd w p [.int .i64 p.kind, .int .i64 p.epoch, .int .i64 p.seq, .int .i64 p.count, .bool p.last, v] :=
  ⟨_, _, rfl, ⟨rfl, hi.kind⟩, _, _, rfl, ⟨rfl, hi.epoch⟩, _, _, rfl, ⟨rfl, hi.seq⟩, _, _, rfl, ⟨rfl, hi.count⟩, _, _, rfl, rfl, v, rfl, h⟩
def pN (p : PP) : Nat := p.data.length
set_option maxHeartbeats 2000000 in
theorem eqPacket_law : EqLaw Try.prog 22 cPkt pN := by
  intro w x cs cs' h1 h2 ht
  obtain ⟨a1, c1, rfl, r1, -⟩ := cPkt_rd h1
  obtain ⟨a2, c2, rfl, r2, -⟩ := cPkt_rd h2
  have r1 : Rd w a1 (byt x.data) := by
    obtain ⟨a', cap', e, _, _, _, hr, _⟩ := r1.bytes
    simp at e; rw [e.1]; exact hr
  have r2 : Rd w a2 (byt x.data) := by
    obtain ⟨a', cap', e, _, _, _, hr, _⟩ := r2.bytes
    simp at e; rw [e.1]; exact hr
  have ht' : x.data.length ≤ 1048576 := ht
  have b1 : (x.kind != x.kind) = false := by simp
  have b2 : (x.epoch != x.epoch) = false := by simp
  have b3 : (x.seq != x.seq) = false := by simp
  have b4 : (x.count != x.count) = false := by simp
  have b5 : (x.last != x.last) = false := by simp
  have HR1 := hid r1
  have HR2 := hid r2
  simp only [val]
  clear h1 h2 ht r1 r2
  go_enter Try.func22, Try.ntmps22
  go_wp2_with fail
  refine (eqByteS_any a1 a2 c1 c2 _ x.data _ (HR1.out.later (below_new2 _ _ _)) (HR2.out.later (below_new2 _ _ _)) rfl (by omega)).mono ?_
  rintro e w2 ⟨rfl, b2⟩
  have HB : Hid (Below w.heap.size w w2) := hid ((below_new2 w _ _).trans (b2.mono (by simp; omega)))
  clear b2
  go_wp2
  go_ret
  exact ⟨rfl, HB.out⟩
end Go.Proofs.Ytcljakdcejhfiab
