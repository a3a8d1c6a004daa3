import Derived.Test.YtfaehioeepolhaaGreatJOpenSender8
import Derived.Test.YtfaehioeepolhaaGreatJOpenSender9
import Derived.Test.YtfaehioeepolhaaGreatJOpenSender1
import Derived.Test.YtfaehioeepolhaaGreatJOpenSender3
import Derived.Handy
import Derived.Test.YtfaehioeepolhaaGreatJOpenSender13
import Derived.Deep.Cut
namespace Go.Proofs.YtfaehioeepolhaaGreat
open Go.RowKit
theorem RowT.keptB {α : Type} {c : Cod α} {tk : Tk c} {e : TypeId} {B : Nat} {w w' : World} {v : Value} {xs : List α} (h : RowT tk e B w v xs) (hk : ∀ b, B ≤ b → b < w.heap.size → w'.heap[b]? = w.heap[b]?) : RowT tk e B w' v xs :=
  h.kept (fun b _ _ _ _ _ ho _ hp => hk b (World.ownsRow.lt ho b hp).1 (World.ownsRow.lt ho b hp).2)
end Go.Proofs.YtfaehioeepolhaaGreat
namespace Go.Proofs.YtfaehioeepolhaaGreat
open Go.RowKit
structure PP where
  kind : Int
  epoch : Int
  seq : Int
  count : Int
  last : Bool
  data : List Nat
def lastN (b : Bool) : Nat := if b then 1 else 0
abbrev PktOK (p : PP) : Prop := 1 ≤ p.epoch ∧ p.epoch ≤ 1000000000 ∧ 0 ≤ p.seq ∧ p.seq ≤ 1000000000000 ∧ 0 ≤ p.count ∧ p.count ≤ 1000000000 ∧
  ((p.kind = 1 ∧ p.seq < 1000000000000 ∧ p.count = 0 ∧ 1 ≤ p.data.length ∧ p.data.length ≤ 100) ∨ (lastN p.last = 0 ∧ p.data.length = 0 ∧ (p.kind = 2 ∨ (p.kind = 3 ∧ p.seq = 0) ∨ (p.kind = 4 ∧ p.seq = 0 ∧ p.count = 0))))
def pktOK (p : PP) : Bool := decide (PktOK p)
def headP (K E S C : Nat) (L : Bool) (D : List Nat) : List Nat := [67, K] ++ (digs E 4 ++ (digs S 8 ++ (digs C 4 ++ ([lastN L] ++ (digs D.length 2 ++ D)))))
def encP (K E S C : Nat) (L : Bool) (D : List Nat) : List Nat := headP K E S C L D ++ digs (crcM (headP K E S C L D)) 4
def pktB (p : PP) : List Nat := encP p.kind.toNat p.epoch.toNat p.seq.toNat p.count.toNat p.last p.data
def pktR (p : PP) : List Nat := if pktOK p = true then pktB p else []
theorem pktOK_data {p : PP} (h : pktOK p = true) : p.data.length ≤ 100 := by
  have := of_decide_eq_true h
  unfold PktOK at this
  omega
end Go.Proofs.YtfaehioeepolhaaGreat
namespace Go.Proofs.YtfaehioeepolhaaGreat
open Go.RowKit
theorem set6 {w : World} {g : Nat} {e : TypeId} {a b c d i j x y z u p q : Value} (h : w.heap[g]? = some (.cells #[a, b, c, d, i, j] e (0, 0))) :
    ((((((w.setCell ⟨g, 0, none⟩ x).setCell ⟨g, 1, none⟩ y).setCell ⟨g, 2, none⟩ z).setCell ⟨g, 3, none⟩ u).setCell ⟨g, 4, none⟩ p).setCell ⟨g, 5, none⟩ q).heap[g]? = some (.cells #[x, y, z, u, p, q] e (0, 0)) := by
  have h1 := heap_setCell_same w g 0 _ e x h
  have h2 := heap_setCell_same _ g 1 _ e y h1
  have h3 := heap_setCell_same _ g 2 _ e z h2
  have h4 := heap_setCell_same _ g 3 _ e u h3
  have h5 := heap_setCell_same _ g 4 _ e p h4
  have h6 := heap_setCell_same _ g 5 _ e q h5
  rw [h6]; rfl
theorem set6o {w : World} {g k : Nat} {x y z u p q : Value} (h : k ≠ g) : ((((((w.setCell ⟨g, 0, none⟩ x).setCell ⟨g, 1, none⟩ y).setCell ⟨g, 2, none⟩ z).setCell ⟨g, 3, none⟩ u).setCell ⟨g, 4, none⟩ p).setCell ⟨g, 5, none⟩ q).heap[k]? = w.heap[k]? := by
  rw [Below.heap_setCell _ _ _ _ h, Below.heap_setCell _ _ _ _ h, Below.heap_setCell _ _ _ _ h, Below.heap_setCell _ _ _ _ h, Below.heap_setCell _ _ _ _ h, Below.heap_setCell _ _ _ _ h]
theorem set6b {B : Nat} {a w : World} {g : Nat} {x y z u p q : Value} (h : Below B a w) (hg : B ≤ g) : Below B a ((((((w.setCell ⟨g, 0, none⟩ x).setCell ⟨g, 1, none⟩ y).setCell ⟨g, 2, none⟩ z).setCell ⟨g, 3, none⟩ u).setCell ⟨g, 4, none⟩ p).setCell ⟨g, 5, none⟩ q) :=
  (((((h.setCell (p := ⟨g, 0, none⟩) hg _).setCell (p := ⟨g, 1, none⟩) hg _).setCell (p := ⟨g, 2, none⟩) hg _).setCell (p := ⟨g, 3, none⟩) hg _).setCell (p := ⟨g, 4, none⟩) hg _).setCell (p := ⟨g, 5, none⟩) hg _
def cPkt : Cod PP := cMap (cPair cInt (cPair cInt (cPair cInt (cPair cInt (cPair cBool (cSl cByte 5)))))) fun p => (p.kind, p.epoch, p.seq, p.count, p.last, p.data)
structure PPIn (p : PP) : Prop where
  kind : IntIn p.kind
  epoch : IntIn p.epoch
  seq : IntIn p.seq
  count : IntIn p.count
theorem cPkt_rd {w : World} {p : PP} {cs : List Value} (h : cPkt.rd w p cs) : ∃ a cap, cs = [.int .i64 p.kind, .int .i64 p.epoch, .int .i64 p.seq, .int .i64 p.count, .bool p.last, .slice a p.data.length cap] ∧ RdSl cByte w p.data (.slice a p.data.length cap) ∧ PPIn p := by
  obtain ⟨_, _, rfl, ⟨rfl, i1⟩, _, _, rfl, ⟨rfl, i2⟩, _, _, rfl, ⟨rfl, i3⟩, _, _, rfl, ⟨rfl, i4⟩, _, _, rfl, rfl, u, rfl, hu⟩ := h
  obtain ⟨a, cap, rfl, -⟩ := id hu
  exact ⟨a, cap, rfl, hu, ⟨i1, i2, i3, i4⟩⟩
theorem cPkt_mk {w : World} {p : PP} {v : Value} (h : RdSl cByte w p.data v) (hi : PPIn p) : cPkt.rd w p [.int .i64 p.kind, .int .i64 p.epoch, .int .i64 p.seq, .int .i64 p.count, .bool p.last, v] :=
  ⟨_, _, rfl, ⟨rfl, hi.kind⟩, _, _, rfl, ⟨rfl, hi.epoch⟩, _, _, rfl, ⟨rfl, hi.seq⟩, _, _, rfl, ⟨rfl, hi.count⟩, _, _, rfl, rfl, v, rfl, h⟩
theorem cPkt_own {w : World} {p : PP} {v : Value} {bs : List Nat} (h : OwnSl cByte 5 w p.data v bs) (hi : PPIn p) : cPkt.own w p [.int .i64 p.kind, .int .i64 p.epoch, .int .i64 p.seq, .int .i64 p.count, .bool p.last, v] bs :=
  ⟨_, _, [], bs, rfl, rfl, ⟨rfl, hi.kind, rfl⟩, _, _, [], bs, rfl, rfl, ⟨rfl, hi.epoch, rfl⟩, _, _, [], bs, rfl, rfl, ⟨rfl, hi.seq, rfl⟩, _, _, [], bs, rfl, rfl, ⟨rfl, hi.count, rfl⟩, _, _, [], bs, rfl, rfl, ⟨rfl, rfl⟩, v, rfl, h⟩
theorem cPkt_owned {w : World} {p : PP} {cs : List Value} {bs : List Nat} (h : cPkt.own w p cs bs) : ∃ a cap, cs = [.int .i64 p.kind, .int .i64 p.epoch, .int .i64 p.seq, .int .i64 p.count, .bool p.last, .slice a p.data.length cap] ∧ OwnSl cByte 5 w p.data (.slice a p.data.length cap) bs ∧ PPIn p := by
  obtain ⟨_, _, _, _, rfl, rfl, ⟨rfl, i1, rfl⟩, _, _, _, _, rfl, rfl, ⟨rfl, i2, rfl⟩, _, _, _, _, rfl, rfl, ⟨rfl, i3, rfl⟩, _, _, _, _, rfl, rfl, ⟨rfl, i4, rfl⟩, _, _, _, _, rfl, rfl, ⟨rfl, rfl⟩, u, rfl, hu⟩ := h
  obtain ⟨a, cap, rfl, -⟩ := id hu.rd
  exact ⟨a, cap, rfl, hu, ⟨i1, i2, i3, i4⟩⟩
def pN (p : PP) : Nat := p.data.length
set_option maxHeartbeats 2000000 in
theorem eqPacket_law : EqLaw Tryz.prog 141 cPkt pN := by
  intro w x cs cs' h1 h2 ht
  obtain ⟨a1, c1, rfl, r1, -⟩ := cPkt_rd h1
  obtain ⟨a2, c2, rfl, r2, -⟩ := cPkt_rd h2
  have r1 : Rd w a1 (byt x.data) := by
    obtain ⟨a', cap', e, _, _, _, hr, _⟩ := r1.bytes
    simp at e; rw [e.1]; exact hr
  have r2 : Rd w a2 (byt x.data) := by
    obtain ⟨a', cap', e, _, _, _, hr, _⟩ := r2.bytes
    simp at e; rw [e.1]; exact hr
  have ht' : x.data.length ≤ 1048576 := ht
  have b1 : (x.kind != x.kind) = false := by simp
  have b2 : (x.epoch != x.epoch) = false := by simp
  have b3 : (x.seq != x.seq) = false := by simp
  have b4 : (x.count != x.count) = false := by simp
  have b5 : (x.last != x.last) = false := by simp
  have HR1 := hid r1
  have HR2 := hid r2
  simp only [val]
  clear h1 h2 ht r1 r2
  go_enter Tryz.func141, Tryz.ntmps141
  go_wp2_with fail
  refine (eqByteS_any a1 a2 c1 c2 _ x.data _ (HR1.out.later (below_new2 _ _ _)) (HR2.out.later (below_new2 _ _ _)) rfl (by omega)).mono ?_
  rintro e w2 ⟨rfl, b2⟩
  have HB : Hid (Below w.heap.size w w2) := hid ((below_new2 w _ _).trans (b2.mono (by simp; omega)))
  clear b2
  go_wp2
  go_ret
  exact ⟨rfl, HB.out⟩
end Go.Proofs.YtfaehioeepolhaaGreat
namespace Go.Proofs.YtfaehioeepolhaaGreat
open Go.RowKit
structure PW where
  pkt : PP
  at_ : Int
def cSnt : Cod PW := cMap (cPair cPkt cInt) fun s => (s.pkt, s.at_)
theorem cSnt_rd {w : World} {s : PW} {cs : List Value} (h : cSnt.rd w s cs) : ∃ a cap, cs = [.int .i64 s.pkt.kind, .int .i64 s.pkt.epoch, .int .i64 s.pkt.seq, .int .i64 s.pkt.count, .bool s.pkt.last, .slice a s.pkt.data.length cap, .int .i64 s.at_] ∧ RdSl cByte w s.pkt.data (.slice a s.pkt.data.length cap) ∧ PPIn s.pkt ∧ IntIn s.at_ := by
  obtain ⟨c1, c2, rfl, h1, rfl, h2⟩ := h
  obtain ⟨a, cap, rfl, h3, h4⟩ := cPkt_rd h1
  exact ⟨a, cap, rfl, h3, h4, h2⟩
theorem cSnt_own {w : World} {s : PW} {v : Value} {bs : List Nat} (h : OwnSl cByte 5 w s.pkt.data v bs) (hi : PPIn s.pkt) (h2 : IntIn s.at_) : cSnt.own w s [.int .i64 s.pkt.kind, .int .i64 s.pkt.epoch, .int .i64 s.pkt.seq, .int .i64 s.pkt.count, .bool s.pkt.last, v, .int .i64 s.at_] bs :=
  ⟨_, _, bs, [], rfl, by simp, cPkt_own h hi, rfl, h2, rfl⟩
theorem cSnt_owned {w : World} {s : PW} {cs : List Value} {bs : List Nat} (h : cSnt.own w s cs bs) : ∃ a cap, cs = [.int .i64 s.pkt.kind, .int .i64 s.pkt.epoch, .int .i64 s.pkt.seq, .int .i64 s.pkt.count, .bool s.pkt.last, .slice a s.pkt.data.length cap, .int .i64 s.at_] ∧ OwnSl cByte 5 w s.pkt.data (.slice a s.pkt.data.length cap) bs ∧ PPIn s.pkt ∧ IntIn s.at_ := by
  obtain ⟨c1, c2, b1, b2, rfl, rfl, h1, rfl, h2, rfl⟩ := h
  obtain ⟨a, cap, rfl, h3, h4⟩ := cPkt_owned h1
  exact ⟨a, cap, rfl, by simpa using h3, h4, h2⟩
theorem cSnt_shape {w : World} {s : PW} {cs : List Value} (h : cSnt.rd w s cs) : ∃ a cap, cs = [.int .i64 s.pkt.kind, .int .i64 s.pkt.epoch, .int .i64 s.pkt.seq, .int .i64 s.pkt.count, .bool s.pkt.last, .slice a s.pkt.data.length cap, .int .i64 s.at_] := by
  obtain ⟨a, cap, rfl, _⟩ := cSnt_rd h
  exact ⟨a, cap, rfl⟩
def wN (s : PW) : Nat := s.pkt.data.length
set_option maxHeartbeats 2000000 in
theorem eqSent_law : EqLaw Tryz.prog 159 cSnt wN := by
  intro w x cs cs' h1 h2 ht
  obtain ⟨a1, c1, rfl, r1, hi, -⟩ := cSnt_rd h1
  obtain ⟨a2, c2, rfl, r2, -, -⟩ := cSnt_rd h2
  have HQ := hid (eqPacket_law ((w.alloc (.cells #[.int .i64 x.pkt.kind, .int .i64 x.pkt.epoch, .int .i64 x.pkt.seq, .int .i64 x.pkt.count, .bool x.pkt.last, .slice a1 x.pkt.data.length c1, .int .i64 x.at_] 137)).alloc (.cells #[.int .i64 x.pkt.kind, .int .i64 x.pkt.epoch, .int .i64 x.pkt.seq, .int .i64 x.pkt.count, .bool x.pkt.last, .slice a2 x.pkt.data.length c2, .int .i64 x.at_] 137)) x.pkt _ _ (cPkt_mk (r1.later (below_new2 _ _ _)) hi) (cPkt_mk (r2.later (below_new2 _ _ _)) hi) ht)
  simp only [val] at HQ
  have b1 : (x.at_ != x.at_) = false := by simp
  have HB0 := hid (below_new2 w (.cells #[.int .i64 x.pkt.kind, .int .i64 x.pkt.epoch, .int .i64 x.pkt.seq, .int .i64 x.pkt.count, .bool x.pkt.last, .slice a1 x.pkt.data.length c1, .int .i64 x.at_] 137) (.cells #[.int .i64 x.pkt.kind, .int .i64 x.pkt.epoch, .int .i64 x.pkt.seq, .int .i64 x.pkt.count, .bool x.pkt.last, .slice a2 x.pkt.data.length c2, .int .i64 x.at_] 137))
  simp only [val]
  clear h1 h2 ht r1 r2 hi
  go_enter Tryz.func159, Tryz.ntmps159
  go_wp2_with fail
  refine HQ.out.mono ?_
  rintro e w2 ⟨rfl, b2⟩
  have b2' := b2
  rw [size2] at b2'
  obtain ⟨k0, k1⟩ := heap2 _ _ b2'
  have p6 := cell_of_row w2 _ 6 _ _ _ k0
  have q6 := cell_of_row w2 _ 6 _ _ _ k1
  simp only [List.getElem?_toArray, List.getElem?_cons_zero, List.getElem?_cons_succ] at p6 q6
  have HB := hid (below_chain HB0.out b2)
  clear b2 b2' k0 k1
  go_wp2
  go_ret
  exact ⟨rfl, HB.out⟩
end Go.Proofs.YtfaehioeepolhaaGreat
