import Derived.Test.YtmaccmgmcahopaaJWindow8
import Derived.Test.YtmaccmgmcahopaaJWindow9
import Derived.Test.YtmaccmgmcahopaaJWindow1
import Derived.Test.YtmaccmgmcahopaaJWindow4
import Derived.Test.YtmaccmgmcahopaaJWindow5
import Derived.Test.YtmaccmgmcahopaaJWindow2
import Derived.Test.YtmaccmgmcahopaaJWindow6
import Derived.Handy
namespace Go.Proofs.Ytmaccmgmcahopaa
open Go.RowKit
end Go.Proofs.Ytmaccmgmcahopaa
namespace Go.Proofs.Ytmaccmgmcahopaa
open Go.RowKit
structure DSt (wb : World) (gM gR : Nat) (a : Option Addr) (c : Nat) (xs : List Nat) (j : Nat) (t : TypeId) (cs : Array Value) (wr : World) : Prop where
  box : wr.heap[gM]? = some (.cells cs t (0, 0))
  rdr : Rdr wr gR a c xs j
  gro : wb.grownBy wr (some gR)
theorem set_grown (w : World) (g i : Nat) (v : Value) : w.grownBy (w.setCell ⟨g, i, none⟩ v) (some g) :=
  ⟨rfl, rfl, rfl, by simp [World.setCell], fun k _ hk => heap_setCell_other w ⟨g, i, none⟩ k _ (fun e => hk (by simp [e]))⟩
theorem DSt.next {wb wr w' : World} {gM gR c j j' : Nat} {a : Option Addr} {xs : List Nat} {t : TypeId} {cs : Array Value} (h : DSt wb gM gR a c xs j t cs wr) (hM : wb.heap.size ≤ gM) (hR : gR < wb.heap.size) (hr : Rdr w' gR a c xs j') (hg : wr.grownBy w' (some gR)) : DSt wb gM gR a c xs j' t cs w' :=
  ⟨(hg.block gM (Array.getElem?_eq_some_iff.1 h.box).1 (fun e => by simp at e; omega)).trans h.box, hr, grown_next h.gro hg (fun p hp => by simp at hp; omega)⟩
theorem DSt.set {wb wr : World} {gM gR c j : Nat} {a : Option Addr} {xs : List Nat} {t : TypeId} {cs cs' : Array Value} (h : DSt wb gM gR a c xs j t cs wr) (hM : wb.heap.size ≤ gM) (hR : gR < wb.heap.size) (hab : ∀ x, a = some x → xs ≠ [] → x.block < wb.heap.size) (i : Nat) (v : Value) (hcs : cs.setIfInBounds i v = cs') : DSt wb gM gR a c xs j t cs' (wr.setCell ⟨gM, i, none⟩ v) := by
  subst hcs
  refine ⟨heap_setCell_same wr gM i cs t v h.box, h.rdr.kept (set_grown wr gM i v) (fun e => by simp at e; omega) (fun x h1 h2 e => by have := hab x h1 h2; simp at e; omega), grown_next h.gro (set_grown wr gM i v) (fun p hp => by simp at hp; omega)⟩
theorem DSt.grow {wb wr w' : World} {gM gR c j : Nat} {a : Option Addr} {xs : List Nat} {t : TypeId} {cs : Array Value} (h : DSt wb gM gR a c xs j t cs wr) (hR : gR < wb.heap.size) (hab : ∀ x, a = some x → xs ≠ [] → x.block < wb.heap.size) {row : Option Nat} (hg : wr.grownBy w' row) (h1 : ∀ p, row = some p → wb.heap.size ≤ p ∧ p ≠ gM) : DSt wb gM gR a c xs j t cs w' :=
  ⟨(hg.block gM (Array.getElem?_eq_some_iff.1 h.box).1 (fun e => (h1 _ e.symm).2 rfl)).trans h.box, h.rdr.kept hg (fun e => by have := (h1 _ e).1; omega) (fun x h2 h3 e => by have := hab x h2 h3; have := (h1 _ e).1; omega), grown_next h.gro hg (fun p hp => .inr (h1 p hp).1)⟩
theorem DSt.later {wb wr w' : World} {gM gR c j : Nat} {a : Option Addr} {xs : List Nat} {t : TypeId} {cs : Array Value} (h : DSt wb gM gR a c xs j t cs wr) (hb : Below wr.heap.size wr w') : DSt wb gM gR a c xs j t cs w' :=
  ⟨(hb.block gM (Array.getElem?_eq_some_iff.1 h.box).1).trans h.box, ⟨(hb.block gR (lt_of_block h.rdr.cells)).trans h.rdr.cells, h.rdr.rd.later hb, h.rdr.apart⟩, ⟨hb.os.trans h.gro.os, hb.tape.trans h.gro.tape, hb.output.trans h.gro.output, Nat.le_trans h.gro.size hb.size, fun i hi hne => (hb.block i (Nat.lt_of_lt_of_le hi h.gro.size)).trans (h.gro.block i hi hne)⟩⟩
end Go.Proofs.Ytmaccmgmcahopaa
namespace Go.Proofs.Ytmaccmgmcahopaa
open Go.RowKit
structure PP where
  kind : Int
  epoch : Int
  seq : Int
  count : Int
  last : Bool
  data : List Nat
def lastN (b : Bool) : Nat := if b then 1 else 0
theorem lastN_lt (b : Bool) : lastN b < 256 := by cases b <;> decide
abbrev PktOK (p : PP) : Prop := 1 ≤ p.epoch ∧ p.epoch ≤ 1000000000 ∧ 0 ≤ p.seq ∧ p.seq ≤ 1000000000000 ∧ 0 ≤ p.count ∧ p.count ≤ 1000000000 ∧
  ((p.kind = 1 ∧ p.seq < 1000000000000 ∧ p.count = 0 ∧ 1 ≤ p.data.length ∧ p.data.length ≤ 100) ∨ (lastN p.last = 0 ∧ p.data.length = 0 ∧ (p.kind = 2 ∨ (p.kind = 3 ∧ p.seq = 0) ∨ (p.kind = 4 ∧ p.seq = 0 ∧ p.count = 0))))
def pktOK (p : PP) : Bool := decide (PktOK p)
def headP (K E S C : Nat) (L : Bool) (D : List Nat) : List Nat := [67, K] ++ (digs E 4 ++ (digs S 8 ++ (digs C 4 ++ ([lastN L] ++ (digs D.length 2 ++ D)))))
theorem headP_len (K E S C : Nat) (L : Bool) (D : List Nat) : (headP K E S C L D).length = 21 + D.length := by simp [headP, digs_len]; omega
theorem headP_lt {K E S C : Nat} {L : Bool} {D : List Nat} (hK : K < 256) (hD : ∀ x ∈ D, x < 256) : ∀ x ∈ headP K E S C L D, x < 256 := by
  intro x hx
  simp only [headP, List.mem_append, List.mem_cons, List.not_mem_nil, or_false] at hx
  rcases hx with (rfl | rfl) | h | h | h | rfl | h | h
  · omega
  · exact hK
  · exact digs_lt _ _ x h
  · exact digs_lt _ _ x h
  · exact digs_lt _ _ x h
  · exact lastN_lt _
  · exact digs_lt _ _ x h
  · exact hD x h
def encP (K E S C : Nat) (L : Bool) (D : List Nat) : List Nat := headP K E S C L D ++ digs (crcM (headP K E S C L D)) 4
theorem encP_len (K E S C : Nat) (L : Bool) (D : List Nat) : (encP K E S C L D).length = 25 + D.length := by simp [encP, headP_len, digs_len]; omega
def pktB (p : PP) : List Nat := encP p.kind.toNat p.epoch.toNat p.seq.toNat p.count.toNat p.last p.data
def pktR (p : PP) : List Nat := if pktOK p = true then pktB p else []
theorem pktR_ok {p : PP} (h : pktOK p = true) : pktR p = pktB p := by unfold pktR; rw [if_pos h]
theorem pktR_bad {p : PP} (h : pktOK p = false) : pktR p = [] := by unfold pktR; rw [if_neg (by simp [h])]
theorem pktOK_data {p : PP} (h : pktOK p = true) : p.data.length ≤ 100 := by
  have := of_decide_eq_true h
  unfold PktOK at this
  omega
theorem pktOK_kind {p : PP} (h : pktOK p = true) : 1 ≤ p.kind ∧ p.kind ≤ 4 := by
  have := of_decide_eq_true h
  unfold PktOK at this
  omega
theorem pktR_len (p : PP) : (pktR p).length ≤ 125 := by
  unfold pktR
  split
  · rename_i h
    have := pktOK_data h
    simp only [pktB, encP_len]; omega
  · simp
theorem pktR_lt {p : PP} (hD : ∀ x ∈ p.data, x < 256) : ∀ x ∈ pktR p, x < 256 := by
  intro x hx
  unfold pktR at hx
  split at hx
  · rename_i h
    have hk := pktOK_kind h
    simp only [pktB, encP, List.mem_append] at hx
    rcases hx with hx | hx
    · exact headP_lt (by omega) hD x hx
    · exact digs_lt _ _ x hx
  · simp at hx
def pktG (b : List Nat) : PP := ⟨((b[1]?.getD 0 : Nat) : Int), ((num ((b.drop 2).take 4) : Nat) : Int), IntKind.i64.wrap ((num ((b.drop 6).take 8) : Nat) : Int), ((num ((b.drop 14).take 4) : Nat) : Int), b[18]?.getD 0 == 1, (b.drop 21).take (b.length - 25)⟩
def noPkt : PP := ⟨0, 0, 0, 0, false, []⟩
def okB (b : List Nat) : Bool := decide (25 ≤ b.length) && decide (pktR (pktG b) = b)
def pkP (b : List Nat) : PP := if okB b = true then pktG b else noPkt
def pkC (b : List Nat) : Int := if okB b = true then 0 else 3
theorem okB_short {b : List Nat} (h : b.length < 25) : okB b = false := by
  unfold okB; rw [decide_eq_false (by omega)]; rfl
theorem okB_no {b : List Nat} (h : pktR (pktG b) ≠ b) : okB b = false := by unfold okB; rw [decide_eq_false h]; simp
theorem okB_yes {b : List Nat} (h1 : 25 ≤ b.length) (h : pktR (pktG b) = b) : okB b = true := by unfold okB; rw [decide_eq_true h, decide_eq_true h1]; rfl
theorem pk_no {b : List Nat} (h : okB b = false) : pkP b = noPkt ∧ pkC b = 3 := by simp [pkP, pkC, h]
theorem pk_yes {b : List Nat} (h : okB b = true) : pkP b = pktG b ∧ pkC b = 0 := by simp [pkP, pkC, h]
end Go.Proofs.Ytmaccmgmcahopaa
namespace Go.Proofs.Ytmaccmgmcahopaa
open Go.RowKit
theorem set6 {w : World} {g : Nat} {e : TypeId} {a b c d i j x y z u p q : Value} (h : w.heap[g]? = some (.cells #[a, b, c, d, i, j] e (0, 0))) :
    ((((((w.setCell ⟨g, 0, none⟩ x).setCell ⟨g, 1, none⟩ y).setCell ⟨g, 2, none⟩ z).setCell ⟨g, 3, none⟩ u).setCell ⟨g, 4, none⟩ p).setCell ⟨g, 5, none⟩ q).heap[g]? = some (.cells #[x, y, z, u, p, q] e (0, 0)) := by
  have h1 := heap_setCell_same w g 0 _ e x h
  have h2 := heap_setCell_same _ g 1 _ e y h1
  have h3 := heap_setCell_same _ g 2 _ e z h2
  have h4 := heap_setCell_same _ g 3 _ e u h3
  have h5 := heap_setCell_same _ g 4 _ e p h4
  have h6 := heap_setCell_same _ g 5 _ e q h5
  rw [h6]; rfl
theorem set6o {w : World} {g k : Nat} {x y z u p q : Value} (h : k ≠ g) : ((((((w.setCell ⟨g, 0, none⟩ x).setCell ⟨g, 1, none⟩ y).setCell ⟨g, 2, none⟩ z).setCell ⟨g, 3, none⟩ u).setCell ⟨g, 4, none⟩ p).setCell ⟨g, 5, none⟩ q).heap[k]? = w.heap[k]? := by
  rw [Below.heap_setCell _ _ _ _ h, Below.heap_setCell _ _ _ _ h, Below.heap_setCell _ _ _ _ h, Below.heap_setCell _ _ _ _ h, Below.heap_setCell _ _ _ _ h, Below.heap_setCell _ _ _ _ h]
theorem set6b {B : Nat} {a w : World} {g : Nat} {x y z u p q : Value} (h : Below B a w) (hg : B ≤ g) : Below B a ((((((w.setCell ⟨g, 0, none⟩ x).setCell ⟨g, 1, none⟩ y).setCell ⟨g, 2, none⟩ z).setCell ⟨g, 3, none⟩ u).setCell ⟨g, 4, none⟩ p).setCell ⟨g, 5, none⟩ q) :=
  (((((h.setCell (p := ⟨g, 0, none⟩) hg _).setCell (p := ⟨g, 1, none⟩) hg _).setCell (p := ⟨g, 2, none⟩) hg _).setCell (p := ⟨g, 3, none⟩) hg _).setCell (p := ⟨g, 4, none⟩) hg _).setCell (p := ⟨g, 5, none⟩) hg _
def cPkt : Cod PP := cMap (cPair cInt (cPair cInt (cPair cInt (cPair cInt (cPair cBool (cSl cByte 5)))))) fun p => (p.kind, p.epoch, p.seq, p.count, p.last, p.data)
structure PPIn (p : PP) : Prop where
  kind : IntIn p.kind
  epoch : IntIn p.epoch
  seq : IntIn p.seq
  count : IntIn p.count
theorem cPkt_rd {w : World} {p : PP} {cs : List Value} (h : cPkt.rd w p cs) : ∃ a cap, cs = [.int .i64 p.kind, .int .i64 p.epoch, .int .i64 p.seq, .int .i64 p.count, .bool p.last, .slice a p.data.length cap] ∧ RdSl cByte w p.data (.slice a p.data.length cap) ∧ PPIn p := by
  obtain ⟨_, _, rfl, ⟨rfl, i1⟩, _, _, rfl, ⟨rfl, i2⟩, _, _, rfl, ⟨rfl, i3⟩, _, _, rfl, ⟨rfl, i4⟩, _, _, rfl, rfl, u, rfl, hu⟩ := h
  obtain ⟨a, cap, rfl, -⟩ := id hu
  exact ⟨a, cap, rfl, hu, ⟨i1, i2, i3, i4⟩⟩
theorem cPkt_own {w : World} {p : PP} {v : Value} {bs : List Nat} (h : OwnSl cByte 5 w p.data v bs) (hi : PPIn p) : cPkt.own w p [.int .i64 p.kind, .int .i64 p.epoch, .int .i64 p.seq, .int .i64 p.count, .bool p.last, v] bs :=
  ⟨_, _, [], bs, rfl, rfl, ⟨rfl, hi.kind, rfl⟩, _, _, [], bs, rfl, rfl, ⟨rfl, hi.epoch, rfl⟩, _, _, [], bs, rfl, rfl, ⟨rfl, hi.seq, rfl⟩, _, _, [], bs, rfl, rfl, ⟨rfl, hi.count, rfl⟩, _, _, [], bs, rfl, rfl, ⟨rfl, rfl⟩, v, rfl, h⟩
theorem cPkt_owned {w : World} {p : PP} {cs : List Value} {bs : List Nat} (h : cPkt.own w p cs bs) : ∃ a cap, cs = [.int .i64 p.kind, .int .i64 p.epoch, .int .i64 p.seq, .int .i64 p.count, .bool p.last, .slice a p.data.length cap] ∧ OwnSl cByte 5 w p.data (.slice a p.data.length cap) bs ∧ PPIn p := by
  obtain ⟨_, _, _, _, rfl, rfl, ⟨rfl, i1, rfl⟩, _, _, _, _, rfl, rfl, ⟨rfl, i2, rfl⟩, _, _, _, _, rfl, rfl, ⟨rfl, i3, rfl⟩, _, _, _, _, rfl, rfl, ⟨rfl, i4, rfl⟩, _, _, _, _, rfl, rfl, ⟨rfl, rfl⟩, u, rfl, hu⟩ := h
  obtain ⟨a, cap, rfl, -⟩ := id hu.rd
  exact ⟨a, cap, rfl, hu, ⟨i1, i2, i3, i4⟩⟩
end Go.Proofs.Ytmaccmgmcahopaa
