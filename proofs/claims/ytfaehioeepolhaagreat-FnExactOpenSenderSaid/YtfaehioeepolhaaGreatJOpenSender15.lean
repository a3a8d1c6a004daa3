/- TkB, PktMath, Pkt, Sent. -/
import Derived.Test.YtfaehioeepolhaaGreatJOpenSender8
import Derived.Test.YtfaehioeepolhaaGreatJOpenSender9
import Derived.Test.YtfaehioeepolhaaGreatJOpenSender1
import Derived.Test.YtfaehioeepolhaaGreatJOpenSender3
import Derived.Handy
import Derived.Test.YtfaehioeepolhaaGreatJOpenSender13
import Derived.Deep.Cut
/- Rows that lie in blocks from B on. No program. -/
namespace Go.Proofs.YtfaehioeepolhaaGreat
open Go.RowKit

theorem RowT.keptB {α : Type} {c : Cod α} {tk : Tk c} {e : TypeId} {B : Nat} {w w' : World} {v : Value} {xs : List α} (h : RowT tk e B w v xs) (hk : ∀ b, B ≤ b → b < w.heap.size → w'.heap[b]? = w.heap[b]?) : RowT tk e B w' v xs :=
  h.kept (fun b _ _ _ _ _ ho _ hp => hk b (World.ownsRow.lt ho b hp).1 (World.ownsRow.lt ho b hp).2)

end Go.Proofs.YtfaehioeepolhaaGreat

/- Packets in bytes, plainly. No program. -/
namespace Go.Proofs.YtfaehioeepolhaaGreat
open Go.RowKit

structure PP where
  kind : Int
  epoch : Int
  seq : Int
  count : Int
  last : Bool
  data : List Nat
def lastN (b : Bool) : Nat := if b then 1 else 0
theorem lastN_lt (b : Bool) : lastN b < 256 := by cases b <;> decide
theorem lastN_0 {b : Bool} : lastN b = 0 ↔ b = false := by cases b <;> decide
/-- What a packet must be. -/
def PktOK (p : PP) : Prop := 1 ≤ p.epoch ∧ p.epoch ≤ 1000000000 ∧ 0 ≤ p.seq ∧ p.seq ≤ 1000000000000 ∧ 0 ≤ p.count ∧ p.count ≤ 1000000000 ∧
  ((p.kind = 1 ∧ p.seq < 1000000000000 ∧ p.count = 0 ∧ 1 ≤ p.data.length ∧ p.data.length ≤ 100) ∨ (lastN p.last = 0 ∧ p.data.length = 0 ∧ (p.kind = 2 ∨ (p.kind = 3 ∧ p.seq = 0) ∨ (p.kind = 4 ∧ p.seq = 0 ∧ p.count = 0))))
instance (p : PP) : Decidable (PktOK p) := by unfold PktOK; infer_instance
def pktOK (p : PP) : Bool := decide (PktOK p)
def headP (K E S C : Nat) (L : Bool) (D : List Nat) : List Nat := [67, K] ++ (digs E 4 ++ (digs S 8 ++ (digs C 4 ++ ([lastN L] ++ (digs D.length 2 ++ D)))))
theorem headP_len (K E S C : Nat) (L : Bool) (D : List Nat) : (headP K E S C L D).length = 21 + D.length := by simp [headP, digs_len]; omega
theorem headP_lt {K E S C : Nat} {L : Bool} {D : List Nat} (hK : K < 256) (hD : ∀ x ∈ D, x < 256) : ∀ x ∈ headP K E S C L D, x < 256 := by
  intro x hx
  simp only [headP, List.mem_append, List.mem_cons, List.not_mem_nil, or_false] at hx
  rcases hx with (rfl | rfl) | h | h | h | rfl | h | h
  · omega
  · exact hK
  · exact digs_lt _ _ x h
  · exact digs_lt _ _ x h
  · exact digs_lt _ _ x h
  · exact lastN_lt _
  · exact digs_lt _ _ x h
  · exact hD x h
def encP (K E S C : Nat) (L : Bool) (D : List Nat) : List Nat := headP K E S C L D ++ digs (crcM (headP K E S C L D)) 4
theorem encP_len (K E S C : Nat) (L : Bool) (D : List Nat) : (encP K E S C L D).length = 25 + D.length := by simp [encP, headP_len, digs_len]; omega
def pktB (p : PP) : List Nat := encP p.kind.toNat p.epoch.toNat p.seq.toNat p.count.toNat p.last p.data
/-- The encoded packet, or nothing. -/
def pktR (p : PP) : List Nat := if pktOK p = true then pktB p else []
theorem pktR_ok {p : PP} (h : pktOK p = true) : pktR p = pktB p := by unfold pktR; rw [if_pos h]
theorem pktR_bad {p : PP} (h : pktOK p = false) : pktR p = [] := by unfold pktR; rw [if_neg (by simp [h])]
theorem pktOK_data {p : PP} (h : pktOK p = true) : p.data.length ≤ 100 := by
  have := of_decide_eq_true h
  unfold PktOK at this
  omega
theorem pktOK_kind {p : PP} (h : pktOK p = true) : 1 ≤ p.kind ∧ p.kind ≤ 4 := by
  have := of_decide_eq_true h
  unfold PktOK at this
  omega
theorem pktR_len (p : PP) : (pktR p).length ≤ 125 := by
  unfold pktR
  split
  · rename_i h
    have := pktOK_data h
    simp only [pktB, encP_len]; omega
  · simp
theorem pktR_lt {p : PP} (hD : ∀ x ∈ p.data, x < 256) : ∀ x ∈ pktR p, x < 256 := by
  intro x hx
  unfold pktR at hx
  split at hx
  · rename_i h
    have hk := pktOK_kind h
    simp only [pktB, encP, List.mem_append] at hx
    rcases hx with hx | hx
    · exact headP_lt (by omega) hD x hx
    · exact digs_lt _ _ x hx
  · simp at hx

/-! ### what is read -/
def pktG (b : List Nat) : PP := ⟨((b[1]?.getD 0 : Nat) : Int), ((num ((b.drop 2).take 4) : Nat) : Int), IntKind.i64.wrap ((num ((b.drop 6).take 8) : Nat) : Int), ((num ((b.drop 14).take 4) : Nat) : Int), b[18]?.getD 0 == 1, (b.drop 21).take (b.length - 25)⟩
def noPkt : PP := ⟨0, 0, 0, 0, false, []⟩
def okB (b : List Nat) : Bool := decide (25 ≤ b.length) && decide (pktR (pktG b) = b)
def pkP (b : List Nat) : PP := if okB b = true then pktG b else noPkt
def pkC (b : List Nat) : Int := if okB b = true then 0 else 3
theorem okB_short {b : List Nat} (h : b.length < 25) : okB b = false := by
  unfold okB; rw [decide_eq_false (by omega)]; rfl
theorem okB_long {b : List Nat} (h : 125 < b.length) : okB b = false := by
  unfold okB
  have h1 := pktR_len (pktG b)
  rw [decide_eq_false (p := pktR (pktG b) = b) (fun e => by rw [e] at h1; omega)]
  simp
theorem okB_no {b : List Nat} (h : pktR (pktG b) ≠ b) : okB b = false := by unfold okB; rw [decide_eq_false h]; simp
theorem okB_yes {b : List Nat} (h1 : 25 ≤ b.length) (h : pktR (pktG b) = b) : okB b = true := by unfold okB; rw [decide_eq_true h, decide_eq_true h1]; rfl
theorem pk_no {b : List Nat} (h : okB b = false) : pkP b = noPkt ∧ pkC b = 3 := by simp [pkP, pkC, h]
theorem pk_yes {b : List Nat} (h : okB b = true) : pkP b = pktG b ∧ pkC b = 0 := by simp [pkP, pkC, h]

end Go.Proofs.YtfaehioeepolhaaGreat

/- Packets in memory: laws.toPacket, szPacket, eqPacket, markPacket, heldPacket. -/
namespace Go.Proofs.YtfaehioeepolhaaGreat
open Go.RowKit

/-! ### blocks of six cells -/
theorem set6 {w : World} {g : Nat} {e : TypeId} {a b c d i j x y z u p q : Value} (h : w.heap[g]? = some (.cells #[a, b, c, d, i, j] e (0, 0))) :
    ((((((w.setCell ⟨g, 0, none⟩ x).setCell ⟨g, 1, none⟩ y).setCell ⟨g, 2, none⟩ z).setCell ⟨g, 3, none⟩ u).setCell ⟨g, 4, none⟩ p).setCell ⟨g, 5, none⟩ q).heap[g]? = some (.cells #[x, y, z, u, p, q] e (0, 0)) := by
  have h1 := heap_setCell_same w g 0 _ e x h
  have h2 := heap_setCell_same _ g 1 _ e y h1
  have h3 := heap_setCell_same _ g 2 _ e z h2
  have h4 := heap_setCell_same _ g 3 _ e u h3
  have h5 := heap_setCell_same _ g 4 _ e p h4
  have h6 := heap_setCell_same _ g 5 _ e q h5
  rw [h6]; rfl
theorem set6o {w : World} {g k : Nat} {x y z u p q : Value} (h : k ≠ g) : ((((((w.setCell ⟨g, 0, none⟩ x).setCell ⟨g, 1, none⟩ y).setCell ⟨g, 2, none⟩ z).setCell ⟨g, 3, none⟩ u).setCell ⟨g, 4, none⟩ p).setCell ⟨g, 5, none⟩ q).heap[k]? = w.heap[k]? := by
  rw [Below.heap_setCell _ _ _ _ h, Below.heap_setCell _ _ _ _ h, Below.heap_setCell _ _ _ _ h, Below.heap_setCell _ _ _ _ h, Below.heap_setCell _ _ _ _ h, Below.heap_setCell _ _ _ _ h]
theorem set6b {B : Nat} {a w : World} {g : Nat} {x y z u p q : Value} (h : Below B a w) (hg : B ≤ g) : Below B a ((((((w.setCell ⟨g, 0, none⟩ x).setCell ⟨g, 1, none⟩ y).setCell ⟨g, 2, none⟩ z).setCell ⟨g, 3, none⟩ u).setCell ⟨g, 4, none⟩ p).setCell ⟨g, 5, none⟩ q) :=
  (((((h.setCell (p := ⟨g, 0, none⟩) hg _).setCell (p := ⟨g, 1, none⟩) hg _).setCell (p := ⟨g, 2, none⟩) hg _).setCell (p := ⟨g, 3, none⟩) hg _).setCell (p := ⟨g, 4, none⟩) hg _).setCell (p := ⟨g, 5, none⟩) hg _

def cPkt : Cod PP := cMap (cPair cInt (cPair cInt (cPair cInt (cPair cInt (cPair cBool (cSl cByte 5)))))) fun p => (p.kind, p.epoch, p.seq, p.count, p.last, p.data)
structure PPIn (p : PP) : Prop where
  kind : IntIn p.kind
  epoch : IntIn p.epoch
  seq : IntIn p.seq
  count : IntIn p.count
theorem cPkt_rd {w : World} {p : PP} {cs : List Value} (h : cPkt.rd w p cs) : ∃ a cap, cs = [.int .i64 p.kind, .int .i64 p.epoch, .int .i64 p.seq, .int .i64 p.count, .bool p.last, .slice a p.data.length cap] ∧ RdSl cByte w p.data (.slice a p.data.length cap) ∧ PPIn p := by
  obtain ⟨_, _, rfl, ⟨rfl, i1⟩, _, _, rfl, ⟨rfl, i2⟩, _, _, rfl, ⟨rfl, i3⟩, _, _, rfl, ⟨rfl, i4⟩, _, _, rfl, rfl, u, rfl, hu⟩ := h
  obtain ⟨a, cap, rfl, -⟩ := id hu
  exact ⟨a, cap, rfl, hu, ⟨i1, i2, i3, i4⟩⟩
theorem cPkt_mk {w : World} {p : PP} {v : Value} (h : RdSl cByte w p.data v) (hi : PPIn p) : cPkt.rd w p [.int .i64 p.kind, .int .i64 p.epoch, .int .i64 p.seq, .int .i64 p.count, .bool p.last, v] :=
  ⟨_, _, rfl, ⟨rfl, hi.kind⟩, _, _, rfl, ⟨rfl, hi.epoch⟩, _, _, rfl, ⟨rfl, hi.seq⟩, _, _, rfl, ⟨rfl, hi.count⟩, _, _, rfl, rfl, v, rfl, h⟩
theorem cPkt_own {w : World} {p : PP} {v : Value} {bs : List Nat} (h : OwnSl cByte 5 w p.data v bs) (hi : PPIn p) : cPkt.own w p [.int .i64 p.kind, .int .i64 p.epoch, .int .i64 p.seq, .int .i64 p.count, .bool p.last, v] bs :=
  ⟨_, _, [], bs, rfl, rfl, ⟨rfl, hi.kind, rfl⟩, _, _, [], bs, rfl, rfl, ⟨rfl, hi.epoch, rfl⟩, _, _, [], bs, rfl, rfl, ⟨rfl, hi.seq, rfl⟩, _, _, [], bs, rfl, rfl, ⟨rfl, hi.count, rfl⟩, _, _, [], bs, rfl, rfl, ⟨rfl, rfl⟩, v, rfl, h⟩
theorem cPkt_owned {w : World} {p : PP} {cs : List Value} {bs : List Nat} (h : cPkt.own w p cs bs) : ∃ a cap, cs = [.int .i64 p.kind, .int .i64 p.epoch, .int .i64 p.seq, .int .i64 p.count, .bool p.last, .slice a p.data.length cap] ∧ OwnSl cByte 5 w p.data (.slice a p.data.length cap) bs ∧ PPIn p := by
  obtain ⟨_, _, _, _, rfl, rfl, ⟨rfl, i1, rfl⟩, _, _, _, _, rfl, rfl, ⟨rfl, i2, rfl⟩, _, _, _, _, rfl, rfl, ⟨rfl, i3, rfl⟩, _, _, _, _, rfl, rfl, ⟨rfl, i4, rfl⟩, _, _, _, _, rfl, rfl, ⟨rfl, rfl⟩, u, rfl, hu⟩ := h
  obtain ⟨a, cap, rfl, -⟩ := id hu.rd
  exact ⟨a, cap, rfl, hu, ⟨i1, i2, i3, i4⟩⟩
theorem cPkt_shape {w : World} {p : PP} {cs : List Value} (h : cPkt.rd w p cs) : ∃ a cap, cs = [.int .i64 p.kind, .int .i64 p.epoch, .int .i64 p.seq, .int .i64 p.count, .bool p.last, .slice a p.data.length cap] := by
  obtain ⟨a, cap, rfl, _⟩ := cPkt_rd h
  exact ⟨a, cap, rfl⟩
def pN (p : PP) : Nat := p.data.length

set_option maxHeartbeats 1000000 in
theorem szPacket_law : SzLaw Tryz.prog 132 cPkt pN := by
  intro w x cs l hrd h0 h1
  obtain ⟨a, cap, rfl, hv, -⟩ := cPkt_rd hrd
  have hm : x.data.length ≤ maxLen := by
    obtain ⟨a', cap', e', h2, h3, _⟩ := hv
    omega
  clear hrd hv
  simp only [val]
  unfold pN
  by_cases hneg : rest l x.data.length < 0
  · have hm1 := rest_neg1 hneg
    go_enter Tryz.func132, Tryz.ntmps132
    go_wp2_with fail
    refine (szBytes_any a _ cap l _ hm h0 h1).mono ?_
    rintro e w2 ⟨rfl, rfl⟩
    have HM := hid hm1
    clear hm1
    generalize hr : rest l x.data.length = r at *
    have HR := hid hr
    clear hr
    go_wp2
    go_ret
    exact ⟨by show _ = Ending.returned (.int .i64 (rest l x.data.length)); rw [HR.out, HM.out]; rfl, below_new1 _ _⟩
  · go_enter Tryz.func132, Tryz.ntmps132
    go_wp2_with fail
    refine (szBytes_any a _ cap l _ hm h0 h1).mono ?_
    rintro e w2 ⟨rfl, rfl⟩
    generalize hr : rest l x.data.length = r at *
    have HR := hid hr
    clear hr
    go_wp2
    go_ret
    exact ⟨by show _ = Ending.returned (.int .i64 (rest l x.data.length)); rw [HR.out]; rfl, below_new1 _ _⟩
set_option maxHeartbeats 2000000 in
theorem eqPacket_law : EqLaw Tryz.prog 141 cPkt pN := by
  intro w x cs cs' h1 h2 ht
  obtain ⟨a1, c1, rfl, r1, -⟩ := cPkt_rd h1
  obtain ⟨a2, c2, rfl, r2, -⟩ := cPkt_rd h2
  have r1 : Rd w a1 (byt x.data) := by
    obtain ⟨a', cap', e, _, _, _, hr, _⟩ := r1.bytes
    simp at e; rw [e.1]; exact hr
  have r2 : Rd w a2 (byt x.data) := by
    obtain ⟨a', cap', e, _, _, _, hr, _⟩ := r2.bytes
    simp at e; rw [e.1]; exact hr
  have ht' : x.data.length ≤ 1048576 := ht
  have b1 : (x.kind != x.kind) = false := by simp
  have b2 : (x.epoch != x.epoch) = false := by simp
  have b3 : (x.seq != x.seq) = false := by simp
  have b4 : (x.count != x.count) = false := by simp
  have b5 : (x.last != x.last) = false := by simp
  have HR1 := hid r1
  have HR2 := hid r2
  simp only [val]
  clear h1 h2 ht r1 r2
  go_enter Tryz.func141, Tryz.ntmps141
  go_wp2_with fail
  refine (eqByteS_any a1 a2 c1 c2 _ x.data _ (HR1.out.later (below_new2 _ _ _)) (HR2.out.later (below_new2 _ _ _)) rfl (by omega)).mono ?_
  rintro e w2 ⟨rfl, b2⟩
  have HB : Hid (Below w.heap.size w w2) := hid ((below_new2 w _ _).trans (b2.mono (by simp; omega)))
  clear b2
  go_wp2
  go_ret
  exact ⟨rfl, HB.out⟩
set_option maxHeartbeats 2000000 in
theorem toPacket_law : ToLaw Tryz.prog 136 cPkt pN := by
  intro w p cs h ht
  obtain ⟨a, cap, rfl, hr, hin⟩ := cPkt_rd h
  have ht' : p.data.length ≤ 1048576 := ht
  obtain ⟨a', cap', e', h1, h2, h3, hrd, hby⟩ := hr.bytes
  simp only [Value.slice.injEq] at e'
  obtain ⟨rfl, -, rfl⟩ := e'
  have HR := hid hrd
  have HBY := hid hby
  have HIN := hid hin
  simp only [val]
  clear h ht hr hrd hby hin h1 h2 h3
  go_enter Tryz.func136, Tryz.ntmps136
  go_wp2_with fail
  refine (toByteS_any a cap p.data _ (HR.out.later (below_new3 _ _ _ _)) (by omega)).mono ?_
  rintro e w2 ⟨g2, rfl, o2, b2⟩
  have hg := own_in o2 (g := g2) rfl
  rw [size3] at hg b2
  obtain ⟨k0, k1, k2⟩ := heap3 _ _ _ b2
  have c10 := cell_of_row w2 _ 0 _ _ _ k1
  have c11 := cell_of_row w2 _ 1 _ _ _ k1
  have c12 := cell_of_row w2 _ 2 _ _ _ k1
  have c13 := cell_of_row w2 _ 3 _ _ _ k1
  have c14 := cell_of_row w2 _ 4 _ _ _ k1
  have c15 := cell_of_row w2 _ 5 _ _ _ k1
  have f10 := frozen_of_row w2 _ 0 _ _ k1
  have f11 := frozen_of_row w2 _ 1 _ _ k1
  have f12 := frozen_of_row w2 _ 2 _ _ k1
  have f13 := frozen_of_row w2 _ 3 _ _ k1
  have f14 := frozen_of_row w2 _ 4 _ _ k1
  have f15 := frozen_of_row w2 _ 5 _ _ k1
  have c20 := cell_of_row w2 _ 0 _ _ _ k2
  have c21 := cell_of_row w2 _ 1 _ _ _ k2
  have c22 := cell_of_row w2 _ 2 _ _ _ k2
  have c23 := cell_of_row w2 _ 3 _ _ _ k2
  have c24 := cell_of_row w2 _ 4 _ _ _ k2
  have c25 := cell_of_row w2 _ 5 _ _ _ k2
  have f25 := frozen_of_row w2 _ 5 _ _ k2
  simp only [List.getElem?_toArray, List.getElem?_cons_zero, List.getElem?_cons_succ] at c10 c11 c12 c13 c14 c15 c20 c21 c22 c23 c24 c25
  have K1 := hid k1
  have HB : Hid (Below w.heap.size w w2) := hid ((below_new3 w _ _ _).trans (b2.mono (by omega)))
  have HO := hid o2
  have HG := hid hg
  clear k0 k1 k2 b2 o2 hg
  go_wp2
  have h12 : w.heap.size + 1 ≠ w.heap.size + 1 + 1 := by omega
  have hg := HG.out
  refine bodyPost_ret (results_cell_row rfl _ _ (w.heap.size + 1) 120 #[.int .i64 p.kind, .int .i64 p.epoch, .int .i64 p.seq, .int .i64 p.count, .bool p.last, .slice (some ⟨g2, 0, none⟩) p.data.length p.data.length] (0, 0) _ rfl (set6 ((Below.heap_setCell _ ⟨w.heap.size + 1 + 1, 5, none⟩ _ _ h12).trans K1.out)) Tryz.underlying120 rfl (by kernel_rfl)) rfl ?_
  refine ⟨_, [g2], rfl, cPkt_own (OwnSl.kept (ownSl_bytes HO.out HBY.out) (fun b hb => ?_)) HIN.out, by simp; omega, by simp, set6b (HB.out.setCell (p := ⟨w.heap.size + 1 + 1, 5, none⟩) (by simp only []; omega) _) (by omega)⟩
  simp at hb
  subst hb
  exact (set6o (by omega)).trans (Below.heap_setCell _ ⟨w.heap.size + 1 + 1, 5, none⟩ _ _ (by simp only []; omega))
end Go.Proofs.YtfaehioeepolhaaGreat

/- A packet that waits: laws.toSent, szSent, eqSent. -/
namespace Go.Proofs.YtfaehioeepolhaaGreat
open Go.RowKit

theorem set7 {w : World} {g : Nat} {e : TypeId} {a0 a1 a2 a3 a4 a5 a6 x0 x1 x2 x3 x4 x5 x6 : Value} (h : w.heap[g]? = some (.cells #[a0, a1, a2, a3, a4, a5, a6] e (0, 0))) :
    (((((((w.setCell ⟨g, 0, none⟩ x0).setCell ⟨g, 1, none⟩ x1).setCell ⟨g, 2, none⟩ x2).setCell ⟨g, 3, none⟩ x3).setCell ⟨g, 4, none⟩ x4).setCell ⟨g, 5, none⟩ x5).setCell ⟨g, 6, none⟩ x6).heap[g]? = some (.cells #[x0, x1, x2, x3, x4, x5, x6] e (0, 0)) := by
  have h1 := heap_setCell_same w g 0 _ e x0 h
  have h2 := heap_setCell_same _ g 1 _ e x1 h1
  have h3 := heap_setCell_same _ g 2 _ e x2 h2
  have h4 := heap_setCell_same _ g 3 _ e x3 h3
  have h5 := heap_setCell_same _ g 4 _ e x4 h4
  have h6 := heap_setCell_same _ g 5 _ e x5 h5
  have h7 := heap_setCell_same _ g 6 _ e x6 h6
  rw [h7]; rfl
theorem set7o {w : World} {g k : Nat} {x0 x1 x2 x3 x4 x5 x6 : Value} (h : k ≠ g) : (((((((w.setCell ⟨g, 0, none⟩ x0).setCell ⟨g, 1, none⟩ x1).setCell ⟨g, 2, none⟩ x2).setCell ⟨g, 3, none⟩ x3).setCell ⟨g, 4, none⟩ x4).setCell ⟨g, 5, none⟩ x5).setCell ⟨g, 6, none⟩ x6).heap[k]? = w.heap[k]? := by
  rw [Below.heap_setCell _ _ _ _ h, Below.heap_setCell _ _ _ _ h, Below.heap_setCell _ _ _ _ h, Below.heap_setCell _ _ _ _ h, Below.heap_setCell _ _ _ _ h, Below.heap_setCell _ _ _ _ h, Below.heap_setCell _ _ _ _ h]
theorem set7b {B : Nat} {a w : World} {g : Nat} {x0 x1 x2 x3 x4 x5 x6 : Value} (h : Below B a w) (hg : B ≤ g) : Below B a (((((((w.setCell ⟨g, 0, none⟩ x0).setCell ⟨g, 1, none⟩ x1).setCell ⟨g, 2, none⟩ x2).setCell ⟨g, 3, none⟩ x3).setCell ⟨g, 4, none⟩ x4).setCell ⟨g, 5, none⟩ x5).setCell ⟨g, 6, none⟩ x6) :=
  by have := wsetAll_below [x0, x1, x2, x3, x4, x5, x6] w g 0 h hg; rw [wset7] at this; simpa using this

structure PW where
  pkt : PP
  at_ : Int
def cSnt : Cod PW := cMap (cPair cPkt cInt) fun s => (s.pkt, s.at_)
theorem cSnt_rd {w : World} {s : PW} {cs : List Value} (h : cSnt.rd w s cs) : ∃ a cap, cs = [.int .i64 s.pkt.kind, .int .i64 s.pkt.epoch, .int .i64 s.pkt.seq, .int .i64 s.pkt.count, .bool s.pkt.last, .slice a s.pkt.data.length cap, .int .i64 s.at_] ∧ RdSl cByte w s.pkt.data (.slice a s.pkt.data.length cap) ∧ PPIn s.pkt ∧ IntIn s.at_ := by
  obtain ⟨c1, c2, rfl, h1, rfl, h2⟩ := h
  obtain ⟨a, cap, rfl, h3, h4⟩ := cPkt_rd h1
  exact ⟨a, cap, rfl, h3, h4, h2⟩
theorem cSnt_mk {w : World} {s : PW} {v : Value} (h : RdSl cByte w s.pkt.data v) (hi : PPIn s.pkt) (h2 : IntIn s.at_) : cSnt.rd w s [.int .i64 s.pkt.kind, .int .i64 s.pkt.epoch, .int .i64 s.pkt.seq, .int .i64 s.pkt.count, .bool s.pkt.last, v, .int .i64 s.at_] :=
  ⟨_, _, rfl, cPkt_mk h hi, rfl, h2⟩
theorem cSnt_own {w : World} {s : PW} {v : Value} {bs : List Nat} (h : OwnSl cByte 5 w s.pkt.data v bs) (hi : PPIn s.pkt) (h2 : IntIn s.at_) : cSnt.own w s [.int .i64 s.pkt.kind, .int .i64 s.pkt.epoch, .int .i64 s.pkt.seq, .int .i64 s.pkt.count, .bool s.pkt.last, v, .int .i64 s.at_] bs :=
  ⟨_, _, bs, [], rfl, by simp, cPkt_own h hi, rfl, h2, rfl⟩
theorem cSnt_owned {w : World} {s : PW} {cs : List Value} {bs : List Nat} (h : cSnt.own w s cs bs) : ∃ a cap, cs = [.int .i64 s.pkt.kind, .int .i64 s.pkt.epoch, .int .i64 s.pkt.seq, .int .i64 s.pkt.count, .bool s.pkt.last, .slice a s.pkt.data.length cap, .int .i64 s.at_] ∧ OwnSl cByte 5 w s.pkt.data (.slice a s.pkt.data.length cap) bs ∧ PPIn s.pkt ∧ IntIn s.at_ := by
  obtain ⟨c1, c2, b1, b2, rfl, rfl, h1, rfl, h2, rfl⟩ := h
  obtain ⟨a, cap, rfl, h3, h4⟩ := cPkt_owned h1
  exact ⟨a, cap, rfl, by simpa using h3, h4, h2⟩
theorem cSnt_shape {w : World} {s : PW} {cs : List Value} (h : cSnt.rd w s cs) : ∃ a cap, cs = [.int .i64 s.pkt.kind, .int .i64 s.pkt.epoch, .int .i64 s.pkt.seq, .int .i64 s.pkt.count, .bool s.pkt.last, .slice a s.pkt.data.length cap, .int .i64 s.at_] := by
  obtain ⟨a, cap, rfl, _⟩ := cSnt_rd h
  exact ⟨a, cap, rfl⟩
def wN (s : PW) : Nat := s.pkt.data.length

set_option maxHeartbeats 1000000 in
theorem szSent_law : SzLaw Tryz.prog 143 cSnt wN := by
  intro w x cs l hrd h0 h1
  obtain ⟨a, cap, rfl, hv, hi, -⟩ := cSnt_rd hrd
  have HQ := hid (szPacket_law (w.alloc (.cells #[.int .i64 x.pkt.kind, .int .i64 x.pkt.epoch, .int .i64 x.pkt.seq, .int .i64 x.pkt.count, .bool x.pkt.last, .slice a x.pkt.data.length cap, .int .i64 x.at_] 171)) x.pkt _ l (cPkt_mk (hv.later (below_new1 _ _)) hi) h0 h1)
  simp only [val] at HQ
  have HB0 := hid (below_new1 w (.cells #[.int .i64 x.pkt.kind, .int .i64 x.pkt.epoch, .int .i64 x.pkt.seq, .int .i64 x.pkt.count, .bool x.pkt.last, .slice a x.pkt.data.length cap, .int .i64 x.at_] 171))
  clear hrd hv hi
  simp only [val]
  rw [show wN x = pN x.pkt from rfl]
  by_cases hneg : rest l (pN x.pkt) < 0
  · have HM := hid (rest_neg1 hneg)
    generalize hr : rest l (pN x.pkt) = r at *
    clear hr
    go_enter Tryz.func143, Tryz.ntmps143
    go_wp2_with fail
    refine HQ.out.mono ?_
    rintro e w2 ⟨rfl, b2⟩
    have HB := hid (below_chain HB0.out b2)
    clear b2
    go_wp2
    go_ret
    exact ⟨by rw [HM.out]; rfl, HB.out⟩
  · generalize hr : rest l (pN x.pkt) = r at *
    clear hr
    go_enter Tryz.func143, Tryz.ntmps143
    go_wp2_with fail
    refine HQ.out.mono ?_
    rintro e w2 ⟨rfl, b2⟩
    have HB := hid (below_chain HB0.out b2)
    clear b2
    go_wp2
    go_ret
    exact ⟨rfl, HB.out⟩

set_option maxHeartbeats 2000000 in
theorem eqSent_law : EqLaw Tryz.prog 159 cSnt wN := by
  intro w x cs cs' h1 h2 ht
  obtain ⟨a1, c1, rfl, r1, hi, -⟩ := cSnt_rd h1
  obtain ⟨a2, c2, rfl, r2, -, -⟩ := cSnt_rd h2
  have HQ := hid (eqPacket_law ((w.alloc (.cells #[.int .i64 x.pkt.kind, .int .i64 x.pkt.epoch, .int .i64 x.pkt.seq, .int .i64 x.pkt.count, .bool x.pkt.last, .slice a1 x.pkt.data.length c1, .int .i64 x.at_] 137)).alloc (.cells #[.int .i64 x.pkt.kind, .int .i64 x.pkt.epoch, .int .i64 x.pkt.seq, .int .i64 x.pkt.count, .bool x.pkt.last, .slice a2 x.pkt.data.length c2, .int .i64 x.at_] 137)) x.pkt _ _ (cPkt_mk (r1.later (below_new2 _ _ _)) hi) (cPkt_mk (r2.later (below_new2 _ _ _)) hi) ht)
  simp only [val] at HQ
  have b1 : (x.at_ != x.at_) = false := by simp
  have HB0 := hid (below_new2 w (.cells #[.int .i64 x.pkt.kind, .int .i64 x.pkt.epoch, .int .i64 x.pkt.seq, .int .i64 x.pkt.count, .bool x.pkt.last, .slice a1 x.pkt.data.length c1, .int .i64 x.at_] 137) (.cells #[.int .i64 x.pkt.kind, .int .i64 x.pkt.epoch, .int .i64 x.pkt.seq, .int .i64 x.pkt.count, .bool x.pkt.last, .slice a2 x.pkt.data.length c2, .int .i64 x.at_] 137))
  simp only [val]
  clear h1 h2 ht r1 r2 hi
  go_enter Tryz.func159, Tryz.ntmps159
  go_wp2_with fail
  refine HQ.out.mono ?_
  rintro e w2 ⟨rfl, b2⟩
  have b2' := b2
  rw [size2] at b2'
  obtain ⟨k0, k1⟩ := heap2 _ _ b2'
  have p6 := cell_of_row w2 _ 6 _ _ _ k0
  have q6 := cell_of_row w2 _ 6 _ _ _ k1
  simp only [List.getElem?_toArray, List.getElem?_cons_zero, List.getElem?_cons_succ] at p6 q6
  have HB := hid (below_chain HB0.out b2)
  clear b2 b2' k0 k1
  go_wp2
  go_ret
  exact ⟨rfl, HB.out⟩

set_option maxRecDepth 100000 in
set_option maxHeartbeats 4000000 in
theorem toSent_law : ToLaw Tryz.prog 149 cSnt wN := by
  intro w s cs h ht
  obtain ⟨a, cap, rfl, hr, hin, hat⟩ := cSnt_rd h
  have hl3 : Below w.heap.size w (((w.alloc (.cells #[.int .i64 s.pkt.kind, .int .i64 s.pkt.epoch, .int .i64 s.pkt.seq, .int .i64 s.pkt.count, .bool s.pkt.last, .slice a s.pkt.data.length cap, .int .i64 s.at_] 171)).alloc (.cells #[.int .i64 0, .int .i64 0, .int .i64 0, .int .i64 0, .bool false, .slice none 0 0, .int .i64 0] 137)).alloc (.cells #[.int .i64 0, .int .i64 0, .int .i64 0, .int .i64 0, .bool false, .slice none 0 0, .int .i64 0] 137)) := below_new3 w _ _ _
  have HQ := hid (toPacket_law (((w.alloc (.cells #[.int .i64 s.pkt.kind, .int .i64 s.pkt.epoch, .int .i64 s.pkt.seq, .int .i64 s.pkt.count, .bool s.pkt.last, .slice a s.pkt.data.length cap, .int .i64 s.at_] 171)).alloc (.cells #[.int .i64 0, .int .i64 0, .int .i64 0, .int .i64 0, .bool false, .slice none 0 0, .int .i64 0] 137)).alloc (.cells #[.int .i64 0, .int .i64 0, .int .i64 0, .int .i64 0, .bool false, .slice none 0 0, .int .i64 0] 137)) s.pkt _ (cPkt_mk (hr.later hl3) hin) ht)
  simp only [val] at HQ
  have HIN := hid hin
  have HAT := hid hat
  have HL3 := hid hl3
  simp only [val]
  clear h ht hr hin hat hl3
  go_enter Tryz.func149, Tryz.ntmps149
  go_wp2_with fail
  refine HQ.out.mono ?_
  rintro e w2 ⟨cs2, bs, he, o2, hbs, hnd, b2⟩
  obtain ⟨a2, c2, rfl, o3, -⟩ := cPkt_owned o2
  subst he
  have b2' := b2
  rw [size3] at b2' hbs
  obtain ⟨k0, k1, k2⟩ := heap3 _ _ _ b2'
  have c06 := cell_of_row w2 _ 6 _ _ _ k0
  have c10 := cell_of_row w2 _ 0 _ _ _ k1
  have f10 := frozen_of_row w2 _ 0 _ _ k1
  have c20 := cell_of_row w2 _ 0 _ _ _ k2
  have f20 := frozen_of_row w2 _ 0 _ _ k2
  have c11 := cell_of_row w2 _ 1 _ _ _ k1
  have f11 := frozen_of_row w2 _ 1 _ _ k1
  have c21 := cell_of_row w2 _ 1 _ _ _ k2
  have f21 := frozen_of_row w2 _ 1 _ _ k2
  have c12 := cell_of_row w2 _ 2 _ _ _ k1
  have f12 := frozen_of_row w2 _ 2 _ _ k1
  have c22 := cell_of_row w2 _ 2 _ _ _ k2
  have f22 := frozen_of_row w2 _ 2 _ _ k2
  have c13 := cell_of_row w2 _ 3 _ _ _ k1
  have f13 := frozen_of_row w2 _ 3 _ _ k1
  have c23 := cell_of_row w2 _ 3 _ _ _ k2
  have f23 := frozen_of_row w2 _ 3 _ _ k2
  have c14 := cell_of_row w2 _ 4 _ _ _ k1
  have f14 := frozen_of_row w2 _ 4 _ _ k1
  have c24 := cell_of_row w2 _ 4 _ _ _ k2
  have f24 := frozen_of_row w2 _ 4 _ _ k2
  have c15 := cell_of_row w2 _ 5 _ _ _ k1
  have f15 := frozen_of_row w2 _ 5 _ _ k1
  have c25 := cell_of_row w2 _ 5 _ _ _ k2
  have f25 := frozen_of_row w2 _ 5 _ _ k2
  have c16 := cell_of_row w2 _ 6 _ _ _ k1
  have f16 := frozen_of_row w2 _ 6 _ _ k1
  have c26 := cell_of_row w2 _ 6 _ _ _ k2
  have f26 := frozen_of_row w2 _ 6 _ _ k2
  simp only [List.getElem?_toArray, List.getElem?_cons_zero, List.getElem?_cons_succ] at c06 c10 c20 c11 c21 c12 c22 c13 c23 c14 c24 c15 c25 c16 c26
  have h12 : w.heap.size + 1 ≠ w.heap.size + 1 + 1 := by omega
  have HKO : Hid ((((((((w2.setCell ⟨w.heap.size + 1 + 1, 0, none⟩ (.int .i64 s.pkt.kind)).setCell ⟨w.heap.size + 1 + 1, 1, none⟩ (.int .i64 s.pkt.epoch)).setCell ⟨w.heap.size + 1 + 1, 2, none⟩ (.int .i64 s.pkt.seq)).setCell ⟨w.heap.size + 1 + 1, 3, none⟩ (.int .i64 s.pkt.count)).setCell ⟨w.heap.size + 1 + 1, 4, none⟩ (.bool s.pkt.last)).setCell ⟨w.heap.size + 1 + 1, 5, none⟩ (.slice a2 s.pkt.data.length c2)).setCell ⟨w.heap.size + 1 + 1, 6, none⟩ (.int .i64 s.at_)).heap[w.heap.size + 1 + 1]? = some (.cells #[.int .i64 s.pkt.kind, .int .i64 s.pkt.epoch, .int .i64 s.pkt.seq, .int .i64 s.pkt.count, .bool s.pkt.last, .slice a2 s.pkt.data.length c2, .int .i64 s.at_] 137 (0, 0))) := hid (set7 k2)
  have HKR : Hid ((((((((w2.setCell ⟨w.heap.size + 1 + 1, 0, none⟩ (.int .i64 s.pkt.kind)).setCell ⟨w.heap.size + 1 + 1, 1, none⟩ (.int .i64 s.pkt.epoch)).setCell ⟨w.heap.size + 1 + 1, 2, none⟩ (.int .i64 s.pkt.seq)).setCell ⟨w.heap.size + 1 + 1, 3, none⟩ (.int .i64 s.pkt.count)).setCell ⟨w.heap.size + 1 + 1, 4, none⟩ (.bool s.pkt.last)).setCell ⟨w.heap.size + 1 + 1, 5, none⟩ (.slice a2 s.pkt.data.length c2)).setCell ⟨w.heap.size + 1 + 1, 6, none⟩ (.int .i64 s.at_)).heap[w.heap.size + 1]? = some (.cells #[.int .i64 0, .int .i64 0, .int .i64 0, .int .i64 0, .bool false, .slice none 0 0, .int .i64 0] 137 (0, 0))) := hid ((set7o h12).trans k1)
  have HBW : Hid (Below w.heap.size w (((((((w2.setCell ⟨w.heap.size + 1 + 1, 0, none⟩ (.int .i64 s.pkt.kind)).setCell ⟨w.heap.size + 1 + 1, 1, none⟩ (.int .i64 s.pkt.epoch)).setCell ⟨w.heap.size + 1 + 1, 2, none⟩ (.int .i64 s.pkt.seq)).setCell ⟨w.heap.size + 1 + 1, 3, none⟩ (.int .i64 s.pkt.count)).setCell ⟨w.heap.size + 1 + 1, 4, none⟩ (.bool s.pkt.last)).setCell ⟨w.heap.size + 1 + 1, 5, none⟩ (.slice a2 s.pkt.data.length c2)).setCell ⟨w.heap.size + 1 + 1, 6, none⟩ (.int .i64 s.at_))) := hid (set7b (below_chain HL3.out b2) (by omega))
  have HOW : Hid (OwnSl cByte 5 (((((((w2.setCell ⟨w.heap.size + 1 + 1, 0, none⟩ (.int .i64 s.pkt.kind)).setCell ⟨w.heap.size + 1 + 1, 1, none⟩ (.int .i64 s.pkt.epoch)).setCell ⟨w.heap.size + 1 + 1, 2, none⟩ (.int .i64 s.pkt.seq)).setCell ⟨w.heap.size + 1 + 1, 3, none⟩ (.int .i64 s.pkt.count)).setCell ⟨w.heap.size + 1 + 1, 4, none⟩ (.bool s.pkt.last)).setCell ⟨w.heap.size + 1 + 1, 5, none⟩ (.slice a2 s.pkt.data.length c2)).setCell ⟨w.heap.size + 1 + 1, 6, none⟩ (.int .i64 s.at_)) s.pkt.data (.slice a2 s.pkt.data.length c2) bs) := hid (o3.kept (fun b hb => set7o (by have := hbs b hb; omega)))
  have HBS := hid hbs
  have HND := hid hnd
  clear k0 k1 k2 b2 b2' o2 o3 hbs hnd
  go_upto_region 4 with fail
  generalize (((((((w2.setCell ⟨w.heap.size + 1 + 1, 0, none⟩ (.int .i64 s.pkt.kind)).setCell ⟨w.heap.size + 1 + 1, 1, none⟩ (.int .i64 s.pkt.epoch)).setCell ⟨w.heap.size + 1 + 1, 2, none⟩ (.int .i64 s.pkt.seq)).setCell ⟨w.heap.size + 1 + 1, 3, none⟩ (.int .i64 s.pkt.count)).setCell ⟨w.heap.size + 1 + 1, 4, none⟩ (.bool s.pkt.last)).setCell ⟨w.heap.size + 1 + 1, 5, none⟩ (.slice a2 s.pkt.data.length c2)).setCell ⟨w.heap.size + 1 + 1, 6, none⟩ (.int .i64 s.at_)) = W at *
  clear c06 c10 c20 f10 f20 c11 c21 f11 f21 c12 c22 f12 f22 c13 c23 f13 f23 c14 c24 f14 f24 c15 c25 f15 f25 c16 c26 f16 f26
  have k1 := HKR.out
  have k2 := HKO.out
  have c10 := cell_of_row W _ 0 _ _ _ k1
  have f10 := frozen_of_row W _ 0 _ _ k1
  have c20 := cell_of_row W _ 0 _ _ _ k2
  have c11 := cell_of_row W _ 1 _ _ _ k1
  have f11 := frozen_of_row W _ 1 _ _ k1
  have c21 := cell_of_row W _ 1 _ _ _ k2
  have c12 := cell_of_row W _ 2 _ _ _ k1
  have f12 := frozen_of_row W _ 2 _ _ k1
  have c22 := cell_of_row W _ 2 _ _ _ k2
  have c13 := cell_of_row W _ 3 _ _ _ k1
  have f13 := frozen_of_row W _ 3 _ _ k1
  have c23 := cell_of_row W _ 3 _ _ _ k2
  have c14 := cell_of_row W _ 4 _ _ _ k1
  have f14 := frozen_of_row W _ 4 _ _ k1
  have c24 := cell_of_row W _ 4 _ _ _ k2
  have c15 := cell_of_row W _ 5 _ _ _ k1
  have f15 := frozen_of_row W _ 5 _ _ k1
  have c25 := cell_of_row W _ 5 _ _ _ k2
  have c16 := cell_of_row W _ 6 _ _ _ k1
  have f16 := frozen_of_row W _ 6 _ _ k1
  have c26 := cell_of_row W _ 6 _ _ _ k2
  simp only [List.getElem?_toArray, List.getElem?_cons_zero, List.getElem?_cons_succ] at c10 c20 c11 c21 c12 c22 c13 c23 c14 c24 c15 c25 c16 c26
  clear k1 k2
  go_wp2
  refine bodyPost_ret (results_cell_row rfl _ _ (w.heap.size + 1) 137 #[.int .i64 s.pkt.kind, .int .i64 s.pkt.epoch, .int .i64 s.pkt.seq, .int .i64 s.pkt.count, .bool s.pkt.last, .slice a2 s.pkt.data.length c2, .int .i64 s.at_] (0, 0) _ rfl (set7 HKR.out) Tryz.underlying137 rfl (by kernel_rfl)) rfl ?_
  refine ⟨_, bs, rfl, cSnt_own (OwnSl.kept HOW.out (fun b hb => set7o (by have := HBS.out b hb; omega))) HIN.out HAT.out, fun b hb => by have := HBS.out b hb; omega, HND.out, set7b HBW.out (by omega)⟩

end Go.Proofs.YtfaehioeepolhaaGreat
