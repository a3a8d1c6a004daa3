import Derived.Test.YtfaehioeepolhaaGreatJCrashReceiver2
import Derived.Test.YtfaehioeepolhaaGreatJCrashReceiver6
import Derived.Test.YtfaehioeepolhaaGreatJCrashReceiver13
import Derived.Test.YtfaehioeepolhaaGreatJCrashReceiver9
import Derived.Test.YtfaehioeepolhaaGreatJCrashReceiver1
import Derived.Test.YtfaehioeepolhaaGreatJCrashReceiver3
import Derived.Test.YtfaehioeepolhaaGreatJCrashReceiver4
import Derived.Handy
namespace Go.Proofs.YtfaehioeepolhaaGreat
open Go.ChangeShapes Go.WideShapes Go.ChangeAt Go.RowKit
theorem opens_SSS {H : Type} (enc : TypeId × Value → H) (W : World) : Opens enc Tryz.prog W 27 (cSl cSSS 123) :=
  opens_slice Tryz.underlying27 (by kernel_rfl) (by decide) (opens_SS enc W) _
def cStr : Cod PStr := cMap (cPair cBool (cPair (cSl cField 98) (cPair cInt (cSl cSSS 123)))) fun s => (s.opened, s.fields, s.next, s.dicts)
theorem opens_Str {H : Type} (enc : TypeId × Value → H) (W : World) : Opens enc Tryz.prog W 29 cStr :=
  opens_struct4 Tryz.underlying29 rfl rfl rfl rfl rfl (by kernel_rfl) (by kernel_rfl) (by kernel_rfl) (by kernel_rfl) (by kernel_rfl) (opens_bool Tryz.underlying4) (opens_FieldS enc W) (opens_int Tryz.underlying3) (opens_SSS enc W) (fun x y z u => ⟨x, y, z, u⟩) (fun _ _ _ _ => rfl)
end Go.Proofs.YtfaehioeepolhaaGreat
namespace Go.Proofs.YtfaehioeepolhaaGreat
open Go.ChangeShapes Go.WideShapes Go.ChangeAt Go.RowKit
section
variable {H : Type} {enc : TypeId × Value → H} {P : Program} {w : World}
theorem opens_struct6 {α β γ δ ε ζ η : Type} {t : TypeId} {fs : Array Field} {f0 f1 f2 f3 f4 f5 : Field} {a : Cod α} {b : Cod β} {c : Cod γ} {d : Cod δ} {g : Cod ε} {h : Cod ζ} {f : η → α × β × γ × δ × ε × ζ} (ht : P.underlying t = some (.struct fs)) (hf : fs = #[f0, f1, f2, f3, f4, f5])
    (o0 : f0.offset = 0) (o1 : f1.offset = a.n) (o2 : f2.offset = a.n + b.n) (o3 : f3.offset = a.n + b.n + c.n) (o4 : f4.offset = a.n + b.n + c.n + d.n) (o5 : f5.offset = a.n + b.n + c.n + d.n + g.n)
    (n0 : P.cellsOf f0.type = a.n) (n1 : P.cellsOf f1.type = b.n) (n2 : P.cellsOf f2.type = c.n) (n3 : P.cellsOf f3.type = d.n) (n4 : P.cellsOf f4.type = g.n) (n5 : P.cellsOf f5.type = h.n) (hs : P.cellsOf t = a.n + (b.n + (c.n + (d.n + (g.n + h.n)))))
    (h0 : Opens enc P w f0.type a) (h1 : Opens enc P w f1.type b) (h2 : Opens enc P w f2.type c) (h3 : Opens enc P w f3.type d) (h4 : Opens enc P w f4.type g) (h5 : Opens enc P w f5.type h) (inv : α → β → γ → δ → ε → ζ → η) (hi : ∀ x y z u v s, f (inv x y z u v s) = (x, y, z, u, v, s)) : Opens enc P w t (cMap (cPair a (cPair b (cPair c (cPair d (cPair g h))))) f) := by
  subst hf
  intro fuel cs x hh
  obtain ⟨xs, k, _, _, hl, hxl, hfx⟩ := DataW.trod_struct ht hh
  have g0 := hfx 0 f0 rfl
  have g1 := hfx 1 f1 rfl
  have g2 := hfx 2 f2 rfl
  have g3 := hfx 3 f3 rfl
  have g4 := hfx 4 f4 rfl
  have g5 := hfx 5 f5 rfl
  match xs, hxl with
  | [y0, y1, y2, y3, y4, y5], _ =>
    obtain ⟨z0, r0⟩ := h0 _ _ _ g0
    obtain ⟨z1, r1⟩ := h1 _ _ _ g1
    obtain ⟨z2, r2⟩ := h2 _ _ _ g2
    obtain ⟨z3, r3⟩ := h3 _ _ _ g3
    obtain ⟨z4, r4⟩ := h4 _ _ _ g4
    obtain ⟨z5, r5⟩ := h5 _ _ _ g5
    refine ⟨inv z0 z1 z2 z3 z4 z5, ?_⟩
    show (cPair a (cPair b (cPair c (cPair d (cPair g h))))).rd w (f (inv z0 z1 z2 z3 z4 z5)) cs
    rw [hi]
    rw [o0, n0, List.drop_zero] at r0
    rw [o1, n1] at r1
    rw [o2, n2, ← List.drop_drop] at r2
    rw [o3, n3, ← List.drop_drop, ← List.drop_drop] at r3
    rw [o4, n4, ← List.drop_drop, ← List.drop_drop, ← List.drop_drop] at r4
    rw [o5, n5, List.take_of_length_le (by simp; omega), ← List.drop_drop, ← List.drop_drop, ← List.drop_drop, ← List.drop_drop] at r5
    exact ⟨_, _, (List.take_append_drop a.n cs).symm, r0, _, _, (List.take_append_drop b.n (cs.drop a.n)).symm, r1, _, _, (List.take_append_drop c.n ((cs.drop a.n).drop b.n)).symm, r2, _, _, (List.take_append_drop d.n (((cs.drop a.n).drop b.n).drop c.n)).symm, r3, _, _, (List.take_append_drop g.n ((((cs.drop a.n).drop b.n).drop c.n).drop d.n)).symm, r4, r5⟩
end
end Go.Proofs.YtfaehioeepolhaaGreat
namespace Go.Proofs.YtfaehioeepolhaaGreat
open Go.RowKit
structure PP where
  kind : Int
  epoch : Int
  seq : Int
  count : Int
  last : Bool
  data : List Nat
def lastN (b : Bool) : Nat := if b then 1 else 0
abbrev PktOK (p : PP) : Prop := 1 ≤ p.epoch ∧ p.epoch ≤ 1000000000 ∧ 0 ≤ p.seq ∧ p.seq ≤ 1000000000000 ∧ 0 ≤ p.count ∧ p.count ≤ 1000000000 ∧
  ((p.kind = 1 ∧ p.seq < 1000000000000 ∧ p.count = 0 ∧ 1 ≤ p.data.length ∧ p.data.length ≤ 100) ∨ (lastN p.last = 0 ∧ p.data.length = 0 ∧ (p.kind = 2 ∨ (p.kind = 3 ∧ p.seq = 0) ∨ (p.kind = 4 ∧ p.seq = 0 ∧ p.count = 0))))
def pktOK (p : PP) : Bool := decide (PktOK p)
end Go.Proofs.YtfaehioeepolhaaGreat
namespace Go.Proofs.YtfaehioeepolhaaGreat
open Go.RowKit
theorem set6 {w : World} {g : Nat} {e : TypeId} {a b c d i j x y z u p q : Value} (h : w.heap[g]? = some (.cells #[a, b, c, d, i, j] e (0, 0))) :
    ((((((w.setCell ⟨g, 0, none⟩ x).setCell ⟨g, 1, none⟩ y).setCell ⟨g, 2, none⟩ z).setCell ⟨g, 3, none⟩ u).setCell ⟨g, 4, none⟩ p).setCell ⟨g, 5, none⟩ q).heap[g]? = some (.cells #[x, y, z, u, p, q] e (0, 0)) := by
  have h1 := heap_setCell_same w g 0 _ e x h
  have h2 := heap_setCell_same _ g 1 _ e y h1
  have h3 := heap_setCell_same _ g 2 _ e z h2
  have h4 := heap_setCell_same _ g 3 _ e u h3
  have h5 := heap_setCell_same _ g 4 _ e p h4
  have h6 := heap_setCell_same _ g 5 _ e q h5
  rw [h6]; rfl
theorem set6o {w : World} {g k : Nat} {x y z u p q : Value} (h : k ≠ g) : ((((((w.setCell ⟨g, 0, none⟩ x).setCell ⟨g, 1, none⟩ y).setCell ⟨g, 2, none⟩ z).setCell ⟨g, 3, none⟩ u).setCell ⟨g, 4, none⟩ p).setCell ⟨g, 5, none⟩ q).heap[k]? = w.heap[k]? := by
  rw [Below.heap_setCell _ _ _ _ h, Below.heap_setCell _ _ _ _ h, Below.heap_setCell _ _ _ _ h, Below.heap_setCell _ _ _ _ h, Below.heap_setCell _ _ _ _ h, Below.heap_setCell _ _ _ _ h]
theorem set6b {B : Nat} {a w : World} {g : Nat} {x y z u p q : Value} (h : Below B a w) (hg : B ≤ g) : Below B a ((((((w.setCell ⟨g, 0, none⟩ x).setCell ⟨g, 1, none⟩ y).setCell ⟨g, 2, none⟩ z).setCell ⟨g, 3, none⟩ u).setCell ⟨g, 4, none⟩ p).setCell ⟨g, 5, none⟩ q) :=
  (((((h.setCell (p := ⟨g, 0, none⟩) hg _).setCell (p := ⟨g, 1, none⟩) hg _).setCell (p := ⟨g, 2, none⟩) hg _).setCell (p := ⟨g, 3, none⟩) hg _).setCell (p := ⟨g, 4, none⟩) hg _).setCell (p := ⟨g, 5, none⟩) hg _
def cPkt : Cod PP := cMap (cPair cInt (cPair cInt (cPair cInt (cPair cInt (cPair cBool (cSl cByte 5)))))) fun p => (p.kind, p.epoch, p.seq, p.count, p.last, p.data)
structure PPIn (p : PP) : Prop where
  kind : IntIn p.kind
  epoch : IntIn p.epoch
  seq : IntIn p.seq
  count : IntIn p.count
theorem cPkt_rd {w : World} {p : PP} {cs : List Value} (h : cPkt.rd w p cs) : ∃ a cap, cs = [.int .i64 p.kind, .int .i64 p.epoch, .int .i64 p.seq, .int .i64 p.count, .bool p.last, .slice a p.data.length cap] ∧ RdSl cByte w p.data (.slice a p.data.length cap) ∧ PPIn p := by
  obtain ⟨_, _, rfl, ⟨rfl, i1⟩, _, _, rfl, ⟨rfl, i2⟩, _, _, rfl, ⟨rfl, i3⟩, _, _, rfl, ⟨rfl, i4⟩, _, _, rfl, rfl, u, rfl, hu⟩ := h
  obtain ⟨a, cap, rfl, -⟩ := id hu
  exact ⟨a, cap, rfl, hu, ⟨i1, i2, i3, i4⟩⟩
theorem cPkt_own {w : World} {p : PP} {v : Value} {bs : List Nat} (h : OwnSl cByte 5 w p.data v bs) (hi : PPIn p) : cPkt.own w p [.int .i64 p.kind, .int .i64 p.epoch, .int .i64 p.seq, .int .i64 p.count, .bool p.last, v] bs :=
  ⟨_, _, [], bs, rfl, rfl, ⟨rfl, hi.kind, rfl⟩, _, _, [], bs, rfl, rfl, ⟨rfl, hi.epoch, rfl⟩, _, _, [], bs, rfl, rfl, ⟨rfl, hi.seq, rfl⟩, _, _, [], bs, rfl, rfl, ⟨rfl, hi.count, rfl⟩, _, _, [], bs, rfl, rfl, ⟨rfl, rfl⟩, v, rfl, h⟩
theorem cPkt_owned {w : World} {p : PP} {cs : List Value} {bs : List Nat} (h : cPkt.own w p cs bs) : ∃ a cap, cs = [.int .i64 p.kind, .int .i64 p.epoch, .int .i64 p.seq, .int .i64 p.count, .bool p.last, .slice a p.data.length cap] ∧ OwnSl cByte 5 w p.data (.slice a p.data.length cap) bs ∧ PPIn p := by
  obtain ⟨_, _, _, _, rfl, rfl, ⟨rfl, i1, rfl⟩, _, _, _, _, rfl, rfl, ⟨rfl, i2, rfl⟩, _, _, _, _, rfl, rfl, ⟨rfl, i3, rfl⟩, _, _, _, _, rfl, rfl, ⟨rfl, i4, rfl⟩, _, _, _, _, rfl, rfl, ⟨rfl, rfl⟩, u, rfl, hu⟩ := h
  obtain ⟨a, cap, rfl, -⟩ := id hu.rd
  exact ⟨a, cap, rfl, hu, ⟨i1, i2, i3, i4⟩⟩
theorem cPkt_shape {w : World} {p : PP} {cs : List Value} (h : cPkt.rd w p cs) : ∃ a cap, cs = [.int .i64 p.kind, .int .i64 p.epoch, .int .i64 p.seq, .int .i64 p.count, .bool p.last, .slice a p.data.length cap] := by
  obtain ⟨a, cap, rfl, _⟩ := cPkt_rd h
  exact ⟨a, cap, rfl⟩
def pN (p : PP) : Nat := p.data.length
set_option maxHeartbeats 1000000 in
theorem szPacket_law : SzLaw Tryz.prog 132 cPkt pN := by
  intro w x cs l hrd h0 h1
  obtain ⟨a, cap, rfl, hv, -⟩ := cPkt_rd hrd
  have hm : x.data.length ≤ maxLen := by
    obtain ⟨a', cap', e', h2, h3, _⟩ := hv
    omega
  clear hrd hv
  simp only [val]
  unfold pN
  by_cases hneg : rest l x.data.length < 0
  · have hm1 := rest_neg1 hneg
    go_enter Tryz.func132, Tryz.ntmps132
    go_wp2_with fail
    refine (szBytes_any a _ cap l _ hm h0 h1).mono ?_
    rintro e w2 ⟨rfl, rfl⟩
    have HM := hid hm1
    clear hm1
    generalize hr : rest l x.data.length = r at *
    have HR := hid hr
    clear hr
    go_wp2
    go_ret
    exact ⟨by show _ = Ending.returned (.int .i64 (rest l x.data.length)); rw [HR.out, HM.out]; rfl, below_new1 _ _⟩
  · go_enter Tryz.func132, Tryz.ntmps132
    go_wp2_with fail
    refine (szBytes_any a _ cap l _ hm h0 h1).mono ?_
    rintro e w2 ⟨rfl, rfl⟩
    generalize hr : rest l x.data.length = r at *
    have HR := hid hr
    clear hr
    go_wp2
    go_ret
    exact ⟨by show _ = Ending.returned (.int .i64 (rest l x.data.length)); rw [HR.out]; rfl, below_new1 _ _⟩
set_option maxHeartbeats 2000000 in
theorem eqPacket_law : EqLaw Tryz.prog 141 cPkt pN := by
  intro w x cs cs' h1 h2 ht
  obtain ⟨a1, c1, rfl, r1, -⟩ := cPkt_rd h1
  obtain ⟨a2, c2, rfl, r2, -⟩ := cPkt_rd h2
  have r1 : Rd w a1 (byt x.data) := by
    obtain ⟨a', cap', e, _, _, _, hr, _⟩ := r1.bytes
    simp at e; rw [e.1]; exact hr
  have r2 : Rd w a2 (byt x.data) := by
    obtain ⟨a', cap', e, _, _, _, hr, _⟩ := r2.bytes
    simp at e; rw [e.1]; exact hr
  have ht' : x.data.length ≤ 1048576 := ht
  have b1 : (x.kind != x.kind) = false := by simp
  have b2 : (x.epoch != x.epoch) = false := by simp
  have b3 : (x.seq != x.seq) = false := by simp
  have b4 : (x.count != x.count) = false := by simp
  have b5 : (x.last != x.last) = false := by simp
  have HR1 := hid r1
  have HR2 := hid r2
  simp only [val]
  clear h1 h2 ht r1 r2
  go_enter Tryz.func141, Tryz.ntmps141
  go_wp2_with fail
  refine (eqByteS_any a1 a2 c1 c2 _ x.data _ (HR1.out.later (below_new2 _ _ _)) (HR2.out.later (below_new2 _ _ _)) rfl (by omega)).mono ?_
  rintro e w2 ⟨rfl, b2⟩
  have HB : Hid (Below w.heap.size w w2) := hid ((below_new2 w _ _).trans (b2.mono (by simp; omega)))
  clear b2
  go_wp2
  go_ret
  exact ⟨rfl, HB.out⟩
set_option maxHeartbeats 2000000 in
theorem toPacket_law : ToLaw Tryz.prog 136 cPkt pN := by
  intro w p cs h ht
  obtain ⟨a, cap, rfl, hr, hin⟩ := cPkt_rd h
  have ht' : p.data.length ≤ 1048576 := ht
  obtain ⟨a', cap', e', h1, h2, h3, hrd, hby⟩ := hr.bytes
  simp only [Value.slice.injEq] at e'
  obtain ⟨rfl, -, rfl⟩ := e'
  have HR := hid hrd
  have HBY := hid hby
  have HIN := hid hin
  simp only [val]
  clear h ht hr hrd hby hin h1 h2 h3
  go_enter Tryz.func136, Tryz.ntmps136
  go_wp2_with fail
  refine (toByteS_any a cap p.data _ (HR.out.later (below_new3 _ _ _ _)) (by omega)).mono ?_
  rintro e w2 ⟨g2, rfl, o2, b2⟩
  have hg := own_in o2 (g := g2) rfl
  rw [size3] at hg b2
  obtain ⟨k0, k1, k2⟩ := heap3 _ _ _ b2
  have c10 := cell_of_row w2 _ 0 _ _ _ k1
  have c11 := cell_of_row w2 _ 1 _ _ _ k1
  have c12 := cell_of_row w2 _ 2 _ _ _ k1
  have c13 := cell_of_row w2 _ 3 _ _ _ k1
  have c14 := cell_of_row w2 _ 4 _ _ _ k1
  have c15 := cell_of_row w2 _ 5 _ _ _ k1
  have f10 := frozen_of_row w2 _ 0 _ _ k1
  have f11 := frozen_of_row w2 _ 1 _ _ k1
  have f12 := frozen_of_row w2 _ 2 _ _ k1
  have f13 := frozen_of_row w2 _ 3 _ _ k1
  have f14 := frozen_of_row w2 _ 4 _ _ k1
  have f15 := frozen_of_row w2 _ 5 _ _ k1
  have c20 := cell_of_row w2 _ 0 _ _ _ k2
  have c21 := cell_of_row w2 _ 1 _ _ _ k2
  have c22 := cell_of_row w2 _ 2 _ _ _ k2
  have c23 := cell_of_row w2 _ 3 _ _ _ k2
  have c24 := cell_of_row w2 _ 4 _ _ _ k2
  have c25 := cell_of_row w2 _ 5 _ _ _ k2
  have f25 := frozen_of_row w2 _ 5 _ _ k2
  simp only [List.getElem?_toArray, List.getElem?_cons_zero, List.getElem?_cons_succ] at c10 c11 c12 c13 c14 c15 c20 c21 c22 c23 c24 c25
  have K1 := hid k1
  have HB : Hid (Below w.heap.size w w2) := hid ((below_new3 w _ _ _).trans (b2.mono (by omega)))
  have HO := hid o2
  have HG := hid hg
  clear k0 k1 k2 b2 o2 hg
  go_wp2
  have h12 : w.heap.size + 1 ≠ w.heap.size + 1 + 1 := by omega
  have hg := HG.out
  refine bodyPost_ret (results_cell_row rfl _ _ (w.heap.size + 1) 120 #[.int .i64 p.kind, .int .i64 p.epoch, .int .i64 p.seq, .int .i64 p.count, .bool p.last, .slice (some ⟨g2, 0, none⟩) p.data.length p.data.length] (0, 0) _ rfl (set6 ((Below.heap_setCell _ ⟨w.heap.size + 1 + 1, 5, none⟩ _ _ h12).trans K1.out)) Tryz.underlying120 rfl (by kernel_rfl)) rfl ?_
  refine ⟨_, [g2], rfl, cPkt_own (OwnSl.kept (ownSl_bytes HO.out HBY.out) (fun b hb => ?_)) HIN.out, by simp; omega, by simp, set6b (HB.out.setCell (p := ⟨w.heap.size + 1 + 1, 5, none⟩) (by simp only []; omega) _) (by omega)⟩
  simp at hb
  subst hb
  exact (set6o (by omega)).trans (Below.heap_setCell _ ⟨w.heap.size + 1 + 1, 5, none⟩ _ _ (by simp only []; omega))
end Go.Proofs.YtfaehioeepolhaaGreat
