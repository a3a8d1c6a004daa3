import Derived.Test.YtfaehioeepolhabGreatJCrashSender4
import Derived.Test.YtfaehioeepolhabGreatJCrashSender6
import Derived.Test.YtfaehioeepolhabGreatJCrashSender2
import Derived.Test.YtfaehioeepolhabGreatJCrashSender5
import Derived.Test.YtfaehioeepolhabGreatJCrashSender1
import Derived.Test.YtfaehioeepolhabGreatJCrashSender3
import Derived.Handy
namespace Go.Proofs.YtfaehioeepolhabGreat
open Go.RowKit
structure PStr where
 opened : Bool
 fields : List PF
 next : Int
 dicts : List (List (List Nat))
def fN (f : PF) : Nat := f.name.length
def tStr (s : PStr) : Nat := totL fN s.fields + totL tS s.dicts
structure RdStr (w : World) (s : PStr) (a : Option Addr) (c : Nat) (b : Option Addr) (d : Nat) : Prop where
 f : RdSl cField w s.fields (.slice a s.fields.length c)
 t : RdSl cSSS w s.dicts (.slice b s.dicts.length d)
theorem RdStr.later {w w' : World} {s : PStr} {a b : Option Addr} {c d : Nat} (h : RdStr w s a c b d) (hb : Below w.heap.size w w') : RdStr w' s a c b d := ⟨h.f.later hb, h.t.later hb⟩
set_option maxHeartbeats 1000000 in
theorem szStream_any (s : PStr) (a b : Option Addr) (c d : Nat) (l : Int) (w : World) (hr : RdStr w s a c b d) (h0 : 0 ≤ l) (h1 : l ≤ 1048576) :
  Calls Tryz.prog 21 #[.agg #[.bool s.opened, .slice a s.fields.length c, .int .i64 s.next, .slice b s.dicts.length d], .int .i64 l] w fun e w' => e = .returned (.int .i64 (rest l (tStr s))) ∧ Below w.heap.size w w' := by
 have HR := hid hr
 have HT : Hid (rest l (tStr s) = rest l (totL fN s.fields + totL tS s.dicts)) := hid rfl
 clear hr
 generalize rest l (tStr s) = R at *
 go_enter Tryz.func21, Tryz.ntmps21
 go_wp2_with fail
 refine (szFieldS_any a c s.fields l _ (HR.out.f.later (bN _ _)) h0 h1).mono ?_
 rintro e w2 ⟨rfl, b2⟩
 rw [show totL (fun f : PF => f.name.length) s.fields = totL fN s.fields from rfl]
 have k1 := heap1 _ (by simpa using b2)
 have p3 := cR w2 _ 3 _ _ _ k1
 simp only [gA, gZ, gU] at p3
 have HB2 : Hid (Below w.heap.size w w2) := hid (bC (bN _ _) b2)
 clear k1 b2
 by_cases hneg : rest l (totL fN s.fields) < 0
 ·have HN : Hid (rest l (totL fN s.fields) = -1) := hid (rest_neg1 hneg)
  have HR2 : Hid (R = -1) := hid (by rw [HT.out, rest_neg hneg])
  generalize rest l (totL fN s.fields) = r at *
  go_wp2
  go_ret
  exact ⟨by rw [HR2.out]; rfl, HB2.out⟩
 ·have HR2 : Hid (R = rest (rest l (totL fN s.fields)) (totL tS s.dicts)) := hid (by rw [HT.out, rest_two (by omega)])
  have hup := rest_le (n := totL fN s.fields) h1
  generalize rest l (totL fN s.fields) = r at *
  go_wp2_with fail
  refine (szSSS_any b d s.dicts r w2 (HR.out.t.later HB2.out) (by omega) hup).mono ?_
  rintro e w3 ⟨rfl, rfl⟩
  rw [← HR2.out]
  by_cases hn2 : R < 0
  ·have HN : Hid (R = -1) := hid (by rw [HR2.out] at hn2 ⊢; exact rest_neg1 hn2)
   clear HT
   go_wp2
   go_ret
   exact ⟨by rw [HN.out]; rfl, HB2.out⟩
  ·clear HT
   go_wp2
   go_ret
   exact ⟨rfl, HB2.out⟩
set_option maxHeartbeats 2000000 in
theorem eqStream_any (s : PStr) (a b a' b' : Option Addr) (c d c' d' : Nat) (w : World) (h1 : RdStr w s a c b d) (h2 : RdStr w s a' c' b' d') (ht : tStr s ≤ 1048576) :
  Calls Tryz.prog 40 #[.agg #[.bool s.opened, .slice a s.fields.length c, .int .i64 s.next, .slice b s.dicts.length d], .agg #[.bool s.opened, .slice a' s.fields.length c', .int .i64 s.next, .slice b' s.dicts.length d']] w fun e w' => e = .returned (.bool true) ∧ Below w.heap.size w w' := by
 have H1 := hid h1
 have H2 := hid h2
 have ht1 : totL fN s.fields ≤ 1048576 ∧ totL tS s.dicts ≤ 1048576 := by unfold tStr at ht; omega
 have hbx : (s.opened != s.opened) = false := by simp
 have hnx : (s.next != s.next) = false := by simp
 clear h1 h2
 go_enter Tryz.func40, Tryz.ntmps40
 go_wp2_with fail
 refine (eqFieldS_any a a' c c' s.fields _ (H1.out.f.later (below_new2 _ _ _)) (H2.out.f.later (below_new2 _ _ _)) ht1.1).mono ?_
 rintro e w2 ⟨rfl, b2⟩
 rw [size2] at b2
 obtain ⟨k0, k1⟩ := heap2 _ _ b2
 have p2 := cR w2 _ 2 _ _ _ k0
 have p3 := cR w2 _ 3 _ _ _ k0
 have q2 := cR w2 _ 2 _ _ _ k1
 have q3 := cR w2 _ 3 _ _ _ k1
 simp only [gA, gZ, gU] at p2 p3 q2 q3
 have HB : Hid (Below w.heap.size w w2) := hid ((below_new2 w _ _).trans (b2.mono (by omega)))
 clear k0 k1 b2
 go_wp2_with fail
 refine (eqSSS_any b b' d d' s.dicts w2 (H1.out.t.later HB.out) (H2.out.t.later HB.out) ht1.2).mono ?_
 rintro e w3 ⟨rfl, b3⟩
 have HB3 := hid (bC HB.out b3)
 clear b3
 go_wp2
 go_ret
 exact ⟨rfl, HB3.out⟩
structure OwnStr (w : World) (s : PStr) (a : Option Addr) (c : Nat) (b : Option Addr) (d : Nat) (bs ds : List Nat) : Prop where
 f : OwnSl cField 101 w s.fields (.slice a s.fields.length c) bs
 t : OwnSl cSSS 103 w s.dicts (.slice b s.dicts.length d) ds
theorem OwnStr.rd {w : World} {s : PStr} {a b : Option Addr} {c d : Nat} {bs ds : List Nat} (h : OwnStr w s a c b d bs ds) : RdStr w s a c b d := ⟨h.f.rd, h.t.rd⟩
set_option maxHeartbeats 2000000 in
theorem toStream_any (s : PStr) (a b : Option Addr) (c d : Nat) (w : World) (hr : RdStr w s a c b d) (ht : tStr s ≤ 1048576) :
  Calls Tryz.prog 30 #[.agg #[.bool s.opened, .slice a s.fields.length c, .int .i64 s.next, .slice b s.dicts.length d]] w fun e w' => ∃ a' c' b' d' bs ds, e = .returned (.agg #[.bool s.opened, .slice a' s.fields.length c', .int .i64 s.next, .slice b' s.dicts.length d']) ∧ OwnStr w' s a' c' b' d' bs ds ∧ (∀ x ∈ bs ++ ds, w.heap.size ≤ x) ∧ (bs ++ ds).Nodup ∧ Below w.heap.size w w' := by
 have HR := hid hr
 have ht1 : totL fN s.fields ≤ 1048576 ∧ totL tS s.dicts ≤ 1048576 := by unfold tStr at ht; omega
 clear hr
 go_enter Tryz.func30, Tryz.ntmps30
 go_wp2_with fail
 refine (toFieldS_any a c s.fields _ (HR.out.f.later (below_new3 _ _ _ _)) ht1.1).mono ?_
 rintro e w2 ⟨v2, bs, rfl, o2, l2, n2, b2⟩
 obtain ⟨a2, c2, rfl, -⟩ := id o2.rd
 rw [size3] at b2 l2
 obtain ⟨k0, k1, k2⟩ := heap3 _ _ _ b2
 have c02 := cR w2 _ 2 _ _ _ k0
 have c03 := cR w2 _ 3 _ _ _ k0
 have c21 := cR w2 _ 1 _ _ _ k2
 have c22 := cR w2 _ 2 _ _ _ k2
 have f21 := fR w2 _ 1 _ _ k2
 have f22 := fR w2 _ 2 _ _ k2
 simp only [gA, gZ, gU] at c02 c03 c21 c22
 have hx0 : w.heap.size ≠ w.heap.size + 1 + 1 := by omega
 have hx1 : w.heap.size + 1 ≠ w.heap.size + 1 + 1 := by omega
 have hb2s : w.heap.size + 3 ≤ w2.heap.size := by have h := b2.size; rw [size3] at h; exact h
 have K2 : Hid (((w2.setCell ⟨w.heap.size + 1 + 1, 1, none⟩ (.slice a2 s.fields.length c2)).setCell ⟨w.heap.size + 1 + 1, 2, none⟩ (.int .i64 s.next)).heap[w.heap.size + 1 + 1]? = some (.cells #[.bool s.opened, .slice a2 s.fields.length c2, .int .i64 s.next, .slice none 0 0] 43 (0, 0))) := hid (by
  have h1 := heap_setCell_same _ _ 1 _ _ (.slice a2 s.fields.length c2) k2
  have h2 := heap_setCell_same _ _ 2 _ _ (.int .i64 s.next) h1
  exact h2)
 have hoth : ∀ j, j ≠ w.heap.size + 1 + 1 → ((w2.setCell ⟨w.heap.size + 1 + 1, 1, none⟩ (.slice a2 s.fields.length c2)).setCell ⟨w.heap.size + 1 + 1, 2, none⟩ (.int .i64 s.next)).heap[j]? = w2.heap[j]? := fun j hj => by
  rw [Below.heap_setCell _ _ _ _ hj, Below.heap_setCell _ _ _ _ hj]
 have K0 := hid ((hoth _ hx0).trans k0)
 have K1 := hid ((hoth _ hx1).trans k1)
 have HB2 : Hid (Below w.heap.size w ((w2.setCell ⟨w.heap.size + 1 + 1, 1, none⟩ (.slice a2 s.fields.length c2)).setCell ⟨w.heap.size + 1 + 1, 2, none⟩ (.int .i64 s.next))) := hid ((((below_new3 w _ _ _).trans (b2.mono (by omega))).setCell (p := ⟨w.heap.size + 1 + 1, 1, none⟩) (by simp only []; omega) _).setCell (p := ⟨w.heap.size + 1 + 1, 2, none⟩) (by simp only []; omega) _)
 have HO2 : Hid (OwnSl cField 101 ((w2.setCell ⟨w.heap.size + 1 + 1, 1, none⟩ (.slice a2 s.fields.length c2)).setCell ⟨w.heap.size + 1 + 1, 2, none⟩ (.int .i64 s.next)) s.fields (.slice a2 s.fields.length c2) bs) := hid (o2.kept (fun x hx => hoth x (by have := l2 x hx; omega)))
 have HL2 := hid l2
 have HN2 := hid n2
 have hLT := o2.lt
 have hsz : ((w2.setCell ⟨w.heap.size + 1 + 1, 1, none⟩ (.slice a2 s.fields.length c2)).setCell ⟨w.heap.size + 1 + 1, 2, none⟩ (.int .i64 s.next)).heap.size = w2.heap.size := by simp
 have HLT : Hid (∀ x ∈ bs, x < ((w2.setCell ⟨w.heap.size + 1 + 1, 1, none⟩ (.slice a2 s.fields.length c2)).setCell ⟨w.heap.size + 1 + 1, 2, none⟩ (.int .i64 s.next)).heap.size) := hid (by rw [hsz]; exact hLT)
 clear k0 k1 k2 b2 o2 l2 n2 hoth hLT
 have hW3 : w.heap.size + 3 ≤ ((w2.setCell ⟨w.heap.size + 1 + 1, 1, none⟩ (.slice a2 s.fields.length c2)).setCell ⟨w.heap.size + 1 + 1, 2, none⟩ (.int .i64 s.next)).heap.size := by rw [hsz]; exact hb2s
 clear hsz
 go_wp2_with fail
 generalize ((w2.setCell ⟨w.heap.size + 1 + 1, 1, none⟩ (.slice a2 s.fields.length c2)).setCell ⟨w.heap.size + 1 + 1, 2, none⟩ (.int .i64 s.next)) = W at *
 clear c02 c03 c21 c22 f21 f22
 refine (toSSS_any b d s.dicts W (HR.out.t.later HB2.out) ht1.2).mono ?_
 rintro e w4 ⟨v4, ds, rfl, o4, l4, n4, b4⟩
 obtain ⟨a4, c4, rfl, -⟩ := id o4.rd
 have k0 := (b4.block _ (by omega)).trans K0.out
 have k1 := (b4.block _ (by omega)).trans K1.out
 have k2 := (b4.block _ (by omega)).trans K2.out
 have c20 := cR w4 _ 0 _ _ _ k2
 have c21 := cR w4 _ 1 _ _ _ k2
 have c22 := cR w4 _ 2 _ _ _ k2
 have c23 := cR w4 _ 3 _ _ _ k2
 have f23 := fR w4 _ 3 _ _ k2
 have c10 := cR w4 _ 0 _ _ _ k1
 have c11 := cR w4 _ 1 _ _ _ k1
 have c12 := cR w4 _ 2 _ _ _ k1
 have c13 := cR w4 _ 3 _ _ _ k1
 have f10 := fR w4 _ 0 _ _ k1
 have f11 := fR w4 _ 1 _ _ k1
 have f12 := fR w4 _ 2 _ _ k1
 have f13 := fR w4 _ 3 _ _ k1
 simp only [gA, gZ, gU] at c20 c21 c22 c23 c10 c11 c12 c13
 have H1 := hid k1
 have HB4 := hid (bC HB2.out b4)
 have HO4 := hid o4
 have HL4 := hid l4
 have HN4 := hid n4
 have HO5 : Hid (OwnSl cField 101 w4 s.fields (.slice a2 s.fields.length c2) bs) := hid (HO2.out.kept (fun x hx => b4.block x (HLT.out x hx)))
 have hs4 := b4.size
 clear k0 k1 k2 b4 o4 l4 n4 K0 K1 K2 HO2
 go_wp2
 refine bodyPost_ret (results_cell_row rfl _ _ (w.heap.size + 1) 43 #[.bool s.opened, .slice a2 s.fields.length c2, .int .i64 s.next, .slice a4 s.dicts.length c4] (0, 0) _ rfl (set4 ((Below.heap_setCell _ ⟨w.heap.size + 1 + 1, 3, none⟩ _ _ hx1).trans H1.out)) Tryz.underlying43 rfl (by kernel_rfl)) rfl ?_
 have hk : ∀ x, w.heap.size + 3 ≤ x → ((((((w4.setCell ⟨w.heap.size + 1 + 1, 3, none⟩ (.slice a4 s.dicts.length c4)).setCell ⟨w.heap.size + 1, 0, none⟩ (.bool s.opened)).setCell ⟨w.heap.size + 1, 1, none⟩ (.slice a2 s.fields.length c2)).setCell ⟨w.heap.size + 1, 2, none⟩ (.int .i64 s.next)).setCell ⟨w.heap.size + 1, 3, none⟩ (.slice a4 s.dicts.length c4)).heap[x]?) = w4.heap[x]? := fun x hx => (set4o (by omega)).trans (Below.heap_setCell _ ⟨w.heap.size + 1 + 1, 3, none⟩ _ _ (by simp only []; omega))
 refine ⟨a2, c2, a4, c4, bs, ds, rfl, ⟨HO5.out.kept (fun x hx => hk x (HL2.out x hx)), HO4.out.kept (fun x hx => hk x (by have := HL4.out x hx; omega))⟩, ?_, ?_, set4b (HB4.out.setCell (p := ⟨w.heap.size + 1 + 1, 3, none⟩) (by simp only []; omega) _) (by omega)⟩
 ·intro x hx
  rcases List.mem_append.1 hx with h | h
  ·have := HL2.out x h; omega
  ·have := HL4.out x h; omega
 ·exact List.nodup_append.2 ⟨HN2.out, HN4.out, fun x hx y hy e => by have := HLT.out x hx; have := HL4.out y hy; omega⟩
end Go.Proofs.YtfaehioeepolhabGreat
namespace Go.Proofs.YtfaehioeepolhabGreat
open Go.ChangeShapes Go.WideShapes Go.ChangeAt Go.RowKit
theorem opens_SSS {H : Type} (enc : TypeId × Value → H) (W : World) : Opens enc Tryz.prog W 27 (cSl cSSS 103) :=
 opens_slice Tryz.underlying27 (by kernel_rfl) (by decide) (opens_SS enc W) _
def cStr : Cod PStr := cMap (cPair cBool (cPair (cSl cField 101) (cPair cInt (cSl cSSS 103)))) fun s => (s.opened, s.fields, s.next, s.dicts)
theorem opens_Str {H : Type} (enc : TypeId × Value → H) (W : World) : Opens enc Tryz.prog W 29 cStr :=
 opens_struct4 Tryz.underlying29 rfl rfl rfl rfl rfl (by kernel_rfl) (by kernel_rfl) (by kernel_rfl) (by kernel_rfl) (by kernel_rfl) (opens_bool Tryz.underlying4) (opens_FieldS enc W) (opens_int Tryz.underlying3) (opens_SSS enc W) (fun x y z u => ⟨x, y, z, u⟩) (fun _ _ _ _ => rfl)
section
variable {H : Type} {enc : TypeId × Value → H} {P : Program} {w : World}
theorem opens_struct6 {α β γ δ ε ζ η : Type} {t : TypeId} {fs : Array Field} {f0 f1 f2 f3 f4 f5 : Field} {a : Cod α} {b : Cod β} {c : Cod γ} {d : Cod δ} {g : Cod ε} {h : Cod ζ} {f : η → α × β × γ × δ × ε × ζ} (ht : P.underlying t = some (.struct fs)) (hf : fs = #[f0, f1, f2, f3, f4, f5])
  (o0 : f0.offset = 0) (o1 : f1.offset = a.n) (o2 : f2.offset = a.n + b.n) (o3 : f3.offset = a.n + b.n + c.n) (o4 : f4.offset = a.n + b.n + c.n + d.n) (o5 : f5.offset = a.n + b.n + c.n + d.n + g.n)
  (n0 : P.cellsOf f0.type = a.n) (n1 : P.cellsOf f1.type = b.n) (n2 : P.cellsOf f2.type = c.n) (n3 : P.cellsOf f3.type = d.n) (n4 : P.cellsOf f4.type = g.n) (n5 : P.cellsOf f5.type = h.n) (hs : P.cellsOf t = a.n + (b.n + (c.n + (d.n + (g.n + h.n)))))
  (h0 : Opens enc P w f0.type a) (h1 : Opens enc P w f1.type b) (h2 : Opens enc P w f2.type c) (h3 : Opens enc P w f3.type d) (h4 : Opens enc P w f4.type g) (h5 : Opens enc P w f5.type h) (inv : α → β → γ → δ → ε → ζ → η) (hi : ∀ x y z u v s, f (inv x y z u v s) = (x, y, z, u, v, s)) : Opens enc P w t (cMap (cPair a (cPair b (cPair c (cPair d (cPair g h))))) f) := by
 subst hf
 intro fuel cs x hh
 obtain ⟨xs, k, _, _, hl, hxl, hfx⟩ := DataW.trod_struct ht hh
 have g0 := hfx 0 f0 rfl
 have g1 := hfx 1 f1 rfl
 have g2 := hfx 2 f2 rfl
 have g3 := hfx 3 f3 rfl
 have g4 := hfx 4 f4 rfl
 have g5 := hfx 5 f5 rfl
 match xs, hxl with
 | [y0, y1, y2, y3, y4, y5], _ =>
  obtain ⟨z0, r0⟩ := h0 _ _ _ g0
  obtain ⟨z1, r1⟩ := h1 _ _ _ g1
  obtain ⟨z2, r2⟩ := h2 _ _ _ g2
  obtain ⟨z3, r3⟩ := h3 _ _ _ g3
  obtain ⟨z4, r4⟩ := h4 _ _ _ g4
  obtain ⟨z5, r5⟩ := h5 _ _ _ g5
  refine ⟨inv z0 z1 z2 z3 z4 z5, ?_⟩
  show (cPair a (cPair b (cPair c (cPair d (cPair g h))))).rd w (f (inv z0 z1 z2 z3 z4 z5)) cs
  rw [hi]
  rw [o0, n0, List.drop_zero] at r0
  rw [o1, n1] at r1
  rw [o2, n2, ← List.drop_drop] at r2
  rw [o3, n3, ← List.drop_drop, ← List.drop_drop] at r3
  rw [o4, n4, ← List.drop_drop, ← List.drop_drop, ← List.drop_drop] at r4
  rw [o5, n5, List.take_of_length_le (by simp; omega), ← List.drop_drop, ← List.drop_drop, ← List.drop_drop, ← List.drop_drop] at r5
  exact ⟨_, _, (List.take_append_drop a.n cs).symm, r0, _, _, (List.take_append_drop b.n (cs.drop a.n)).symm, r1, _, _, (List.take_append_drop c.n ((cs.drop a.n).drop b.n)).symm, r2, _, _, (List.take_append_drop d.n (((cs.drop a.n).drop b.n).drop c.n)).symm, r3, _, _, (List.take_append_drop g.n ((((cs.drop a.n).drop b.n).drop c.n).drop d.n)).symm, r4, r5⟩
end
end Go.Proofs.YtfaehioeepolhabGreat
namespace Go.Proofs.YtfaehioeepolhabGreat
open Go.RowKit
structure PP where
 kind : Int
 epoch : Int
 seq : Int
 count : Int
 last : Bool
 data : List Nat
def lastN (b : Bool) : Nat := if b then 1 else 0
abbrev PktOK (p : PP) : Prop := 1 ≤ p.epoch ∧ p.epoch ≤ 1000000000 ∧ 0 ≤ p.seq ∧ p.seq ≤ 1000000000000 ∧ 0 ≤ p.count ∧ p.count ≤ 1000000000 ∧
 ((p.kind = 1 ∧ p.seq < 1000000000000 ∧ p.count = 0 ∧ 1 ≤ p.data.length ∧ p.data.length ≤ 100) ∨ (lastN p.last = 0 ∧ p.data.length = 0 ∧ (p.kind = 2 ∨ (p.kind = 3 ∧ p.seq = 0) ∨ (p.kind = 4 ∧ p.seq = 0 ∧ p.count = 0))))
def pktOK (p : PP) : Bool := decide (PktOK p)
theorem pktOK_data {p : PP} (h : pktOK p = true) : p.data.length ≤ 100 := by
 have := of_decide_eq_true h
 unfold PktOK at this
 omega
theorem set6 {w : World} {g : Nat} {e : TypeId} {a b c d i j x y z u p q : Value} (h : w.heap[g]? = some (.cells #[a, b, c, d, i, j] e (0, 0))) :
  ((((((w.setCell ⟨g, 0, none⟩ x).setCell ⟨g, 1, none⟩ y).setCell ⟨g, 2, none⟩ z).setCell ⟨g, 3, none⟩ u).setCell ⟨g, 4, none⟩ p).setCell ⟨g, 5, none⟩ q).heap[g]? = some (.cells #[x, y, z, u, p, q] e (0, 0)) := by
 have h1 := heap_setCell_same w g 0 _ e x h
 have h2 := heap_setCell_same _ g 1 _ e y h1
 have h3 := heap_setCell_same _ g 2 _ e z h2
 have h4 := heap_setCell_same _ g 3 _ e u h3
 have h5 := heap_setCell_same _ g 4 _ e p h4
 have h6 := heap_setCell_same _ g 5 _ e q h5
 rw [h6]; rfl
theorem set6o {w : World} {g k : Nat} {x y z u p q : Value} (h : k ≠ g) : ((((((w.setCell ⟨g, 0, none⟩ x).setCell ⟨g, 1, none⟩ y).setCell ⟨g, 2, none⟩ z).setCell ⟨g, 3, none⟩ u).setCell ⟨g, 4, none⟩ p).setCell ⟨g, 5, none⟩ q).heap[k]? = w.heap[k]? := by
 rw [Below.heap_setCell _ _ _ _ h, Below.heap_setCell _ _ _ _ h, Below.heap_setCell _ _ _ _ h, Below.heap_setCell _ _ _ _ h, Below.heap_setCell _ _ _ _ h, Below.heap_setCell _ _ _ _ h]
theorem set6b {B : Nat} {a w : World} {g : Nat} {x y z u p q : Value} (h : Below B a w) (hg : B ≤ g) : Below B a ((((((w.setCell ⟨g, 0, none⟩ x).setCell ⟨g, 1, none⟩ y).setCell ⟨g, 2, none⟩ z).setCell ⟨g, 3, none⟩ u).setCell ⟨g, 4, none⟩ p).setCell ⟨g, 5, none⟩ q) :=
 (((((h.setCell (p := ⟨g, 0, none⟩) hg _).setCell (p := ⟨g, 1, none⟩) hg _).setCell (p := ⟨g, 2, none⟩) hg _).setCell (p := ⟨g, 3, none⟩) hg _).setCell (p := ⟨g, 4, none⟩) hg _).setCell (p := ⟨g, 5, none⟩) hg _
def cPkt : Cod PP := cMap (cPair cInt (cPair cInt (cPair cInt (cPair cInt (cPair cBool (cSl cByte 5)))))) fun p => (p.kind, p.epoch, p.seq, p.count, p.last, p.data)
structure PPIn (p : PP) : Prop where
 kind : IntIn p.kind
 epoch : IntIn p.epoch
 seq : IntIn p.seq
 count : IntIn p.count
theorem cPkt_rd {w : World} {p : PP} {cs : List Value} (h : cPkt.rd w p cs) : ∃ a cap, cs = [.int .i64 p.kind, .int .i64 p.epoch, .int .i64 p.seq, .int .i64 p.count, .bool p.last, .slice a p.data.length cap] ∧ RdSl cByte w p.data (.slice a p.data.length cap) ∧ PPIn p := by
 obtain ⟨_, _, rfl, ⟨rfl, i1⟩, _, _, rfl, ⟨rfl, i2⟩, _, _, rfl, ⟨rfl, i3⟩, _, _, rfl, ⟨rfl, i4⟩, _, _, rfl, rfl, u, rfl, hu⟩ := h
 obtain ⟨a, cap, rfl, -⟩ := id hu
 exact ⟨a, cap, rfl, hu, ⟨i1, i2, i3, i4⟩⟩
theorem cPkt_mk {w : World} {p : PP} {v : Value} (h : RdSl cByte w p.data v) (hi : PPIn p) : cPkt.rd w p [.int .i64 p.kind, .int .i64 p.epoch, .int .i64 p.seq, .int .i64 p.count, .bool p.last, v] :=
 ⟨_, _, rfl, ⟨rfl, hi.kind⟩, _, _, rfl, ⟨rfl, hi.epoch⟩, _, _, rfl, ⟨rfl, hi.seq⟩, _, _, rfl, ⟨rfl, hi.count⟩, _, _, rfl, rfl, v, rfl, h⟩
theorem cPkt_own {w : World} {p : PP} {v : Value} {bs : List Nat} (h : OwnSl cByte 5 w p.data v bs) (hi : PPIn p) : cPkt.own w p [.int .i64 p.kind, .int .i64 p.epoch, .int .i64 p.seq, .int .i64 p.count, .bool p.last, v] bs :=
 ⟨_, _, [], bs, rfl, rfl, ⟨rfl, hi.kind, rfl⟩, _, _, [], bs, rfl, rfl, ⟨rfl, hi.epoch, rfl⟩, _, _, [], bs, rfl, rfl, ⟨rfl, hi.seq, rfl⟩, _, _, [], bs, rfl, rfl, ⟨rfl, hi.count, rfl⟩, _, _, [], bs, rfl, rfl, ⟨rfl, rfl⟩, v, rfl, h⟩
theorem cPkt_owned {w : World} {p : PP} {cs : List Value} {bs : List Nat} (h : cPkt.own w p cs bs) : ∃ a cap, cs = [.int .i64 p.kind, .int .i64 p.epoch, .int .i64 p.seq, .int .i64 p.count, .bool p.last, .slice a p.data.length cap] ∧ OwnSl cByte 5 w p.data (.slice a p.data.length cap) bs ∧ PPIn p := by
 obtain ⟨_, _, _, _, rfl, rfl, ⟨rfl, i1, rfl⟩, _, _, _, _, rfl, rfl, ⟨rfl, i2, rfl⟩, _, _, _, _, rfl, rfl, ⟨rfl, i3, rfl⟩, _, _, _, _, rfl, rfl, ⟨rfl, i4, rfl⟩, _, _, _, _, rfl, rfl, ⟨rfl, rfl⟩, u, rfl, hu⟩ := h
 obtain ⟨a, cap, rfl, -⟩ := id hu.rd
 exact ⟨a, cap, rfl, hu, ⟨i1, i2, i3, i4⟩⟩
def pN (p : PP) : Nat := p.data.length
set_option maxHeartbeats 1000000 in
theorem szPacket_law : SzLaw Tryz.prog 139 cPkt pN := by
 intro w x cs l hrd h0 h1
 obtain ⟨a, cap, rfl, hv, -⟩ := cPkt_rd hrd
 have hm : x.data.length ≤ maxLen := by
  obtain ⟨a', cap', e', h2, h3, _⟩ := hv
  omega
 clear hrd hv
 simp only [val]
 unfold pN
 by_cases hneg : rest l x.data.length < 0
 ·have hm1 := rest_neg1 hneg
  go_enter Tryz.func139, Tryz.ntmps139
  go_wp2_with fail
  refine (szBytes_any a _ cap l _ hm h0 h1).mono ?_
  rintro e w2 ⟨rfl, rfl⟩
  have HM := hid hm1
  clear hm1
  generalize hr : rest l x.data.length = r at *
  have HR := hid hr
  clear hr
  go_wp2
  go_ret
  exact ⟨by show _ = Ending.returned (.int .i64 (rest l x.data.length)); rw [HR.out, HM.out]; rfl, bN _ _⟩
 ·go_enter Tryz.func139, Tryz.ntmps139
  go_wp2_with fail
  refine (szBytes_any a _ cap l _ hm h0 h1).mono ?_
  rintro e w2 ⟨rfl, rfl⟩
  generalize hr : rest l x.data.length = r at *
  have HR := hid hr
  clear hr
  go_wp2
  go_ret
  exact ⟨by show _ = Ending.returned (.int .i64 (rest l x.data.length)); rw [HR.out]; rfl, bN _ _⟩
set_option maxHeartbeats 2000000 in
theorem eqPacket_law : EqLaw Tryz.prog 150 cPkt pN := by
 intro w x cs cs' h1 h2 ht
 obtain ⟨a1, c1, rfl, r1, -⟩ := cPkt_rd h1
 obtain ⟨a2, c2, rfl, r2, -⟩ := cPkt_rd h2
 have r1 : Rd w a1 (byt x.data) := by
  obtain ⟨a', cap', e, _, _, _, hr, _⟩ := r1.bytes
  simp at e; rw [e.1]; exact hr
 have r2 : Rd w a2 (byt x.data) := by
  obtain ⟨a', cap', e, _, _, _, hr, _⟩ := r2.bytes
  simp at e; rw [e.1]; exact hr
 have ht' : x.data.length ≤ 1048576 := ht
 have b1 : (x.kind != x.kind) = false := by simp
 have b2 : (x.epoch != x.epoch) = false := by simp
 have b3 : (x.seq != x.seq) = false := by simp
 have b4 : (x.count != x.count) = false := by simp
 have b5 : (x.last != x.last) = false := by simp
 have HR1 := hid r1
 have HR2 := hid r2
 simp only [val]
 clear h1 h2 ht r1 r2
 go_enter Tryz.func150, Tryz.ntmps150
 go_wp2_with fail
 refine (eqByteS_any a1 a2 c1 c2 _ x.data _ (HR1.out.later (below_new2 _ _ _)) (HR2.out.later (below_new2 _ _ _)) rfl (by omega)).mono ?_
 rintro e w2 ⟨rfl, b2⟩
 have HB : Hid (Below w.heap.size w w2) := hid ((below_new2 w _ _).trans (b2.mono (by simp; omega)))
 clear b2
 go_wp2
 go_ret
 exact ⟨rfl, HB.out⟩
set_option maxHeartbeats 2000000 in
theorem toPacket_law : ToLaw Tryz.prog 142 cPkt pN := by
 intro w p cs h ht
 obtain ⟨a, cap, rfl, hr, hin⟩ := cPkt_rd h
 have ht' : p.data.length ≤ 1048576 := ht
 obtain ⟨a', cap', e', h1, h2, h3, hrd, hby⟩ := hr.bytes
 simp only [Value.slice.injEq] at e'
 obtain ⟨rfl, -, rfl⟩ := e'
 have HR := hid hrd
 have HBY := hid hby
 have HIN := hid hin
 simp only [val]
 clear h ht hr hrd hby hin h1 h2 h3
 go_enter Tryz.func142, Tryz.ntmps142
 go_wp2_with fail
 refine (toByteS_any a cap p.data _ (HR.out.later (below_new3 _ _ _ _)) (by omega)).mono ?_
 rintro e w2 ⟨g2, rfl, o2, b2⟩
 have hg := own_in o2 (g := g2) rfl
 rw [size3] at hg b2
 obtain ⟨k0, k1, k2⟩ := heap3 _ _ _ b2
 have c10 := cR w2 _ 0 _ _ _ k1
 have c11 := cR w2 _ 1 _ _ _ k1
 have c12 := cR w2 _ 2 _ _ _ k1
 have c13 := cR w2 _ 3 _ _ _ k1
 have c14 := cR w2 _ 4 _ _ _ k1
 have c15 := cR w2 _ 5 _ _ _ k1
 have f10 := fR w2 _ 0 _ _ k1
 have f11 := fR w2 _ 1 _ _ k1
 have f12 := fR w2 _ 2 _ _ k1
 have f13 := fR w2 _ 3 _ _ k1
 have f14 := fR w2 _ 4 _ _ k1
 have f15 := fR w2 _ 5 _ _ k1
 have c20 := cR w2 _ 0 _ _ _ k2
 have c21 := cR w2 _ 1 _ _ _ k2
 have c22 := cR w2 _ 2 _ _ _ k2
 have c23 := cR w2 _ 3 _ _ _ k2
 have c24 := cR w2 _ 4 _ _ _ k2
 have c25 := cR w2 _ 5 _ _ _ k2
 have f25 := fR w2 _ 5 _ _ k2
 simp only [gA, gZ, gU] at c10 c11 c12 c13 c14 c15 c20 c21 c22 c23 c24 c25
 have K1 := hid k1
 have HB : Hid (Below w.heap.size w w2) := hid ((below_new3 w _ _ _).trans (b2.mono (by omega)))
 have HO := hid o2
 have HG := hid hg
 clear k0 k1 k2 b2 o2 hg
 go_wp2
 have h12 : w.heap.size + 1 ≠ w.heap.size + 1 + 1 := by omega
 have hg := HG.out
 refine bodyPost_ret (results_cell_row rfl _ _ (w.heap.size + 1) 139 #[.int .i64 p.kind, .int .i64 p.epoch, .int .i64 p.seq, .int .i64 p.count, .bool p.last, .slice (some ⟨g2, 0, none⟩) p.data.length p.data.length] (0, 0) _ rfl (set6 ((Below.heap_setCell _ ⟨w.heap.size + 1 + 1, 5, none⟩ _ _ h12).trans K1.out)) Tryz.underlying139 rfl (by kernel_rfl)) rfl ?_
 refine ⟨_, [g2], rfl, cPkt_own (OwnSl.kept (ownSl_bytes HO.out HBY.out) (fun b hb => ?_)) HIN.out, by simp; omega, by simp, set6b (HB.out.setCell (p := ⟨w.heap.size + 1 + 1, 5, none⟩) (by simp only []; omega) _) (by omega)⟩
 simp at hb
 subst hb
 exact (set6o (by omega)).trans (Below.heap_setCell _ ⟨w.heap.size + 1 + 1, 5, none⟩ _ _ (by simp only []; omega))
end Go.Proofs.YtfaehioeepolhabGreat
