import Derived.Test.YtfaehioeepolhabGreatJCrashSender0
import Derived.Test.YtfaehioeepolhabGreatJCrashSender2
import Derived.Handy
import Derived.Deep.RegionHeld
namespace Go.Proofs.YtfaehioeepolhabGreat
open Go.RowKit
set_option maxHeartbeats 400000 in
theorem eqByteS_zero (a1 a2 : Option Addr) (c1 c2 : Nat) (w : World) :
  Calls Tryz.prog 129 #[.slice a1 0 c1, .slice a2 0 c2] w fun e w' => e = .returned (.bool true) ∧ ∃ m, w' = w.drewN m := by
 go_enter Tryz.func129, Tryz.ntmps129
 go_wp2
 refine wp_loop_rounds 1 ?_; rw [rounds_succ]
 go_wp2
 go_ret
 exact ⟨rfl, 0, rfl⟩
set_option maxHeartbeats 400000 in
theorem eqByteS_some (b1 o1 b2 o2 c1 c2 : Nat) (xs : List Nat) (w : World) (hx : ∀ i, (h : i < xs.length) → w.cell? ⟨b1, o1 + i, none⟩ = some (.int .u8 ((xs[i] : Nat) : Int))) (hy : ∀ i, (h : i < xs.length) → w.cell? ⟨b2, o2 + i, none⟩ = some (.int .u8 ((xs[i] : Nat) : Int))) (hn : xs.length ≤ 1099511627776) :
  Calls Tryz.prog 129 #[.slice (some ⟨b1, o1, none⟩) xs.length c1, .slice (some ⟨b2, o2, none⟩) xs.length c2] w fun e w' => e = .returned (.bool true) ∧ ∃ m, w' = w.drewN m := by
 go_enter Tryz.func129, Tryz.ntmps129
 go_wp2
 go_loopw [5] (fun i wr => ∃ k : Nat, k ≤ xs.length ∧ i = .int .i64 k ∧ ∃ m, wr = w.drewN m) (fun i _ => xs.length - (intOf i).toNat)
 case atStart => exact ⟨0, Nat.zero_le _, rfl, 0, rfl⟩
 case round =>
  obtain ⟨k, hk, rfl, m, rfl⟩ := hrel
  by_cases hlt : k < xs.length
  ·have g1 := hx k hlt
   have g2 := hy k hlt
   have hki : (k : Int) < (xs.length : Int) := by omega
   clear hx hy
   go_wp2
   go_quiet (fail)
   go_wp2
   go_roundw
   case rel => exact ⟨k + 1, by omega, by go_num, _, rfl⟩
   case measure => simp [intOf]; omega
  ·obtain rfl : k = xs.length := by omega
   go_wp2
   go_ret
   exact ⟨rfl, m, rfl⟩
theorem eqByteS_quiet (a1 a2 : Option Addr) (c1 c2 n : Nat) (xs : List Nat) (w : World) (h1 : Rd w a1 (byt xs)) (h2 : Rd w a2 (byt xs)) (hl : xs.length = n) (hn : n ≤ 1099511627776) :
  Calls Tryz.prog 129 #[.slice a1 n c1, .slice a2 n c2] w fun e w' => e = .returned (.bool true) ∧ ∃ m, w' = w.drewN m := by
 subst hl
 by_cases h0 : xs = []
 ·subst h0
  exact eqByteS_zero a1 a2 c1 c2 w
 ·have hne : byt xs ≠ [] := by simpa [byt] using h0
  rcases h1 with h | ⟨b1, o1, rfl, e1⟩
  ·exact absurd h hne
  rcases h2 with h | ⟨b2, o2, rfl, e2⟩
  ·exact absurd h hne
  exact eqByteS_some b1 o1 b2 o2 c1 c2 xs w (rdByte e1) (rdByte e2) hn
theorem eqByteS_any (a1 a2 : Option Addr) (c1 c2 n : Nat) (xs : List Nat) (w : World) (h1 : Rd w a1 (byt xs)) (h2 : Rd w a2 (byt xs)) (hl : xs.length = n) (hn : n ≤ 1099511627776) :
  Calls Tryz.prog 129 #[.slice a1 n c1, .slice a2 n c2] w fun e w' => e = .returned (.bool true) ∧ Below w.heap.size w w' := by
 refine (eqByteS_quiet a1 a2 c1 c2 n xs w h1 h2 hl hn).mono ?_
 rintro e w' ⟨rfl, m, rfl⟩
 exact ⟨rfl, below_drewN (Below.refl _ _) m⟩
set_option maxHeartbeats 1000000 in
theorem eqCell_law : EqLaw Tryz.prog 93 cCell (fun f : PC => f.text.length) := by
 intro w x cs cs' h1 h2 ht
 obtain ⟨a1, c1, rfl⟩ := cCell_shape h1
 obtain ⟨a2, c2, rfl⟩ := cCell_shape h2
 have r1 : Rd w a1 (byt x.text) := by
  obtain ⟨v, e, hv, _⟩ := cCell_rd h1
  obtain ⟨a', cap', rfl, _, _, _, hr, _⟩ := hv.bytes
  simp at e; rw [e.1]; exact hr
 have r2 : Rd w a2 (byt x.text) := by
  obtain ⟨v, e, hv, _⟩ := cCell_rd h2
  obtain ⟨a', cap', rfl, _, _, _, hr, _⟩ := hv.bytes
  simp at e; rw [e.1]; exact hr
 simp only [val]
 clear h1 h2
 go_enter Tryz.func93, Tryz.ntmps93
 go_wp2_with fail
 refine (eqByteS_any a1 a2 c1 c2 _ x.text _ (r1.later (below_new2 _ _ _)) (r2.later (below_new2 _ _ _)) rfl (by have h : x.text.length ≤ 1048576 := ht; omega)).mono ?_
 rintro e w2 ⟨rfl, b2⟩
 rw [size2] at b2
 obtain ⟨k0, k1⟩ := heap2 _ _ b2
 have p0 := cR w2 _ 0 _ _ _ k0
 have p1 := cR w2 _ 1 _ _ _ k0
 have q0 := cR w2 _ 0 _ _ _ k1
 have q1 := cR w2 _ 1 _ _ _ k1
 simp at p0 p1 q0 q1
 have HB : Hid (Below w.heap.size w w2) := hid ((below_new2 w _ _).trans (b2.mono (by omega)))
 clear k0 k1 b2 r1 r2
 go_wp2
 go_ret
 exact ⟨rfl, HB.out⟩
set_option maxHeartbeats 2000000 in
theorem eqCellS_any (a1 a2 : Option Addr) (c1 c2 : Nat) (xs : List PC) (w : World) (h1 : RdSl cCell w xs (.slice a1 xs.length c1)) (h2 : RdSl cCell w xs (.slice a2 xs.length c2)) (ht : totL (fun f : PC => f.text.length) xs ≤ 1048576) :
  Calls Tryz.prog 41 #[.slice a1 xs.length c1, .slice a2 xs.length c2] w fun e w' => e = .returned (.bool true) ∧ Below w.heap.size w w' := by
 have H1 := hid h1
 have H2 := hid h2
 clear h1 h2
 have hlen : xs.length ≤ 1048576 := by unfold totL at ht; omega
 go_enter Tryz.func41, Tryz.ntmps41
 go_wp2
 go_loopw [5] (fun i wr => ∃ k : Nat, k ≤ xs.length ∧ i = .int .i64 k ∧ Below w.heap.size w wr) (fun i _ => xs.length - (intOf i).toNat)
 case atStart => exact ⟨0, Nat.zero_le _, rfl, Below.refl _ _⟩
 case round =>
  obtain ⟨k, hk, rfl, hbe⟩ := hrel
  have HB := hid hbe
  clear hbe
  by_cases hlt : k < xs.length
  ·obtain ⟨b1, o1, x0, x1, x2, rfl, hes1, d0, d1, d2⟩ := (H1.out.later HB.out).at3 rfl hlt
   obtain ⟨b2, o2, y0, y1, y2, rfl, hes2, g0, g1, g2⟩ := (H2.out.later HB.out).at3 rfl hlt
   have HQ : Hid (Calls Tryz.prog 93 #[.agg #[x0, x1, x2], .agg #[y0, y1, y2]] wr.drew fun e w' => e = .returned (.bool true) ∧ Hid (Below w.heap.size w w') ∧ w'.cell? ⟨b1, o1 + k * 3, none⟩ = some x0 ∧ w'.cell? ⟨b1, o1 + k * 3 + 1, none⟩ = some x1 ∧ w'.cell? ⟨b1, o1 + k * 3 + 2, none⟩ = some x2 ∧ w'.cell? ⟨b2, o2 + k * 3, none⟩ = some y0 ∧ w'.cell? ⟨b2, o2 + k * 3 + 1, none⟩ = some y1 ∧ w'.cell? ⟨b2, o2 + k * 3 + 2, none⟩ = some y2) := hid (by
    refine (eqCell_law wr.drew xs[k] _ _ (cCell.later hes1 (Below.refl _ _).drew) (cCell.later hes2 (Below.refl _ _).drew) (by have := tot_at (fun f : PC => f.text.length) xs k hlt; unfold totL at ht; simp only [] at this ⊢; omega)).mono ?_
    rintro e w' ⟨rfl, b⟩
    have kp : ∀ p v, wr.cell? p = some v → w'.cell? p = some v := fun p v h => (b.cell (World.block_lt_of_cell? _ _ h)).trans h
    exact ⟨rfl, hid (HB.out.drew.trans (b.mono HB.out.size)), kp _ _ d0, kp _ _ d1, kp _ _ d2, kp _ _ g0, kp _ _ g1, kp _ _ g2⟩)
   have hki : (k : Int) < (xs.length : Int) := by omega
   clear hes1 hes2
   go_wp2
   go_region_held (fun w' => w'.cell? ⟨b1, o1 + k * 3, none⟩ = some x0 ∧ w'.cell? ⟨b1, o1 + k * 3 + 1, none⟩ = some x1 ∧ w'.cell? ⟨b1, o1 + k * 3 + 2, none⟩ = some x2 ∧ w'.cell? ⟨b2, o2 + k * 3, none⟩ = some y0 ∧ w'.cell? ⟨b2, o2 + k * 3 + 1, none⟩ = some y1 ∧ w'.cell? ⟨b2, o2 + k * 3 + 2, none⟩ = some y2) (go_keep) (first | (go_at_call 93; refine HQ.out.mono ?_; rintro e w' ⟨rfl, hw', hd0, hd1, hd2, hg0, hg1, hg2⟩))
   go_wp2
   go_roundw
   case rel => exact ⟨k + 1, by omega, by go_num, hw'.out⟩
   case measure => simp [intOf]; omega
  ·obtain rfl : k = xs.length := by omega
   go_wp2
   go_ret
   exact ⟨rfl, HB.out⟩
structure PT where
 rows : Int
 cells : List PC
def cTable : Cod PT := cMap (cPair cInt (cSl cCell 102)) fun f => (f.rows, f.cells)
abbrev totT (t : PT) : Nat := totL (fun f : PC => f.text.length) t.cells
theorem cTable_rd {w : World} {t : PT} {cs : List Value} (h : cTable.rd w t cs) : ∃ v, cs = [.int .i64 t.rows, v] ∧ RdSl cCell w t.cells v ∧ IntIn t.rows := by
 obtain ⟨c1, c2, rfl, ⟨rfl, h2⟩, v, rfl, h3⟩ := h
 exact ⟨v, rfl, h3, h2⟩
theorem cTable_own {w : World} {t : PT} {v : Value} {bs : List Nat} (h1 : OwnSl cCell 102 w t.cells v bs) (h2 : IntIn t.rows) : cTable.own w t [.int .i64 t.rows, v] bs :=
 ⟨[_], _, [], bs, rfl, rfl, ⟨rfl, h2, rfl⟩, v, rfl, h1⟩
theorem cTable_shape {w : World} {f : PT} {cs : List Value} (h : cTable.rd w f cs) : ∃ a cap, cs = [.int .i64 f.rows, .slice a f.cells.length cap] ∧ RdSl cCell w f.cells (.slice a f.cells.length cap) ∧ IntIn f.rows := by
 obtain ⟨v, rfl, hv, hi⟩ := cTable_rd h
 obtain ⟨a, cap, rfl, _⟩ := id hv
 exact ⟨a, cap, rfl, hv, hi⟩
theorem set2b {B : Nat} {a w : World} {g : Nat} {x y : Value} (h : Below B a w) (hg : B ≤ g) : Below B a ((w.setCell ⟨g, 0, none⟩ x).setCell ⟨g, 1, none⟩ y) :=
 (h.setCell (p := ⟨g, 0, none⟩) hg _).setCell (p := ⟨g, 1, none⟩) hg _
theorem set2o {w : World} {g k : Nat} {x y : Value} (h : k ≠ g) : ((w.setCell ⟨g, 0, none⟩ x).setCell ⟨g, 1, none⟩ y).heap[k]? = w.heap[k]? := by
 rw [Below.heap_setCell _ _ _ _ h, Below.heap_setCell _ _ _ _ h]
set_option maxHeartbeats 1000000 in
theorem toTable_law : ToLaw Tryz.prog 9 cTable totT := by
 intro w t cs h ht
 obtain ⟨a, cap, rfl, hv, hi⟩ := cTable_shape h
 simp only [val]
 have HV := hid hv
 clear h hv
 go_enter Tryz.func9, Tryz.ntmps9
 go_wp2_with fail
 refine (toCellS_any a cap t.cells _ (HV.out.later (below_new3 _ _ _ _)) ht).mono ?_
 rintro e w2 ⟨v, bs, rfl, o2, hbs, hnd, b2⟩
 obtain ⟨a2, c2, rfl, -⟩ := id o2.rd
 rw [size3] at hbs b2
 obtain ⟨k0, k1, k2⟩ := heap3 _ _ _ b2
 have c10 := cR w2 _ 0 _ _ _ k1
 have c11 := cR w2 _ 1 _ _ _ k1
 have f10 := fR w2 _ 0 _ _ k1
 have f11 := fR w2 _ 1 _ _ k1
 have c20 := cR w2 _ 0 _ _ _ k2
 have c21 := cR w2 _ 1 _ _ _ k2
 have f21 := fR w2 _ 1 _ _ k2
 simp at c10 c11 c20 c21
 have K1 := hid k1
 have HO := hid o2
 have HBS := hid hbs
 have HB : Hid (Below w.heap.size w w2) := hid ((below_new3 w _ _ _).trans (b2.mono (by omega)))
 clear k0 k1 k2 o2 hbs b2
 go_wp2
 have h12 : w.heap.size + 1 ≠ w.heap.size + 1 + 1 := by omega
 refine bodyPost_ret (results_cell_row rfl _ _ (w.heap.size + 1) 51 #[.int .i64 t.rows, .slice a2 t.cells.length c2] (0, 0) _ rfl (set2 ((Below.heap_setCell _ ⟨w.heap.size + 1 + 1, 1, none⟩ _ _ h12).trans K1.out)) Tryz.underlying51 rfl (by kernel_rfl)) rfl ?_
 refine ⟨[.int .i64 t.rows, .slice a2 t.cells.length c2], bs, rfl, ?_, fun b hb => by have := HBS.out b hb; omega, hnd, ?_⟩
 ·refine cTable_own (OwnSl.kept HO.out (fun b hb => ?_)) hi
  have := HBS.out b hb
  have hb2 : b ≠ w.heap.size + 1 + 1 := by omega
  exact (set2o (by omega)).trans (Below.heap_setCell _ ⟨w.heap.size + 1 + 1, 1, none⟩ _ _ hb2)
 ·exact set2b (HB.out.setCell (p := ⟨w.heap.size + 1 + 1, 1, none⟩) (by simp only []; omega) _) (by omega)
set_option maxHeartbeats 1000000 in
theorem szTable_law : SzLaw Tryz.prog 6 cTable totT := by
 intro w t cs l h h0 h1
 obtain ⟨a, cap, rfl, hv, hi⟩ := cTable_shape h
 simp only [val]
 have HV := hid hv
 clear h hv
 have hm1 : rest l (totT t) < 0 → rest l (totT t) = -1 := rest_neg1
 go_enter Tryz.func6, Tryz.ntmps6
 go_wp2_with fail
 refine (szCellS_any a cap t.cells l _ (HV.out.later (bN _ _)) h0 h1).mono ?_
 rintro e w2 ⟨rfl, b2⟩
 have HB : Hid (Below w.heap.size w w2) := hid ((bN w _).trans (b2.mono (by simp)))
 have HM := hid hm1
 clear b2 hm1
 have HT : Hid (rest l (totL (fun f : PC => f.text.length) t.cells) = rest l (totT t)) := hid rfl
 rw [HT.out]
 generalize hrr : rest l (totT t) = r at *
 by_cases hneg : r < 0
 ·go_wp2
  go_ret
  exact ⟨by rw [hrr, HM.out hneg]; rfl, HB.out⟩
 ·go_wp2
  go_ret
  exact ⟨by rw [hrr]; rfl, HB.out⟩
set_option maxHeartbeats 1000000 in
theorem eqTable_law : EqLaw Tryz.prog 12 cTable totT := by
 intro w t cs cs' h1 h2 ht
 obtain ⟨a1, c1, rfl, hv1, hi⟩ := cTable_shape h1
 obtain ⟨a2, c2, rfl, hv2, -⟩ := cTable_shape h2
 simp only [val]
 have H1 := hid hv1
 have H2 := hid hv2
 clear h1 h2 hv1 hv2
 go_enter Tryz.func12, Tryz.ntmps12
 go_wp2_with fail
 refine (eqCellS_any a1 a2 c1 c2 t.cells _ (H1.out.later (below_new2 _ _ _)) (H2.out.later (below_new2 _ _ _)) ht).mono ?_
 rintro e w2 ⟨rfl, b2⟩
 have HB : Hid (Below w.heap.size w w2) := hid ((below_new2 w _ _).trans (b2.mono (by simp; omega)))
 clear b2
 go_wp2
 go_ret
 exact ⟨rfl, HB.out⟩
end Go.Proofs.YtfaehioeepolhabGreat
namespace Go.Proofs.YtfaehioeepolhabGreat
open Go.ChangeShapes Go.WideShapes Go.ChangeAt Go.RowKit
theorem opens_Table {H : Type} (enc : TypeId × Value → H) (W : World) : Opens enc Tryz.prog W 34 cTable :=
 opens_struct2 Tryz.underlying34 rfl rfl rfl (by kernel_rfl) (by kernel_rfl) (by kernel_rfl) (opens_int Tryz.underlying3) (opens_CellS enc W) (fun x y => ⟨x, y⟩) (fun _ _ => rfl)
end Go.Proofs.YtfaehioeepolhabGreat
namespace Go.Proofs.YtfaehioeepolhabGreat
open Go.RowKit
def RdSS (w : World) (a : Option Addr) (xss : List (List Nat)) : Prop :=
 ∃ vs : List Value, vs.length = xss.length ∧ Rd w a vs ∧ ∀ i, (h : i < xss.length) → ∃ a' c', vs[i]? = some (.slice a' xss[i].length c') ∧ Rd w a' (byt xss[i]) ∧ (a' = none → c' = 0)
theorem RdSS.later {w w' : World} {a : Option Addr} {xss : List (List Nat)} (h : RdSS w a xss) (hb : Below w.heap.size w w') : RdSS w' a xss := by
 obtain ⟨vs, hl, hr, hi⟩ := h
 refine ⟨vs, hl, hr.later hb, fun i h => ?_⟩
 obtain ⟨a', c', e, r, z⟩ := hi i h
 exact ⟨a', c', e, r.later hb, z⟩
theorem RdSS.at_ {w : World} {a : Option Addr} {xss : List (List Nat)} (h : RdSS w a xss) {k : Nat} (hk : k < xss.length) :
  ∃ b off a' c', a = some ⟨b, off, none⟩ ∧ w.cell? ⟨b, off + k, none⟩ = some (.slice a' xss[k].length c') ∧ Rd w a' (byt xss[k]) ∧ (a' = none → c' = 0) := by
 obtain ⟨vs, hl, hr, hi⟩ := h
 obtain ⟨a', c', e, r, z⟩ := hi k hk
 rcases hr with h0 | ⟨b, off, rfl, hc⟩
 ·subst h0; simp at hl; omega
 ·refine ⟨b, off, a', c', rfl, ?_, r, z⟩
  obtain ⟨h1, h2⟩ := List.getElem?_eq_some_iff.1 e
  rw [hc k h1, h2]
def tot (xss : List (List Nat)) : Nat := (xss.map List.length).sum
theorem tot_snoc (xss : List (List Nat)) (k : Nat) (h : k < xss.length) : tot (xss.take (k + 1)) = tot (xss.take k) + xss[k].length := by
 unfold tot
 rw [List.take_succ_eq_append_getElem h, List.map_append, List.sum_append]
 simp
theorem tot_take (xss : List (List Nat)) (k : Nat) : tot (xss.take k) ≤ tot xss := by
 unfold tot
 conv => rhs; rw [← List.take_append_drop k xss]
 rw [List.map_append, List.sum_append]; omega
theorem len_le_tot (xss : List (List Nat)) (k : Nat) (h : k < xss.length) : xss[k].length ≤ tot xss := by
 have h1 := tot_snoc xss k h
 have h2 := tot_take xss (k + 1)
 omega
end Go.Proofs.YtfaehioeepolhabGreat
