import Derived.Test.YtfaehioeepolhaaGreatJCrashReceiver3
import Derived.Test.YtfaehioeepolhaaGreatJCrashReceiver4
import Derived.Test.YtfaehioeepolhaaGreatJCrashReceiver2
import Derived.Test.YtfaehioeepolhaaGreatJCrashReceiver0
namespace Go.Proofs.YtfaehioeepolhaaGreat
open Go.RowKit
structure PT where
  rows : Int
  cells : List PC
def cTable : Cod PT := cMap (cPair cInt (cSl cCell 157)) fun f => (f.rows, f.cells)
abbrev totT (t : PT) : Nat := totL (fun f : PC => f.text.length) t.cells
theorem cTable_rd {w : World} {t : PT} {cs : List Value} (h : cTable.rd w t cs) : ∃ v, cs = [.int .i64 t.rows, v] ∧ RdSl cCell w t.cells v ∧ IntIn t.rows := by
  obtain ⟨c1, c2, rfl, ⟨rfl, h2⟩, v, rfl, h3⟩ := h
  exact ⟨v, rfl, h3, h2⟩
theorem cTable_own {w : World} {t : PT} {v : Value} {bs : List Nat} (h1 : OwnSl cCell 157 w t.cells v bs) (h2 : IntIn t.rows) : cTable.own w t [.int .i64 t.rows, v] bs :=
  ⟨[_], _, [], bs, rfl, rfl, ⟨rfl, h2, rfl⟩, v, rfl, h1⟩
theorem cTable_shape {w : World} {f : PT} {cs : List Value} (h : cTable.rd w f cs) : ∃ a cap, cs = [.int .i64 f.rows, .slice a f.cells.length cap] ∧ RdSl cCell w f.cells (.slice a f.cells.length cap) ∧ IntIn f.rows := by
  obtain ⟨v, rfl, hv, hi⟩ := cTable_rd h
  obtain ⟨a, cap, rfl, _⟩ := id hv
  exact ⟨a, cap, rfl, hv, hi⟩
theorem set2b {B : Nat} {a w : World} {g : Nat} {x y : Value} (h : Below B a w) (hg : B ≤ g) : Below B a ((w.setCell ⟨g, 0, none⟩ x).setCell ⟨g, 1, none⟩ y) :=
  (h.setCell (p := ⟨g, 0, none⟩) hg _).setCell (p := ⟨g, 1, none⟩) hg _
theorem set2o {w : World} {g k : Nat} {x y : Value} (h : k ≠ g) : ((w.setCell ⟨g, 0, none⟩ x).setCell ⟨g, 1, none⟩ y).heap[k]? = w.heap[k]? := by
  rw [Below.heap_setCell _ _ _ _ h, Below.heap_setCell _ _ _ _ h]
set_option maxHeartbeats 1000000 in
theorem toTable_law : ToLaw Tryz.prog 91 cTable totT := by
  intro w t cs h ht
  obtain ⟨a, cap, rfl, hv, hi⟩ := cTable_shape h
  simp only [val]
  have HV := hid hv
  clear h hv
  go_enter Tryz.func91, Tryz.ntmps91
  go_wp2_with fail
  refine (toCellS_any a cap t.cells _ (HV.out.later (below_new3 _ _ _ _)) ht).mono ?_
  rintro e w2 ⟨v, bs, rfl, o2, hbs, hnd, b2⟩
  obtain ⟨a2, c2, rfl, -⟩ := id o2.rd
  rw [size3] at hbs b2
  obtain ⟨k0, k1, k2⟩ := heap3 _ _ _ b2
  have c10 := cell_of_row w2 _ 0 _ _ _ k1
  have c11 := cell_of_row w2 _ 1 _ _ _ k1
  have f10 := frozen_of_row w2 _ 0 _ _ k1
  have f11 := frozen_of_row w2 _ 1 _ _ k1
  have c20 := cell_of_row w2 _ 0 _ _ _ k2
  have c21 := cell_of_row w2 _ 1 _ _ _ k2
  have f21 := frozen_of_row w2 _ 1 _ _ k2
  simp at c10 c11 c20 c21
  have K1 := hid k1
  have HO := hid o2
  have HBS := hid hbs
  have HB : Hid (Below w.heap.size w w2) := hid ((below_new3 w _ _ _).trans (b2.mono (by omega)))
  clear k0 k1 k2 o2 hbs b2
  go_wp2
  have h12 : w.heap.size + 1 ≠ w.heap.size + 1 + 1 := by omega
  refine bodyPost_ret (results_cell_row rfl _ _ (w.heap.size + 1) 111 #[.int .i64 t.rows, .slice a2 t.cells.length c2] (0, 0) _ rfl (set2 ((Below.heap_setCell _ ⟨w.heap.size + 1 + 1, 1, none⟩ _ _ h12).trans K1.out)) Tryz.underlying111 rfl (by kernel_rfl)) rfl ?_
  refine ⟨[.int .i64 t.rows, .slice a2 t.cells.length c2], bs, rfl, ?_, fun b hb => by have := HBS.out b hb; omega, hnd, ?_⟩
  · refine cTable_own (OwnSl.kept HO.out (fun b hb => ?_)) hi
    have := HBS.out b hb
    have hb2 : b ≠ w.heap.size + 1 + 1 := by omega
    exact (set2o (by omega)).trans (Below.heap_setCell _ ⟨w.heap.size + 1 + 1, 1, none⟩ _ _ hb2)
  · exact set2b (HB.out.setCell (p := ⟨w.heap.size + 1 + 1, 1, none⟩) (by simp only []; omega) _) (by omega)
set_option maxHeartbeats 1000000 in
theorem szTable_law : SzLaw Tryz.prog 85 cTable totT := by
  intro w t cs l h h0 h1
  obtain ⟨a, cap, rfl, hv, hi⟩ := cTable_shape h
  simp only [val]
  have HV := hid hv
  clear h hv
  have hm1 : rest l (totT t) < 0 → rest l (totT t) = -1 := rest_neg1
  go_enter Tryz.func85, Tryz.ntmps85
  go_wp2_with fail
  refine (szCellS_any a cap t.cells l _ (HV.out.later (below_new1 _ _)) h0 h1).mono ?_
  rintro e w2 ⟨rfl, b2⟩
  have HB : Hid (Below w.heap.size w w2) := hid ((below_new1 w _).trans (b2.mono (by simp)))
  have HM := hid hm1
  clear b2 hm1
  have HT : Hid (rest l (totL (fun f : PC => f.text.length) t.cells) = rest l (totT t)) := hid rfl
  rw [HT.out]
  generalize hrr : rest l (totT t) = r at *
  by_cases hneg : r < 0
  · go_wp2
    go_ret
    exact ⟨by rw [hrr, HM.out hneg]; rfl, HB.out⟩
  · go_wp2
    go_ret
    exact ⟨by rw [hrr]; rfl, HB.out⟩
set_option maxHeartbeats 1000000 in
theorem eqTable_law : EqLaw Tryz.prog 79 cTable totT := by
  intro w t cs cs' h1 h2 ht
  obtain ⟨a1, c1, rfl, hv1, hi⟩ := cTable_shape h1
  obtain ⟨a2, c2, rfl, hv2, -⟩ := cTable_shape h2
  simp only [val]
  have H1 := hid hv1
  have H2 := hid hv2
  clear h1 h2 hv1 hv2
  go_enter Tryz.func79, Tryz.ntmps79
  go_wp2_with fail
  refine (eqCellS_any a1 a2 c1 c2 t.cells _ (H1.out.later (below_new2 _ _ _)) (H2.out.later (below_new2 _ _ _)) ht).mono ?_
  rintro e w2 ⟨rfl, b2⟩
  have HB : Hid (Below w.heap.size w w2) := hid ((below_new2 w _ _).trans (b2.mono (by simp; omega)))
  clear b2
  go_wp2
  go_ret
  exact ⟨rfl, HB.out⟩
end Go.Proofs.YtfaehioeepolhaaGreat
namespace Go.Proofs.YtfaehioeepolhaaGreat
open Go.ChangeShapes Go.WideShapes Go.ChangeAt Go.RowKit
theorem opens_Table {H : Type} (enc : TypeId × Value → H) (W : World) : Opens enc Tryz.prog W 118 cTable :=
  opens_struct2 Tryz.underlying118 rfl rfl rfl (by kernel_rfl) (by kernel_rfl) (by kernel_rfl) (opens_int Tryz.underlying3) (opens_CellS enc W) (fun x y => ⟨x, y⟩) (fun _ _ => rfl)
end Go.Proofs.YtfaehioeepolhaaGreat
namespace Go.Proofs.YtfaehioeepolhaaGreat
open Go.RowKit
def RdSS (w : World) (a : Option Addr) (xss : List (List Nat)) : Prop :=
  ∃ vs : List Value, vs.length = xss.length ∧ Rd w a vs ∧ ∀ i, (h : i < xss.length) → ∃ a' c', vs[i]? = some (.slice a' xss[i].length c') ∧ Rd w a' (byt xss[i]) ∧ (a' = none → c' = 0)
def Inner (w : World) (B E : Nat) (o : Option Value) (ys : List Nat) : Prop :=
  ∃ g c, o = some (.slice (some ⟨g, 0, none⟩) ys.length c) ∧ g < E ∧ w.ownsRow B 5 1 (.slice (some ⟨g, 0, none⟩) ys.length c) ys.length (byt ys)
def OwnSS (w : World) (B E : Nat) (v : Value) (xss : List (List Nat)) : Prop :=
  ∃ vs : List Value, w.ownsRow B 23 1 v xss.length vs ∧ ∀ i, (h : i < xss.length) → Inner w B E vs[i]? xss[i]
theorem Inner.later {w w' : World} {B E : Nat} {o : Option Value} {ys : List Nat} (h : Inner w B E o ys) (hb : Below w.heap.size w w') : Inner w' B E o ys := by
  obtain ⟨g, c, e, hE, ho⟩ := h
  exact ⟨g, c, e, hE, own_later ho hb⟩
theorem OwnSS.later {w w' : World} {B E : Nat} {v : Value} {xss : List (List Nat)} (h : OwnSS w B E v xss) (hb : Below w.heap.size w w') : OwnSS w' B E v xss := by
  obtain ⟨vs, ho, hi⟩ := h
  exact ⟨vs, own_later ho hb, fun i h => (hi i h).later hb⟩
theorem RdSS.later {w w' : World} {a : Option Addr} {xss : List (List Nat)} (h : RdSS w a xss) (hb : Below w.heap.size w w') : RdSS w' a xss := by
  obtain ⟨vs, hl, hr, hi⟩ := h
  refine ⟨vs, hl, hr.later hb, fun i h => ?_⟩
  obtain ⟨a', c', e, r, z⟩ := hi i h
  exact ⟨a', c', e, r.later hb, z⟩
theorem OwnSS.rd {w : World} {B E n cap : Nat} {a : Option Addr} {xss : List (List Nat)} (h : OwnSS w B E (.slice a n cap) xss) (hn : xss.length = n) : RdSS w a xss := by
  obtain ⟨vs, ho, hi⟩ := h
  have hl : vs.length = xss.length := by have := ho.1; omega
  subst hn
  refine ⟨vs, hl, rd_at ho, fun i h => ?_⟩
  obtain ⟨g, c, e, _, r⟩ := hi i h
  exact ⟨_, c, e, rd_row r, fun h => by cases h⟩
structure Fr (B E : Nat) (w w' : World) : Prop where
  os : w'.os = w.os
  tape : w'.tape = w.tape
  output : w'.output = w.output
  size : w.heap.size ≤ w'.heap.size
  block : ∀ k, k < w.heap.size → (k < B ∨ E ≤ k) → w'.heap[k]? = w.heap[k]?
theorem Fr.refl (B E : Nat) (w : World) : Fr B E w w := ⟨rfl, rfl, rfl, Nat.le_refl _, fun _ _ _ => rfl⟩
theorem Fr.grown {B E g : Nat} {a w w' : World} (h : Fr B E a w) (hg : w.grownBy w' (some g)) (h1 : B ≤ g) (h2 : g < E) : Fr B E a w' :=
  ⟨hg.os.trans h.os, hg.tape.trans h.tape, hg.output.trans h.output, Nat.le_trans h.size hg.size, fun k hk hc => (hg.block k (Nat.lt_of_lt_of_le hk h.size) (fun e => by simp at e; omega)).trans (h.block k hk hc)⟩
def tot (xss : List (List Nat)) : Nat := (xss.map List.length).sum
theorem tot_snoc (xss : List (List Nat)) (k : Nat) (h : k < xss.length) : tot (xss.take (k + 1)) = tot (xss.take k) + xss[k].length := by
  unfold tot
  rw [List.take_succ_eq_append_getElem h, List.map_append, List.sum_append]
  simp
theorem tot_take (xss : List (List Nat)) (k : Nat) : tot (xss.take k) ≤ tot xss := by
  unfold tot
  conv => rhs; rw [← List.take_append_drop k xss]
  rw [List.map_append, List.sum_append]; omega
theorem len_le_tot (xss : List (List Nat)) (k : Nat) (h : k < xss.length) : xss[k].length ≤ tot xss := by
  have h1 := tot_snoc xss k h
  have h2 := tot_take xss (k + 1)
  omega
end Go.Proofs.YtfaehioeepolhaaGreat
