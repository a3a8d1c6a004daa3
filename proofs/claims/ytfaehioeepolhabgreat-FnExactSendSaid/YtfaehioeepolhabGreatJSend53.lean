import Derived.Test.YtfaehioeepolhabGreatJSend12
import Derived.Test.YtfaehioeepolhabGreatJSend3
import Derived.Test.YtfaehioeepolhabGreatJSend43
import Derived.Test.YtfaehioeepolhabGreatJSend44
import Derived.Test.YtfaehioeepolhabGreatJSend49
import Derived.Test.YtfaehioeepolhabGreatJSend52
import Derived.Test.YtfaehioeepolhabGreatJSend0
import Derived.Deep.RegionHeld3
namespace Go.Proofs.YtfaehioeepolhabGreat
open Go.RowKit
abbrev BoxZ (w' : World) (g : Nat) (r : PSnd) (a0 a3 a1 a2 b2 : Option Addr) (c0 c3 c1 c2 d2 : Nat) : Prop :=
  w'.cell? ⟨g, 0, none⟩ = some (.slice a0 r.fields.length c0) ∧ w'.cell? ⟨g, 1, none⟩ = some (.int .i64 r.epoch) ∧ w'.cell? ⟨g, 2, none⟩ = some (.int .i64 r.base) ∧ w'.cell? ⟨g, 3, none⟩ = some (.slice a3 r.tables.length c3) ∧ w'.cell? ⟨g, 4, none⟩ = some (.int .i64 r.pushed) ∧ w'.cell? ⟨g, 5, none⟩ = some (.int .i64 r.out.epoch) ∧ w'.cell? ⟨g, 6, none⟩ = some (.int .i64 r.out.next) ∧ w'.cell? ⟨g, 7, none⟩ = some (.int .i64 r.out.now) ∧ w'.cell? ⟨g, 8, none⟩ = some (.slice a1 r.out.wait.length c1) ∧ w'.cell? ⟨g, 9, none⟩ = some (.bool r.str.opened) ∧ w'.cell? ⟨g, 10, none⟩ = some (.slice a2 r.str.fields.length c2) ∧ w'.cell? ⟨g, 11, none⟩ = some (.int .i64 r.str.next) ∧ w'.cell? ⟨g, 12, none⟩ = some (.slice b2 r.str.dicts.length d2)
theorem boxZ_of {w : World} {g : Nat} {e : TypeId} {r : PSnd} {a0 a3 a1 a2 b2 : Option Addr} {c0 c3 c1 c2 d2 : Nat} (hh : w.heap[g]? = some (.cells #[.slice a0 r.fields.length c0, .int .i64 r.epoch, .int .i64 r.base, .slice a3 r.tables.length c3, .int .i64 r.pushed, .int .i64 r.out.epoch, .int .i64 r.out.next, .int .i64 r.out.now, .slice a1 r.out.wait.length c1, .bool r.str.opened, .slice a2 r.str.fields.length c2, .int .i64 r.str.next, .slice b2 r.str.dicts.length d2] e (0, 0))) : BoxZ w g r a0 a3 a1 a2 b2 c0 c3 c1 c2 d2 := by
  have p0 := cell_of_row _ _ 0 _ _ _ hh
  have p1 := cell_of_row _ _ 1 _ _ _ hh
  have p2 := cell_of_row _ _ 2 _ _ _ hh
  have p3 := cell_of_row _ _ 3 _ _ _ hh
  have p4 := cell_of_row _ _ 4 _ _ _ hh
  have p5 := cell_of_row _ _ 5 _ _ _ hh
  have p6 := cell_of_row _ _ 6 _ _ _ hh
  have p7 := cell_of_row _ _ 7 _ _ _ hh
  have p8 := cell_of_row _ _ 8 _ _ _ hh
  have p9 := cell_of_row _ _ 9 _ _ _ hh
  have p10 := cell_of_row _ _ 10 _ _ _ hh
  have p11 := cell_of_row _ _ 11 _ _ _ hh
  have p12 := cell_of_row _ _ 12 _ _ _ hh
  simp only [List.getElem?_toArray, List.getElem?_cons_zero, List.getElem?_cons_succ] at p0 p1 p2 p3 p4 p5 p6 p7 p8 p9 p10 p11 p12
  exact ⟨p0, p1, p2, p3, p4, p5, p6, p7, p8, p9, p10, p11, p12⟩
abbrev BoxY (w' : World) (g : Nat) (p : PT) (a : Option Addr) (c : Nat) : Prop := w'.cell? ⟨g, 0, none⟩ = some (.int .i64 p.rows) ∧ w'.cell? ⟨g, 1, none⟩ = some (.slice a p.cells.length c)
theorem boxY_of {w : World} {g : Nat} {e : TypeId} {p : PT} {a : Option Addr} {c : Nat} (hh : w.heap[g]? = some (.cells #[.int .i64 p.rows, .slice a p.cells.length c] e (0, 0))) : BoxY w g p a c := by
  have p0 := cell_of_row _ _ 0 _ _ _ hh
  have p1 := cell_of_row _ _ 1 _ _ _ hh
  simp only [List.getElem?_toArray, List.getElem?_cons_zero, List.getElem?_cons_succ] at p0 p1
  exact ⟨p0, p1⟩
set_option maxRecDepth 100000 in
set_option maxHeartbeats 32000000 in
theorem send_walk (v v2 : Value) (w : World) (h : SenderIn w v) (h2 : TableIn w v2) :
    Calls Tryz.prog 3 #[v, v2] w fun e w' => e = .returned (.bool true) ∧ Below w.heap.size w w' := by
  obtain ⟨r, a0, a3, a1, a2, b2, c0, c3, c1, c2, d2, rfl, hr, -⟩ := h
  obtain ⟨p, aT, cT, rfl, hrt, htin⟩ := h2
  have HR := hid hr
  have HT := hid hrt
  have HIN := hid htin
  clear hr hrt htin
  have hb0 := below_new2 w (.cells #[.slice a0 r.fields.length c0, .int .i64 r.epoch, .int .i64 r.base, .slice a3 r.tables.length c3, .int .i64 r.pushed, .int .i64 r.out.epoch, .int .i64 r.out.next, .int .i64 r.out.now, .slice a1 r.out.wait.length c1, .bool r.str.opened, .slice a2 r.str.fields.length c2, .int .i64 r.str.next, .slice b2 r.str.dicts.length d2] 31) (.cells #[.int .i64 p.rows, .slice aT p.cells.length cT] 34)
  have HX0 : Hid (((w.alloc (.cells #[.slice a0 r.fields.length c0, .int .i64 r.epoch, .int .i64 r.base, .slice a3 r.tables.length c3, .int .i64 r.pushed, .int .i64 r.out.epoch, .int .i64 r.out.next, .int .i64 r.out.now, .slice a1 r.out.wait.length c1, .bool r.str.opened, .slice a2 r.str.fields.length c2, .int .i64 r.str.next, .slice b2 r.str.dicts.length d2] 31)).alloc (.cells #[.int .i64 p.rows, .slice aT p.cells.length cT] 34)).heap[w.heap.size]? = some (.cells #[.slice a0 r.fields.length c0, .int .i64 r.epoch, .int .i64 r.base, .slice a3 r.tables.length c3, .int .i64 r.pushed, .int .i64 r.out.epoch, .int .i64 r.out.next, .int .i64 r.out.now, .slice a1 r.out.wait.length c1, .bool r.str.opened, .slice a2 r.str.fields.length c2, .int .i64 r.str.next, .slice b2 r.str.dicts.length d2] 31 (0, 0))) := hid (heap2 _ _ (Below.refl _ _)).1
  have HY0 : Hid (((w.alloc (.cells #[.slice a0 r.fields.length c0, .int .i64 r.epoch, .int .i64 r.base, .slice a3 r.tables.length c3, .int .i64 r.pushed, .int .i64 r.out.epoch, .int .i64 r.out.next, .int .i64 r.out.now, .slice a1 r.out.wait.length c1, .bool r.str.opened, .slice a2 r.str.fields.length c2, .int .i64 r.str.next, .slice b2 r.str.dicts.length d2] 31)).alloc (.cells #[.int .i64 p.rows, .slice aT p.cells.length cT] 34)).heap[w.heap.size + 1]? = some (.cells #[.int .i64 p.rows, .slice aT p.cells.length cT] 34 (0, 0))) := hid (heap2 _ _ (Below.refl _ _)).2
  go_enter Tryz.func3, Tryz.ntmps3
  go_wp2_with fail
  generalize ((w.alloc (.cells #[.slice a0 r.fields.length c0, .int .i64 r.epoch, .int .i64 r.base, .slice a3 r.tables.length c3, .int .i64 r.pushed, .int .i64 r.out.epoch, .int .i64 r.out.next, .int .i64 r.out.now, .slice a1 r.out.wait.length c1, .bool r.str.opened, .slice a2 r.str.fields.length c2, .int .i64 r.str.next, .slice b2 r.str.dicts.length d2] 31)).alloc (.cells #[.int .i64 p.rows, .slice aT p.cells.length cT] 34)) = w0 at *
  refine (szSender_any r a0 a3 a1 a2 b2 c0 c3 c1 c2 d2 1048576 w0 (HR.out.later hb0) (by omega) (by omega)).mono ?_
  rintro e w1 ⟨rfl, bl1⟩
  have B1 := below_chain hb0 bl1
  have HX1 := hid (boxSd HX0.out bl1)
  have HY1 := hid (boxSd HY0.out bl1)
  by_cases hneg : rest 1048576 (tSnd r) < 0
  · generalize rest 1048576 (tSnd r) = q at *
    go_wp2
    go_ret
    exact ⟨rfl, B1⟩
  have ht : tSnd r ≤ 1048576 := by have := rest_fits (l := 1048576) (n := tSnd r) (by omega); omega
  have hrl := rest_le (l := 1048576) (n := tSnd r) (by omega)
  have HQQ : Hid (rest 1048576 (tSnd r) = 1048576 - (tSnd r : Int)) := hid (by unfold rest; rw [if_neg (by omega)])
  generalize rest 1048576 (tSnd r) = q at *
  have hq0 : 0 ≤ q := by omega
  have hqn : decide (q < 0) = false := decide_eq_false (by omega)
  have p0 := cell_of_row _ _ 0 _ _ _ HY1.out
  have p1 := cell_of_row _ _ 1 _ _ _ HY1.out
  simp only [List.getElem?_toArray, List.getElem?_cons_zero, List.getElem?_cons_succ] at p0 p1
  go_wp2_with fail
  refine (szTable1_any p aT cT q w1 (HT.out.later B1) HIN.out hq0 hrl).mono ?_
  rintro e w2 ⟨rfl, bl2⟩
  clear p0 p1
  have B2 := below_chain B1 bl2
  have HX2 := hid (boxSd HX1.out bl2)
  have HY2 := hid (boxSd HY1.out bl2)
  by_cases hneg2 : rest q (totT p) < 0
  · generalize rest q (totT p) = q2 at *
    go_wp2
    go_ret
    exact ⟨rfl, B2⟩
  have htt2 : tSnd r + totT p ≤ 1048576 := by have := rest_fits (l := q) (n := totT p) (by omega); have := HQQ.out; omega
  have htt : totT p ≤ 1048576 := by omega
  generalize rest q (totT p) = q2 at *
  have hqn2 : decide (q2 < 0) = false := decide_eq_false (by omega)
  clear HQQ hrl
  have htP := sd_fits r p htt2
  obtain ⟨P, hP⟩ : ∃ P : PSnd, P = sdR r p := ⟨_, rfl⟩
  obtain ⟨K, hK⟩ : ∃ K : Int, K = sdK r p := ⟨_, rfl⟩
  have HSP := hid (fun a0 a3 a1 a2 b2 c0 c3 c1 c2 d2 aT cT w' h h2 => specSend_any r a0 a3 a1 a2 b2 c0 c3 c1 c2 d2 p aT cT w' h h2 HIN.out ht htt)
  have HIM := hid (fun a0 a3 a1 a2 b2 c0 c3 c1 c2 d2 aT cT w' h h2 => implSend_any r a0 a3 a1 a2 b2 c0 c3 c1 c2 d2 p aT cT w' h h2 HIN.out ht htt)
  rw [← hP, ← hK] at HSP HIM
  rw [← hP] at htP
  have hnP := nSnd_le P htP
  have hnR := nSnd_le r (sndFits_of ht)
  clear hP hK
  have hKK : (K != K) = false := by simp
  go_upto_region 8 with fail
  refine region_turns3 (n := 11) (by kernel_rfl) (by kernel_rfl) ?_ (fun t => { tmps := #[.agg #[.slice a0 r.fields.length c0, .int .i64 r.epoch, .int .i64 r.base, .slice a3 r.tables.length c3, .int .i64 r.pushed, .int .i64 r.out.epoch, .int .i64 r.out.next, .int .i64 r.out.now, .slice a1 r.out.wait.length c1, .bool r.str.opened, .slice a2 r.str.fields.length c2, .int .i64 r.str.next, .slice b2 r.str.dicts.length d2], .agg #[.int .i64 p.rows, .slice aT p.cells.length cT], .pointer (some ⟨w.heap.size, 0, none⟩), .pointer (some ⟨w.heap.size + 1, 0, none⟩), .bool false, .int .i64 q2, t 8, t 10, undef, undef, undef, undef, undef, undef, undef, undef, undef, .agg #[.slice a0 r.fields.length c0, .int .i64 r.epoch, .int .i64 r.base, .slice a3 r.tables.length c3, .int .i64 r.pushed, .int .i64 r.out.epoch, .int .i64 r.out.next, .int .i64 r.out.now, .slice a1 r.out.wait.length c1, .bool r.str.opened, .slice a2 r.str.fields.length c2, .int .i64 r.str.next, .slice b2 r.str.dicts.length d2], .int .i64 1048576, .int .i64 q, .int .i64 q, .bool false, .agg #[.int .i64 p.rows, .slice aT p.cells.length cT], .int .i64 q, .int .i64 q2, .int .i64 q2, .bool false, t 5, t 0, t 1, t 2, t 3, t 4, t 6, t 7, undef, undef, undef, undef, undef, undef, undef, undef, undef, undef, undef, undef, undef, undef, undef, undef, undef, undef, undef, undef, undef, undef, undef, undef, undef, undef, undef, undef, undef, undef, undef, undef, undef, undef, undef, undef, undef, undef, undef, undef, undef, undef, undef, undef, undef, undef, undef, undef, undef, undef, undef, undef, undef, undef, undef, undef, undef, undef, undef, undef, undef, undef, undef, undef, undef, undef, undef, undef, undef, undef, undef, undef, undef, undef, undef, undef], defers := [] }) (sgT (.agg #[.slice a0 r.fields.length c0, .int .i64 r.epoch, .int .i64 r.base, .slice a3 r.tables.length c3, .int .i64 r.pushed, .int .i64 r.out.epoch, .int .i64 r.out.next, .int .i64 r.out.now, .slice a1 r.out.wait.length c1, .bool r.str.opened, .slice a2 r.str.fields.length c2, .int .i64 r.str.next, .slice b2 r.str.dicts.length d2]) (.agg #[.int .i64 p.rows, .slice aT p.cells.length cT]) K) [9] (fcSame4 w2) (sgH w2.heap.size r p P K) w2 w2 (fun k => []) (fun _ => true) (fun _ _ _ => True) [9] (fun _ _ => false) (by kernel_rfl) (fun _ _ _ _ h => by cases h) (fun i hi hn => absurd hi hn) (fun j hj => by rcases (by omega : j = 0 ∨ j = 1 ∨ j = 2 ∨ j = 3 ∨ j = 4 ∨ j = 5 ∨ j = 6 ∨ j = 7 ∨ j = 8 ∨ j = 9 ∨ j = 10) with rfl | rfl | rfl | rfl | rfl | rfl | rfl | rfl | rfl | rfl | rfl <;> rfl) (fun j hj hp => by rcases (by omega : j = 0 ∨ j = 1 ∨ j = 2 ∨ j = 3 ∨ j = 4 ∨ j = 5 ∨ j = 6 ∨ j = 7 ∨ j = 8 ∨ j = 9 ∨ j = 10) with rfl | rfl | rfl | rfl | rfl | rfl | rfl | rfl | rfl | rfl | rfl <;> first | rfl | (exact absurd hp (by decide))) (fun j => ([undef, undef, undef, undef, undef, undef, undef, undef, undef, undef, undef] : List Value).getD j undef) (sgH_start _ r p P K _ _) (Below.refl _ w2) (Below.refl _ _) ?_ ?_
  · rfl
  · intro i hi x t wx hxi hsh h0 hbx hgx hdp hall hHx
    rcases (by omega : i = 0 ∨ i = 1 ∨ i = 2 ∨ i = 3 ∨ i = 4 ∨ i = 5 ∨ i = 6 ∨ i = 7 ∨ i = 8 ∨ i = 9 ∨ i = 10) with rfl | rfl | rfl | rfl | rfl | rfl | rfl | rfl | rfl | rfl | rfl
    · 
      try dsimp only
      have y9 := notYet hsh hxi 9 (by kernel_rfl)
      have hz : Below w2.heap.size w2 wx := hgx (by simp [y9])
      have hxx := boxSd HX2.out hz
      have g0 := cell_of_row _ _ 0 _ _ _ hxx
      have g1 := cell_of_row _ _ 1 _ _ _ hxx
      have g2 := cell_of_row _ _ 2 _ _ _ hxx
      have g3 := cell_of_row _ _ 3 _ _ _ hxx
      have g4 := cell_of_row _ _ 4 _ _ _ hxx
      have g5 := cell_of_row _ _ 5 _ _ _ hxx
      have g6 := cell_of_row _ _ 6 _ _ _ hxx
      have g7 := cell_of_row _ _ 7 _ _ _ hxx
      have g8 := cell_of_row _ _ 8 _ _ _ hxx
      have g9 := cell_of_row _ _ 9 _ _ _ hxx
      have g10 := cell_of_row _ _ 10 _ _ _ hxx
      have g11 := cell_of_row _ _ 11 _ _ _ hxx
      have g12 := cell_of_row _ _ 12 _ _ _ hxx
      simp only [List.getElem?_toArray, List.getElem?_cons_zero, List.getElem?_cons_succ] at g0 g1 g2 g3 g4 g5 g6 g7 g8 g9 g10 g11 g12
      clear y9 hz hxx
      clear h0
      refine wpOp_step rfl (fun K' hK => ?_)
      go_simp
      exact hK _ _ ⟨.agg #[.slice a0 r.fields.length c0, .int .i64 r.epoch, .int .i64 r.base, .slice a3 r.tables.length c3, .int .i64 r.pushed, .int .i64 r.out.epoch, .int .i64 r.out.next, .int .i64 r.out.now, .slice a1 r.out.wait.length c1, .bool r.str.opened, .slice a2 r.str.fields.length c2, .int .i64 r.str.next, .slice b2 r.str.dicts.length d2], (by simp [upd]), FX.eq_mk rfl, fun _ => Below.refl _ _, fun h => absurd h (by decide), hbx, hHx.plain (Below.refl _ _) 0 (by omega) _⟩
    · 
      try dsimp only
      have x0 := depX hdp 0 (by kernel_rfl)
      have d0 := hall 0 (by omega) x0
      have e0 : t 0 = .agg #[.slice a0 r.fields.length c0, .int .i64 r.epoch, .int .i64 r.base, .slice a3 r.tables.length c3, .int .i64 r.pushed, .int .i64 r.out.epoch, .int .i64 r.out.next, .int .i64 r.out.now, .slice a1 r.out.wait.length c1, .bool r.str.opened, .slice a2 r.str.fields.length c2, .int .i64 r.str.next, .slice b2 r.str.dicts.length d2] := d0.1
      rw [e0]
      clear h0
      refine wpOp_step rfl (fun K' hK => ?_)
      go_simp
      refine (toSender_any r a0 a3 a1 a2 b2 c0 c3 c1 c2 d2 wx (HR.out.later (below_chain B2 hbx)) ht).mono ?_
      rintro e w99 ⟨a0i, c0i, a3i, c3i, a1i, c1i, a2i, c2i, b2i, d2i, fs4, ts4, os4, bs4, ds4, rfl, o4, -, -, bl⟩
      exact hK _ _ ⟨_, (by simp [upd, e0]), FX.is_mk trivial, fun _ => bl, fun h => absurd h (by decide), below_chain hbx bl, hHx.op1 bl ⟨a0i, c0i, a3i, c3i, a1i, c1i, a2i, c2i, b2i, d2i⟩ o4.rd⟩
    · 
      try dsimp only
      have y9 := notYet hsh hxi 9 (by kernel_rfl)
      have hz : Below w2.heap.size w2 wx := hgx (by simp [y9])
      have hxx := boxSd HY2.out hz
      have g0 := cell_of_row _ _ 0 _ _ _ hxx
      have g1 := cell_of_row _ _ 1 _ _ _ hxx
      simp only [List.getElem?_toArray, List.getElem?_cons_zero, List.getElem?_cons_succ] at g0 g1
      clear y9 hz hxx
      clear h0
      refine wpOp_step rfl (fun K' hK => ?_)
      go_simp
      exact hK _ _ ⟨.agg #[.int .i64 p.rows, .slice aT p.cells.length cT], (by simp [upd]), FX.eq_mk rfl, fun _ => Below.refl _ _, fun h => absurd h (by decide), hbx, hHx.plain (Below.refl _ _) 2 (by omega) _⟩
    · 
      try dsimp only
      have x2 := depX hdp 2 (by kernel_rfl)
      have d2 := hall 2 (by omega) x2
      have e2 : t 2 = .agg #[.int .i64 p.rows, .slice aT p.cells.length cT] := d2.1
      rw [e2]
      clear h0
      refine wpOp_step rfl (fun K' hK => ?_)
      go_simp
      refine (toTable1_any p aT cT wx (HT.out.later (below_chain B2 hbx)) HIN.out htt).mono ?_
      rintro e w99 ⟨a4, c4, bs4, rfl, o4, -, -, bl⟩
      exact hK _ _ ⟨_, (by simp [upd, e2]), FX.is_mk trivial, fun _ => bl, fun h => absurd h (by decide), below_chain hbx bl, hHx.op3 bl o4.rd⟩
    · 
      try dsimp only
      have x1 := depX hdp 1 (by kernel_rfl)
      have d1 := hall 1 (by omega) x1
      have x3 := depX hdp 3 (by kernel_rfl)
      have d3 := hall 3 (by omega) x3
      have y5 := notYet hsh hxi 5 (by kernel_rfl)
      have y6 := notYet hsh hxi 6 (by kernel_rfl)
      have y9 := notYet hsh hxi 9 (by kernel_rfl)
      obtain ⟨⟨a0i, c0i, a3i, c3i, a1i, c1i, a2i, c2i, b2i, d2i⟩, e1, r1⟩ := hHx.1 x1 y9
      have e1 : t 1 = .agg #[.slice a0i r.fields.length c0i, .int .i64 r.epoch, .int .i64 r.base, .slice a3i r.tables.length c3i, .int .i64 r.pushed, .int .i64 r.out.epoch, .int .i64 r.out.next, .int .i64 r.out.now, .slice a1i r.out.wait.length c1i, .bool r.str.opened, .slice a2i r.str.fields.length c2i, .int .i64 r.str.next, .slice b2i r.str.dicts.length d2i] := e1
      have r1 : RdSnd wx r a0i c0i a3i c3i a1i c1i a2i c2i b2i d2i := r1
      obtain ⟨a3q, c3q, e3, r3⟩ := hHx.2.1 x3 y9
      rw [e1, e3]
      clear h0
      refine wpOp_step rfl (fun K' hK => ?_)
      go_simp
      refine (HSP.out a0i a3i a1i a2i b2i c0i c3i c1i c2i d2i a3q c3q wx r1 r3).mono ?_
      rintro e w99 ⟨a0j, c0j, a3j, c3j, a1j, c1j, a2j, c2j, b2j, d2j, rfl, rob, bl⟩
      exact hK _ _ ⟨_, (by simp [upd, e1, e3]), FX.is_mk trivial, fun _ => bl, fun h => absurd h (by decide), below_chain hbx bl, hHx.op4 bl y5 y6 y9 ⟨a0j, c0j, a3j, c3j, a1j, c1j, a2j, c2j, b2j, d2j⟩ rob⟩
    · 
      try dsimp only
      have x4 := depX hdp 4 (by kernel_rfl)
      have d4 := hall 4 (by omega) x4
      obtain ⟨m1, m2, ⟨a0i, c0i, a3i, c3i, a1i, c1i, a2i, c2i, b2i, d2i⟩, e4, -⟩ := hHx.2.2.2 x4
      have e4 : t 4 = .tuple #[.agg #[.slice a0i P.fields.length c0i, .int .i64 P.epoch, .int .i64 P.base, .slice a3i P.tables.length c3i, .int .i64 P.pushed, .int .i64 P.out.epoch, .int .i64 P.out.next, .int .i64 P.out.now, .slice a1i P.out.wait.length c1i, .bool P.str.opened, .slice a2i P.str.fields.length c2i, .int .i64 P.str.next, .slice b2i P.str.dicts.length d2i], .int .i64 K] := e4
      have e4' := e4
      rw [e4]
      clear h0
      refine wpOp_step rfl (fun K' hK => ?_)
      go_simp
      exact hK _ _ ⟨.tuple #[.agg #[.slice a0i P.fields.length c0i, .int .i64 P.epoch, .int .i64 P.base, .slice a3i P.tables.length c3i, .int .i64 P.pushed, .int .i64 P.out.epoch, .int .i64 P.out.next, .int .i64 P.out.now, .slice a1i P.out.wait.length c1i, .bool P.str.opened, .slice a2i P.str.fields.length c2i, .int .i64 P.str.next, .slice b2i P.str.dicts.length d2i], .int .i64 K], (by simp [upd, e4]), FX.is_mk trivial, fun _ => Below.refl _ _, fun h => absurd h (by decide), hbx, hHx.op5 (Below.refl _ _) x4 _ e4'.symm⟩
    · 
      try dsimp only
      have x5 := depX hdp 5 (by kernel_rfl)
      have d5 := hall 5 (by omega) x5
      have x4 := reach_up hsh (i := 4) 10 5 (by kernel_rfl) x5
      obtain ⟨m1, m2, ⟨a0i, c0i, a3i, c3i, a1i, c1i, a2i, c2i, b2i, d2i⟩, e4, e5, -⟩ := hHx.2.2.2 x4
      have e4 : t 4 = .tuple #[.agg #[.slice a0i P.fields.length c0i, .int .i64 P.epoch, .int .i64 P.base, .slice a3i P.tables.length c3i, .int .i64 P.pushed, .int .i64 P.out.epoch, .int .i64 P.out.next, .int .i64 P.out.now, .slice a1i P.out.wait.length c1i, .bool P.str.opened, .slice a2i P.str.fields.length c2i, .int .i64 P.str.next, .slice b2i P.str.dicts.length d2i], .int .i64 K] := e4
      have e5 : t 5 = .tuple #[.agg #[.slice a0i P.fields.length c0i, .int .i64 P.epoch, .int .i64 P.base, .slice a3i P.tables.length c3i, .int .i64 P.pushed, .int .i64 P.out.epoch, .int .i64 P.out.next, .int .i64 P.out.now, .slice a1i P.out.wait.length c1i, .bool P.str.opened, .slice a2i P.str.fields.length c2i, .int .i64 P.str.next, .slice b2i P.str.dicts.length d2i], .int .i64 K] := e5 x5
      rw [e5]
      clear h0
      refine wpOp_step rfl (fun K' hK => ?_)
      go_simp
      exact hK _ _ ⟨.agg #[.slice a0i P.fields.length c0i, .int .i64 P.epoch, .int .i64 P.base, .slice a3i P.tables.length c3i, .int .i64 P.pushed, .int .i64 P.out.epoch, .int .i64 P.out.next, .int .i64 P.out.now, .slice a1i P.out.wait.length c1i, .bool P.str.opened, .slice a2i P.str.fields.length c2i, .int .i64 P.str.next, .slice b2i P.str.dicts.length d2i], (by simp [upd, e5, e4]), FX.is_mk trivial, fun _ => Below.refl _ _, fun h => absurd h (by decide), hbx, hHx.op6 (Below.refl _ _) x4 _ (by rw [e4]; rfl)⟩
    · 
      try dsimp only
      have x5 := depX hdp 5 (by kernel_rfl)
      have d5 := hall 5 (by omega) x5
      have x4 := reach_up hsh (i := 4) 10 5 (by kernel_rfl) x5
      obtain ⟨m1, m2, ⟨a0i, c0i, a3i, c3i, a1i, c1i, a2i, c2i, b2i, d2i⟩, e4, e5, -⟩ := hHx.2.2.2 x4
      have e4 : t 4 = .tuple #[.agg #[.slice a0i P.fields.length c0i, .int .i64 P.epoch, .int .i64 P.base, .slice a3i P.tables.length c3i, .int .i64 P.pushed, .int .i64 P.out.epoch, .int .i64 P.out.next, .int .i64 P.out.now, .slice a1i P.out.wait.length c1i, .bool P.str.opened, .slice a2i P.str.fields.length c2i, .int .i64 P.str.next, .slice b2i P.str.dicts.length d2i], .int .i64 K] := e4
      have e5 : t 5 = .tuple #[.agg #[.slice a0i P.fields.length c0i, .int .i64 P.epoch, .int .i64 P.base, .slice a3i P.tables.length c3i, .int .i64 P.pushed, .int .i64 P.out.epoch, .int .i64 P.out.next, .int .i64 P.out.now, .slice a1i P.out.wait.length c1i, .bool P.str.opened, .slice a2i P.str.fields.length c2i, .int .i64 P.str.next, .slice b2i P.str.dicts.length d2i], .int .i64 K] := e5 x5
      rw [e5]
      clear h0
      refine wpOp_step rfl (fun K' hK => ?_)
      go_simp
      exact hK _ _ ⟨.int .i64 K, (by simp [upd, e5, e4]), FX.eq_mk rfl, fun _ => Below.refl _ _, fun h => absurd h (by decide), hbx, hHx.plain (Below.refl _ _) 7 (by omega) _⟩
    · 
      try dsimp only
      have y9 := notYet hsh hxi 9 (by kernel_rfl)
      clear h0
      refine wpOp_step rfl (fun K' hK => ?_)
      go_simp
      exact hK _ _ ⟨.pointer (some ⟨wx.heap.size, 0, none⟩), (by simp [upd]), FX.is_mk trivial, fun _ => below_new1 _ _, fun h => absurd h (by decide), below_chain hbx (below_new1 _ _), hHx.op8 hbx.size y9⟩
    · 
      try dsimp only
      have x8 := depX hdp 8 (by kernel_rfl)
      have d8 := hall 8 (by omega) x8
      have x6 := depX hdp 6 (by kernel_rfl)
      have d6 := hall 6 (by omega) x6
      have x4 := depX hdp 4 (by kernel_rfl)
      have d4 := hall 4 (by omega) x4
      obtain ⟨g, ⟨a0i, c0i, a3i, c3i, a1i, c1i, a2i, c2i, b2i, d2i⟩, e8, e6, lg, hbz, hfin⟩ := hHx.at9 x4 x6 x8 hxi
      have e6 : t 6 = .agg #[.slice a0i P.fields.length c0i, .int .i64 P.epoch, .int .i64 P.base, .slice a3i P.tables.length c3i, .int .i64 P.pushed, .int .i64 P.out.epoch, .int .i64 P.out.next, .int .i64 P.out.now, .slice a1i P.out.wait.length c1i, .bool P.str.opened, .slice a2i P.str.fields.length c2i, .int .i64 P.str.next, .slice b2i P.str.dicts.length d2i] := e6
      rw [e8, e6]
      have hbz2 : wx.heap[g]? = some (.cells #[.slice none 0 0, .int .i64 0, .int .i64 0, .slice none 0 0, .int .i64 0, .int .i64 0, .int .i64 0, .int .i64 0, .slice none 0 0, .bool false, .slice none 0 0, .int .i64 0, .slice none 0 0] 45 (0, 0)) := hbz
      have k0 := cell_of_row _ _ 0 _ _ _ hbz2
      have zk0 := frozen_of_row _ _ 0 _ _ hbz2
      have k1 := cell_of_row _ _ 1 _ _ _ hbz2
      have zk1 := frozen_of_row _ _ 1 _ _ hbz2
      have k2 := cell_of_row _ _ 2 _ _ _ hbz2
      have zk2 := frozen_of_row _ _ 2 _ _ hbz2
      have k3 := cell_of_row _ _ 3 _ _ _ hbz2
      have zk3 := frozen_of_row _ _ 3 _ _ hbz2
      have k4 := cell_of_row _ _ 4 _ _ _ hbz2
      have zk4 := frozen_of_row _ _ 4 _ _ hbz2
      have k5 := cell_of_row _ _ 5 _ _ _ hbz2
      have zk5 := frozen_of_row _ _ 5 _ _ hbz2
      have k6 := cell_of_row _ _ 6 _ _ _ hbz2
      have zk6 := frozen_of_row _ _ 6 _ _ hbz2
      have k7 := cell_of_row _ _ 7 _ _ _ hbz2
      have zk7 := frozen_of_row _ _ 7 _ _ hbz2
      have k8 := cell_of_row _ _ 8 _ _ _ hbz2
      have zk8 := frozen_of_row _ _ 8 _ _ hbz2
      have k9 := cell_of_row _ _ 9 _ _ _ hbz2
      have zk9 := frozen_of_row _ _ 9 _ _ hbz2
      have k10 := cell_of_row _ _ 10 _ _ _ hbz2
      have zk10 := frozen_of_row _ _ 10 _ _ hbz2
      have k11 := cell_of_row _ _ 11 _ _ _ hbz2
      have zk11 := frozen_of_row _ _ 11 _ _ hbz2
      have k12 := cell_of_row _ _ 12 _ _ _ hbz2
      have zk12 := frozen_of_row _ _ 12 _ _ hbz2
      simp only [List.getElem?_toArray, List.getElem?_cons_zero, List.getElem?_cons_succ] at k0 k1 k2 k3 k4 k5 k6 k7 k8 k9 k10 k11 k12
      have HBZ := hid hbz
      have HFIN := hid hfin
      clear hbz hbz2 hfin hHx
      clear h0
      refine wpOp_step rfl (fun K' hK => ?_)
      go_simp
      exact hK _ _ ⟨undef, (by simp [upd, e8, e6]), FX.is_mk trivial, fun h => absurd (by decide) h, fun _ => trivial, set13b hbx lg, HFIN.out undef HBZ.out⟩
    · 
      try dsimp only
      have x7 := depX hdp 7 (by kernel_rfl)
      have d7 := hall 7 (by omega) x7
      have e7 : t 7 = .int .i64 K := d7.1
      rw [e7]
      clear h0
      refine wpOp_step rfl (fun K' hK => ?_)
      go_simp
      exact hK _ _ ⟨.int .i64 K, (by simp [upd, e7]), FX.eq_mk rfl, fun _ => Below.refl _ _, fun h => absurd h (by decide), hbx, hHx.plain (Below.refl _ _) 10 (by omega) _⟩
  · intro x t wx hx hbx hall hHx
    obtain ⟨gS, ⟨a0s, c0s, a3s, c3s, a1s, c1s, a2s, c2s, b2s, d2s⟩, eg, lg, hbox, hrd⟩ := hHx.done (hx 4 (by omega)) (hx 8 (by omega)) (hx 9 (by omega))
    have e10 : t 10 = .int .i64 K := (hall 10 (by omega)).1
    try dsimp only
    rw [eg, e10]
    generalize t 0 = zS0
    generalize t 1 = zS1
    generalize t 2 = zS2
    generalize t 3 = zS3
    generalize t 4 = zS4
    generalize t 5 = zS5
    generalize t 6 = zS6
    generalize t 7 = zS7
    have HKS : Hid (wx.heap[gS]? = some (.cells #[.slice a0s P.fields.length c0s, .int .i64 P.epoch, .int .i64 P.base, .slice a3s P.tables.length c3s, .int .i64 P.pushed, .int .i64 P.out.epoch, .int .i64 P.out.next, .int .i64 P.out.now, .slice a1s P.out.wait.length c1s, .bool P.str.opened, .slice a2s P.str.fields.length c2s, .int .i64 P.str.next, .slice b2s P.str.dicts.length d2s] 45 (0, 0))) := hid hbox
    have HRS : Hid (RdSnd wx P a0s c0s a3s c3s a1s c1s a2s c2s b2s d2s) := hid hrd
    have HLGS := hid lg
    have HBS := hid hbx
    obtain ⟨WS, hW⟩ : ∃ V, V = wx := ⟨_, rfl⟩
    subst hW
    clear hall hbx hx hHx eg e10 lg hbox hrd
    have B4 := below_chain B2 HBS.out
    have HX4 := hid (boxSd HX2.out HBS.out)
    have HY4 := hid (boxSd HY2.out HBS.out)
    have hs24 := HBS.out.size
    have hw01 := (Array.getElem?_eq_some_iff.1 HY2.out).1
    have p0 := cell_of_row _ _ 0 _ _ _ HX4.out
    have p1 := cell_of_row _ _ 1 _ _ _ HX4.out
    have p2 := cell_of_row _ _ 2 _ _ _ HX4.out
    have p3 := cell_of_row _ _ 3 _ _ _ HX4.out
    have p4 := cell_of_row _ _ 4 _ _ _ HX4.out
    have p5 := cell_of_row _ _ 5 _ _ _ HX4.out
    have p6 := cell_of_row _ _ 6 _ _ _ HX4.out
    have p7 := cell_of_row _ _ 7 _ _ _ HX4.out
    have p8 := cell_of_row _ _ 8 _ _ _ HX4.out
    have p9 := cell_of_row _ _ 9 _ _ _ HX4.out
    have p10 := cell_of_row _ _ 10 _ _ _ HX4.out
    have p11 := cell_of_row _ _ 11 _ _ _ HX4.out
    have p12 := cell_of_row _ _ 12 _ _ _ HX4.out
    simp only [List.getElem?_toArray, List.getElem?_cons_zero, List.getElem?_cons_succ] at p0 p1 p2 p3 p4 p5 p6 p7 p8 p9 p10 p11 p12
    go_wp2_with fail
    refine (toSender_any r a0 a3 a1 a2 b2 c0 c3 c1 c2 d2 WS (HR.out.later B4) ht).mono ?_
    rintro e w5 ⟨a0x, c0x, a3x, c3x, a1x, c1x, a2x, c2x, b2x, d2x, fsX, tsX, osX, bsX, dsX, rfl, oX, lX, nX, bl5⟩
    clear p0 p1 p2 p3 p4 p5 p6 p7 p8 p9 p10 p11 p12
    have hb5 := below_new1 w5 (.cells #[.slice a0x r.fields.length c0x, .int .i64 r.epoch, .int .i64 r.base, .slice a3x r.tables.length c3x, .int .i64 r.pushed, .int .i64 r.out.epoch, .int .i64 r.out.next, .int .i64 r.out.now, .slice a1x r.out.wait.length c1x, .bool r.str.opened, .slice a2x r.str.fields.length c2x, .int .i64 r.str.next, .slice b2x r.str.dicts.length d2x] 45)
    have HKX : Hid ((w5.alloc (.cells #[.slice a0x r.fields.length c0x, .int .i64 r.epoch, .int .i64 r.base, .slice a3x r.tables.length c3x, .int .i64 r.pushed, .int .i64 r.out.epoch, .int .i64 r.out.next, .int .i64 r.out.now, .slice a1x r.out.wait.length c1x, .bool r.str.opened, .slice a2x r.str.fields.length c2x, .int .i64 r.str.next, .slice b2x r.str.dicts.length d2x] 45)).heap[w5.heap.size]? = some (.cells #[.slice a0x r.fields.length c0x, .int .i64 r.epoch, .int .i64 r.base, .slice a3x r.tables.length c3x, .int .i64 r.pushed, .int .i64 r.out.epoch, .int .i64 r.out.next, .int .i64 r.out.now, .slice a1x r.out.wait.length c1x, .bool r.str.opened, .slice a2x r.str.fields.length c2x, .int .i64 r.str.next, .slice b2x r.str.dicts.length d2x] 45 (0, 0))) := hid (heap_alloc_new w5 _)
    have F46 := below_chain bl5 hb5
    have B6 := below_chain B4 F46
    have hs56 : w5.heap.size < (w5.alloc (.cells #[.slice a0x r.fields.length c0x, .int .i64 r.epoch, .int .i64 r.base, .slice a3x r.tables.length c3x, .int .i64 r.pushed, .int .i64 r.out.epoch, .int .i64 r.out.next, .int .i64 r.out.now, .slice a1x r.out.wait.length c1x, .bool r.str.opened, .slice a2x r.str.fields.length c2x, .int .i64 r.str.next, .slice b2x r.str.dicts.length d2x] 45)).heap.size := by simp
    have hs45 := bl5.size
    have hXlt : ∀ b ∈ ((fsX ++ tsX) ++ (osX ++ (bsX ++ dsX))), b < w5.heap.size := oX.lt4
    have OX6 := hid (oX.later4 hb5)
    have lX2 : ∀ b ∈ ((fsX ++ tsX) ++ (osX ++ (bsX ++ dsX))), WS.heap.size ≤ b := fun b hb => lX b (by simpa only [List.append_assoc] using hb)
    have nX2 : ((fsX ++ tsX) ++ (osX ++ (bsX ++ dsX))).Nodup := by simpa only [List.append_assoc] using nX
    have HX6 := hid (boxSd HX4.out F46)
    have HY6 := hid (boxSd HY4.out F46)
    clear oX lX nX hb5
    have q0 := cell_of_row _ _ 0 _ _ _ HY6.out
    have q1 := cell_of_row _ _ 1 _ _ _ HY6.out
    simp only [List.getElem?_toArray, List.getElem?_cons_zero, List.getElem?_cons_succ] at q0 q1
    go_wp2_with fail
    generalize (w5.alloc (.cells #[.slice a0x r.fields.length c0x, .int .i64 r.epoch, .int .i64 r.base, .slice a3x r.tables.length c3x, .int .i64 r.pushed, .int .i64 r.out.epoch, .int .i64 r.out.next, .int .i64 r.out.now, .slice a1x r.out.wait.length c1x, .bool r.str.opened, .slice a2x r.str.fields.length c2x, .int .i64 r.str.next, .slice b2x r.str.dicts.length d2x] 45)) = w6 at *
    refine (toTable1_any p aT cT w6 (HT.out.later B6) HIN.out htt).mono ?_
    rintro e w7 ⟨aQ, cQ, bsQ, rfl, oQ, lQ, nQ, bl7⟩
    clear q0 q1
    have hb7 := below_new1 w7 (.cells #[.int .i64 p.rows, .slice aQ p.cells.length cQ] 51)
    have HKQ : Hid ((w7.alloc (.cells #[.int .i64 p.rows, .slice aQ p.cells.length cQ] 51)).heap[w7.heap.size]? = some (.cells #[.int .i64 p.rows, .slice aQ p.cells.length cQ] 51 (0, 0))) := hid (heap_alloc_new w7 _)
    have hQin : ∀ x ∈ bsQ, w6.heap.size ≤ x ∧ x < w7.heap.size := fun x hx => ⟨lQ x hx, oQ.lt x hx⟩
    have hs78 : w7.heap.size < (w7.alloc (.cells #[.int .i64 p.rows, .slice aQ p.cells.length cQ] 51)).heap.size := by simp
    have hs67 := bl7.size
    have F68 := below_chain bl7 hb7
    have B8 := below_chain B6 F68
    have F48 := below_chain F46 F68
    have OX8 := hid (OX6.out.later4 F68)
    have OQ8 := hid (oQ.kept (w' := w7.alloc (.cells #[.int .i64 p.rows, .slice aQ p.cells.length cQ] 51)) (fun x hx => hb7.block x (oQ.lt x hx)))
    have HX8 := hid (boxSd HX6.out F68)
    have HY8 := hid (boxSd HY6.out F68)
    have HKX8 := hid (boxSd HKX.out F68)
    clear oQ hb7 OX6 lQ
    have p0 := cell_of_row _ _ 0 _ _ _ HKX8.out
    have p1 := cell_of_row _ _ 1 _ _ _ HKX8.out
    have p2 := cell_of_row _ _ 2 _ _ _ HKX8.out
    have p3 := cell_of_row _ _ 3 _ _ _ HKX8.out
    have p4 := cell_of_row _ _ 4 _ _ _ HKX8.out
    have p5 := cell_of_row _ _ 5 _ _ _ HKX8.out
    have p6 := cell_of_row _ _ 6 _ _ _ HKX8.out
    have p7 := cell_of_row _ _ 7 _ _ _ HKX8.out
    have p8 := cell_of_row _ _ 8 _ _ _ HKX8.out
    have p9 := cell_of_row _ _ 9 _ _ _ HKX8.out
    have p10 := cell_of_row _ _ 10 _ _ _ HKX8.out
    have p11 := cell_of_row _ _ 11 _ _ _ HKX8.out
    have p12 := cell_of_row _ _ 12 _ _ _ HKX8.out
    simp only [List.getElem?_toArray, List.getElem?_cons_zero, List.getElem?_cons_succ] at p0 p1 p2 p3 p4 p5 p6 p7 p8 p9 p10 p11 p12
    have q0 := cell_of_row _ _ 0 _ _ _ HKQ.out
    have q1 := cell_of_row _ _ 1 _ _ _ HKQ.out
    simp only [List.getElem?_toArray, List.getElem?_cons_zero, List.getElem?_cons_succ] at q0 q1
    go_wp2_with fail
    generalize (w7.alloc (.cells #[.int .i64 p.rows, .slice aQ p.cells.length cQ] 51)) = w8 at *
    refine (HIM.out a0x a3x a1x a2x b2x c0x c3x c1x c2x d2x aQ cQ w8 OX8.out.rd OQ8.out.rd).mono ?_
    rintro e w9 ⟨a0g, c0g, a3g, c3g, a1g, c1g, a2g, c2g, b2g, d2g, fsG, tsG, osG, bsG, dsG, rfl, oG, lG, nG, bl9⟩
    clear p0 p1 p2 p3 p4 p5 p6 p7 p8 p9 p10 p11 p12 q0 q1
    have hb9 := below_new1 w9 (.cells #[.slice a0g P.fields.length c0g, .int .i64 P.epoch, .int .i64 P.base, .slice a3g P.tables.length c3g, .int .i64 P.pushed, .int .i64 P.out.epoch, .int .i64 P.out.next, .int .i64 P.out.now, .slice a1g P.out.wait.length c1g, .bool P.str.opened, .slice a2g P.str.fields.length c2g, .int .i64 P.str.next, .slice b2g P.str.dicts.length d2g] 45)
    have HKG : Hid ((w9.alloc (.cells #[.slice a0g P.fields.length c0g, .int .i64 P.epoch, .int .i64 P.base, .slice a3g P.tables.length c3g, .int .i64 P.pushed, .int .i64 P.out.epoch, .int .i64 P.out.next, .int .i64 P.out.now, .slice a1g P.out.wait.length c1g, .bool P.str.opened, .slice a2g P.str.fields.length c2g, .int .i64 P.str.next, .slice b2g P.str.dicts.length d2g] 45)).heap[w9.heap.size]? = some (.cells #[.slice a0g P.fields.length c0g, .int .i64 P.epoch, .int .i64 P.base, .slice a3g P.tables.length c3g, .int .i64 P.pushed, .int .i64 P.out.epoch, .int .i64 P.out.next, .int .i64 P.out.now, .slice a1g P.out.wait.length c1g, .bool P.str.opened, .slice a2g P.str.fields.length c2g, .int .i64 P.str.next, .slice b2g P.str.dicts.length d2g] 45 (0, 0))) := hid (heap_alloc_new w9 _)
    have hGlt : ∀ b ∈ ((fsG ++ tsG) ++ (osG ++ (bsG ++ dsG))), b < w9.heap.size := oG.lt4
    have HLG := hid lG
    have HNR := hid nG
    have hs90 : w9.heap.size < (w9.alloc (.cells #[.slice a0g P.fields.length c0g, .int .i64 P.epoch, .int .i64 P.base, .slice a3g P.tables.length c3g, .int .i64 P.pushed, .int .i64 P.out.epoch, .int .i64 P.out.next, .int .i64 P.out.now, .slice a1g P.out.wait.length c1g, .bool P.str.opened, .slice a2g P.str.fields.length c2g, .int .i64 P.str.next, .slice b2g P.str.dicts.length d2g] 45)).heap.size := by simp
    have hs89 := bl9.size
    have F80 := below_chain bl9 hb9
    have B10 := below_chain B8 F80
    have F40 := below_chain F48 F80
    have OG10 := hid (oG.later4 hb9)
    have OX10 := hid (OX8.out.later4 F80)
    have OQ10 := hid (OQ8.out.kept (fun x hx => F80.block x (OQ8.out.lt x hx)))
    have HX10 := hid (boxSd HX8.out F80)
    have HY10 := hid (boxSd HY8.out F80)
    have HKX10 := hid (boxSd HKX8.out F80)
    have HKQ10 := hid (boxSd HKQ.out F80)
    have HKS10 := hid (boxSd HKS.out F40)
    clear oG lG nG hb9 OX8 OQ8 HKX8
    have p0 := cell_of_row _ _ 0 _ _ _ HKS10.out
    have p1 := cell_of_row _ _ 1 _ _ _ HKS10.out
    have p2 := cell_of_row _ _ 2 _ _ _ HKS10.out
    have p3 := cell_of_row _ _ 3 _ _ _ HKS10.out
    have p4 := cell_of_row _ _ 4 _ _ _ HKS10.out
    have p5 := cell_of_row _ _ 5 _ _ _ HKS10.out
    have p6 := cell_of_row _ _ 6 _ _ _ HKS10.out
    have p7 := cell_of_row _ _ 7 _ _ _ HKS10.out
    have p8 := cell_of_row _ _ 8 _ _ _ HKS10.out
    have p9 := cell_of_row _ _ 9 _ _ _ HKS10.out
    have p10 := cell_of_row _ _ 10 _ _ _ HKS10.out
    have p11 := cell_of_row _ _ 11 _ _ _ HKS10.out
    have p12 := cell_of_row _ _ 12 _ _ _ HKS10.out
    simp only [List.getElem?_toArray, List.getElem?_cons_zero, List.getElem?_cons_succ] at p0 p1 p2 p3 p4 p5 p6 p7 p8 p9 p10 p11 p12
    have q0 := cell_of_row _ _ 0 _ _ _ HKG.out
    have q1 := cell_of_row _ _ 1 _ _ _ HKG.out
    have q2 := cell_of_row _ _ 2 _ _ _ HKG.out
    have q3 := cell_of_row _ _ 3 _ _ _ HKG.out
    have q4 := cell_of_row _ _ 4 _ _ _ HKG.out
    have q5 := cell_of_row _ _ 5 _ _ _ HKG.out
    have q6 := cell_of_row _ _ 6 _ _ _ HKG.out
    have q7 := cell_of_row _ _ 7 _ _ _ HKG.out
    have q8 := cell_of_row _ _ 8 _ _ _ HKG.out
    have q9 := cell_of_row _ _ 9 _ _ _ HKG.out
    have q10 := cell_of_row _ _ 10 _ _ _ HKG.out
    have q11 := cell_of_row _ _ 11 _ _ _ HKG.out
    have q12 := cell_of_row _ _ 12 _ _ _ HKG.out
    simp only [List.getElem?_toArray, List.getElem?_cons_zero, List.getElem?_cons_succ] at q0 q1 q2 q3 q4 q5 q6 q7 q8 q9 q10 q11 q12
    go_wp2_with fail
    generalize (w9.alloc (.cells #[.slice a0g P.fields.length c0g, .int .i64 P.epoch, .int .i64 P.base, .slice a3g P.tables.length c3g, .int .i64 P.pushed, .int .i64 P.out.epoch, .int .i64 P.out.next, .int .i64 P.out.now, .slice a1g P.out.wait.length c1g, .bool P.str.opened, .slice a2g P.str.fields.length c2g, .int .i64 P.str.next, .slice b2g P.str.dicts.length d2g] 45)) = w10 at *
    refine (eqSenderF_any P a0g a3g a1g a2g b2g c0g c3g c1g c2g d2g a0s a3s a1s a2s b2s c0s c3s c1s c2s d2s w10 OG10.out.rd (HRS.out.later F40) htP).mono ?_
    rintro e w11 ⟨rfl, bl11⟩
    clear p0 p1 p2 p3 p4 p5 p6 p7 p8 p9 p10 p11 p12 q0 q1 q2 q3 q4 q5 q6 q7 q8 q9 q10 q11 q12
    have B11 := below_chain B10 bl11
    have F411 := below_chain F40 bl11
    have OG11 := hid (OG10.out.later4 bl11)
    have OX11 := hid (OX10.out.later4 bl11)
    have OQ11 := hid (OQ10.out.kept (fun x hx => bl11.block x (OQ10.out.lt x hx)))
    have HX11 := hid (boxSd HX10.out bl11)
    have HY11 := hid (boxSd HY10.out bl11)
    have HKX11 := hid (boxSd HKX10.out bl11)
    have HKQ11 := hid (boxSd HKQ10.out bl11)
    have HKG11 := hid (boxSd HKG.out bl11)
    have hs01 := bl11.size
    clear OG10 OX10 OQ10 HX10 HY10 HKX10 HKQ10 HKS10
    have p0 := cell_of_row _ _ 0 _ _ _ HX11.out
    have p1 := cell_of_row _ _ 1 _ _ _ HX11.out
    have p2 := cell_of_row _ _ 2 _ _ _ HX11.out
    have p3 := cell_of_row _ _ 3 _ _ _ HX11.out
    have p4 := cell_of_row _ _ 4 _ _ _ HX11.out
    have p5 := cell_of_row _ _ 5 _ _ _ HX11.out
    have p6 := cell_of_row _ _ 6 _ _ _ HX11.out
    have p7 := cell_of_row _ _ 7 _ _ _ HX11.out
    have p8 := cell_of_row _ _ 8 _ _ _ HX11.out
    have p9 := cell_of_row _ _ 9 _ _ _ HX11.out
    have p10 := cell_of_row _ _ 10 _ _ _ HX11.out
    have p11 := cell_of_row _ _ 11 _ _ _ HX11.out
    have p12 := cell_of_row _ _ 12 _ _ _ HX11.out
    simp only [List.getElem?_toArray, List.getElem?_cons_zero, List.getElem?_cons_succ] at p0 p1 p2 p3 p4 p5 p6 p7 p8 p9 p10 p11 p12
    have q0 := cell_of_row _ _ 0 _ _ _ HKX11.out
    have q1 := cell_of_row _ _ 1 _ _ _ HKX11.out
    have q2 := cell_of_row _ _ 2 _ _ _ HKX11.out
    have q3 := cell_of_row _ _ 3 _ _ _ HKX11.out
    have q4 := cell_of_row _ _ 4 _ _ _ HKX11.out
    have q5 := cell_of_row _ _ 5 _ _ _ HKX11.out
    have q6 := cell_of_row _ _ 6 _ _ _ HKX11.out
    have q7 := cell_of_row _ _ 7 _ _ _ HKX11.out
    have q8 := cell_of_row _ _ 8 _ _ _ HKX11.out
    have q9 := cell_of_row _ _ 9 _ _ _ HKX11.out
    have q10 := cell_of_row _ _ 10 _ _ _ HKX11.out
    have q11 := cell_of_row _ _ 11 _ _ _ HKX11.out
    have q12 := cell_of_row _ _ 12 _ _ _ HKX11.out
    simp only [List.getElem?_toArray, List.getElem?_cons_zero, List.getElem?_cons_succ] at q0 q1 q2 q3 q4 q5 q6 q7 q8 q9 q10 q11 q12
    have HT7 : Hid (Calls Tryz.prog 8 #[.agg #[.slice a0 r.fields.length c0, .int .i64 r.epoch, .int .i64 r.base, .slice a3 r.tables.length c3, .int .i64 r.pushed, .int .i64 r.out.epoch, .int .i64 r.out.next, .int .i64 r.out.now, .slice a1 r.out.wait.length c1, .bool r.str.opened, .slice a2 r.str.fields.length c2, .int .i64 r.str.next, .slice b2 r.str.dicts.length d2]] w11.drew fun e w8 => ∃ a0z c0z a3z c3z a1z c1z a2z c2z b2z d2z, e = .returned (.agg #[.slice a0z r.fields.length c0z, .int .i64 r.epoch, .int .i64 r.base, .slice a3z r.tables.length c3z, .int .i64 r.pushed, .int .i64 r.out.epoch, .int .i64 r.out.next, .int .i64 r.out.now, .slice a1z r.out.wait.length c1z, .bool r.str.opened, .slice a2z r.str.fields.length c2z, .int .i64 r.str.next, .slice b2z r.str.dicts.length d2z]) ∧ Hid (RdSnd w8 r a0z c0z a3z c3z a1z c1z a2z c2z b2z d2z) ∧ Hid (Below w11.heap.size w11 w8) ∧ BoxZ w8 w.heap.size r a0 a3 a1 a2 b2 c0 c3 c1 c2 d2 ∧ BoxZ w8 w5.heap.size r a0x a3x a1x a2x b2x c0x c3x c1x c2x d2x) := hid (by
        refine (toSender_any r a0 a3 a1 a2 b2 c0 c3 c1 c2 d2 w11.drew (HR.out.later B11.drew) ht).mono ?_
        rintro e w8 ⟨a0z, c0z, a3z, c3z, a1z, c1z, a2z, c2z, b2z, d2z, fs8, ts8, os8, bs8, ds8, rfl, o8, -, -, bl8⟩
        have bl := (Below.refl _ w11).drew.trans bl8
        exact ⟨a0z, c0z, a3z, c3z, a1z, c1z, a2z, c2z, b2z, d2z, rfl, hid o8.rd, hid bl, boxZ_of (boxSd HX11.out bl), boxZ_of (boxSd HKX11.out bl)⟩)
    have HE7 : Hid (∀ w8 a0z c0z a3z c3z a1z c1z a2z c2z b2z d2z, Hid (RdSnd w8 r a0z c0z a3z c3z a1z c1z a2z c2z b2z d2z) → Hid (Below w11.heap.size w11 w8) → Calls Tryz.prog 11 #[.agg #[.slice a0x r.fields.length c0x, .int .i64 r.epoch, .int .i64 r.base, .slice a3x r.tables.length c3x, .int .i64 r.pushed, .int .i64 r.out.epoch, .int .i64 r.out.next, .int .i64 r.out.now, .slice a1x r.out.wait.length c1x, .bool r.str.opened, .slice a2x r.str.fields.length c2x, .int .i64 r.str.next, .slice b2x r.str.dicts.length d2x], .agg #[.slice a0z r.fields.length c0z, .int .i64 r.epoch, .int .i64 r.base, .slice a3z r.tables.length c3z, .int .i64 r.pushed, .int .i64 r.out.epoch, .int .i64 r.out.next, .int .i64 r.out.now, .slice a1z r.out.wait.length c1z, .bool r.str.opened, .slice a2z r.str.fields.length c2z, .int .i64 r.str.next, .slice b2z r.str.dicts.length d2z]] w8 fun e wx => e = .returned (.bool true) ∧ Hid (Below w11.heap.size w11 wx) ∧ BoxZ wx w.heap.size r a0 a3 a1 a2 b2 c0 c3 c1 c2 d2 ∧ BoxZ wx w5.heap.size r a0x a3x a1x a2x b2x c0x c3x c1x c2x d2x) := hid (fun w8 a0z c0z a3z c3z a1z c1z a2z c2z b2z d2z h8 hb => by
        refine (eqSender_any r a0x a3x a1x a2x b2x c0x c3x c1x c2x d2x a0z a3z a1z a2z b2z c0z c3z c1z c2z d2z w8 (OX11.out.rd.later hb.out) h8.out ht).mono ?_
        rintro e wx ⟨rfl, bl9⟩
        have bl := below_chain hb.out bl9
        exact ⟨rfl, hid bl, boxZ_of (boxSd HX11.out bl), boxZ_of (boxSd HKX11.out bl)⟩)
    go_wp2
    (go_region_held3 (fun w' => w'.cell? ⟨w.heap.size, 0, none⟩ = some (.slice a0 r.fields.length c0) ∧ w'.cell? ⟨w.heap.size, 1, none⟩ = some (.int .i64 r.epoch) ∧ w'.cell? ⟨w.heap.size, 2, none⟩ = some (.int .i64 r.base) ∧ w'.cell? ⟨w.heap.size, 3, none⟩ = some (.slice a3 r.tables.length c3) ∧ w'.cell? ⟨w.heap.size, 4, none⟩ = some (.int .i64 r.pushed) ∧ w'.cell? ⟨w.heap.size, 5, none⟩ = some (.int .i64 r.out.epoch) ∧ w'.cell? ⟨w.heap.size, 6, none⟩ = some (.int .i64 r.out.next) ∧ w'.cell? ⟨w.heap.size, 7, none⟩ = some (.int .i64 r.out.now) ∧ w'.cell? ⟨w.heap.size, 8, none⟩ = some (.slice a1 r.out.wait.length c1) ∧ w'.cell? ⟨w.heap.size, 9, none⟩ = some (.bool r.str.opened) ∧ w'.cell? ⟨w.heap.size, 10, none⟩ = some (.slice a2 r.str.fields.length c2) ∧ w'.cell? ⟨w.heap.size, 11, none⟩ = some (.int .i64 r.str.next) ∧ w'.cell? ⟨w.heap.size, 12, none⟩ = some (.slice b2 r.str.dicts.length d2) ∧ w'.cell? ⟨w5.heap.size, 0, none⟩ = some (.slice a0x r.fields.length c0x) ∧ w'.cell? ⟨w5.heap.size, 1, none⟩ = some (.int .i64 r.epoch) ∧ w'.cell? ⟨w5.heap.size, 2, none⟩ = some (.int .i64 r.base) ∧ w'.cell? ⟨w5.heap.size, 3, none⟩ = some (.slice a3x r.tables.length c3x) ∧ w'.cell? ⟨w5.heap.size, 4, none⟩ = some (.int .i64 r.pushed) ∧ w'.cell? ⟨w5.heap.size, 5, none⟩ = some (.int .i64 r.out.epoch) ∧ w'.cell? ⟨w5.heap.size, 6, none⟩ = some (.int .i64 r.out.next) ∧ w'.cell? ⟨w5.heap.size, 7, none⟩ = some (.int .i64 r.out.now) ∧ w'.cell? ⟨w5.heap.size, 8, none⟩ = some (.slice a1x r.out.wait.length c1x) ∧ w'.cell? ⟨w5.heap.size, 9, none⟩ = some (.bool r.str.opened) ∧ w'.cell? ⟨w5.heap.size, 10, none⟩ = some (.slice a2x r.str.fields.length c2x) ∧ w'.cell? ⟨w5.heap.size, 11, none⟩ = some (.int .i64 r.str.next) ∧ w'.cell? ⟨w5.heap.size, 12, none⟩ = some (.slice b2x r.str.dicts.length d2x)) (go_keep) (first
      | (go_at_call 8; refine HT7.out.mono ?_; rintro e w8x ⟨a0z, c0z, a3z, c3z, a1z, c1z, a2z, c2z, b2z, d2z, rfl, hr8, hb8, ⟨xx0, xx1, xx2, xx3, xx4, xx5, xx6, xx7, xx8, xx9, xx10, xx11, xx12⟩, ⟨yy0, yy1, yy2, yy3, yy4, yy5, yy6, yy7, yy8, yy9, yy10, yy11, yy12⟩⟩)
      | (go_at_call 11; refine (HE7.out _ a0z c0z a3z c3z a1z c1z a2z c2z b2z d2z hr8 hb8).mono ?_; rintro e w12 ⟨rfl, hb9, ⟨zz0, zz1, zz2, zz3, zz4, zz5, zz6, zz7, zz8, zz9, zz10, zz11, zz12⟩, ⟨uu0, uu1, uu2, uu3, uu4, uu5, uu6, uu7, uu8, uu9, uu10, uu11, uu12⟩⟩)))
    clear p0 p1 p2 p3 p4 p5 p6 p7 p8 p9 p10 p11 p12 q0 q1 q2 q3 q4 q5 q6 q7 q8 q9 q10 q11 q12 zz0 zz1 zz2 zz3 zz4 zz5 zz6 zz7 zz8 zz9 zz10 zz11 zz12 uu0 uu1 uu2 uu3 uu4 uu5 uu6 uu7 uu8 uu9 uu10 uu11 uu12 HT7 HE7
    have b12 := hb9.out
    clear hb9
    have B12 := below_chain B11 b12
    have F412 := below_chain F411 b12
    have OG12 := hid (OG11.out.later4 b12)
    have OX12 := hid (OX11.out.later4 b12)
    have OQ12 := hid (OQ11.out.kept (fun x hx => b12.block x (OQ11.out.lt x hx)))
    have HY12 := hid (boxSd HY11.out b12)
    have HKX12 := hid (boxSd HKX11.out b12)
    have HKQ12 := hid (boxSd HKQ11.out b12)
    have HKG12 := hid (boxSd HKG11.out b12)
    clear OG11 OX11 OQ11 HX11 HY11 HKX11 HKQ11 HKG11
    have p0 := cell_of_row _ _ 0 _ _ _ HY12.out
    have p1 := cell_of_row _ _ 1 _ _ _ HY12.out
    simp only [List.getElem?_toArray, List.getElem?_cons_zero, List.getElem?_cons_succ] at p0 p1
    have q0 := cell_of_row _ _ 0 _ _ _ HKQ12.out
    have q1 := cell_of_row _ _ 1 _ _ _ HKQ12.out
    simp only [List.getElem?_toArray, List.getElem?_cons_zero, List.getElem?_cons_succ] at q0 q1
    have HT7 : Hid (Calls Tryz.prog 9 #[.agg #[.int .i64 p.rows, .slice aT p.cells.length cT]] w12.drew fun e w8 => ∃ a8 c8, e = .returned (.agg #[.int .i64 p.rows, .slice a8 p.cells.length c8]) ∧ Hid (RdSl cCell w8 p.cells (.slice a8 p.cells.length c8)) ∧ Hid (Below w12.heap.size w12 w8) ∧ BoxY w8 (w.heap.size + 1) p aT cT ∧ BoxY w8 w7.heap.size p aQ cQ) := hid (by
        refine (toTable1_any p aT cT w12.drew (HT.out.later B12.drew) HIN.out htt).mono ?_
        rintro e w8 ⟨a8, c8, bs8, rfl, o8, -, -, bl8⟩
        have bl := (Below.refl _ w12).drew.trans bl8
        exact ⟨a8, c8, rfl, hid o8.rd, hid bl, boxY_of (boxSd HY12.out bl), boxY_of (boxSd HKQ12.out bl)⟩)
    have HE7 : Hid (∀ w8 a8 c8, Hid (RdSl cCell w8 p.cells (.slice a8 p.cells.length c8)) → Hid (Below w12.heap.size w12 w8) → Calls Tryz.prog 12 #[.agg #[.int .i64 p.rows, .slice aQ p.cells.length cQ], .agg #[.int .i64 p.rows, .slice a8 p.cells.length c8]] w8 fun e wx => e = .returned (.bool true) ∧ Hid (Below w12.heap.size w12 wx) ∧ BoxY wx (w.heap.size + 1) p aT cT ∧ BoxY wx w7.heap.size p aQ cQ) := hid (fun w8 a8 c8 h8 hb => by
        refine (eqTable1_any p aQ a8 cQ c8 w8 (OQ12.out.rd.later hb.out) h8.out HIN.out htt).mono ?_
        rintro e wx ⟨rfl, bl9⟩
        have bl := below_chain hb.out bl9
        exact ⟨rfl, hid bl, boxY_of (boxSd HY12.out bl), boxY_of (boxSd HKQ12.out bl)⟩)
    go_wp2
    (go_region_held3 (fun w' => w'.cell? ⟨w.heap.size + 1, 0, none⟩ = some (.int .i64 p.rows) ∧ w'.cell? ⟨w.heap.size + 1, 1, none⟩ = some (.slice aT p.cells.length cT) ∧ w'.cell? ⟨w7.heap.size, 0, none⟩ = some (.int .i64 p.rows) ∧ w'.cell? ⟨w7.heap.size, 1, none⟩ = some (.slice aQ p.cells.length cQ)) (go_keep) (first
      | (go_at_call 9; refine HT7.out.mono ?_; rintro e w8x ⟨a8, c8, rfl, hr8, hb8, ⟨xx0, xx1⟩, ⟨yy0, yy1⟩⟩)
      | (go_at_call 12; refine (HE7.out _ a8 c8 hr8 hb8).mono ?_; rintro e w13 ⟨rfl, hb9, ⟨zz0, zz1⟩, ⟨uu0, uu1⟩⟩)))
    clear p0 p1 q0 q1 zz0 zz1 uu0 uu1 HT7 HE7
    have b13 := hb9.out
    clear hb9
    have B13 := below_chain B12 b13
    have F413 := below_chain F412 b13
    have OG13 := hid (OG12.out.later4 b13)
    have OX13 := hid (OX12.out.later4 b13)
    have OQ13 := hid (OQ12.out.kept (fun x hx => b13.block x (OQ12.out.lt x hx)))
    have HKX13 := hid (boxSd HKX12.out b13)
    have HKQ13 := hid (boxSd HKQ12.out b13)
    have HKG13 := hid (boxSd HKG12.out b13)
    clear OG12 OX12 OQ12 HY12 HKX12 HKQ12 HKG12
    have q0 := cell_of_row _ _ 0 _ _ _ HKX13.out
    have q1 := cell_of_row _ _ 1 _ _ _ HKX13.out
    have q2 := cell_of_row _ _ 2 _ _ _ HKX13.out
    have q3 := cell_of_row _ _ 3 _ _ _ HKX13.out
    have q4 := cell_of_row _ _ 4 _ _ _ HKX13.out
    have q5 := cell_of_row _ _ 5 _ _ _ HKX13.out
    have q6 := cell_of_row _ _ 6 _ _ _ HKX13.out
    have q7 := cell_of_row _ _ 7 _ _ _ HKX13.out
    have q8 := cell_of_row _ _ 8 _ _ _ HKX13.out
    have q9 := cell_of_row _ _ 9 _ _ _ HKX13.out
    have q10 := cell_of_row _ _ 10 _ _ _ HKX13.out
    have q11 := cell_of_row _ _ 11 _ _ _ HKX13.out
    have q12 := cell_of_row _ _ 12 _ _ _ HKX13.out
    simp only [List.getElem?_toArray, List.getElem?_cons_zero, List.getElem?_cons_succ] at q0 q1 q2 q3 q4 q5 q6 q7 q8 q9 q10 q11 q12
    go_wp2_with fail
    refine (markSdX_any r a0x a3x a1x a2x b2x c0x c3x c1x c2x d2x fsX tsX osX bsX dsX 1 _ OX13.out nX2 (sndFits_of ht) (by omega)).mono ?_
    rintro e w14 ⟨rfl, -, on14⟩
    have F414 : Below WS.heap.size WS w14 := Only.chain F413 on14 lX2 (Nat.le_refl _)
    have B14 : Below w.heap.size w w14 := Only.chain B13 on14 (fun b hb => by have := lX2 b hb; have := B4.size; omega) (Nat.le_refl _)
    have hfar : ∀ b, w6.heap.size ≤ b → b ∉ ((fsX ++ tsX) ++ (osX ++ (bsX ++ dsX))) := fun b hb h => by have := hXlt b h; omega
    have HKQ14 : Hid (w14.heap[w7.heap.size]? = _) := hid ((on14.block _ (Array.getElem?_eq_some_iff.1 HKQ13.out).1 (hfar _ (by omega))).trans HKQ13.out)
    have HKG14 : Hid (w14.heap[w9.heap.size]? = _) := hid ((on14.block _ (Array.getElem?_eq_some_iff.1 HKG13.out).1 (hfar _ (by omega))).trans HKG13.out)
    have OQ14 := hid (OQ13.out.kept (w' := w14) (fun y hy => on14.block y (OQ13.out.lt y hy) (hfar y (hQin y hy).1)))
    have OG14 := hid (OG13.out.kept4 (w' := w14) (fun y hy => on14.block y (OG13.out.lt4 y hy) (hfar y (by have := HLG.out y hy; omega))))
    clear on14 q0 q1 q2 q3 q4 q5 q6 q7 q8 q9 q10 q11 q12 HKX13 HKQ13 HKG13 OX13 OQ13 OG13 hfar
    obtain ⟨kq, hkq⟩ : ∃ kq : Nat, kq = 1 + nSnd r := ⟨_, rfl⟩
    rw [← hkq]
    have hkb : kq ≤ 134217728 := by omega
    clear hkq
    have q0 := cell_of_row _ _ 0 _ _ _ HKQ14.out
    have q1 := cell_of_row _ _ 1 _ _ _ HKQ14.out
    simp only [List.getElem?_toArray, List.getElem?_cons_zero, List.getElem?_cons_succ] at q0 q1
    go_wp2_with fail
    refine (markTable1_any p aQ cQ bsQ kq w14 OQ14.out nQ htt (by omega)).mono ?_
    rintro e w15 ⟨⟨k2, hk2, rfl⟩, on15⟩
    have F415 : Below WS.heap.size WS w15 := Only.chain F414 on15 (fun x hx => by have := (hQin x hx).1; omega) (Nat.le_refl _)
    have B15 : Below w.heap.size w w15 := Only.chain B14 on15 (fun x hx => by have := (hQin x hx).1; have := B6.size; omega) (Nat.le_refl _)
    have hfar : ∀ b, w8.heap.size ≤ b → b ∉ bsQ := fun b hb h => by have := (hQin b h).2; omega
    have HKG15 : Hid (w15.heap[w9.heap.size]? = _) := hid ((on15.block _ (Array.getElem?_eq_some_iff.1 HKG14.out).1 (hfar _ (by omega))).trans HKG14.out)
    have OG15 := hid (OG14.out.kept4 (w' := w15) (fun y hy => on15.block y (OG14.out.lt4 y hy) (hfar y (HLG.out y hy))))
    have HKS15 := hid (boxSd HKS.out F415)
    clear on15 q0 q1 HKQ14 HKG14 OQ14 OG14 hfar
    have hk0 : decide ((k2 : Int) < 0) = false := decide_eq_false (by omega)
    clear hk2 hkb
    have p0 := cell_of_row _ _ 0 _ _ _ HKS15.out
    have p1 := cell_of_row _ _ 1 _ _ _ HKS15.out
    have p2 := cell_of_row _ _ 2 _ _ _ HKS15.out
    have p3 := cell_of_row _ _ 3 _ _ _ HKS15.out
    have p4 := cell_of_row _ _ 4 _ _ _ HKS15.out
    have p5 := cell_of_row _ _ 5 _ _ _ HKS15.out
    have p6 := cell_of_row _ _ 6 _ _ _ HKS15.out
    have p7 := cell_of_row _ _ 7 _ _ _ HKS15.out
    have p8 := cell_of_row _ _ 8 _ _ _ HKS15.out
    have p9 := cell_of_row _ _ 9 _ _ _ HKS15.out
    have p10 := cell_of_row _ _ 10 _ _ _ HKS15.out
    have p11 := cell_of_row _ _ 11 _ _ _ HKS15.out
    have p12 := cell_of_row _ _ 12 _ _ _ HKS15.out
    simp only [List.getElem?_toArray, List.getElem?_cons_zero, List.getElem?_cons_succ] at p0 p1 p2 p3 p4 p5 p6 p7 p8 p9 p10 p11 p12
    have q0 := cell_of_row _ _ 0 _ _ _ HKG15.out
    have q1 := cell_of_row _ _ 1 _ _ _ HKG15.out
    have q2 := cell_of_row _ _ 2 _ _ _ HKG15.out
    have q3 := cell_of_row _ _ 3 _ _ _ HKG15.out
    have q4 := cell_of_row _ _ 4 _ _ _ HKG15.out
    have q5 := cell_of_row _ _ 5 _ _ _ HKG15.out
    have q6 := cell_of_row _ _ 6 _ _ _ HKG15.out
    have q7 := cell_of_row _ _ 7 _ _ _ HKG15.out
    have q8 := cell_of_row _ _ 8 _ _ _ HKG15.out
    have q9 := cell_of_row _ _ 9 _ _ _ HKG15.out
    have q10 := cell_of_row _ _ 10 _ _ _ HKG15.out
    have q11 := cell_of_row _ _ 11 _ _ _ HKG15.out
    have q12 := cell_of_row _ _ 12 _ _ _ HKG15.out
    simp only [List.getElem?_toArray, List.getElem?_cons_zero, List.getElem?_cons_succ] at q0 q1 q2 q3 q4 q5 q6 q7 q8 q9 q10 q11 q12
    go_wp2_with fail
    refine (eqSenderF_any P a0g a3g a1g a2g b2g c0g c3g c1g c2g d2g a0s a3s a1s a2s b2s c0s c3s c1s c2s d2s w15 OG15.out.rd (HRS.out.later F415) htP).mono ?_
    rintro e w16 ⟨rfl, bl16⟩
    have B16 := below_chain B15 bl16
    have F416 := below_chain F415 bl16
    have HKG16 := hid (boxSd HKG15.out bl16)
    have OG16 := hid (OG15.out.later4 bl16)
    clear p0 p1 p2 p3 p4 p5 p6 p7 p8 p9 p10 p11 p12 q0 q1 q2 q3 q4 q5 q6 q7 q8 q9 q10 q11 q12 HKG15 OG15 HKS15 bl16
    have q0 := cell_of_row _ _ 0 _ _ _ HKG16.out
    have q1 := cell_of_row _ _ 1 _ _ _ HKG16.out
    have q2 := cell_of_row _ _ 2 _ _ _ HKG16.out
    have q3 := cell_of_row _ _ 3 _ _ _ HKG16.out
    have q4 := cell_of_row _ _ 4 _ _ _ HKG16.out
    have q5 := cell_of_row _ _ 5 _ _ _ HKG16.out
    have q6 := cell_of_row _ _ 6 _ _ _ HKG16.out
    have q7 := cell_of_row _ _ 7 _ _ _ HKG16.out
    have q8 := cell_of_row _ _ 8 _ _ _ HKG16.out
    have q9 := cell_of_row _ _ 9 _ _ _ HKG16.out
    have q10 := cell_of_row _ _ 10 _ _ _ HKG16.out
    have q11 := cell_of_row _ _ 11 _ _ _ HKG16.out
    have q12 := cell_of_row _ _ 12 _ _ _ HKG16.out
    simp only [List.getElem?_toArray, List.getElem?_cons_zero, List.getElem?_cons_succ] at q0 q1 q2 q3 q4 q5 q6 q7 q8 q9 q10 q11 q12
    go_wp2_with fail
    refine (markSdX_any P a0g a3g a1g a2g b2g c0g c3g c1g c2g d2g fsG tsG osG bsG dsG 1 w16 OG16.out HNR.out htP (by omega)).mono ?_
    rintro e w17 ⟨rfl, mk17, on17⟩
    have B17 : Below w.heap.size w w17 := Only.chain B16 on17 (fun b hb => by have := HLG.out b hb; have := B8.size; omega) (Nat.le_refl _)
    have F417 : Below WS.heap.size WS w17 := Only.chain F416 on17 (fun b hb => by have := HLG.out b hb; have := F48.size; omega) (Nat.le_refl _)
    have HKG17 : Hid (w17.heap[w9.heap.size]? = _) := hid ((on17.block _ (Array.getElem?_eq_some_iff.1 HKG16.out).1 (fun h => by have := hGlt _ h; omega)).trans HKG16.out)
    have HMK17 := hid mk17
    clear on17 mk17 q0 q1 q2 q3 q4 q5 q6 q7 q8 q9 q10 q11 q12 HKG16 OG16
    generalize hM1 : 1 + nSnd P = M1 at *
    have hM1b : M1 ≤ 134217728 := by omega
    have HM1 := hid hM1
    clear hM1
    have q0 := cell_of_row _ _ 0 _ _ _ HKG17.out
    have q1 := cell_of_row _ _ 1 _ _ _ HKG17.out
    have q2 := cell_of_row _ _ 2 _ _ _ HKG17.out
    have q3 := cell_of_row _ _ 3 _ _ _ HKG17.out
    have q4 := cell_of_row _ _ 4 _ _ _ HKG17.out
    have q5 := cell_of_row _ _ 5 _ _ _ HKG17.out
    have q6 := cell_of_row _ _ 6 _ _ _ HKG17.out
    have q7 := cell_of_row _ _ 7 _ _ _ HKG17.out
    have q8 := cell_of_row _ _ 8 _ _ _ HKG17.out
    have q9 := cell_of_row _ _ 9 _ _ _ HKG17.out
    have q10 := cell_of_row _ _ 10 _ _ _ HKG17.out
    have q11 := cell_of_row _ _ 11 _ _ _ HKG17.out
    have q12 := cell_of_row _ _ 12 _ _ _ HKG17.out
    simp only [List.getElem?_toArray, List.getElem?_cons_zero, List.getElem?_cons_succ] at q0 q1 q2 q3 q4 q5 q6 q7 q8 q9 q10 q11 q12
    go_wp2_with fail
    refine (heldSdX_any P a0g a3g a1g a2g b2g c0g c3g c1g c2g d2g fsG tsG osG bsG dsG 1 w17 HMK17.out htP (by omega)).mono ?_
    rintro e w18 ⟨rfl, bl18⟩
    rw [HM1.out]
    have B18 := below_chain B17 bl18
    have F418 := below_chain F417 bl18
    have HX18 := hid (boxSd HX4.out F418)
    have HY18 := hid (boxSd HY4.out F418)
    clear q0 q1 q2 q3 q4 q5 q6 q7 q8 q9 q10 q11 q12 HKG17 bl18
    have hq9 : decide ((M1 : Int) < 0) = false := decide_eq_false (by omega)
    have hMM : ((M1 : Int) != (M1 : Int)) = false := by simp
    go_upto_region 31 with fail
    refine region_turns3 (n := 11) (by kernel_rfl) (by kernel_rfl) ?_ (fun t => { tmps := #[.agg #[.slice a0 r.fields.length c0, .int .i64 r.epoch, .int .i64 r.base, .slice a3 r.tables.length c3, .int .i64 r.pushed, .int .i64 r.out.epoch, .int .i64 r.out.next, .int .i64 r.out.now, .slice a1 r.out.wait.length c1, .bool r.str.opened, .slice a2 r.str.fields.length c2, .int .i64 r.str.next, .slice b2 r.str.dicts.length d2], .agg #[.int .i64 p.rows, .slice aT p.cells.length cT], .pointer (some ⟨w.heap.size, 0, none⟩), .pointer (some ⟨w.heap.size + 1, 0, none⟩), .bool false, .int .i64 q2, .pointer (some ⟨gS, 0, none⟩), .int .i64 K, .pointer (some ⟨w5.heap.size, 0, none⟩), .pointer (some ⟨w7.heap.size, 0, none⟩), .pointer (some ⟨w9.heap.size, 0, none⟩), .int .i64 K, .int .i64 ((k2 : Nat) : Int), .int .i64 ((M1 : Nat) : Int), .int .i64 ((M1 : Nat) : Int), t 8, t 10, .agg #[.slice a0 r.fields.length c0, .int .i64 r.epoch, .int .i64 r.base, .slice a3 r.tables.length c3, .int .i64 r.pushed, .int .i64 r.out.epoch, .int .i64 r.out.next, .int .i64 r.out.now, .slice a1 r.out.wait.length c1, .bool r.str.opened, .slice a2 r.str.fields.length c2, .int .i64 r.str.next, .slice b2 r.str.dicts.length d2], .int .i64 1048576, .int .i64 q, .int .i64 q, .bool false, .agg #[.int .i64 p.rows, .slice aT p.cells.length cT], .int .i64 q, .int .i64 q2, .int .i64 q2, .bool false, zS5, zS0, zS1, zS2, zS3, zS4, zS6, zS7, .agg #[.slice a0 r.fields.length c0, .int .i64 r.epoch, .int .i64 r.base, .slice a3 r.tables.length c3, .int .i64 r.pushed, .int .i64 r.out.epoch, .int .i64 r.out.next, .int .i64 r.out.now, .slice a1 r.out.wait.length c1, .bool r.str.opened, .slice a2 r.str.fields.length c2, .int .i64 r.str.next, .slice b2 r.str.dicts.length d2], .agg #[.slice a0x r.fields.length c0x, .int .i64 r.epoch, .int .i64 r.base, .slice a3x r.tables.length c3x, .int .i64 r.pushed, .int .i64 r.out.epoch, .int .i64 r.out.next, .int .i64 r.out.now, .slice a1x r.out.wait.length c1x, .bool r.str.opened, .slice a2x r.str.fields.length c2x, .int .i64 r.str.next, .slice b2x r.str.dicts.length d2x], .agg #[.int .i64 p.rows, .slice aT p.cells.length cT], .agg #[.int .i64 p.rows, .slice aQ p.cells.length cQ], .tuple #[.agg #[.slice a0g P.fields.length c0g, .int .i64 P.epoch, .int .i64 P.base, .slice a3g P.tables.length c3g, .int .i64 P.pushed, .int .i64 P.out.epoch, .int .i64 P.out.next, .int .i64 P.out.now, .slice a1g P.out.wait.length c1g, .bool P.str.opened, .slice a2g P.str.fields.length c2g, .int .i64 P.str.next, .slice b2g P.str.dicts.length d2g], .int .i64 K], .agg #[.slice a0x r.fields.length c0x, .int .i64 r.epoch, .int .i64 r.base, .slice a3x r.tables.length c3x, .int .i64 r.pushed, .int .i64 r.out.epoch, .int .i64 r.out.next, .int .i64 r.out.now, .slice a1x r.out.wait.length c1x, .bool r.str.opened, .slice a2x r.str.fields.length c2x, .int .i64 r.str.next, .slice b2x r.str.dicts.length d2x], .agg #[.int .i64 p.rows, .slice aQ p.cells.length cQ], .tuple #[.agg #[.slice a0g P.fields.length c0g, .int .i64 P.epoch, .int .i64 P.base, .slice a3g P.tables.length c3g, .int .i64 P.pushed, .int .i64 P.out.epoch, .int .i64 P.out.next, .int .i64 P.out.now, .slice a1g P.out.wait.length c1g, .bool P.str.opened, .slice a2g P.str.fields.length c2g, .int .i64 P.str.next, .slice b2g P.str.dicts.length d2g], .int .i64 K], .agg #[.slice a0g P.fields.length c0g, .int .i64 P.epoch, .int .i64 P.base, .slice a3g P.tables.length c3g, .int .i64 P.pushed, .int .i64 P.out.epoch, .int .i64 P.out.next, .int .i64 P.out.now, .slice a1g P.out.wait.length c1g, .bool P.str.opened, .slice a2g P.str.fields.length c2g, .int .i64 P.str.next, .slice b2g P.str.dicts.length d2g], .int .i64 K, .agg #[.slice a0g P.fields.length c0g, .int .i64 P.epoch, .int .i64 P.base, .slice a3g P.tables.length c3g, .int .i64 P.pushed, .int .i64 P.out.epoch, .int .i64 P.out.next, .int .i64 P.out.now, .slice a1g P.out.wait.length c1g, .bool P.str.opened, .slice a2g P.str.fields.length c2g, .int .i64 P.str.next, .slice b2g P.str.dicts.length d2g], .agg #[.slice a0s P.fields.length c0s, .int .i64 P.epoch, .int .i64 P.base, .slice a3s P.tables.length c3s, .int .i64 P.pushed, .int .i64 P.out.epoch, .int .i64 P.out.next, .int .i64 P.out.now, .slice a1s P.out.wait.length c1s, .bool P.str.opened, .slice a2s P.str.fields.length c2s, .int .i64 P.str.next, .slice b2s P.str.dicts.length d2s], .bool true, .bool false, .bool false, .int .i64 K, .int .i64 K, .bool false, .bool false, .agg #[.slice a0x r.fields.length c0x, .int .i64 r.epoch, .int .i64 r.base, .slice a3x r.tables.length c3x, .int .i64 r.pushed, .int .i64 r.out.epoch, .int .i64 r.out.next, .int .i64 r.out.now, .slice a1x r.out.wait.length c1x, .bool r.str.opened, .slice a2x r.str.fields.length c2x, .int .i64 r.str.next, .slice b2x r.str.dicts.length d2x], .agg #[.slice a0 r.fields.length c0, .int .i64 r.epoch, .int .i64 r.base, .slice a3 r.tables.length c3, .int .i64 r.pushed, .int .i64 r.out.epoch, .int .i64 r.out.next, .int .i64 r.out.now, .slice a1 r.out.wait.length c1, .bool r.str.opened, .slice a2 r.str.fields.length c2, .int .i64 r.str.next, .slice b2 r.str.dicts.length d2], .agg #[.slice a0z r.fields.length c0z, .int .i64 r.epoch, .int .i64 r.base, .slice a3z r.tables.length c3z, .int .i64 r.pushed, .int .i64 r.out.epoch, .int .i64 r.out.next, .int .i64 r.out.now, .slice a1z r.out.wait.length c1z, .bool r.str.opened, .slice a2z r.str.fields.length c2z, .int .i64 r.str.next, .slice b2z r.str.dicts.length d2z], .bool true, .bool false, .agg #[.int .i64 p.rows, .slice aQ p.cells.length cQ], .agg #[.int .i64 p.rows, .slice aT p.cells.length cT], .agg #[.int .i64 p.rows, .slice a8 p.cells.length c8], .bool true, .bool false, .agg #[.slice a0x r.fields.length c0x, .int .i64 r.epoch, .int .i64 r.base, .slice a3x r.tables.length c3x, .int .i64 r.pushed, .int .i64 r.out.epoch, .int .i64 r.out.next, .int .i64 r.out.now, .slice a1x r.out.wait.length c1x, .bool r.str.opened, .slice a2x r.str.fields.length c2x, .int .i64 r.str.next, .slice b2x r.str.dicts.length d2x], .int .i64 1, .int .i64 ((kq : Nat) : Int), .agg #[.int .i64 p.rows, .slice aQ p.cells.length cQ], .int .i64 ((kq : Nat) : Int), .int .i64 ((k2 : Nat) : Int), .int .i64 ((k2 : Nat) : Int), .bool false, .bool false, .agg #[.slice a0g P.fields.length c0g, .int .i64 P.epoch, .int .i64 P.base, .slice a3g P.tables.length c3g, .int .i64 P.pushed, .int .i64 P.out.epoch, .int .i64 P.out.next, .int .i64 P.out.now, .slice a1g P.out.wait.length c1g, .bool P.str.opened, .slice a2g P.str.fields.length c2g, .int .i64 P.str.next, .slice b2g P.str.dicts.length d2g], .agg #[.slice a0s P.fields.length c0s, .int .i64 P.epoch, .int .i64 P.base, .slice a3s P.tables.length c3s, .int .i64 P.pushed, .int .i64 P.out.epoch, .int .i64 P.out.next, .int .i64 P.out.now, .slice a1s P.out.wait.length c1s, .bool P.str.opened, .slice a2s P.str.fields.length c2s, .int .i64 P.str.next, .slice b2s P.str.dicts.length d2s], .bool true, .bool false, .bool false, .bool false, .int .i64 K, .int .i64 K, .bool false, .bool false, .agg #[.slice a0g P.fields.length c0g, .int .i64 P.epoch, .int .i64 P.base, .slice a3g P.tables.length c3g, .int .i64 P.pushed, .int .i64 P.out.epoch, .int .i64 P.out.next, .int .i64 P.out.now, .slice a1g P.out.wait.length c1g, .bool P.str.opened, .slice a2g P.str.fields.length c2g, .int .i64 P.str.next, .slice b2g P.str.dicts.length d2g], .int .i64 1, .int .i64 ((M1 : Nat) : Int), .agg #[.slice a0g P.fields.length c0g, .int .i64 P.epoch, .int .i64 P.base, .slice a3g P.tables.length c3g, .int .i64 P.pushed, .int .i64 P.out.epoch, .int .i64 P.out.next, .int .i64 P.out.now, .slice a1g P.out.wait.length c1g, .bool P.str.opened, .slice a2g P.str.fields.length c2g, .int .i64 P.str.next, .slice b2g P.str.dicts.length d2g], .int .i64 1, .int .i64 ((M1 : Nat) : Int), .int .i64 ((M1 : Nat) : Int), .bool false, .int .i64 ((M1 : Nat) : Int), .int .i64 ((M1 : Nat) : Int), .bool false, t 5, t 0, t 1, t 2, t 3, t 4, t 6, t 7, undef, undef, undef, undef, undef, undef, undef, undef, undef], defers := [] }) (sgT (.agg #[.slice a0 r.fields.length c0, .int .i64 r.epoch, .int .i64 r.base, .slice a3 r.tables.length c3, .int .i64 r.pushed, .int .i64 r.out.epoch, .int .i64 r.out.next, .int .i64 r.out.now, .slice a1 r.out.wait.length c1, .bool r.str.opened, .slice a2 r.str.fields.length c2, .int .i64 r.str.next, .slice b2 r.str.dicts.length d2]) (.agg #[.int .i64 p.rows, .slice aT p.cells.length cT]) K) [9] (fcSame4 w18) (sgH w18.heap.size r p P K) w18 w18 (fun k => []) (fun _ => true) (fun _ _ _ => True) [9] (fun _ _ => false) (by kernel_rfl) (fun _ _ _ _ h => by cases h) (fun i hi hn => absurd hi hn) (fun j hj => by rcases (by omega : j = 0 ∨ j = 1 ∨ j = 2 ∨ j = 3 ∨ j = 4 ∨ j = 5 ∨ j = 6 ∨ j = 7 ∨ j = 8 ∨ j = 9 ∨ j = 10) with rfl | rfl | rfl | rfl | rfl | rfl | rfl | rfl | rfl | rfl | rfl <;> rfl) (fun j hj hp => by rcases (by omega : j = 0 ∨ j = 1 ∨ j = 2 ∨ j = 3 ∨ j = 4 ∨ j = 5 ∨ j = 6 ∨ j = 7 ∨ j = 8 ∨ j = 9 ∨ j = 10) with rfl | rfl | rfl | rfl | rfl | rfl | rfl | rfl | rfl | rfl | rfl <;> first | rfl | (exact absurd hp (by decide))) (fun j => ([undef, undef, undef, undef, undef, undef, undef, undef, undef, undef, undef] : List Value).getD j undef) (sgH_start _ r p P K _ _) (Below.refl _ w18) (Below.refl _ _) ?_ ?_
    · rfl
    · intro i hi x t wx hxi hsh h0 hbx hgx hdp hall hHx
      rcases (by omega : i = 0 ∨ i = 1 ∨ i = 2 ∨ i = 3 ∨ i = 4 ∨ i = 5 ∨ i = 6 ∨ i = 7 ∨ i = 8 ∨ i = 9 ∨ i = 10) with rfl | rfl | rfl | rfl | rfl | rfl | rfl | rfl | rfl | rfl | rfl
      · 
        try dsimp only
        have y9 := notYet hsh hxi 9 (by kernel_rfl)
        have hz : Below w18.heap.size w18 wx := hgx (by simp [y9])
        have hxx := boxSd HX18.out hz
        have g0 := cell_of_row _ _ 0 _ _ _ hxx
        have g1 := cell_of_row _ _ 1 _ _ _ hxx
        have g2 := cell_of_row _ _ 2 _ _ _ hxx
        have g3 := cell_of_row _ _ 3 _ _ _ hxx
        have g4 := cell_of_row _ _ 4 _ _ _ hxx
        have g5 := cell_of_row _ _ 5 _ _ _ hxx
        have g6 := cell_of_row _ _ 6 _ _ _ hxx
        have g7 := cell_of_row _ _ 7 _ _ _ hxx
        have g8 := cell_of_row _ _ 8 _ _ _ hxx
        have g9 := cell_of_row _ _ 9 _ _ _ hxx
        have g10 := cell_of_row _ _ 10 _ _ _ hxx
        have g11 := cell_of_row _ _ 11 _ _ _ hxx
        have g12 := cell_of_row _ _ 12 _ _ _ hxx
        simp only [List.getElem?_toArray, List.getElem?_cons_zero, List.getElem?_cons_succ] at g0 g1 g2 g3 g4 g5 g6 g7 g8 g9 g10 g11 g12
        clear y9 hz hxx
        clear h0
        refine wpOp_step rfl (fun K' hK => ?_)
        go_simp
        exact hK _ _ ⟨.agg #[.slice a0 r.fields.length c0, .int .i64 r.epoch, .int .i64 r.base, .slice a3 r.tables.length c3, .int .i64 r.pushed, .int .i64 r.out.epoch, .int .i64 r.out.next, .int .i64 r.out.now, .slice a1 r.out.wait.length c1, .bool r.str.opened, .slice a2 r.str.fields.length c2, .int .i64 r.str.next, .slice b2 r.str.dicts.length d2], (by simp [upd]), FX.eq_mk rfl, fun _ => Below.refl _ _, fun h => absurd h (by decide), hbx, hHx.plain (Below.refl _ _) 0 (by omega) _⟩
      · 
        try dsimp only
        have x0 := depX hdp 0 (by kernel_rfl)
        have d0 := hall 0 (by omega) x0
        have e0 : t 0 = .agg #[.slice a0 r.fields.length c0, .int .i64 r.epoch, .int .i64 r.base, .slice a3 r.tables.length c3, .int .i64 r.pushed, .int .i64 r.out.epoch, .int .i64 r.out.next, .int .i64 r.out.now, .slice a1 r.out.wait.length c1, .bool r.str.opened, .slice a2 r.str.fields.length c2, .int .i64 r.str.next, .slice b2 r.str.dicts.length d2] := d0.1
        rw [e0]
        clear h0
        refine wpOp_step rfl (fun K' hK => ?_)
        go_simp
        refine (toSender_any r a0 a3 a1 a2 b2 c0 c3 c1 c2 d2 wx (HR.out.later (below_chain B18 hbx)) ht).mono ?_
        rintro e w99 ⟨a0i, c0i, a3i, c3i, a1i, c1i, a2i, c2i, b2i, d2i, fs4, ts4, os4, bs4, ds4, rfl, o4, -, -, bl⟩
        exact hK _ _ ⟨_, (by simp [upd, e0]), FX.is_mk trivial, fun _ => bl, fun h => absurd h (by decide), below_chain hbx bl, hHx.op1 bl ⟨a0i, c0i, a3i, c3i, a1i, c1i, a2i, c2i, b2i, d2i⟩ o4.rd⟩
      · 
        try dsimp only
        have y9 := notYet hsh hxi 9 (by kernel_rfl)
        have hz : Below w18.heap.size w18 wx := hgx (by simp [y9])
        have hxx := boxSd HY18.out hz
        have g0 := cell_of_row _ _ 0 _ _ _ hxx
        have g1 := cell_of_row _ _ 1 _ _ _ hxx
        simp only [List.getElem?_toArray, List.getElem?_cons_zero, List.getElem?_cons_succ] at g0 g1
        clear y9 hz hxx
        clear h0
        refine wpOp_step rfl (fun K' hK => ?_)
        go_simp
        exact hK _ _ ⟨.agg #[.int .i64 p.rows, .slice aT p.cells.length cT], (by simp [upd]), FX.eq_mk rfl, fun _ => Below.refl _ _, fun h => absurd h (by decide), hbx, hHx.plain (Below.refl _ _) 2 (by omega) _⟩
      · 
        try dsimp only
        have x2 := depX hdp 2 (by kernel_rfl)
        have d2 := hall 2 (by omega) x2
        have e2 : t 2 = .agg #[.int .i64 p.rows, .slice aT p.cells.length cT] := d2.1
        rw [e2]
        clear h0
        refine wpOp_step rfl (fun K' hK => ?_)
        go_simp
        refine (toTable1_any p aT cT wx (HT.out.later (below_chain B18 hbx)) HIN.out htt).mono ?_
        rintro e w99 ⟨a4, c4, bs4, rfl, o4, -, -, bl⟩
        exact hK _ _ ⟨_, (by simp [upd, e2]), FX.is_mk trivial, fun _ => bl, fun h => absurd h (by decide), below_chain hbx bl, hHx.op3 bl o4.rd⟩
      · 
        try dsimp only
        have x1 := depX hdp 1 (by kernel_rfl)
        have d1 := hall 1 (by omega) x1
        have x3 := depX hdp 3 (by kernel_rfl)
        have d3 := hall 3 (by omega) x3
        have y5 := notYet hsh hxi 5 (by kernel_rfl)
        have y6 := notYet hsh hxi 6 (by kernel_rfl)
        have y9 := notYet hsh hxi 9 (by kernel_rfl)
        obtain ⟨⟨a0i, c0i, a3i, c3i, a1i, c1i, a2i, c2i, b2i, d2i⟩, e1, r1⟩ := hHx.1 x1 y9
        have e1 : t 1 = .agg #[.slice a0i r.fields.length c0i, .int .i64 r.epoch, .int .i64 r.base, .slice a3i r.tables.length c3i, .int .i64 r.pushed, .int .i64 r.out.epoch, .int .i64 r.out.next, .int .i64 r.out.now, .slice a1i r.out.wait.length c1i, .bool r.str.opened, .slice a2i r.str.fields.length c2i, .int .i64 r.str.next, .slice b2i r.str.dicts.length d2i] := e1
        have r1 : RdSnd wx r a0i c0i a3i c3i a1i c1i a2i c2i b2i d2i := r1
        obtain ⟨a3q, c3q, e3, r3⟩ := hHx.2.1 x3 y9
        rw [e1, e3]
        clear h0
        refine wpOp_step rfl (fun K' hK => ?_)
        go_simp
        refine (HIM.out a0i a3i a1i a2i b2i c0i c3i c1i c2i d2i a3q c3q wx r1 r3).mono ?_
        rintro e w99 ⟨a0j, c0j, a3j, c3j, a1j, c1j, a2j, c2j, b2j, d2j, fsj, tsj, osj, bsj, dsj, rfl, oj, lj, -, bl⟩
        exact hK _ _ ⟨_, (by simp [upd, e1, e3]), FX.is_mk trivial, fun _ => bl, fun h => absurd h (by decide), below_chain hbx bl, hHx.op4 bl y5 y6 y9 ⟨a0j, c0j, a3j, c3j, a1j, c1j, a2j, c2j, b2j, d2j⟩ ⟨Nat.le_refl _, fun W hW => (oj.kept4 (fun y hy => hW y (lj y hy) (oj.lt4 y hy))).rd⟩⟩
      · 
        try dsimp only
        have x4 := depX hdp 4 (by kernel_rfl)
        have d4 := hall 4 (by omega) x4
        obtain ⟨m1, m2, ⟨a0i, c0i, a3i, c3i, a1i, c1i, a2i, c2i, b2i, d2i⟩, e4, -⟩ := hHx.2.2.2 x4
        have e4 : t 4 = .tuple #[.agg #[.slice a0i P.fields.length c0i, .int .i64 P.epoch, .int .i64 P.base, .slice a3i P.tables.length c3i, .int .i64 P.pushed, .int .i64 P.out.epoch, .int .i64 P.out.next, .int .i64 P.out.now, .slice a1i P.out.wait.length c1i, .bool P.str.opened, .slice a2i P.str.fields.length c2i, .int .i64 P.str.next, .slice b2i P.str.dicts.length d2i], .int .i64 K] := e4
        have e4' := e4
        rw [e4]
        clear h0
        refine wpOp_step rfl (fun K' hK => ?_)
        go_simp
        exact hK _ _ ⟨.tuple #[.agg #[.slice a0i P.fields.length c0i, .int .i64 P.epoch, .int .i64 P.base, .slice a3i P.tables.length c3i, .int .i64 P.pushed, .int .i64 P.out.epoch, .int .i64 P.out.next, .int .i64 P.out.now, .slice a1i P.out.wait.length c1i, .bool P.str.opened, .slice a2i P.str.fields.length c2i, .int .i64 P.str.next, .slice b2i P.str.dicts.length d2i], .int .i64 K], (by simp [upd, e4]), FX.is_mk trivial, fun _ => Below.refl _ _, fun h => absurd h (by decide), hbx, hHx.op5 (Below.refl _ _) x4 _ e4'.symm⟩
      · 
        try dsimp only
        have x5 := depX hdp 5 (by kernel_rfl)
        have d5 := hall 5 (by omega) x5
        have x4 := reach_up hsh (i := 4) 10 5 (by kernel_rfl) x5
        obtain ⟨m1, m2, ⟨a0i, c0i, a3i, c3i, a1i, c1i, a2i, c2i, b2i, d2i⟩, e4, e5, -⟩ := hHx.2.2.2 x4
        have e4 : t 4 = .tuple #[.agg #[.slice a0i P.fields.length c0i, .int .i64 P.epoch, .int .i64 P.base, .slice a3i P.tables.length c3i, .int .i64 P.pushed, .int .i64 P.out.epoch, .int .i64 P.out.next, .int .i64 P.out.now, .slice a1i P.out.wait.length c1i, .bool P.str.opened, .slice a2i P.str.fields.length c2i, .int .i64 P.str.next, .slice b2i P.str.dicts.length d2i], .int .i64 K] := e4
        have e5 : t 5 = .tuple #[.agg #[.slice a0i P.fields.length c0i, .int .i64 P.epoch, .int .i64 P.base, .slice a3i P.tables.length c3i, .int .i64 P.pushed, .int .i64 P.out.epoch, .int .i64 P.out.next, .int .i64 P.out.now, .slice a1i P.out.wait.length c1i, .bool P.str.opened, .slice a2i P.str.fields.length c2i, .int .i64 P.str.next, .slice b2i P.str.dicts.length d2i], .int .i64 K] := e5 x5
        rw [e5]
        clear h0
        refine wpOp_step rfl (fun K' hK => ?_)
        go_simp
        exact hK _ _ ⟨.agg #[.slice a0i P.fields.length c0i, .int .i64 P.epoch, .int .i64 P.base, .slice a3i P.tables.length c3i, .int .i64 P.pushed, .int .i64 P.out.epoch, .int .i64 P.out.next, .int .i64 P.out.now, .slice a1i P.out.wait.length c1i, .bool P.str.opened, .slice a2i P.str.fields.length c2i, .int .i64 P.str.next, .slice b2i P.str.dicts.length d2i], (by simp [upd, e5, e4]), FX.is_mk trivial, fun _ => Below.refl _ _, fun h => absurd h (by decide), hbx, hHx.op6 (Below.refl _ _) x4 _ (by rw [e4]; rfl)⟩
      · 
        try dsimp only
        have x5 := depX hdp 5 (by kernel_rfl)
        have d5 := hall 5 (by omega) x5
        have x4 := reach_up hsh (i := 4) 10 5 (by kernel_rfl) x5
        obtain ⟨m1, m2, ⟨a0i, c0i, a3i, c3i, a1i, c1i, a2i, c2i, b2i, d2i⟩, e4, e5, -⟩ := hHx.2.2.2 x4
        have e4 : t 4 = .tuple #[.agg #[.slice a0i P.fields.length c0i, .int .i64 P.epoch, .int .i64 P.base, .slice a3i P.tables.length c3i, .int .i64 P.pushed, .int .i64 P.out.epoch, .int .i64 P.out.next, .int .i64 P.out.now, .slice a1i P.out.wait.length c1i, .bool P.str.opened, .slice a2i P.str.fields.length c2i, .int .i64 P.str.next, .slice b2i P.str.dicts.length d2i], .int .i64 K] := e4
        have e5 : t 5 = .tuple #[.agg #[.slice a0i P.fields.length c0i, .int .i64 P.epoch, .int .i64 P.base, .slice a3i P.tables.length c3i, .int .i64 P.pushed, .int .i64 P.out.epoch, .int .i64 P.out.next, .int .i64 P.out.now, .slice a1i P.out.wait.length c1i, .bool P.str.opened, .slice a2i P.str.fields.length c2i, .int .i64 P.str.next, .slice b2i P.str.dicts.length d2i], .int .i64 K] := e5 x5
        rw [e5]
        clear h0
        refine wpOp_step rfl (fun K' hK => ?_)
        go_simp
        exact hK _ _ ⟨.int .i64 K, (by simp [upd, e5, e4]), FX.eq_mk rfl, fun _ => Below.refl _ _, fun h => absurd h (by decide), hbx, hHx.plain (Below.refl _ _) 7 (by omega) _⟩
      · 
        try dsimp only
        have y9 := notYet hsh hxi 9 (by kernel_rfl)
        clear h0
        refine wpOp_step rfl (fun K' hK => ?_)
        go_simp
        exact hK _ _ ⟨.pointer (some ⟨wx.heap.size, 0, none⟩), (by simp [upd]), FX.is_mk trivial, fun _ => below_new1 _ _, fun h => absurd h (by decide), below_chain hbx (below_new1 _ _), hHx.op8 hbx.size y9⟩
      · 
        try dsimp only
        have x8 := depX hdp 8 (by kernel_rfl)
        have d8 := hall 8 (by omega) x8
        have x6 := depX hdp 6 (by kernel_rfl)
        have d6 := hall 6 (by omega) x6
        have x4 := depX hdp 4 (by kernel_rfl)
        have d4 := hall 4 (by omega) x4
        obtain ⟨g, ⟨a0i, c0i, a3i, c3i, a1i, c1i, a2i, c2i, b2i, d2i⟩, e8, e6, lg, hbz, hfin⟩ := hHx.at9 x4 x6 x8 hxi
        have e6 : t 6 = .agg #[.slice a0i P.fields.length c0i, .int .i64 P.epoch, .int .i64 P.base, .slice a3i P.tables.length c3i, .int .i64 P.pushed, .int .i64 P.out.epoch, .int .i64 P.out.next, .int .i64 P.out.now, .slice a1i P.out.wait.length c1i, .bool P.str.opened, .slice a2i P.str.fields.length c2i, .int .i64 P.str.next, .slice b2i P.str.dicts.length d2i] := e6
        rw [e8, e6]
        have hbz2 : wx.heap[g]? = some (.cells #[.slice none 0 0, .int .i64 0, .int .i64 0, .slice none 0 0, .int .i64 0, .int .i64 0, .int .i64 0, .int .i64 0, .slice none 0 0, .bool false, .slice none 0 0, .int .i64 0, .slice none 0 0] 45 (0, 0)) := hbz
        have k0 := cell_of_row _ _ 0 _ _ _ hbz2
        have zk0 := frozen_of_row _ _ 0 _ _ hbz2
        have k1 := cell_of_row _ _ 1 _ _ _ hbz2
        have zk1 := frozen_of_row _ _ 1 _ _ hbz2
        have k2 := cell_of_row _ _ 2 _ _ _ hbz2
        have zk2 := frozen_of_row _ _ 2 _ _ hbz2
        have k3 := cell_of_row _ _ 3 _ _ _ hbz2
        have zk3 := frozen_of_row _ _ 3 _ _ hbz2
        have k4 := cell_of_row _ _ 4 _ _ _ hbz2
        have zk4 := frozen_of_row _ _ 4 _ _ hbz2
        have k5 := cell_of_row _ _ 5 _ _ _ hbz2
        have zk5 := frozen_of_row _ _ 5 _ _ hbz2
        have k6 := cell_of_row _ _ 6 _ _ _ hbz2
        have zk6 := frozen_of_row _ _ 6 _ _ hbz2
        have k7 := cell_of_row _ _ 7 _ _ _ hbz2
        have zk7 := frozen_of_row _ _ 7 _ _ hbz2
        have k8 := cell_of_row _ _ 8 _ _ _ hbz2
        have zk8 := frozen_of_row _ _ 8 _ _ hbz2
        have k9 := cell_of_row _ _ 9 _ _ _ hbz2
        have zk9 := frozen_of_row _ _ 9 _ _ hbz2
        have k10 := cell_of_row _ _ 10 _ _ _ hbz2
        have zk10 := frozen_of_row _ _ 10 _ _ hbz2
        have k11 := cell_of_row _ _ 11 _ _ _ hbz2
        have zk11 := frozen_of_row _ _ 11 _ _ hbz2
        have k12 := cell_of_row _ _ 12 _ _ _ hbz2
        have zk12 := frozen_of_row _ _ 12 _ _ hbz2
        simp only [List.getElem?_toArray, List.getElem?_cons_zero, List.getElem?_cons_succ] at k0 k1 k2 k3 k4 k5 k6 k7 k8 k9 k10 k11 k12
        have HBZ := hid hbz
        have HFIN := hid hfin
        clear hbz hbz2 hfin hHx
        clear h0
        refine wpOp_step rfl (fun K' hK => ?_)
        go_simp
        exact hK _ _ ⟨undef, (by simp [upd, e8, e6]), FX.is_mk trivial, fun h => absurd (by decide) h, fun _ => trivial, set13b hbx lg, HFIN.out undef HBZ.out⟩
      · 
        try dsimp only
        have x7 := depX hdp 7 (by kernel_rfl)
        have d7 := hall 7 (by omega) x7
        have e7 : t 7 = .int .i64 K := d7.1
        rw [e7]
        clear h0
        refine wpOp_step rfl (fun K' hK => ?_)
        go_simp
        exact hK _ _ ⟨.int .i64 K, (by simp [upd, e7]), FX.eq_mk rfl, fun _ => Below.refl _ _, fun h => absurd h (by decide), hbx, hHx.plain (Below.refl _ _) 10 (by omega) _⟩
    · intro x t wx hx hbx hall hHx
      obtain ⟨gH, ⟨a0h, c0h, a3h, c3h, a1h, c1h, a2h, c2h, b2h, d2h⟩, eg, lg, hbox, hrd⟩ := hHx.done (hx 4 (by omega)) (hx 8 (by omega)) (hx 9 (by omega))
      have e10 : t 10 = .int .i64 K := (hall 10 (by omega)).1
      try dsimp only
      rw [eg, e10]
      generalize t 0 = zH0
      generalize t 1 = zH1
      generalize t 2 = zH2
      generalize t 3 = zH3
      generalize t 4 = zH4
      generalize t 5 = zH5
      generalize t 6 = zH6
      generalize t 7 = zH7
      have HKH : Hid (wx.heap[gH]? = some (.cells #[.slice a0h P.fields.length c0h, .int .i64 P.epoch, .int .i64 P.base, .slice a3h P.tables.length c3h, .int .i64 P.pushed, .int .i64 P.out.epoch, .int .i64 P.out.next, .int .i64 P.out.now, .slice a1h P.out.wait.length c1h, .bool P.str.opened, .slice a2h P.str.fields.length c2h, .int .i64 P.str.next, .slice b2h P.str.dicts.length d2h] 45 (0, 0))) := hid hbox
      have HRH : Hid (RdSnd wx P a0h c0h a3h c3h a1h c1h a2h c2h b2h d2h) := hid hrd
      have HLGH := hid lg
      have HBH := hid hbx
      obtain ⟨WH, hW⟩ : ∃ V, V = wx := ⟨_, rfl⟩
      subst hW
      clear hall hbx hx hHx eg e10 lg hbox hrd
      have B22 := below_chain B18 HBH.out
      have F422 := below_chain F418 HBH.out
      have HKS22 := hid (boxSd HKS.out F422)
      have p0 := cell_of_row _ _ 0 _ _ _ HKS22.out
      have p1 := cell_of_row _ _ 1 _ _ _ HKS22.out
      have p2 := cell_of_row _ _ 2 _ _ _ HKS22.out
      have p3 := cell_of_row _ _ 3 _ _ _ HKS22.out
      have p4 := cell_of_row _ _ 4 _ _ _ HKS22.out
      have p5 := cell_of_row _ _ 5 _ _ _ HKS22.out
      have p6 := cell_of_row _ _ 6 _ _ _ HKS22.out
      have p7 := cell_of_row _ _ 7 _ _ _ HKS22.out
      have p8 := cell_of_row _ _ 8 _ _ _ HKS22.out
      have p9 := cell_of_row _ _ 9 _ _ _ HKS22.out
      have p10 := cell_of_row _ _ 10 _ _ _ HKS22.out
      have p11 := cell_of_row _ _ 11 _ _ _ HKS22.out
      have p12 := cell_of_row _ _ 12 _ _ _ HKS22.out
      simp only [List.getElem?_toArray, List.getElem?_cons_zero, List.getElem?_cons_succ] at p0 p1 p2 p3 p4 p5 p6 p7 p8 p9 p10 p11 p12
      have q0 := cell_of_row _ _ 0 _ _ _ HKH.out
      have q1 := cell_of_row _ _ 1 _ _ _ HKH.out
      have q2 := cell_of_row _ _ 2 _ _ _ HKH.out
      have q3 := cell_of_row _ _ 3 _ _ _ HKH.out
      have q4 := cell_of_row _ _ 4 _ _ _ HKH.out
      have q5 := cell_of_row _ _ 5 _ _ _ HKH.out
      have q6 := cell_of_row _ _ 6 _ _ _ HKH.out
      have q7 := cell_of_row _ _ 7 _ _ _ HKH.out
      have q8 := cell_of_row _ _ 8 _ _ _ HKH.out
      have q9 := cell_of_row _ _ 9 _ _ _ HKH.out
      have q10 := cell_of_row _ _ 10 _ _ _ HKH.out
      have q11 := cell_of_row _ _ 11 _ _ _ HKH.out
      have q12 := cell_of_row _ _ 12 _ _ _ HKH.out
      simp only [List.getElem?_toArray, List.getElem?_cons_zero, List.getElem?_cons_succ] at q0 q1 q2 q3 q4 q5 q6 q7 q8 q9 q10 q11 q12
      go_wp2_with fail
      refine (eqSenderF_any P a0h a3h a1h a2h b2h c0h c3h c1h c2h d2h a0s a3s a1s a2s b2s c0s c3s c1s c2s d2s WH HRH.out (HRS.out.later F422) htP).mono ?_
      rintro e w23 ⟨rfl, bl23⟩
      have B23 := below_chain B22 bl23
      clear p0 p1 p2 p3 p4 p5 p6 p7 p8 p9 p10 p11 p12 q0 q1 q2 q3 q4 q5 q6 q7 q8 q9 q10 q11 q12
      go_wp2
      go_ret
      exact ⟨rfl, B23⟩
end Go.Proofs.YtfaehioeepolhabGreat
