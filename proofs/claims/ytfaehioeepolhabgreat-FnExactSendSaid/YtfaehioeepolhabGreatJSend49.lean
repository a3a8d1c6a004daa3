import Derived.Test.YtfaehioeepolhabGreatJSend26
import Derived.Test.YtfaehioeepolhabGreatJSend46
import Derived.Test.YtfaehioeepolhabGreatJSend47
import Derived.Test.YtfaehioeepolhabGreatJSend24
import Derived.Test.YtfaehioeepolhabGreatJSend48
namespace Go.Proofs.YtfaehioeepolhabGreat
open Go.RowKit
def fcTb1 (lo : Nat) (t : PT) : Fct := ⟨fun v w => ∃ a c bk, v = .agg #[.int .i64 t.rows, .slice a t.cells.length c] ∧ OwnSl cCell 102 w t.cells (.slice a t.cells.length c) bk ∧ (∀ b ∈ bk, lo ≤ b) ∧ bk.Nodup, fun _ _ _ ⟨a, c, bk, e, h1, h2, h3⟩ hb => ⟨a, c, bk, e, h1.kept (fun x hx => hb.block x (h1.lt x hx)), h2, h3⟩⟩
def fcTb2 (lo : Nat) (t : PT) : Fct := ⟨fun v w => ∃ g a c bk, v = .slice (some ⟨g, 0, none⟩) 1 1 ∧ w.heap[g]? = some (.cells #[.int .i64 t.rows, .slice a t.cells.length c] 51 (0, 0)) ∧ OwnSl cCell 102 w t.cells (.slice a t.cells.length c) bk ∧ (∀ b ∈ bk, lo ≤ b) ∧ bk.Nodup, fun _ _ _ ⟨g, a, c, bk, e, h0, h1, h2, h3⟩ hb => ⟨g, a, c, bk, e, (hb.block _ (Array.getElem?_eq_some_iff.1 h0).1).trans h0, h1.kept (fun x hx => hb.block x (h1.lt x hx)), h2, h3⟩⟩
set_option linter.unusedVariables false in
def fcTb3 (W : World) (g : Nat) (acc : Value) (r : PSnd) (t : PT) (bs0 : List Nat) (box : Array Value) : Fct := ⟨fun v w => W.heap.size ≤ w.heap.size ∧ (∀ b, b < W.heap.size → b ∉ bs0 → w.heap[b]? = W.heap[b]?) ∧ w.heap[g]? = some (.cells box 45 (0, 0)) ∧ ∃ a c bs, v = .slice a (r.tables.length + 1) c ∧ OwnSl cTable 51 w (r.tables ++ [t]) (.slice a (r.tables.length + 1) c) bs ∧ bs.Nodup ∧ ∀ b ∈ bs, b ∈ bs0 ∨ W.heap.size ≤ b,
  fun _ _ _ ⟨h0, hk, h1, a, c, bs, e, h2, h3, h4⟩ hb => ⟨Nat.le_trans h0 hb.size, fun b k1 k2 => (hb.block b (Nat.lt_of_lt_of_le k1 h0)).trans (hk b k1 k2), (hb.block _ (Array.getElem?_eq_some_iff.1 h1).1).trans h1, a, c, bs, e, h2.kept (fun x hx => hb.block x (h2.lt x hx)), h3, h4⟩⟩
set_option linter.unusedVariables false in
def fcTb4 (W : World) (g : Nat) (acc : Value) (r : PSnd) (t : PT) (bs0 : List Nat) (box : Array Value) : Fct := ⟨fun _ w => W.heap.size ≤ w.heap.size ∧ (∀ b, b < W.heap.size → b ∉ bs0 → b ≠ g → w.heap[b]? = W.heap[b]?) ∧ ∃ a c bs, w.heap[g]? = some (.cells (box.set! 3 (.slice a (r.tables.length + 1) c)) 45 (0, 0)) ∧ OwnSl cTable 51 w (r.tables ++ [t]) (.slice a (r.tables.length + 1) c) bs ∧ bs.Nodup ∧ ∀ b ∈ bs, b ∈ bs0 ∨ W.heap.size ≤ b,
  fun _ _ _ ⟨h0, hk, a, c, bs, h1, h2, h3, h4⟩ hb => ⟨Nat.le_trans h0 hb.size, fun b k1 k2 k3 => (hb.block b (Nat.lt_of_lt_of_le k1 h0)).trans (hk b k1 k2 k3), a, c, bs, (hb.block _ (Array.getElem?_eq_some_iff.1 h1).1).trans h1, h2.kept (fun x hx => hb.block x (h2.lt x hx)), h3, h4⟩⟩
set_option linter.unusedVariables false in
def isT (W : World) (lo g gT : Nat) (acc : Value) (r : PSnd) (t : PT) (aT : Option Addr) (cT : Nat) (bs0 : List Nat) (box : Array Value) : Nat → FX
  | 0 => FX.eq (.pointer (some ⟨g, 3, none⟩))
  | 1 => FX.eq (acc)
  | 2 => FX.eq (.agg #[.int .i64 t.rows, .slice aT t.cells.length cT])
  | 3 => FX.pre [5, 7] (fcTb1 lo t)
  | 4 => FX.pre [5, 7] (fcTb2 lo t)
  | 5 => FX.pre [7] (fcTb3 W g acc r t bs0 box)
  | 6 => FX.eq (.pointer (some ⟨g, 3, none⟩))
  | 7 => FX.is (fcTb4 W g acc r t bs0 box)
  | _ => FX.eq undef
set_option maxHeartbeats 2000000 in
theorem sent_any (r : PSnd) (a0 a3 a1 a2 b2 : Option Addr) (c0 c3 c1 c2 d2 : Nat) (g : Nat) (w : World) (hk : w.heap[g]? = some (.cells #[.slice a0 r.fields.length c0, .int .i64 r.epoch, .int .i64 r.base, .slice a3 r.tables.length c3, .int .i64 r.pushed, .int .i64 r.out.epoch, .int .i64 r.out.next, .int .i64 r.out.now, .slice a1 r.out.wait.length c1, .bool r.str.opened, .slice a2 r.str.fields.length c2, .int .i64 r.str.next, .slice b2 r.str.dicts.length d2] 45 (0, 0))) (h0 : 0 ≤ r.base ∧ r.base ≤ 1000000000) (hl : r.tables.length ≤ 20) :
    Calls Tryz.prog 35 #[.pointer (some ⟨g, 0, none⟩)] w fun e w' => e = .returned (.int .i64 (r.base + (r.tables.length : Int))) ∧ w'.heap = w.heap ∧ Below w.heap.size w w' := by
  have q2 := cell_of_row _ _ 2 _ _ _ hk
  have q3 := cell_of_row _ _ 3 _ _ _ hk
  simp only [List.getElem?_toArray, List.getElem?_cons_zero, List.getElem?_cons_succ] at q2 q3
  clear hk
  go_enter Tryz.func35, Tryz.ntmps35
  go_wp2
  go_quiet (fail)
  go_wp2
  go_ret
  exact ⟨rfl, rfl, below_drewN (Below.refl _ _) _⟩
set_option maxRecDepth 100000 in
set_option maxHeartbeats 16000000 in
theorem implSend_any (r : PSnd) (a0 a3 a1 a2 b2 : Option Addr) (c0 c3 c1 c2 d2 : Nat) (t : PT) (aT : Option Addr) (cT : Nat) (w : World) (hr : RdSnd w r a0 c0 a3 c3 a1 c1 a2 c2 b2 d2) (hrt : RdSl cCell w t.cells (.slice aT t.cells.length cT)) (htin : IntIn t.rows) (ht : tSnd r ≤ 1048576) (htt : totT t ≤ 1048576) :
    Calls Tryz.prog 10 #[.agg #[.slice a0 r.fields.length c0, .int .i64 r.epoch, .int .i64 r.base, .slice a3 r.tables.length c3, .int .i64 r.pushed, .int .i64 r.out.epoch, .int .i64 r.out.next, .int .i64 r.out.now, .slice a1 r.out.wait.length c1, .bool r.str.opened, .slice a2 r.str.fields.length c2, .int .i64 r.str.next, .slice b2 r.str.dicts.length d2], .agg #[.int .i64 t.rows, .slice aT t.cells.length cT]] w fun e w' => ∃ a0x c0x a3x c3x a1x c1x a2x c2x b2x d2x fs ts os bs ds, e = .returned (.tuple #[.agg #[.slice a0x (sdR r t).fields.length c0x, .int .i64 (sdR r t).epoch, .int .i64 (sdR r t).base, .slice a3x (sdR r t).tables.length c3x, .int .i64 (sdR r t).pushed, .int .i64 (sdR r t).out.epoch, .int .i64 (sdR r t).out.next, .int .i64 (sdR r t).out.now, .slice a1x (sdR r t).out.wait.length c1x, .bool (sdR r t).str.opened, .slice a2x (sdR r t).str.fields.length c2x, .int .i64 (sdR r t).str.next, .slice b2x (sdR r t).str.dicts.length d2x], .int .i64 (sdK r t)]) ∧ OwnSnd w' (sdR r t) a0x c0x a3x c3x a1x c1x a2x c2x b2x d2x fs ts os bs ds ∧ (∀ y ∈ ((fs ++ ts) ++ (os ++ (bs ++ ds))), w.heap.size ≤ y) ∧ ((fs ++ ts) ++ (os ++ (bs ++ ds))).Nodup ∧ Below w.heap.size w w' := by
  obtain ⟨i0, hi0, hz0, hz1, hz2⟩ := info_parts infoImTable
  have HR := hid hr
  have HRT := hid hrt
  have HIN := hid htin
  clear hr hrt htin
  have HK3 := hid (heap3 (w := w) (.cells #[.slice a0 r.fields.length c0, .int .i64 r.epoch, .int .i64 r.base, .slice a3 r.tables.length c3, .int .i64 r.pushed, .int .i64 r.out.epoch, .int .i64 r.out.next, .int .i64 r.out.now, .slice a1 r.out.wait.length c1, .bool r.str.opened, .slice a2 r.str.fields.length c2, .int .i64 r.str.next, .slice b2 r.str.dicts.length d2] 45) (.cells #[.int .i64 t.rows, .slice aT t.cells.length cT] 51) (.cells #[.slice none 0 0, .int .i64 0, .int .i64 0, .slice none 0 0, .int .i64 0, .int .i64 0, .int .i64 0, .int .i64 0, .slice none 0 0, .bool false, .slice none 0 0, .int .i64 0, .slice none 0 0] 45) (Below.refl _ _))
  have HB0 := hid (below_new3 w (.cells #[.slice a0 r.fields.length c0, .int .i64 r.epoch, .int .i64 r.base, .slice a3 r.tables.length c3, .int .i64 r.pushed, .int .i64 r.out.epoch, .int .i64 r.out.next, .int .i64 r.out.now, .slice a1 r.out.wait.length c1, .bool r.str.opened, .slice a2 r.str.fields.length c2, .int .i64 r.str.next, .slice b2 r.str.dicts.length d2] 45) (.cells #[.int .i64 t.rows, .slice aT t.cells.length cT] 51) (.cells #[.slice none 0 0, .int .i64 0, .int .i64 0, .slice none 0 0, .int .i64 0, .int .i64 0, .int .i64 0, .int .i64 0, .slice none 0 0, .bool false, .slice none 0 0, .int .i64 0, .slice none 0 0] 45))
  have HSZ := hid (size3 w (.cells #[.slice a0 r.fields.length c0, .int .i64 r.epoch, .int .i64 r.base, .slice a3 r.tables.length c3, .int .i64 r.pushed, .int .i64 r.out.epoch, .int .i64 r.out.next, .int .i64 r.out.now, .slice a1 r.out.wait.length c1, .bool r.str.opened, .slice a2 r.str.fields.length c2, .int .i64 r.str.next, .slice b2 r.str.dicts.length d2] 45) (.cells #[.int .i64 t.rows, .slice aT t.cells.length cT] 51) (.cells #[.slice none 0 0, .int .i64 0, .int .i64 0, .slice none 0 0, .int .i64 0, .int .i64 0, .int .i64 0, .int .i64 0, .slice none 0 0, .bool false, .slice none 0 0, .int .i64 0, .slice none 0 0] 45))
  go_enter Tryz.func10, Tryz.ntmps10
  go_upto_region 1 with fail
  generalize (((w.alloc (.cells #[.slice a0 r.fields.length c0, .int .i64 r.epoch, .int .i64 r.base, .slice a3 r.tables.length c3, .int .i64 r.pushed, .int .i64 r.out.epoch, .int .i64 r.out.next, .int .i64 r.out.now, .slice a1 r.out.wait.length c1, .bool r.str.opened, .slice a2 r.str.fields.length c2, .int .i64 r.str.next, .slice b2 r.str.dicts.length d2] 45)).alloc (.cells #[.int .i64 t.rows, .slice aT t.cells.length cT] 51)).alloc (.cells #[.slice none 0 0, .int .i64 0, .int .i64 0, .slice none 0 0, .int .i64 0, .int .i64 0, .int .i64 0, .int .i64 0, .slice none 0 0, .bool false, .slice none 0 0, .int .i64 0, .slice none 0 0] 45)) = W0 at *
  have HK0 := hid HK3.out.1
  have HT0 := hid HK3.out.2.1
  have HL0 : Hid (W0.heap[w.heap.size + 2]? = _) := hid HK3.out.2.2
  clear HK3
  have p0 := cell_of_row _ _ 0 _ _ _ HK0.out
  have p1 := cell_of_row _ _ 1 _ _ _ HK0.out
  have p2 := cell_of_row _ _ 2 _ _ _ HK0.out
  have p3 := cell_of_row _ _ 3 _ _ _ HK0.out
  have p4 := cell_of_row _ _ 4 _ _ _ HK0.out
  have p5 := cell_of_row _ _ 5 _ _ _ HK0.out
  have p6 := cell_of_row _ _ 6 _ _ _ HK0.out
  have p7 := cell_of_row _ _ 7 _ _ _ HK0.out
  have p8 := cell_of_row _ _ 8 _ _ _ HK0.out
  have p9 := cell_of_row _ _ 9 _ _ _ HK0.out
  have p10 := cell_of_row _ _ 10 _ _ _ HK0.out
  have p11 := cell_of_row _ _ 11 _ _ _ HK0.out
  have p12 := cell_of_row _ _ 12 _ _ _ HK0.out
  simp only [List.getElem?_toArray, List.getElem?_cons_zero, List.getElem?_cons_succ] at p0 p1 p2 p3 p4 p5 p6 p7 p8 p9 p10 p11 p12
  go_wp2_with fail
  refine (implSnd_any r a0 a3 a1 a2 b2 c0 c3 c1 c2 d2 W0 (HR.out.later HB0.out) ht).mono ?_
  rintro e w1 ⟨rfl, bl1⟩
  have HK1 := hid (boxSd HK0.out bl1)
  have HT1 := hid (boxSd HT0.out bl1)
  have HL1 := hid (boxSd HL0.out bl1)
  have HB1 := hid (below_chain HB0.out bl1)
  have hs1 := bl1.size
  have hsz := HSZ.out
  clear bl1 p0 p1 p2 p3 p4 p5 p6 p7 p8 p9 p10 p11 p12 HK0 HT0 HL0
  cases hok : sndOK r with
  | false =>
    have HD := hid (sd_no (r := r) (t := t) (by rw [hok]; simp))
    clear hok
    have q0 := cell_of_row _ _ 0 _ _ _ HL1.out
    have zq0 := frozen_of_row _ _ 0 _ _ HL1.out
    have q1 := cell_of_row _ _ 1 _ _ _ HL1.out
    have zq1 := frozen_of_row _ _ 1 _ _ HL1.out
    have q2 := cell_of_row _ _ 2 _ _ _ HL1.out
    have zq2 := frozen_of_row _ _ 2 _ _ HL1.out
    have q3 := cell_of_row _ _ 3 _ _ _ HL1.out
    have zq3 := frozen_of_row _ _ 3 _ _ HL1.out
    have q4 := cell_of_row _ _ 4 _ _ _ HL1.out
    have zq4 := frozen_of_row _ _ 4 _ _ HL1.out
    have q5 := cell_of_row _ _ 5 _ _ _ HL1.out
    have zq5 := frozen_of_row _ _ 5 _ _ HL1.out
    have q6 := cell_of_row _ _ 6 _ _ _ HL1.out
    have zq6 := frozen_of_row _ _ 6 _ _ HL1.out
    have q7 := cell_of_row _ _ 7 _ _ _ HL1.out
    have zq7 := frozen_of_row _ _ 7 _ _ HL1.out
    have q8 := cell_of_row _ _ 8 _ _ _ HL1.out
    have zq8 := frozen_of_row _ _ 8 _ _ HL1.out
    have q9 := cell_of_row _ _ 9 _ _ _ HL1.out
    have zq9 := frozen_of_row _ _ 9 _ _ HL1.out
    have q10 := cell_of_row _ _ 10 _ _ _ HL1.out
    have zq10 := frozen_of_row _ _ 10 _ _ HL1.out
    have q11 := cell_of_row _ _ 11 _ _ _ HL1.out
    have zq11 := frozen_of_row _ _ 11 _ _ HL1.out
    have q12 := cell_of_row _ _ 12 _ _ _ HL1.out
    have zq12 := frozen_of_row _ _ 12 _ _ HL1.out
    simp only [List.getElem?_toArray, List.getElem?_cons_zero, List.getElem?_cons_succ] at q0 q1 q2 q3 q4 q5 q6 q7 q8 q9 q10 q11 q12
    go_wp2
    refine bodyPost_ret (results_cell_row_tmpD rfl _ _ (w.heap.size + 2) 45 #[.slice none 0 0, .int .i64 0, .int .i64 0, .slice none 0 0, .int .i64 0, .int .i64 0, .int .i64 0, .int .i64 0, .slice none 0 0, .bool false, .slice none 0 0, .int .i64 0, .slice none 0 0] (0, 0) _ rfl (set13 HL1.out) Tryz.underlying45 rfl (by kernel_rfl)) rfl ?_
    rw [HD.out.1, HD.out.2]
    exact ⟨none, 0, none, 0, none, 0, none, 0, none, 0, [], [], [], [], [], rfl, ⟨.inl ⟨rfl, rfl, rfl⟩, .inl ⟨rfl, rfl, rfl⟩, .inl ⟨rfl, rfl, rfl⟩, ⟨.inl ⟨rfl, rfl, rfl⟩, .inl ⟨rfl, rfl, rfl⟩⟩⟩, by simp, by simp, set13b HB1.out (by omega)⟩
  | true =>
    have p0 := cell_of_row _ _ 0 _ _ _ HK1.out
    have v0 := cell_of_row _ _ 0 _ _ _ HT1.out
    have v1 := cell_of_row _ _ 1 _ _ _ HT1.out
    simp only [List.getElem?_toArray, List.getElem?_cons_zero, List.getElem?_cons_succ] at p0 v0 v1
    have HOK1 := hid hok
    clear hok
    go_wp2_with fail
    refine (implTable_any a0 aT c0 cT r.fields t w1 (HR.out.later HB1.out).f (HRT.out.later HB1.out) htt).mono ?_
    rintro e w2 ⟨rfl, bl2⟩
    have HK2 := hid (boxSd HK1.out bl2)
    have HT2 := hid (boxSd HT1.out bl2)
    have HL2 := hid (boxSd HL1.out bl2)
    have HB2 := hid (below_chain HB1.out bl2)
    have hs2 := bl2.size
    clear bl2 p0 v0 v1 HK1 HT1 HL1
    cases hot : tableOK r.fields t with
    | false =>
      have HD := hid (sd_no (r := r) (t := t) (by rw [hot]; simp))
      clear hot
      have q0 := cell_of_row _ _ 0 _ _ _ HL2.out
      have zq0 := frozen_of_row _ _ 0 _ _ HL2.out
      have q1 := cell_of_row _ _ 1 _ _ _ HL2.out
      have zq1 := frozen_of_row _ _ 1 _ _ HL2.out
      have q2 := cell_of_row _ _ 2 _ _ _ HL2.out
      have zq2 := frozen_of_row _ _ 2 _ _ HL2.out
      have q3 := cell_of_row _ _ 3 _ _ _ HL2.out
      have zq3 := frozen_of_row _ _ 3 _ _ HL2.out
      have q4 := cell_of_row _ _ 4 _ _ _ HL2.out
      have zq4 := frozen_of_row _ _ 4 _ _ HL2.out
      have q5 := cell_of_row _ _ 5 _ _ _ HL2.out
      have zq5 := frozen_of_row _ _ 5 _ _ HL2.out
      have q6 := cell_of_row _ _ 6 _ _ _ HL2.out
      have zq6 := frozen_of_row _ _ 6 _ _ HL2.out
      have q7 := cell_of_row _ _ 7 _ _ _ HL2.out
      have zq7 := frozen_of_row _ _ 7 _ _ HL2.out
      have q8 := cell_of_row _ _ 8 _ _ _ HL2.out
      have zq8 := frozen_of_row _ _ 8 _ _ HL2.out
      have q9 := cell_of_row _ _ 9 _ _ _ HL2.out
      have zq9 := frozen_of_row _ _ 9 _ _ HL2.out
      have q10 := cell_of_row _ _ 10 _ _ _ HL2.out
      have zq10 := frozen_of_row _ _ 10 _ _ HL2.out
      have q11 := cell_of_row _ _ 11 _ _ _ HL2.out
      have zq11 := frozen_of_row _ _ 11 _ _ HL2.out
      have q12 := cell_of_row _ _ 12 _ _ _ HL2.out
      have zq12 := frozen_of_row _ _ 12 _ _ HL2.out
      simp only [List.getElem?_toArray, List.getElem?_cons_zero, List.getElem?_cons_succ] at q0 q1 q2 q3 q4 q5 q6 q7 q8 q9 q10 q11 q12
      go_wp2
      refine bodyPost_ret (results_cell_row_tmpD rfl _ _ (w.heap.size + 2) 45 #[.slice none 0 0, .int .i64 0, .int .i64 0, .slice none 0 0, .int .i64 0, .int .i64 0, .int .i64 0, .int .i64 0, .slice none 0 0, .bool false, .slice none 0 0, .int .i64 0, .slice none 0 0] (0, 0) _ rfl (set13 HL2.out) Tryz.underlying45 rfl (by kernel_rfl)) rfl ?_
      rw [HD.out.1, HD.out.2]
      exact ⟨none, 0, none, 0, none, 0, none, 0, none, 0, [], [], [], [], [], rfl, ⟨.inl ⟨rfl, rfl, rfl⟩, .inl ⟨rfl, rfl, rfl⟩, .inl ⟨rfl, rfl, rfl⟩, ⟨.inl ⟨rfl, rfl, rfl⟩, .inl ⟨rfl, rfl, rfl⟩⟩⟩, by simp, by simp, set13b HB2.out (by omega)⟩
    | true =>
      have HOK : Hid (sndOK r = true ∧ tableOK r.fields t = true) := hid ⟨HOK1.out, hot⟩
      have hbb : (0 ≤ r.base ∧ r.base ≤ 1000000000) ∧ r.tables.length ≤ 20 := by have h := sndOK_of HOK1.out; have h1 := h.2.2.2.1; have h2 := h1.1; have h3 := h1.2; exact ⟨⟨h2, by omega⟩, h.2.2.2.2.1⟩
      clear hot HOK1
      have p0 := cell_of_row _ _ 0 _ _ _ HK2.out
      have p1 := cell_of_row _ _ 1 _ _ _ HK2.out
      have p2 := cell_of_row _ _ 2 _ _ _ HK2.out
      have p3 := cell_of_row _ _ 3 _ _ _ HK2.out
      have p4 := cell_of_row _ _ 4 _ _ _ HK2.out
      have p5 := cell_of_row _ _ 5 _ _ _ HK2.out
      have p6 := cell_of_row _ _ 6 _ _ _ HK2.out
      have p7 := cell_of_row _ _ 7 _ _ _ HK2.out
      have p8 := cell_of_row _ _ 8 _ _ _ HK2.out
      have p9 := cell_of_row _ _ 9 _ _ _ HK2.out
      have p10 := cell_of_row _ _ 10 _ _ _ HK2.out
      have p11 := cell_of_row _ _ 11 _ _ _ HK2.out
      have p12 := cell_of_row _ _ 12 _ _ _ HK2.out
      simp only [List.getElem?_toArray, List.getElem?_cons_zero, List.getElem?_cons_succ] at p0 p1 p2 p3 p4 p5 p6 p7 p8 p9 p10 p11 p12
      go_wp2_with fail
      refine (copySender_any r a0 a3 a1 a2 b2 c0 c3 c1 c2 d2 w2 (HR.out.later HB2.out) ht).mono ?_
      rintro e w3 ⟨a0x, c0x, a3x, c3x, a1x, c1x, a2x, c2x, b2x, d2x, fs, ts, os, bs, ds, rfl, oc, lc, nc, bl3⟩
      have hb4 := below_new1 w3 (.cells #[.slice a0x r.fields.length c0x, .int .i64 r.epoch, .int .i64 r.base, .slice a3x r.tables.length c3x, .int .i64 r.pushed, .int .i64 r.out.epoch, .int .i64 r.out.next, .int .i64 r.out.now, .slice a1x r.out.wait.length c1x, .bool r.str.opened, .slice a2x r.str.fields.length c2x, .int .i64 r.str.next, .slice b2x r.str.dicts.length d2x] 45)
      have HBM : Hid ((w3.alloc (.cells #[.slice a0x r.fields.length c0x, .int .i64 r.epoch, .int .i64 r.base, .slice a3x r.tables.length c3x, .int .i64 r.pushed, .int .i64 r.out.epoch, .int .i64 r.out.next, .int .i64 r.out.now, .slice a1x r.out.wait.length c1x, .bool r.str.opened, .slice a2x r.str.fields.length c2x, .int .i64 r.str.next, .slice b2x r.str.dicts.length d2x] 45)).heap[w3.heap.size]? = some (.cells #[.slice a0x r.fields.length c0x, .int .i64 r.epoch, .int .i64 r.base, .slice a3x r.tables.length c3x, .int .i64 r.pushed, .int .i64 r.out.epoch, .int .i64 r.out.next, .int .i64 r.out.now, .slice a1x r.out.wait.length c1x, .bool r.str.opened, .slice a2x r.str.fields.length c2x, .int .i64 r.str.next, .slice b2x r.str.dicts.length d2x] 45 (0, 0))) := hid (heap_alloc_new w3 _)
      have F24 := below_chain bl3 hb4
      have HK4 := hid (boxSd HK2.out F24)
      have HT4 := hid (boxSd HT2.out F24)
      have HL6 := hid (boxSd HL2.out F24)
      have HB6 := hid (below_chain HB2.out F24)
      have hs3 := bl3.size
      have HS6 : Hid ((w3.alloc (.cells #[.slice a0x r.fields.length c0x, .int .i64 r.epoch, .int .i64 r.base, .slice a3x r.tables.length c3x, .int .i64 r.pushed, .int .i64 r.out.epoch, .int .i64 r.out.next, .int .i64 r.out.now, .slice a1x r.out.wait.length c1x, .bool r.str.opened, .slice a2x r.str.fields.length c2x, .int .i64 r.str.next, .slice b2x r.str.dicts.length d2x] 45)).heap.size = w3.heap.size + 1) := hid (by simp)
      have HC6 := hid (oc.later4 hb4)
      have HLT := hid oc.lt4
      have HLC := hid lc
      have HNC := hid nc
      clear p0 p1 p2 p3 p4 p5 p6 p7 p8 p9 p10 p11 p12 oc lc nc bl3 hb4 HK2 HT2 HL2 F24
      go_upto_region 4 with fail
      generalize (w3.alloc (.cells #[.slice a0x r.fields.length c0x, .int .i64 r.epoch, .int .i64 r.base, .slice a3x r.tables.length c3x, .int .i64 r.pushed, .int .i64 r.out.epoch, .int .i64 r.out.next, .int .i64 r.out.now, .slice a1x r.out.wait.length c1x, .bool r.str.opened, .slice a2x r.str.fields.length c2x, .int .i64 r.str.next, .slice b2x r.str.dicts.length d2x] 45)) = W6 at *
      have p3 := cell_of_row _ _ 3 _ _ _ HK4.out
      simp only [List.getElem?_toArray, List.getElem?_cons_zero, List.getElem?_cons_succ] at p3
      by_cases h20 : r.tables.length = 20
      · have HD := hid (sd_full HOK.out h20)
        have h20t : ((r.tables.length : Int) == 20) = true := by simp [h20]
        have u0 := cell_of_row _ _ 0 _ _ _ HBM.out
        have u1 := cell_of_row _ _ 1 _ _ _ HBM.out
        have u2 := cell_of_row _ _ 2 _ _ _ HBM.out
        have u3 := cell_of_row _ _ 3 _ _ _ HBM.out
        have u4 := cell_of_row _ _ 4 _ _ _ HBM.out
        have u5 := cell_of_row _ _ 5 _ _ _ HBM.out
        have u6 := cell_of_row _ _ 6 _ _ _ HBM.out
        have u7 := cell_of_row _ _ 7 _ _ _ HBM.out
        have u8 := cell_of_row _ _ 8 _ _ _ HBM.out
        have u9 := cell_of_row _ _ 9 _ _ _ HBM.out
        have u10 := cell_of_row _ _ 10 _ _ _ HBM.out
        have u11 := cell_of_row _ _ 11 _ _ _ HBM.out
        have u12 := cell_of_row _ _ 12 _ _ _ HBM.out
        simp only [List.getElem?_toArray, List.getElem?_cons_zero, List.getElem?_cons_succ] at u0 u1 u2 u3 u4 u5 u6 u7 u8 u9 u10 u11 u12
        have q0 := cell_of_row _ _ 0 _ _ _ HL6.out
        have zq0 := frozen_of_row _ _ 0 _ _ HL6.out
        have q1 := cell_of_row _ _ 1 _ _ _ HL6.out
        have zq1 := frozen_of_row _ _ 1 _ _ HL6.out
        have q2 := cell_of_row _ _ 2 _ _ _ HL6.out
        have zq2 := frozen_of_row _ _ 2 _ _ HL6.out
        have q3 := cell_of_row _ _ 3 _ _ _ HL6.out
        have zq3 := frozen_of_row _ _ 3 _ _ HL6.out
        have q4 := cell_of_row _ _ 4 _ _ _ HL6.out
        have zq4 := frozen_of_row _ _ 4 _ _ HL6.out
        have q5 := cell_of_row _ _ 5 _ _ _ HL6.out
        have zq5 := frozen_of_row _ _ 5 _ _ HL6.out
        have q6 := cell_of_row _ _ 6 _ _ _ HL6.out
        have zq6 := frozen_of_row _ _ 6 _ _ HL6.out
        have q7 := cell_of_row _ _ 7 _ _ _ HL6.out
        have zq7 := frozen_of_row _ _ 7 _ _ HL6.out
        have q8 := cell_of_row _ _ 8 _ _ _ HL6.out
        have zq8 := frozen_of_row _ _ 8 _ _ HL6.out
        have q9 := cell_of_row _ _ 9 _ _ _ HL6.out
        have zq9 := frozen_of_row _ _ 9 _ _ HL6.out
        have q10 := cell_of_row _ _ 10 _ _ _ HL6.out
        have zq10 := frozen_of_row _ _ 10 _ _ HL6.out
        have q11 := cell_of_row _ _ 11 _ _ _ HL6.out
        have zq11 := frozen_of_row _ _ 11 _ _ HL6.out
        have q12 := cell_of_row _ _ 12 _ _ _ HL6.out
        have zq12 := frozen_of_row _ _ 12 _ _ HL6.out
        simp only [List.getElem?_toArray, List.getElem?_cons_zero, List.getElem?_cons_succ] at q0 q1 q2 q3 q4 q5 q6 q7 q8 q9 q10 q11 q12
        clear h20
        go_wp2
        refine bodyPost_ret (results_cell_row_tmpD rfl _ _ (w.heap.size + 2) 45 #[.slice a0x r.fields.length c0x, .int .i64 r.epoch, .int .i64 r.base, .slice a3x r.tables.length c3x, .int .i64 r.pushed, .int .i64 r.out.epoch, .int .i64 r.out.next, .int .i64 r.out.now, .slice a1x r.out.wait.length c1x, .bool r.str.opened, .slice a2x r.str.fields.length c2x, .int .i64 r.str.next, .slice b2x r.str.dicts.length d2x] (0, 0) _ rfl (set13 HL6.out) Tryz.underlying45 rfl (by kernel_rfl)) rfl ?_
        rw [HD.out.1, HD.out.2]
        refine ⟨a0x, c0x, a3x, c3x, a1x, c1x, a2x, c2x, b2x, d2x, fs, ts, os, bs, ds, rfl, HC6.out.kept4 (fun x hx => set13o (by have := HLC.out x hx; omega)), fun x hx => by have := HLC.out x hx; omega, HNC.out, set13b HB6.out (by omega)⟩
      have h20t : ((r.tables.length : Int) == 20) = false := by simp; omega
      go_wp2_with fail
      refine (sent_any r a0 a3 a1 a2 b2 c0 c3 c1 c2 d2 w.heap.size W6 HK4.out hbb.1 hbb.2).mono ?_
      rintro e W7 ⟨rfl, hh7, hb7⟩
      have HBM := hid (boxSd HBM.out hb7)
      have HT4 := hid (boxSd HT4.out hb7)
      have HL6 := hid (boxSd HL6.out hb7)
      have HB6 := hid (below_chain HB6.out hb7)
      have HC6 := hid (HC6.out.later4 hb7)
      have HS6 : Hid (W7.heap.size = w3.heap.size + 1) := hid (by rw [hh7]; exact HS6.out)
      clear hh7 hb7 HK4 p3
      by_cases hE : r.base + (r.tables.length : Int) = 1000000000
      · have HD := hid (sd_end HOK.out h20 hE)
        have hEt : ((r.base + (r.tables.length : Int)) == 1000000000) = true := by simp [hE]
        have u0 := cell_of_row _ _ 0 _ _ _ HBM.out
        have u1 := cell_of_row _ _ 1 _ _ _ HBM.out
        have u2 := cell_of_row _ _ 2 _ _ _ HBM.out
        have u3 := cell_of_row _ _ 3 _ _ _ HBM.out
        have u4 := cell_of_row _ _ 4 _ _ _ HBM.out
        have u5 := cell_of_row _ _ 5 _ _ _ HBM.out
        have u6 := cell_of_row _ _ 6 _ _ _ HBM.out
        have u7 := cell_of_row _ _ 7 _ _ _ HBM.out
        have u8 := cell_of_row _ _ 8 _ _ _ HBM.out
        have u9 := cell_of_row _ _ 9 _ _ _ HBM.out
        have u10 := cell_of_row _ _ 10 _ _ _ HBM.out
        have u11 := cell_of_row _ _ 11 _ _ _ HBM.out
        have u12 := cell_of_row _ _ 12 _ _ _ HBM.out
        simp only [List.getElem?_toArray, List.getElem?_cons_zero, List.getElem?_cons_succ] at u0 u1 u2 u3 u4 u5 u6 u7 u8 u9 u10 u11 u12
        have q0 := cell_of_row _ _ 0 _ _ _ HL6.out
        have zq0 := frozen_of_row _ _ 0 _ _ HL6.out
        have q1 := cell_of_row _ _ 1 _ _ _ HL6.out
        have zq1 := frozen_of_row _ _ 1 _ _ HL6.out
        have q2 := cell_of_row _ _ 2 _ _ _ HL6.out
        have zq2 := frozen_of_row _ _ 2 _ _ HL6.out
        have q3 := cell_of_row _ _ 3 _ _ _ HL6.out
        have zq3 := frozen_of_row _ _ 3 _ _ HL6.out
        have q4 := cell_of_row _ _ 4 _ _ _ HL6.out
        have zq4 := frozen_of_row _ _ 4 _ _ HL6.out
        have q5 := cell_of_row _ _ 5 _ _ _ HL6.out
        have zq5 := frozen_of_row _ _ 5 _ _ HL6.out
        have q6 := cell_of_row _ _ 6 _ _ _ HL6.out
        have zq6 := frozen_of_row _ _ 6 _ _ HL6.out
        have q7 := cell_of_row _ _ 7 _ _ _ HL6.out
        have zq7 := frozen_of_row _ _ 7 _ _ HL6.out
        have q8 := cell_of_row _ _ 8 _ _ _ HL6.out
        have zq8 := frozen_of_row _ _ 8 _ _ HL6.out
        have q9 := cell_of_row _ _ 9 _ _ _ HL6.out
        have zq9 := frozen_of_row _ _ 9 _ _ HL6.out
        have q10 := cell_of_row _ _ 10 _ _ _ HL6.out
        have zq10 := frozen_of_row _ _ 10 _ _ HL6.out
        have q11 := cell_of_row _ _ 11 _ _ _ HL6.out
        have zq11 := frozen_of_row _ _ 11 _ _ HL6.out
        have q12 := cell_of_row _ _ 12 _ _ _ HL6.out
        have zq12 := frozen_of_row _ _ 12 _ _ HL6.out
        simp only [List.getElem?_toArray, List.getElem?_cons_zero, List.getElem?_cons_succ] at q0 q1 q2 q3 q4 q5 q6 q7 q8 q9 q10 q11 q12
        clear hE
        go_wp2
        refine bodyPost_ret (results_cell_row_tmpD rfl _ _ (w.heap.size + 2) 45 #[.slice a0x r.fields.length c0x, .int .i64 r.epoch, .int .i64 r.base, .slice a3x r.tables.length c3x, .int .i64 r.pushed, .int .i64 r.out.epoch, .int .i64 r.out.next, .int .i64 r.out.now, .slice a1x r.out.wait.length c1x, .bool r.str.opened, .slice a2x r.str.fields.length c2x, .int .i64 r.str.next, .slice b2x r.str.dicts.length d2x] (0, 0) _ rfl (set13 HL6.out) Tryz.underlying45 rfl (by kernel_rfl)) rfl ?_
        rw [HD.out.1, HD.out.2]
        refine ⟨a0x, c0x, a3x, c3x, a1x, c1x, a2x, c2x, b2x, d2x, fs, ts, os, bs, ds, rfl, HC6.out.kept4 (fun x hx => set13o (by have := HLC.out x hx; omega)), fun x hx => by have := HLC.out x hx; omega, HNC.out, set13b HB6.out (by omega)⟩
      have HD := hid (sd_yes HOK.out h20 hE)
      have hEt : ((r.base + (r.tables.length : Int)) == 1000000000) = false := by simpa using hE
      have HTS := hid HC6.out.t
      have HNT : Hid ts.Nodup := hid (List.nodup_append.1 (List.nodup_append.1 HNC.out).1).2.1
      have HRC := hid (HRT.out.later HB6.out)
      have HTW2 : Hid (∀ x ∈ ts, w2.heap.size ≤ x) := hid (fun x hx => HLC.out x (List.mem_append_left _ (List.mem_append_right _ hx)))
      have HTW : Hid (∀ x ∈ ts, w.heap.size ≤ x) := hid (fun x hx => by have := HTW2.out x hx; omega)
      have HGT : Hid (w3.heap.size ∉ ts) := hid (fun h => by have := HLT.out _ (List.mem_append_left _ (List.mem_append_right _ h)); omega)
      have HGW : Hid (W7.heap.size = w3.heap.size + 1) := hid HS6.out
      have HGL : Hid (w.heap.size ≤ w3.heap.size) := hid (by omega)
      have u3 := cell_of_row _ _ 3 _ _ _ HBM.out
      have v0 := cell_of_row _ _ 0 _ _ _ HT4.out
      have v1 := cell_of_row _ _ 1 _ _ _ HT4.out
      simp only [List.getElem?_toArray, List.getElem?_cons_zero, List.getElem?_cons_succ] at u3 v0 v1
      clear hE h20
      go_upto_region 8 with fail
      refine region_turns (n := 8) (by kernel_rfl) (by kernel_rfl) ?_ (fun t' => { tmps := #[.agg #[.slice a0 r.fields.length c0, .int .i64 r.epoch, .int .i64 r.base, .slice a3 r.tables.length c3, .int .i64 r.pushed, .int .i64 r.out.epoch, .int .i64 r.out.next, .int .i64 r.out.now, .slice a1 r.out.wait.length c1, .bool r.str.opened, .slice a2 r.str.fields.length c2, .int .i64 r.str.next, .slice b2 r.str.dicts.length d2], .agg #[.int .i64 t.rows, .slice aT t.cells.length cT], .pointer (some ⟨w.heap.size, 0, none⟩), .pointer (some ⟨w.heap.size + 1, 0, none⟩), .pointer (some ⟨w.heap.size + 1 + 1, 0, none⟩), .int .i64 0, .pointer (some ⟨w3.heap.size, 0, none⟩), .agg #[.slice a0 r.fields.length c0, .int .i64 r.epoch, .int .i64 r.base, .slice a3 r.tables.length c3, .int .i64 r.pushed, .int .i64 r.out.epoch, .int .i64 r.out.next, .int .i64 r.out.now, .slice a1 r.out.wait.length c1, .bool r.str.opened, .slice a2 r.str.fields.length c2, .int .i64 r.str.next, .slice b2 r.str.dicts.length d2], .bool true, .bool false, .bool false, .pointer (some ⟨w.heap.size, 0, none⟩), .slice a0 r.fields.length c0, .agg #[.int .i64 t.rows, .slice aT t.cells.length cT], .bool true, .bool false, .bool false, undef, .agg #[.slice a0 r.fields.length c0, .int .i64 r.epoch, .int .i64 r.base, .slice a3 r.tables.length c3, .int .i64 r.pushed, .int .i64 r.out.epoch, .int .i64 r.out.next, .int .i64 r.out.now, .slice a1 r.out.wait.length c1, .bool r.str.opened, .slice a2 r.str.fields.length c2, .int .i64 r.str.next, .slice b2 r.str.dicts.length d2], .agg #[.slice a0x r.fields.length c0x, .int .i64 r.epoch, .int .i64 r.base, .slice a3x r.tables.length c3x, .int .i64 r.pushed, .int .i64 r.out.epoch, .int .i64 r.out.next, .int .i64 r.out.now, .slice a1x r.out.wait.length c1x, .bool r.str.opened, .slice a2x r.str.fields.length c2x, .int .i64 r.str.next, .slice b2x r.str.dicts.length d2x], .pointer (some ⟨w.heap.size, 3, none⟩), .slice a3 r.tables.length c3, .int .i64 ((r.tables.length : Nat) : Int), .bool false, undef, .int .i64 (r.base + ((r.tables.length : Nat) : Int)), .bool false, undef, t' 0, t' 1, t' 2, t' 3, t' 4, t' 5, t' 6, undef], defers := [] }) (isT W7 W7.heap.size w3.heap.size (w.heap.size + 1) (.slice a3x r.tables.length c3x) r t aT cT ts #[.slice a0x r.fields.length c0x, .int .i64 r.epoch, .int .i64 r.base, .slice a3x r.tables.length c3x, .int .i64 r.pushed, .int .i64 r.out.epoch, .int .i64 r.out.next, .int .i64 r.out.now, .slice a1x r.out.wait.length c1x, .bool r.str.opened, .slice a2x r.str.fields.length c2x, .int .i64 r.str.next, .slice b2x r.str.dicts.length d2x]) [5, 7] (fcSame9 W7) w W7 (fun k => if k = 3 then [5, 7] else if k = 4 then [5, 7] else if k = 5 then [7] else []) (fun k => !(k == 3 || k == 4 || k == 5 || k == 7)) (by kernel_rfl) (fun j hj => by rcases (by omega : j = 0 ∨ j = 1 ∨ j = 2 ∨ j = 3 ∨ j = 4 ∨ j = 5 ∨ j = 6 ∨ j = 7) with rfl | rfl | rfl | rfl | rfl | rfl | rfl | rfl <;> rfl) (fun j hj hp => by rcases (by omega : j = 0 ∨ j = 1 ∨ j = 2 ∨ j = 3 ∨ j = 4 ∨ j = 5 ∨ j = 6 ∨ j = 7) with rfl | rfl | rfl | rfl | rfl | rfl | rfl | rfl <;> first | rfl | (exact absurd hp (by decide))) (fun j => ([undef, undef, undef, undef, undef, undef, undef, undef] : List Value).getD j undef) HB6.out (Below.refl _ _) ?_ ?_
      · rfl
      · intro i hi x t' wx hxi hsh h0 hbx hgx hdp hall
        rcases (by omega : i = 0 ∨ i = 1 ∨ i = 2 ∨ i = 3 ∨ i = 4 ∨ i = 5 ∨ i = 6 ∨ i = 7) with rfl | rfl | rfl | rfl | rfl | rfl | rfl | rfl
        · 
          try dsimp only
          clear h0
          refine wpOp_step rfl (fun K' hK => ?_)
          go_simp
          exact hK _ _ ⟨.pointer (some ⟨w3.heap.size, 3, none⟩), (by simp [upd]), FX.eq_mk rfl, fun _ => Below.refl _ _, hbx⟩
        · 
          try dsimp only
          have x0 := depX hdp 0 (by kernel_rfl)
          have d0 := hall 0 (by omega) x0
          have e0 : t' 0 = .pointer (some ⟨w3.heap.size, 3, none⟩) := d0.1
          rw [e0]
          have y5 := notYet hsh hxi 5 (by kernel_rfl)
          have y7 := notYet hsh hxi 7 (by kernel_rfl)
          have hz : Below W7.heap.size W7 wx := hgx (by simp [y5, y7])
          have u3 := (hz.cell (World.block_lt_of_cell? _ _ u3)).trans u3
          clear y5 y7 hz
          clear h0
          refine wpOp_step rfl (fun K' hK => ?_)
          go_simp
          exact hK _ _ ⟨.slice a3x r.tables.length c3x, (by simp [upd, e0]), FX.eq_mk rfl, fun _ => Below.refl _ _, hbx⟩
        · 
          try dsimp only
          have y5 := notYet hsh hxi 5 (by kernel_rfl)
          have y7 := notYet hsh hxi 7 (by kernel_rfl)
          have hz : Below W7.heap.size W7 wx := hgx (by simp [y5, y7])
          have v0 := (hz.cell (World.block_lt_of_cell? _ _ v0)).trans v0
          have v1 := (hz.cell (World.block_lt_of_cell? _ _ v1)).trans v1
          clear y5 y7 hz
          clear h0
          refine wpOp_step rfl (fun K' hK => ?_)
          go_simp
          exact hK _ _ ⟨.agg #[.int .i64 t.rows, .slice aT t.cells.length cT], (by simp [upd]), FX.eq_mk rfl, fun _ => Below.refl _ _, hbx⟩
        · 
          try dsimp only
          have x2 := depX hdp 2 (by kernel_rfl)
          have d2 := hall 2 (by omega) x2
          have e2 : t' 2 = .agg #[.int .i64 t.rows, .slice aT t.cells.length cT] := d2.1
          rw [e2]
          have y5 := notYet hsh hxi 5 (by kernel_rfl)
          have y7 := notYet hsh hxi 7 (by kernel_rfl)
          have hz : Below W7.heap.size W7 wx := hgx (by simp [y5, y7])
          have hsz := hz.size
          clear h0
          refine wpOp_step rfl (fun K' hK => ?_)
          go_simp
          refine (copyTable_any t aT cT wx (HRC.out.later hz) htt).mono ?_
          rintro e w2 ⟨a', c', bk, rfl, o2, l2, n2, b2⟩
          exact hK _ _ ⟨_, (by simp [upd, e2]), FX.pre_mk ⟨a', c', bk, rfl, o2, fun x hx => Nat.le_trans hsz (l2 x hx), n2⟩, fun _ => b2, below_chain hbx b2⟩
        · 
          try dsimp only
          have x3 := depX hdp 3 (by kernel_rfl)
          have d3 := hall 3 (by omega) x3
          have y5 := notYet hsh hxi 5 (by kernel_rfl)
          have y7 := notYet hsh hxi 7 (by kernel_rfl)
          obtain ⟨a4, c4, bk, e3, o3, l3, n3⟩ : (fcTb1 W7.heap.size t).p (t' 3) wx := FX.pre_of2 d3 y5 y7
          rw [e3]
          clear y5 y7
          clear h0
          refine wpOp_step rfl (fun K' hK => ?_)
          go_simp
          exact hK _ _ ⟨.slice (some ⟨wx.heap.size, 0, none⟩) 1 1, (by simp [upd, e3]), FX.pre_mk ⟨wx.heap.size, a4, c4, bk, rfl, heap_alloc_new wx _, o3.kept (fun x hx => (below_new1 wx _).block x (o3.lt x hx)), l3, n3⟩, fun _ => below_new1 _ _, below_chain hbx (below_new1 _ _)⟩
        · 
          try dsimp only
          have x1 := depX hdp 1 (by kernel_rfl)
          have d1 := hall 1 (by omega) x1
          have e1 : t' 1 = .slice a3x r.tables.length c3x := d1.1
          have x4 := depX hdp 4 (by kernel_rfl)
          have d4 := hall 4 (by omega) x4
          rw [e1]
          have y7 := notYet hsh hxi 7 (by kernel_rfl)
          obtain ⟨g4, a4, c4, bk, e4, h4, o4, l4, n4⟩ : (fcTb2 W7.heap.size t).p (t' 4) wx := FX.pre_of2 d4 hxi y7
          rw [e4]
          have hz : Below W7.heap.size W7 wx := hgx (by simp [hxi, y7])
          have hsz := hz.size
          have hox := HTS.out.kept (w' := wx) (fun b hb => hz.block b (HTS.out.lt b hb))
          have hkm := (hz.block _ (Array.getElem?_eq_some_iff.1 HBM.out).1).trans HBM.out
          obtain ⟨vals, ho, hgrowS⟩ := hox.grow HNT.out (B := 0) (fun _ _ => Nat.zero_le _) (Nat.zero_le _) (cTable_own (t := t) o4 HIN.out) n4 (fun _ _ => Nat.zero_le _) (fun b hb hc => by have := HTS.out.lt b hc; have := l4 b hb; omega)
          clear h0
          refine wpOp_step rfl (fun K' hK => ?_)
          refine step_append_lies _ rfl (.tmp 29) (.tmp 32) 38 rfl 0 51 i0 (.agg #[.int .i64 0, .slice none 0 0]) 2 32 Tryz.underlying38 hi0 hz0 hz1 hz2 rfl (by decide) (.slice a3x r.tables.length c3x) r.tables.length vals rfl ho ⟨g4, 0, none⟩ 1 1 [.int .i64 t.rows, .slice a4 t.cells.length c4] rfl rfl (World.news_of_block h4) (by simp [Value.oneCell']) (by omega) (by unfold maxLen; omega) (by omega) (Nat.zero_le _) _ rfl ?_
          intro g' cap' w9 hown hgrow hat hlt9
          obtain ⟨bs9, q1, q2, q3⟩ := hgrowS g' cap' w9 hown hgrow hat
          have hne : ∀ x, x ∉ ts → some x ≠ (Value.slice a3x r.tables.length c3x).ownBlock := fun x hx e => hx (own_block_mem HTS.out e.symm)
          exact hK _ _ ⟨.slice (some ⟨g', 0, none⟩) (r.tables.length + 1) cap', (by simp [upd, e1, e4, Act.put]), FX.pre_mk ⟨Nat.le_trans hsz hgrow.size, fun b h1 h2 => (hgrow.block b (Nat.lt_of_lt_of_le h1 hsz) (hne b h2)).trans (hz.block b h1), (hgrow.block _ (Array.getElem?_eq_some_iff.1 hkm).1 (hne _ HGT.out)).trans hkm, some ⟨g', 0, none⟩, cap', bs9, rfl, by simpa using q1, q2, fun b hb => (q3 b hb).2.elim .inl (fun h => .inr (h.elim (l4 b) (fun e => by omega)))⟩, fun h => absurd (by simp) h, hbx.grown hgrow hbx.size (fun p hp => HTW.out p (own_block_mem HTS.out hp))⟩
        · 
          try dsimp only
          clear h0
          refine wpOp_step rfl (fun K' hK => ?_)
          go_simp
          exact hK _ _ ⟨.pointer (some ⟨w3.heap.size, 3, none⟩), (by simp [upd]), FX.eq_mk rfl, fun _ => Below.refl _ _, hbx⟩
        · 
          try dsimp only
          have x6 := depX hdp 6 (by kernel_rfl)
          have d6 := hall 6 (by omega) x6
          have e6 : t' 6 = .pointer (some ⟨w3.heap.size, 3, none⟩) := d6.1
          have x5 := depX hdp 5 (by kernel_rfl)
          have d5 := hall 5 (by omega) x5
          rw [e6]
          obtain ⟨s5, k5, hbm, a7, c7, bs7, e5, o7, n7, q7⟩ : (fcTb3 W7 w3.heap.size (.slice a3x r.tables.length c3x) r t ts #[.slice a0x r.fields.length c0x, .int .i64 r.epoch, .int .i64 r.base, .slice a3x r.tables.length c3x, .int .i64 r.pushed, .int .i64 r.out.epoch, .int .i64 r.out.next, .int .i64 r.out.now, .slice a1x r.out.wait.length c1x, .bool r.str.opened, .slice a2x r.str.fields.length c2x, .int .i64 r.str.next, .slice b2x r.str.dicts.length d2x]).p (t' 5) wx := FX.pre_of d5 hxi
          rw [e5]
          have k3 := cell_of_row wx _ 3 _ _ _ hbm
          have z3 := frozen_of_row wx _ 3 _ _ hbm
          simp only [List.getElem?_toArray, List.getElem?_cons_zero, List.getElem?_cons_succ] at k3
          have HBX := hid hbm
          have HO7 := hid o7
          have HQ7 := hid q7
          have HK5 := hid k5
          have HS5 := hid s5
          clear hbm o7 q7 k5 s5
          clear h0
          refine wpOp_step rfl (fun K' hK => ?_)
          go_simp
          exact hK _ _ ⟨undef, (by simp [upd, e6, e5]), FX.is_mk ⟨by simpa using HS5.out, fun b h1 h2 h3 => (set13To h3).trans (HK5.out b h1 h2), a7, c7, bs7, set13T HBX.out, HO7.out.kept (fun x hx => set13To ((HQ7.out x hx).elim (fun h e => HGT.out (e ▸ h)) (fun h => by have := HGW.out; omega))), n7, HQ7.out⟩, fun h => absurd (by simp) h, set13Tb hbx HGL.out⟩
      · intro x t' wx hx hbx hall
        obtain ⟨s7, k7, a7, c7, bs7, b7, o7, n7, q7⟩ : (fcTb4 W7 w3.heap.size (.slice a3x r.tables.length c3x) r t ts #[.slice a0x r.fields.length c0x, .int .i64 r.epoch, .int .i64 r.base, .slice a3x r.tables.length c3x, .int .i64 r.pushed, .int .i64 r.out.epoch, .int .i64 r.out.next, .int .i64 r.out.now, .slice a1x r.out.wait.length c1x, .bool r.str.opened, .slice a2x r.str.fields.length c2x, .int .i64 r.str.next, .slice b2x r.str.dicts.length d2x]).p (t' 7) wx := FX.is_of (hall 7 (by omega))
        have HB7 : Hid (wx.heap[w3.heap.size]? = some (.cells #[.slice a0x r.fields.length c0x, .int .i64 r.epoch, .int .i64 r.base, .slice a7 (r.tables.length + 1) c7, .int .i64 r.pushed, .int .i64 r.out.epoch, .int .i64 r.out.next, .int .i64 r.out.now, .slice a1x r.out.wait.length c1x, .bool r.str.opened, .slice a2x r.str.fields.length c2x, .int .i64 r.str.next, .slice b2x r.str.dicts.length d2x] 45 (0, 0))) := hid b7
        have HO7 := hid o7
        have HN7 := hid n7
        have HQ7 := hid q7
        have HK7 := hid k7
        have HBX := hid hbx
        clear hall hbx b7 o7 n7 q7 k7 hx
        try dsimp only
        have kO : ∀ x, x < W7.heap.size → x ∉ ts → x ≠ w3.heap.size → wx.heap[x]? = W7.heap[x]? := fun x h1 h2 h3 => HK7.out x h1 h2 h3
        have HL7 := hid ((kO (w.heap.size + 2) (Array.getElem?_eq_some_iff.1 HL6.out).1 (fun h => by have := HTW2.out _ h; omega) (by omega)).trans HL6.out)
        have HKO := hid kO
        clear kO
        have u0 := cell_of_row _ _ 0 _ _ _ HB7.out
        have u1 := cell_of_row _ _ 1 _ _ _ HB7.out
        have u2 := cell_of_row _ _ 2 _ _ _ HB7.out
        have u3 := cell_of_row _ _ 3 _ _ _ HB7.out
        have u4 := cell_of_row _ _ 4 _ _ _ HB7.out
        have u5 := cell_of_row _ _ 5 _ _ _ HB7.out
        have u6 := cell_of_row _ _ 6 _ _ _ HB7.out
        have u7 := cell_of_row _ _ 7 _ _ _ HB7.out
        have u8 := cell_of_row _ _ 8 _ _ _ HB7.out
        have u9 := cell_of_row _ _ 9 _ _ _ HB7.out
        have u10 := cell_of_row _ _ 10 _ _ _ HB7.out
        have u11 := cell_of_row _ _ 11 _ _ _ HB7.out
        have u12 := cell_of_row _ _ 12 _ _ _ HB7.out
        simp only [List.getElem?_toArray, List.getElem?_cons_zero, List.getElem?_cons_succ] at u0 u1 u2 u3 u4 u5 u6 u7 u8 u9 u10 u11 u12
        have q0 := cell_of_row _ _ 0 _ _ _ HL7.out
        have zq0 := frozen_of_row _ _ 0 _ _ HL7.out
        have q1 := cell_of_row _ _ 1 _ _ _ HL7.out
        have zq1 := frozen_of_row _ _ 1 _ _ HL7.out
        have q2 := cell_of_row _ _ 2 _ _ _ HL7.out
        have zq2 := frozen_of_row _ _ 2 _ _ HL7.out
        have q3 := cell_of_row _ _ 3 _ _ _ HL7.out
        have zq3 := frozen_of_row _ _ 3 _ _ HL7.out
        have q4 := cell_of_row _ _ 4 _ _ _ HL7.out
        have zq4 := frozen_of_row _ _ 4 _ _ HL7.out
        have q5 := cell_of_row _ _ 5 _ _ _ HL7.out
        have zq5 := frozen_of_row _ _ 5 _ _ HL7.out
        have q6 := cell_of_row _ _ 6 _ _ _ HL7.out
        have zq6 := frozen_of_row _ _ 6 _ _ HL7.out
        have q7 := cell_of_row _ _ 7 _ _ _ HL7.out
        have zq7 := frozen_of_row _ _ 7 _ _ HL7.out
        have q8 := cell_of_row _ _ 8 _ _ _ HL7.out
        have zq8 := frozen_of_row _ _ 8 _ _ HL7.out
        have q9 := cell_of_row _ _ 9 _ _ _ HL7.out
        have zq9 := frozen_of_row _ _ 9 _ _ HL7.out
        have q10 := cell_of_row _ _ 10 _ _ _ HL7.out
        have zq10 := frozen_of_row _ _ 10 _ _ HL7.out
        have q11 := cell_of_row _ _ 11 _ _ _ HL7.out
        have zq11 := frozen_of_row _ _ 11 _ _ HL7.out
        have q12 := cell_of_row _ _ 12 _ _ _ HL7.out
        have zq12 := frozen_of_row _ _ 12 _ _ HL7.out
        simp only [List.getElem?_toArray, List.getElem?_cons_zero, List.getElem?_cons_succ] at q0 q1 q2 q3 q4 q5 q6 q7 q8 q9 q10 q11 q12
        go_wp2
        refine bodyPost_ret (results_cell_row_tmpD rfl _ _ (w.heap.size + 2) 45 #[.slice a0x r.fields.length c0x, .int .i64 r.epoch, .int .i64 r.base, .slice a7 (r.tables.length + 1) c7, .int .i64 r.pushed, .int .i64 r.out.epoch, .int .i64 r.out.next, .int .i64 r.out.now, .slice a1x r.out.wait.length c1x, .bool r.str.opened, .slice a2x r.str.fields.length c2x, .int .i64 r.str.next, .slice b2x r.str.dicts.length d2x] (0, 0) _ rfl (set13 HL7.out) Tryz.underlying45 rfl (by kernel_rfl)) rfl ?_
        rw [HD.out.1, HD.out.2]
        have hw6 := HGW.out
        have mx : ∀ x ∈ ((fs ++ ts) ++ (os ++ (bs ++ ds))), w2.heap.size ≤ x ∧ x < w3.heap.size := fun x hx => ⟨HLC.out x hx, HLT.out x hx⟩
        obtain ⟨nL, nR, xL⟩ := List.nodup_append.1 HNC.out
        obtain ⟨nf, nt, xf⟩ := List.nodup_append.1 nL
        have kk : ∀ x ∈ ((fs ++ ts) ++ (os ++ (bs ++ ds))), x ∉ ts → (((((((((((((wx.setCell ⟨w.heap.size + 2, 0, none⟩ (.slice a0x r.fields.length c0x)).setCell ⟨w.heap.size + 2, 1, none⟩ (.int .i64 r.epoch)).setCell ⟨w.heap.size + 2, 2, none⟩ (.int .i64 r.base)).setCell ⟨w.heap.size + 2, 3, none⟩ (.slice a7 (r.tables.length + 1) c7)).setCell ⟨w.heap.size + 2, 4, none⟩ (.int .i64 r.pushed)).setCell ⟨w.heap.size + 2, 5, none⟩ (.int .i64 r.out.epoch)).setCell ⟨w.heap.size + 2, 6, none⟩ (.int .i64 r.out.next)).setCell ⟨w.heap.size + 2, 7, none⟩ (.int .i64 r.out.now)).setCell ⟨w.heap.size + 2, 8, none⟩ (.slice a1x r.out.wait.length c1x)).setCell ⟨w.heap.size + 2, 9, none⟩ (.bool r.str.opened)).setCell ⟨w.heap.size + 2, 10, none⟩ (.slice a2x r.str.fields.length c2x)).setCell ⟨w.heap.size + 2, 11, none⟩ (.int .i64 r.str.next)).setCell ⟨w.heap.size + 2, 12, none⟩ (.slice b2x r.str.dicts.length d2x)).heap[x]? = W7.heap[x]? := fun x hx h => (set13o (by have := mx x hx; omega)).trans (HKO.out x (by have := mx x hx; omega) h (by have := mx x hx; omega))
        have hlen : (r.tables ++ [t]).length = r.tables.length + 1 := by simp
        refine ⟨a0x, c0x, a7, c7, a1x, c1x, a2x, c2x, b2x, d2x, fs, bs7, os, bs, ds, (by rw [hlen]; rfl), ⟨HC6.out.f.kept (fun x hx => kk x (List.mem_append_left _ (List.mem_append_left _ hx)) (fun h => xf x hx x h rfl)), ?_, HC6.out.o.kept (fun x hx => kk x (List.mem_append_right _ (List.mem_append_left _ hx)) (fun h => xL x (List.mem_append_right _ h) x (List.mem_append_left _ hx) rfl)), keptSt HC6.out.s (fun x hx => kk x (List.mem_append_right _ (List.mem_append_right _ hx)) (fun h => xL x (List.mem_append_right _ h) x (List.mem_append_right _ hx) rfl))⟩, ?_, ?_, set13b HBX.out (by omega)⟩
        · show OwnSl cTable 51 _ (r.tables ++ [t]) (.slice a7 (r.tables ++ [t]).length c7) bs7
          rw [hlen]
          refine HO7.out.kept (fun x hx => set13o ?_)
          rcases HQ7.out x hx with h | h
          · have := mx x (List.mem_append_left _ (List.mem_append_right _ h)); omega
          · omega
        · intro x hx
          rcases List.mem_append.1 hx with h | h
          · rcases List.mem_append.1 h with h | h
            · have := mx x (List.mem_append_left _ (List.mem_append_left _ h)); omega
            · rcases HQ7.out x h with h | h
              · have := mx x (List.mem_append_left _ (List.mem_append_right _ h)); omega
              · omega
          · have := mx x (List.mem_append_right _ h); omega
        · refine List.nodup_append.2 ⟨List.nodup_append.2 ⟨nf, HN7.out, fun x hx y hy e => ?_⟩, nR, fun x hx y hy e => ?_⟩
          · rcases HQ7.out y hy with h | h
            · exact xf x hx y h e
            · have := mx x (List.mem_append_left _ (List.mem_append_left _ hx)); omega
          · rcases List.mem_append.1 hx with h | h
            · exact xL x (List.mem_append_left _ h) y hy e
            · rcases HQ7.out x h with h | h
              · exact xL x (List.mem_append_right _ h) y hy e
              · have := mx y (List.mem_append_right _ hy); omega
end Go.Proofs.YtfaehioeepolhabGreat
