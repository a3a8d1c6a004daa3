import Derived.Test.YtfaehioeepolhaaGreatJPoll23
import Derived.Test.YtfaehioeepolhaaGreatJPoll32
import Derived.Test.YtfaehioeepolhaaGreatJPoll34
import Derived.Test.YtfaehioeepolhaaGreatJPoll35
namespace Go.Proofs.YtfaehioeepolhaaGreat
open Go.RowKit
def fcBxP (W : World) (gR : Nat) (cs : Array Value) : Fct := ⟨fun _ w => W.heap.size ≤ w.heap.size ∧ (∀ k, k ≠ gR → k < W.heap.size → w.heap[k]? = W.heap[k]?) ∧ w.heap[gR]? = some (.cells cs 43 (0, 0)), fun _ _ _ ⟨h0, hk, h⟩ hb => ⟨Nat.le_trans h0 hb.size, fun k h1 h2 => (hb.block k (Nat.lt_of_lt_of_le h2 h0)).trans (hk k h1 h2), (hb.block _ (Array.getElem?_eq_some_iff.1 h).1).trans h⟩⟩
set_option linter.unusedVariables false in
def p6T (W : World) (lo gO gR : Nat) (r : PRcv) (pv : Value) (cs : Array Value) (a3 : Option Addr) (c3 : Nat) : Nat → FX
  | 0 => FX.eq (pv)
  | 1 => FX.eq (.pointer (some ⟨gO, 11, none⟩))
  | 2 => FX.eq (.slice a3 r.ready.length c3)
  | 3 => FX.is (fcTsR lo r)
  | 4 => FX.is (fcBxP W gR cs)
  | 5 => FX.is (fcTsR lo r)
  | 6 => FX.eq (.int .i64 0)
  | _ => FX.eq undef
set_option maxRecDepth 100000 in
set_option maxHeartbeats 8000000 in
theorem specPoll_any (r : PRcv) (a1 b1 a2 b2 a3 : Option Addr) (c1 d1 c2 d2 c3 : Nat) (w : World) (hr : RdRcv w r a1 c1 b1 d1 a2 c2 b2 d2 a3 c3) (ht : tRcv r ≤ 1048576) :
    Calls Tryz.prog 30 #[.agg #[.int .i64 r.epoch, .int .i64 r.count, .bool r.live, .int .i64 r.inn.epoch, .int .i64 r.inn.expect, .slice a1 r.inn.held.length c1, .slice b1 r.inn.part.length d1, .bool r.str.opened, .slice a2 r.str.fields.length c2, .int .i64 r.str.next, .slice b2 r.str.dicts.length d2, .slice a3 r.ready.length c3, .int .i64 r.errors]] w fun e w' => ∃ a1x c1x b1x d1x a2x c2x b2x d2x a3x c3x a4 c4, e = .returned (.tuple #[.agg #[.int .i64 (plR r).epoch, .int .i64 (plR r).count, .bool (plR r).live, .int .i64 (plR r).inn.epoch, .int .i64 (plR r).inn.expect, .slice a1x (plR r).inn.held.length c1x, .slice b1x (plR r).inn.part.length d1x, .bool (plR r).str.opened, .slice a2x (plR r).str.fields.length c2x, .int .i64 (plR r).str.next, .slice b2x (plR r).str.dicts.length d2x, .slice a3x (plR r).ready.length c3x, .int .i64 (plR r).errors], .slice a4 (plT r).length c4, .int .i64 (plK r)]) ∧ RdRcv w' (plR r) a1x c1x b1x d1x a2x c2x b2x d2x a3x c3x ∧ RdSl cTable w' (plT r) (.slice a4 (plT r).length c4) ∧ Below w.heap.size w w' := by
  have HR := hid hr
  clear hr
  have hT : totL totT r.ready ≤ 1048576 := by unfold tRcv at ht; omega
  have hlen : r.ready.length ≤ 1048576 := by unfold totL at hT; omega
  have HK0 : Hid (((w.alloc (.cells #[.int .i64 r.epoch, .int .i64 r.count, .bool r.live, .int .i64 r.inn.epoch, .int .i64 r.inn.expect, .slice a1 r.inn.held.length c1, .slice b1 r.inn.part.length d1, .bool r.str.opened, .slice a2 r.str.fields.length c2, .int .i64 r.str.next, .slice b2 r.str.dicts.length d2, .slice a3 r.ready.length c3, .int .i64 r.errors] 43)).alloc (.cells #[.int .i64 0, .int .i64 0, .bool false, .int .i64 0, .int .i64 0, .slice none 0 0, .slice none 0 0, .bool false, .slice none 0 0, .int .i64 0, .slice none 0 0, .slice none 0 0, .int .i64 0] 43)).heap[w.heap.size]? = some (.cells #[.int .i64 r.epoch, .int .i64 r.count, .bool r.live, .int .i64 r.inn.epoch, .int .i64 r.inn.expect, .slice a1 r.inn.held.length c1, .slice b1 r.inn.part.length d1, .bool r.str.opened, .slice a2 r.str.fields.length c2, .int .i64 r.str.next, .slice b2 r.str.dicts.length d2, .slice a3 r.ready.length c3, .int .i64 r.errors] 43 (0, 0))) := hid (heap2 _ _ (Below.refl _ _)).1
  have HL0 : Hid (((w.alloc (.cells #[.int .i64 r.epoch, .int .i64 r.count, .bool r.live, .int .i64 r.inn.epoch, .int .i64 r.inn.expect, .slice a1 r.inn.held.length c1, .slice b1 r.inn.part.length d1, .bool r.str.opened, .slice a2 r.str.fields.length c2, .int .i64 r.str.next, .slice b2 r.str.dicts.length d2, .slice a3 r.ready.length c3, .int .i64 r.errors] 43)).alloc (.cells #[.int .i64 0, .int .i64 0, .bool false, .int .i64 0, .int .i64 0, .slice none 0 0, .slice none 0 0, .bool false, .slice none 0 0, .int .i64 0, .slice none 0 0, .slice none 0 0, .int .i64 0] 43)).heap[w.heap.size + 1]? = some (.cells #[.int .i64 0, .int .i64 0, .bool false, .int .i64 0, .int .i64 0, .slice none 0 0, .slice none 0 0, .bool false, .slice none 0 0, .int .i64 0, .slice none 0 0, .slice none 0 0, .int .i64 0] 43 (0, 0))) := hid (heap2 _ _ (Below.refl _ _)).2
  have HB0 := hid (below_new2 w (.cells #[.int .i64 r.epoch, .int .i64 r.count, .bool r.live, .int .i64 r.inn.epoch, .int .i64 r.inn.expect, .slice a1 r.inn.held.length c1, .slice b1 r.inn.part.length d1, .bool r.str.opened, .slice a2 r.str.fields.length c2, .int .i64 r.str.next, .slice b2 r.str.dicts.length d2, .slice a3 r.ready.length c3, .int .i64 r.errors] 43) (.cells #[.int .i64 0, .int .i64 0, .bool false, .int .i64 0, .int .i64 0, .slice none 0 0, .slice none 0 0, .bool false, .slice none 0 0, .int .i64 0, .slice none 0 0, .slice none 0 0, .int .i64 0] 43))
  have HSZ := hid (size2 w (.cells #[.int .i64 r.epoch, .int .i64 r.count, .bool r.live, .int .i64 r.inn.epoch, .int .i64 r.inn.expect, .slice a1 r.inn.held.length c1, .slice b1 r.inn.part.length d1, .bool r.str.opened, .slice a2 r.str.fields.length c2, .int .i64 r.str.next, .slice b2 r.str.dicts.length d2, .slice a3 r.ready.length c3, .int .i64 r.errors] 43) (.cells #[.int .i64 0, .int .i64 0, .bool false, .int .i64 0, .int .i64 0, .slice none 0 0, .slice none 0 0, .bool false, .slice none 0 0, .int .i64 0, .slice none 0 0, .slice none 0 0, .int .i64 0] 43))
  go_enter Tryz.func30, Tryz.ntmps30
  go_upto_region 1 with fail
  generalize ((w.alloc (.cells #[.int .i64 r.epoch, .int .i64 r.count, .bool r.live, .int .i64 r.inn.epoch, .int .i64 r.inn.expect, .slice a1 r.inn.held.length c1, .slice b1 r.inn.part.length d1, .bool r.str.opened, .slice a2 r.str.fields.length c2, .int .i64 r.str.next, .slice b2 r.str.dicts.length d2, .slice a3 r.ready.length c3, .int .i64 r.errors] 43)).alloc (.cells #[.int .i64 0, .int .i64 0, .bool false, .int .i64 0, .int .i64 0, .slice none 0 0, .slice none 0 0, .bool false, .slice none 0 0, .int .i64 0, .slice none 0 0, .slice none 0 0, .int .i64 0] 43)) = W0 at *
  have p0 := cell_of_row _ _ 0 _ _ _ HK0.out
  have p1 := cell_of_row _ _ 1 _ _ _ HK0.out
  have p2 := cell_of_row _ _ 2 _ _ _ HK0.out
  have p3 := cell_of_row _ _ 3 _ _ _ HK0.out
  have p4 := cell_of_row _ _ 4 _ _ _ HK0.out
  have p5 := cell_of_row _ _ 5 _ _ _ HK0.out
  have p6 := cell_of_row _ _ 6 _ _ _ HK0.out
  have p7 := cell_of_row _ _ 7 _ _ _ HK0.out
  have p8 := cell_of_row _ _ 8 _ _ _ HK0.out
  have p9 := cell_of_row _ _ 9 _ _ _ HK0.out
  have p10 := cell_of_row _ _ 10 _ _ _ HK0.out
  have p11 := cell_of_row _ _ 11 _ _ _ HK0.out
  have p12 := cell_of_row _ _ 12 _ _ _ HK0.out
  simp only [List.getElem?_toArray, List.getElem?_cons_zero, List.getElem?_cons_succ] at p0 p1 p2 p3 p4 p5 p6 p7 p8 p9 p10 p11 p12
  go_wp2_with fail
  refine (specRcv_any r a1 b1 a2 b2 a3 c1 d1 c2 d2 c3 W0 (HR.out.later HB0.out) ht).mono ?_
  rintro e w2 ⟨rfl, bl2⟩
  have HK2 := hid (boxR HK0.out bl2)
  have HL2 := hid (boxR HL0.out bl2)
  have HB2 := hid (below_chain HB0.out bl2)
  have hs2 := bl2.size
  have hsz := HSZ.out
  clear bl2 p0 p1 p2 p3 p4 p5 p6 p7 p8 p9 p10 p11 p12
  cases hok : rcvOK r with
  | false =>
    have HD := hid (pl_no hok)
    clear hok
    have q0 := cell_of_row _ _ 0 _ _ _ HL2.out
    have zq0 := frozen_of_row _ _ 0 _ _ HL2.out
    have q1 := cell_of_row _ _ 1 _ _ _ HL2.out
    have zq1 := frozen_of_row _ _ 1 _ _ HL2.out
    have q2 := cell_of_row _ _ 2 _ _ _ HL2.out
    have zq2 := frozen_of_row _ _ 2 _ _ HL2.out
    have q3 := cell_of_row _ _ 3 _ _ _ HL2.out
    have zq3 := frozen_of_row _ _ 3 _ _ HL2.out
    have q4 := cell_of_row _ _ 4 _ _ _ HL2.out
    have zq4 := frozen_of_row _ _ 4 _ _ HL2.out
    have q5 := cell_of_row _ _ 5 _ _ _ HL2.out
    have zq5 := frozen_of_row _ _ 5 _ _ HL2.out
    have q6 := cell_of_row _ _ 6 _ _ _ HL2.out
    have zq6 := frozen_of_row _ _ 6 _ _ HL2.out
    have q7 := cell_of_row _ _ 7 _ _ _ HL2.out
    have zq7 := frozen_of_row _ _ 7 _ _ HL2.out
    have q8 := cell_of_row _ _ 8 _ _ _ HL2.out
    have zq8 := frozen_of_row _ _ 8 _ _ HL2.out
    have q9 := cell_of_row _ _ 9 _ _ _ HL2.out
    have zq9 := frozen_of_row _ _ 9 _ _ HL2.out
    have q10 := cell_of_row _ _ 10 _ _ _ HL2.out
    have zq10 := frozen_of_row _ _ 10 _ _ HL2.out
    have q11 := cell_of_row _ _ 11 _ _ _ HL2.out
    have zq11 := frozen_of_row _ _ 11 _ _ HL2.out
    have q12 := cell_of_row _ _ 12 _ _ _ HL2.out
    have zq12 := frozen_of_row _ _ 12 _ _ HL2.out
    simp only [List.getElem?_toArray, List.getElem?_cons_zero, List.getElem?_cons_succ] at q0 q1 q2 q3 q4 q5 q6 q7 q8 q9 q10 q11 q12
    go_wp2
    refine bodyPost_ret (results_cell_row_tmp2 rfl _ _ (w.heap.size + 1) 43 #[.int .i64 0, .int .i64 0, .bool false, .int .i64 0, .int .i64 0, .slice none 0 0, .slice none 0 0, .bool false, .slice none 0 0, .int .i64 0, .slice none 0 0, .slice none 0 0, .int .i64 0] (0, 0) _ rfl (set13 HL2.out) Tryz.underlying43 rfl (by kernel_rfl)) rfl ?_
    rw [HD.out.1, HD.out.2.1, HD.out.2.2]
    exact ⟨none, 0, none, 0, none, 0, none, 0, none, 0, none, 0, rfl, ⟨⟨RdSl.empty none, RdSl.empty none⟩, ⟨RdSl.empty none, RdSl.empty none⟩, RdSl.empty none⟩, RdSl.empty none, set13b HB2.out (by omega)⟩
  | true =>
    have HD := hid (pl_yes hok)
    have hcn := pl_count hok
    clear hok
    have p0 := cell_of_row _ _ 0 _ _ _ HK2.out
    have p1 := cell_of_row _ _ 1 _ _ _ HK2.out
    have p2 := cell_of_row _ _ 2 _ _ _ HK2.out
    have p3 := cell_of_row _ _ 3 _ _ _ HK2.out
    have p4 := cell_of_row _ _ 4 _ _ _ HK2.out
    have p5 := cell_of_row _ _ 5 _ _ _ HK2.out
    have p6 := cell_of_row _ _ 6 _ _ _ HK2.out
    have p7 := cell_of_row _ _ 7 _ _ _ HK2.out
    have p8 := cell_of_row _ _ 8 _ _ _ HK2.out
    have p9 := cell_of_row _ _ 9 _ _ _ HK2.out
    have p10 := cell_of_row _ _ 10 _ _ _ HK2.out
    have p11 := cell_of_row _ _ 11 _ _ _ HK2.out
    have p12 := cell_of_row _ _ 12 _ _ _ HK2.out
    simp only [List.getElem?_toArray, List.getElem?_cons_zero, List.getElem?_cons_succ] at p0 p1 p2 p3 p4 p5 p6 p7 p8 p9 p10 p11 p12
    go_wp2_with fail
    refine (l6receiver_any r a1 b1 a2 b2 a3 c1 d1 c2 d2 c3 w2 (HR.out.later HB2.out) ht).mono ?_
    rintro e w3 ⟨a1x, c1x, b1x, d1x, a2x, c2x, b2x, d2x, a3x, c3x, bi, di, rfl, oc, bl3⟩
    have HK3 := hid (boxR HK2.out bl3)
    have HL3 := hid (boxR HL2.out bl3)
    have hs3 := bl3.size
    have HB3 := hid (below_chain HB2.out bl3)
    clear p0 p1 p2 p3 p4 p5 p6 p7 p8 p9 p10 p11 p12
    have HM4 : Hid ((w3.alloc (.cells #[.int .i64 r.epoch, .int .i64 r.count, .bool r.live, .int .i64 r.inn.epoch, .int .i64 r.inn.expect, .slice a1x r.inn.held.length c1x, .slice b1x r.inn.part.length d1x, .bool r.str.opened, .slice a2x r.str.fields.length c2x, .int .i64 r.str.next, .slice b2x r.str.dicts.length d2x, .slice a3x r.ready.length c3x, .int .i64 r.errors] 43)).heap[w3.heap.size]? = some (.cells #[.int .i64 r.epoch, .int .i64 r.count, .bool r.live, .int .i64 r.inn.epoch, .int .i64 r.inn.expect, .slice a1x r.inn.held.length c1x, .slice b1x r.inn.part.length d1x, .bool r.str.opened, .slice a2x r.str.fields.length c2x, .int .i64 r.str.next, .slice b2x r.str.dicts.length d2x, .slice a3x r.ready.length c3x, .int .i64 r.errors] 43 (0, 0))) := hid (heap_alloc_new w3 _)
    have hb4 := below_new1 w3 (.cells #[.int .i64 r.epoch, .int .i64 r.count, .bool r.live, .int .i64 r.inn.epoch, .int .i64 r.inn.expect, .slice a1x r.inn.held.length c1x, .slice b1x r.inn.part.length d1x, .bool r.str.opened, .slice a2x r.str.fields.length c2x, .int .i64 r.str.next, .slice b2x r.str.dicts.length d2x, .slice a3x r.ready.length c3x, .int .i64 r.errors] 43)
    have HK4 := hid (boxR HK3.out hb4)
    have HL4 := hid (boxR HL3.out hb4)
    have HB4 := hid (below_chain HB3.out hb4)
    have HC3 := hid oc
    have HB34 := hid hb4
    have hs4 := hb4.size
    go_upto_region 4 with fail
    generalize (w3.alloc (.cells #[.int .i64 r.epoch, .int .i64 r.count, .bool r.live, .int .i64 r.inn.epoch, .int .i64 r.inn.expect, .slice a1x r.inn.held.length c1x, .slice b1x r.inn.part.length d1x, .bool r.str.opened, .slice a2x r.str.fields.length c2x, .int .i64 r.str.next, .slice b2x r.str.dicts.length d2x, .slice a3x r.ready.length c3x, .int .i64 r.errors] 43)) = W4 at *
    clear oc bl3 hb4 HK3 HL3
    have p1 := cell_of_row _ _ 1 _ _ _ HK4.out
    have p11 := cell_of_row _ _ 11 _ _ _ HK4.out
    simp only [List.getElem?_toArray, List.getElem?_cons_zero, List.getElem?_cons_succ] at p1 p11
    have u1 := cell_of_row _ _ 1 _ _ _ HM4.out
    have zu1 := frozen_of_row _ _ 1 _ _ HM4.out
    have u11 := cell_of_row _ _ 11 _ _ _ HM4.out
    have zu11 := frozen_of_row _ _ 11 _ _ HM4.out
    simp only [List.getElem?_toArray, List.getElem?_cons_zero, List.getElem?_cons_succ] at u1 u11
    have HM5 := hid (set13Ct (y1 := .int .i64 (r.count + (r.ready.length : Int))) HM4.out)
    have HM6 := hid (set13Rd (y11 := .slice none 0 0) HM5.out)
    have hgm : W0.heap.size ≤ w3.heap.size := by omega
    have hKx : ∀ b, b ≠ w3.heap.size → ((W4.setCell ⟨w3.heap.size, 1, none⟩ (.int .i64 (r.count + (r.ready.length : Int)))).setCell ⟨w3.heap.size, 11, none⟩ (.slice none 0 0)).heap[b]? = W4.heap[b]? := fun b hb => (set13Rdo (y11 := .slice none 0 0) hb).trans (set13Cto (y1 := .int .i64 (r.count + (r.ready.length : Int))) hb)
    have HK6 := hid ((hKx w.heap.size (by omega)).trans HK4.out)
    have HL6 := hid ((hKx (w.heap.size + 1) (by omega)).trans HL4.out)
    have HB6 := hid (set13Rdb (g := w3.heap.size) (y11 := .slice none 0 0) (set13Ctb (g := w3.heap.size) (y1 := .int .i64 (r.count + (r.ready.length : Int))) HB4.out (by omega)) (by omega))
    have HRT6 : Hid (RdSl cTable ((W4.setCell ⟨w3.heap.size, 1, none⟩ (.int .i64 (r.count + (r.ready.length : Int)))).setCell ⟨w3.heap.size, 11, none⟩ (.slice none 0 0)) r.ready (.slice a3 r.ready.length c3)) := hid (HR.out.t.later HB6.out)
    have HC6 : Hid (∀ wx : World, (∀ b, b ≠ w.heap.size + 1 → b < w3.heap.size → wx.heap[b]? = ((W4.setCell ⟨w3.heap.size, 1, none⟩ (.int .i64 (r.count + (r.ready.length : Int)))).setCell ⟨w3.heap.size, 11, none⟩ (.slice none 0 0)).heap[b]?) → RcT w2.heap.size wx r a1x c1x b1x d1x a2x c2x b2x d2x a3x c3x bi di) := hid (fun wx hk => HC3.out.kept (fun b h1 h2 => (hk b (by omega) h2).trans ((hKx b (by omega)).trans (HB34.out.block b h2))))
    have hW6 : w3.heap.size < ((W4.setCell ⟨w3.heap.size, 1, none⟩ (.int .i64 (r.count + (r.ready.length : Int)))).setCell ⟨w3.heap.size, 11, none⟩ (.slice none 0 0)).heap.size := (Array.getElem?_eq_some_iff.1 HM6.out).1
    clear hKx
    go_upto_region 6 with fail
    generalize ((W4.setCell ⟨w3.heap.size, 1, none⟩ (.int .i64 (r.count + (r.ready.length : Int)))).setCell ⟨w3.heap.size, 11, none⟩ (.slice none 0 0)) = W6 at *
    clear p1 p11 u1 zu1 u11 zu11
    have q11 := cell_of_row _ _ 11 _ _ _ HK6.out
    simp only [List.getElem?_toArray, List.getElem?_cons_zero, List.getElem?_cons_succ] at q11
    have u0 := cell_of_row _ _ 0 _ _ _ HM6.out
    have u1 := cell_of_row _ _ 1 _ _ _ HM6.out
    have u2 := cell_of_row _ _ 2 _ _ _ HM6.out
    have u3 := cell_of_row _ _ 3 _ _ _ HM6.out
    have u4 := cell_of_row _ _ 4 _ _ _ HM6.out
    have u5 := cell_of_row _ _ 5 _ _ _ HM6.out
    have u6 := cell_of_row _ _ 6 _ _ _ HM6.out
    have u7 := cell_of_row _ _ 7 _ _ _ HM6.out
    have u8 := cell_of_row _ _ 8 _ _ _ HM6.out
    have u9 := cell_of_row _ _ 9 _ _ _ HM6.out
    have u10 := cell_of_row _ _ 10 _ _ _ HM6.out
    have u11 := cell_of_row _ _ 11 _ _ _ HM6.out
    have u12 := cell_of_row _ _ 12 _ _ _ HM6.out
    simp only [List.getElem?_toArray, List.getElem?_cons_zero, List.getElem?_cons_succ] at u0 u1 u2 u3 u4 u5 u6 u7 u8 u9 u10 u11 u12
    have HG1 : Hid (w.heap.size + 1 < W6.heap.size) := hid (Array.getElem?_eq_some_iff.1 HL6.out).1
    refine region_turns2 (n := 7) (by kernel_rfl) (by kernel_rfl) ?_ (fun t => { tmps := #[.agg #[.int .i64 r.epoch, .int .i64 r.count, .bool r.live, .int .i64 r.inn.epoch, .int .i64 r.inn.expect, .slice a1 r.inn.held.length c1, .slice b1 r.inn.part.length d1, .bool r.str.opened, .slice a2 r.str.fields.length c2, .int .i64 r.str.next, .slice b2 r.str.dicts.length d2, .slice a3 r.ready.length c3, .int .i64 r.errors], .pointer (some ⟨w.heap.size, 0, none⟩), .pointer (some ⟨w.heap.size + 1, 0, none⟩), t 5, t 6, .pointer (some ⟨w3.heap.size, 0, none⟩), .agg #[.int .i64 r.epoch, .int .i64 r.count, .bool r.live, .int .i64 r.inn.epoch, .int .i64 r.inn.expect, .slice a1 r.inn.held.length c1, .slice b1 r.inn.part.length d1, .bool r.str.opened, .slice a2 r.str.fields.length c2, .int .i64 r.str.next, .slice b2 r.str.dicts.length d2, .slice a3 r.ready.length c3, .int .i64 r.errors], .bool true, .bool false, undef, .agg #[.int .i64 r.epoch, .int .i64 r.count, .bool r.live, .int .i64 r.inn.epoch, .int .i64 r.inn.expect, .slice a1 r.inn.held.length c1, .slice b1 r.inn.part.length d1, .bool r.str.opened, .slice a2 r.str.fields.length c2, .int .i64 r.str.next, .slice b2 r.str.dicts.length d2, .slice a3 r.ready.length c3, .int .i64 r.errors], .agg #[.int .i64 r.epoch, .int .i64 r.count, .bool r.live, .int .i64 r.inn.epoch, .int .i64 r.inn.expect, .slice a1x r.inn.held.length c1x, .slice b1x r.inn.part.length d1x, .bool r.str.opened, .slice a2x r.str.fields.length c2x, .int .i64 r.str.next, .slice b2x r.str.dicts.length d2x, .slice a3x r.ready.length c3x, .int .i64 r.errors], .pointer (some ⟨w.heap.size, 1, none⟩), .int .i64 r.count, .pointer (some ⟨w.heap.size, 11, none⟩), .slice a3 r.ready.length c3, .int .i64 ((r.ready.length : Nat) : Int), .int .i64 (r.count + ((r.ready.length : Nat) : Int)), .pointer (some ⟨w3.heap.size, 1, none⟩), .pointer (some ⟨w3.heap.size, 11, none⟩), t 0, t 1, t 2, t 3], defers := [] }) (p6T W6 W6.heap.size w.heap.size (w.heap.size + 1) r (.agg #[.int .i64 r.epoch, .int .i64 (r.count + (r.ready.length : Int)), .bool r.live, .int .i64 r.inn.epoch, .int .i64 r.inn.expect, .slice a1x r.inn.held.length c1x, .slice b1x r.inn.part.length d1x, .bool r.str.opened, .slice a2x r.str.fields.length c2x, .int .i64 r.str.next, .slice b2x r.str.dicts.length d2x, .slice none 0 0, .int .i64 r.errors]) #[.int .i64 r.epoch, .int .i64 (r.count + (r.ready.length : Int)), .bool r.live, .int .i64 r.inn.epoch, .int .i64 r.inn.expect, .slice a1x r.inn.held.length c1x, .slice b1x r.inn.part.length d1x, .bool r.str.opened, .slice a2x r.str.fields.length c2x, .int .i64 r.str.next, .slice b2x r.str.dicts.length d2x, .slice none 0 0, .int .i64 r.errors] a3 c3) [4] (fcSame4 W6) w W6 (fun k => []) (fun k => !(k == 3 || k == 4 || k == 5)) (fun _ v v' => ∀ b, W6.heap.size ≤ b → v'.heap[b]? = v.heap[b]?) [4] (fun i k => i == 4 && (k == 3 || k == 5)) (by kernel_rfl) (fun i hi k hk hs v w w' hr h => by simp at hs; obtain ⟨rfl, hs⟩ := hs; rcases hs with rfl | rfl <;> exact RowT.keptB h (fun b h1 _ => hr b h1)) (fun i hi hn => absurd hi hn) (fun j hj => by rcases (by omega : j = 0 ∨ j = 1 ∨ j = 2 ∨ j = 3 ∨ j = 4 ∨ j = 5 ∨ j = 6) with rfl | rfl | rfl | rfl | rfl | rfl | rfl <;> rfl) (fun j hj hp => by rcases (by omega : j = 0 ∨ j = 1 ∨ j = 2 ∨ j = 3 ∨ j = 4 ∨ j = 5 ∨ j = 6) with rfl | rfl | rfl | rfl | rfl | rfl | rfl <;> first | rfl | (exact absurd hp (by decide))) (fun j => ([undef, undef, undef, undef, undef, .slice none 0 0, .int .i64 0] : List Value).getD j undef) HB6.out (Below.refl _ _) ?_ ?_
    · rfl
    · intro i hi x t wx hxi hsh h0 hbx hgx hdp hall
      rcases (by omega : i = 0 ∨ i = 1 ∨ i = 2 ∨ i = 3 ∨ i = 4 ∨ i = 5 ∨ i = 6) with rfl | rfl | rfl | rfl | rfl | rfl | rfl
      · 
        try dsimp only
        have y4 := notYet hsh hxi 4 (by kernel_rfl)
        have hz : Below W6.heap.size W6 wx := hgx (by simp [y4])
        have u0 := (hz.cell (World.block_lt_of_cell? _ _ u0)).trans u0
        have u1 := (hz.cell (World.block_lt_of_cell? _ _ u1)).trans u1
        have u2 := (hz.cell (World.block_lt_of_cell? _ _ u2)).trans u2
        have u3 := (hz.cell (World.block_lt_of_cell? _ _ u3)).trans u3
        have u4 := (hz.cell (World.block_lt_of_cell? _ _ u4)).trans u4
        have u5 := (hz.cell (World.block_lt_of_cell? _ _ u5)).trans u5
        have u6 := (hz.cell (World.block_lt_of_cell? _ _ u6)).trans u6
        have u7 := (hz.cell (World.block_lt_of_cell? _ _ u7)).trans u7
        have u8 := (hz.cell (World.block_lt_of_cell? _ _ u8)).trans u8
        have u9 := (hz.cell (World.block_lt_of_cell? _ _ u9)).trans u9
        have u10 := (hz.cell (World.block_lt_of_cell? _ _ u10)).trans u10
        have u11 := (hz.cell (World.block_lt_of_cell? _ _ u11)).trans u11
        have u12 := (hz.cell (World.block_lt_of_cell? _ _ u12)).trans u12
        clear y4 hz
        clear h0
        refine wpOp_step rfl (fun K' hK => ?_)
        go_simp
        exact hK _ _ ⟨.agg #[.int .i64 r.epoch, .int .i64 (r.count + (r.ready.length : Int)), .bool r.live, .int .i64 r.inn.epoch, .int .i64 r.inn.expect, .slice a1x r.inn.held.length c1x, .slice b1x r.inn.part.length d1x, .bool r.str.opened, .slice a2x r.str.fields.length c2x, .int .i64 r.str.next, .slice b2x r.str.dicts.length d2x, .slice none 0 0, .int .i64 r.errors], (by simp [upd]), FX.eq_mk rfl, fun _ => Below.refl _ _, fun h => absurd h (by decide), hbx⟩
      · 
        try dsimp only
        clear h0
        refine wpOp_step rfl (fun K' hK => ?_)
        go_simp
        exact hK _ _ ⟨.pointer (some ⟨w.heap.size, 11, none⟩), (by simp [upd]), FX.eq_mk rfl, fun _ => Below.refl _ _, fun h => absurd h (by decide), hbx⟩
      · 
        try dsimp only
        have x1 := depX hdp 1 (by kernel_rfl)
        have d1 := hall 1 (by omega) x1
        have e1 : t 1 = .pointer (some ⟨w.heap.size, 11, none⟩) := d1.1
        rw [e1]
        have y4 := notYet hsh hxi 4 (by kernel_rfl)
        have hz : Below W6.heap.size W6 wx := hgx (by simp [y4])
        have q11 := (hz.cell (World.block_lt_of_cell? _ _ q11)).trans q11
        clear y4 hz
        clear h0
        refine wpOp_step rfl (fun K' hK => ?_)
        go_simp
        exact hK _ _ ⟨.slice a3 r.ready.length c3, (by simp [upd, e1]), FX.eq_mk rfl, fun _ => Below.refl _ _, fun h => absurd h (by decide), hbx⟩
      · 
        try dsimp only
        have x2 := depX hdp 2 (by kernel_rfl)
        have d2 := hall 2 (by omega) x2
        have e2 : t 2 = .slice a3 r.ready.length c3 := d2.1
        rw [e2]
        have y4 := notYet hsh hxi 4 (by kernel_rfl)
        have hz : Below W6.heap.size W6 wx := hgx (by simp [y4])
        have hsz := hz.size
        clear h0
        refine wpOp_step rfl (fun K' hK => ?_)
        go_simp
        refine (l6tables_any a3 c3 r.ready wx (HRT6.out.later hz) hT).mono ?_
        rintro e w2 ⟨v2, rfl, o2, b2⟩
        exact hK _ _ ⟨v2, (by simp [upd, e2]), FX.is_mk (o2.mono hsz), fun _ => b2, fun h => absurd h (by decide), below_chain hbx b2⟩
      · 
        try dsimp only
        have x0 := depX hdp 0 (by kernel_rfl)
        have d0 := hall 0 (by omega) x0
        have e0 : t 0 = .agg #[.int .i64 r.epoch, .int .i64 (r.count + (r.ready.length : Int)), .bool r.live, .int .i64 r.inn.epoch, .int .i64 r.inn.expect, .slice a1x r.inn.held.length c1x, .slice b1x r.inn.part.length d1x, .bool r.str.opened, .slice a2x r.str.fields.length c2x, .int .i64 r.str.next, .slice b2x r.str.dicts.length d2x, .slice none 0 0, .int .i64 r.errors] := d0.1
        have x3 := depX hdp 3 (by kernel_rfl)
        have d3 := hall 3 (by omega) x3
        rw [e0]
        have hz : Below W6.heap.size W6 wx := hgx (by simp [hxi])
        have hb1 := (hz.block _ HG1.out).trans HL6.out
        have g0 := cell_of_row wx _ 0 _ _ _ hb1
        have g1 := cell_of_row wx _ 1 _ _ _ hb1
        have g2 := cell_of_row wx _ 2 _ _ _ hb1
        have g3 := cell_of_row wx _ 3 _ _ _ hb1
        have g4 := cell_of_row wx _ 4 _ _ _ hb1
        have g5 := cell_of_row wx _ 5 _ _ _ hb1
        have g6 := cell_of_row wx _ 6 _ _ _ hb1
        have g7 := cell_of_row wx _ 7 _ _ _ hb1
        have g8 := cell_of_row wx _ 8 _ _ _ hb1
        have g9 := cell_of_row wx _ 9 _ _ _ hb1
        have g10 := cell_of_row wx _ 10 _ _ _ hb1
        have g11 := cell_of_row wx _ 11 _ _ _ hb1
        have g12 := cell_of_row wx _ 12 _ _ _ hb1
        have z0 := frozen_of_row wx _ 0 _ _ hb1
        have z1 := frozen_of_row wx _ 1 _ _ hb1
        have z2 := frozen_of_row wx _ 2 _ _ hb1
        have z3 := frozen_of_row wx _ 3 _ _ hb1
        have z4 := frozen_of_row wx _ 4 _ _ hb1
        have z5 := frozen_of_row wx _ 5 _ _ hb1
        have z6 := frozen_of_row wx _ 6 _ _ hb1
        have z7 := frozen_of_row wx _ 7 _ _ hb1
        have z8 := frozen_of_row wx _ 8 _ _ hb1
        have z9 := frozen_of_row wx _ 9 _ _ hb1
        have z10 := frozen_of_row wx _ 10 _ _ hb1
        have z11 := frozen_of_row wx _ 11 _ _ hb1
        have z12 := frozen_of_row wx _ 12 _ _ hb1
        simp only [List.getElem?_toArray, List.getElem?_cons_zero, List.getElem?_cons_succ] at g0 g1 g2 g3 g4 g5 g6 g7 g8 g9 g10 g11 g12
        have HB1X := hid hb1
        have HZ := hid hz
        clear hb1 hz
        clear h0
        refine wpOp_step rfl (fun K' hK => ?_)
        go_simp
        exact hK _ _ ⟨undef, (by simp [upd, e0]), FX.is_mk ⟨by simp; exact HZ.out.size, fun k h1 h2 => (set13o h1).trans (HZ.out.block k h2), set13 HB1X.out⟩, fun h => absurd (by simp) h, fun _ b hb => set13o (by have := HG1.out; omega), set13b hbx (by omega)⟩
      · 
        try dsimp only
        have x3 := depX hdp 3 (by kernel_rfl)
        have d3 := hall 3 (by omega) x3
        have f3 : RowT tkTable 111 W6.heap.size wx (t 3) r.ready := FX.is_of d3
        clear h0
        refine wpOp_step rfl (fun K' hK => ?_)
        go_simp
        exact hK _ _ ⟨t 3, (by simp [upd]), FX.is_mk f3, fun _ => Below.refl _ _, fun h => absurd h (by decide), hbx⟩
      · 
        try dsimp only
        clear h0
        refine wpOp_step rfl (fun K' hK => ?_)
        go_simp
        exact hK _ _ ⟨.int .i64 0, (by simp [upd]), FX.eq_mk rfl, fun _ => Below.refl _ _, fun h => absurd h (by decide), hbx⟩
    · intro x t wx hx hbx hall
      obtain ⟨h9s, h9k, h9b⟩ : (fcBxP W6 (w.heap.size + 1) #[.int .i64 r.epoch, .int .i64 (r.count + (r.ready.length : Int)), .bool r.live, .int .i64 r.inn.epoch, .int .i64 r.inn.expect, .slice a1x r.inn.held.length c1x, .slice b1x r.inn.part.length d1x, .bool r.str.opened, .slice a2x r.str.fields.length c2x, .int .i64 r.str.next, .slice b2x r.str.dicts.length d2x, .slice none 0 0, .int .i64 r.errors]).p (t 4) wx := FX.is_of (hall 4 (by omega))
      have h5 : RowT tkTable 111 W6.heap.size wx (t 5) r.ready := FX.is_of (hall 5 (by omega))
      obtain ⟨a4, c4, e5⟩ := h5.slice
      rw [e5] at h5
      have e6 : t 6 = .int .i64 0 := (hall 6 (by omega)).1
      have HB9 := hid h9b
      have HRC := hid (HC6.out wx (fun b h1 h2 => h9k b h1 (by omega))).rd
      have H5 := hid h5.rd
      have HBX := hid hbx
      clear hall hbx h9b h9k h5 hx
      try dsimp only
      rw [e5, e6]
      repeat go_step
      refine bodyPost_ret (results_cell_row_tmp2 rfl _ _ (w.heap.size + 1) 43 #[.int .i64 r.epoch, .int .i64 (r.count + (r.ready.length : Int)), .bool r.live, .int .i64 r.inn.epoch, .int .i64 r.inn.expect, .slice a1x r.inn.held.length c1x, .slice b1x r.inn.part.length d1x, .bool r.str.opened, .slice a2x r.str.fields.length c2x, .int .i64 r.str.next, .slice b2x r.str.dicts.length d2x, .slice none 0 0, .int .i64 r.errors] (0, 0) _ rfl HB9.out Tryz.underlying43 rfl (by kernel_rfl)) rfl ?_
      rw [HD.out.1, HD.out.2.1, HD.out.2.2]
      exact ⟨a1x, c1x, b1x, d1x, a2x, c2x, b2x, d2x, none, 0, a4, c4, rfl, ⟨HRC.out.i, HRC.out.s, RdSl.empty none⟩, H5.out, HBX.out⟩
end Go.Proofs.YtfaehioeepolhaaGreat
