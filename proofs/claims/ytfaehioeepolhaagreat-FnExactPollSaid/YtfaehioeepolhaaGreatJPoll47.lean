import Derived.Test.YtfaehioeepolhaaGreatJPoll43
import Derived.Test.YtfaehioeepolhaaGreatJPoll32
import Derived.Test.YtfaehioeepolhaaGreatJPoll46
namespace Go.Proofs.YtfaehioeepolhaaGreat
open Go.RowKit
set_option maxRecDepth 100000 in
set_option maxHeartbeats 8000000 in
theorem implPoll_any (r : PRcv) (a1 b1 a2 b2 a3 : Option Addr) (c1 d1 c2 d2 c3 : Nat) (w : World) (hr : RdRcv w r a1 c1 b1 d1 a2 c2 b2 d2 a3 c3) (ht : tRcv r ≤ 1048576) :
    Calls Tryz.prog 31 #[.agg #[.int .i64 r.epoch, .int .i64 r.count, .bool r.live, .int .i64 r.inn.epoch, .int .i64 r.inn.expect, .slice a1 r.inn.held.length c1, .slice b1 r.inn.part.length d1, .bool r.str.opened, .slice a2 r.str.fields.length c2, .int .i64 r.str.next, .slice b2 r.str.dicts.length d2, .slice a3 r.ready.length c3, .int .i64 r.errors]] w fun e w' => ∃ a1x c1x b1x d1x a2x c2x b2x d2x a3x c3x a4 c4 bi di bs ds ts t4, e = .returned (.tuple #[.agg #[.int .i64 (plR r).epoch, .int .i64 (plR r).count, .bool (plR r).live, .int .i64 (plR r).inn.epoch, .int .i64 (plR r).inn.expect, .slice a1x (plR r).inn.held.length c1x, .slice b1x (plR r).inn.part.length d1x, .bool (plR r).str.opened, .slice a2x (plR r).str.fields.length c2x, .int .i64 (plR r).str.next, .slice b2x (plR r).str.dicts.length d2x, .slice a3x (plR r).ready.length c3x, .int .i64 (plR r).errors], .slice a4 (plT r).length c4, .int .i64 (plK r)]) ∧ OwnRcv w' (plR r) a1x c1x b1x d1x a2x c2x b2x d2x a3x c3x bi di bs ds ts ∧ OwnSl cTable 111 w' (plT r) (.slice a4 (plT r).length c4) t4 ∧ (∀ y ∈ ((bi ++ di) ++ ((bs ++ ds) ++ ts)) ++ t4, w.heap.size ≤ y) ∧ (((bi ++ di) ++ ((bs ++ ds) ++ ts)) ++ t4).Nodup ∧ Below w.heap.size w w' := by
  have HR := hid hr
  clear hr
  have hlen : r.ready.length ≤ 1048576 := by unfold tRcv totL at ht; omega
  have HK0 : Hid (((w.alloc (.cells #[.int .i64 r.epoch, .int .i64 r.count, .bool r.live, .int .i64 r.inn.epoch, .int .i64 r.inn.expect, .slice a1 r.inn.held.length c1, .slice b1 r.inn.part.length d1, .bool r.str.opened, .slice a2 r.str.fields.length c2, .int .i64 r.str.next, .slice b2 r.str.dicts.length d2, .slice a3 r.ready.length c3, .int .i64 r.errors] 43)).alloc (.cells #[.int .i64 0, .int .i64 0, .bool false, .int .i64 0, .int .i64 0, .slice none 0 0, .slice none 0 0, .bool false, .slice none 0 0, .int .i64 0, .slice none 0 0, .slice none 0 0, .int .i64 0] 43)).heap[w.heap.size]? = some (.cells #[.int .i64 r.epoch, .int .i64 r.count, .bool r.live, .int .i64 r.inn.epoch, .int .i64 r.inn.expect, .slice a1 r.inn.held.length c1, .slice b1 r.inn.part.length d1, .bool r.str.opened, .slice a2 r.str.fields.length c2, .int .i64 r.str.next, .slice b2 r.str.dicts.length d2, .slice a3 r.ready.length c3, .int .i64 r.errors] 43 (0, 0))) := hid (heap2 _ _ (Below.refl _ _)).1
  have HL0 : Hid (((w.alloc (.cells #[.int .i64 r.epoch, .int .i64 r.count, .bool r.live, .int .i64 r.inn.epoch, .int .i64 r.inn.expect, .slice a1 r.inn.held.length c1, .slice b1 r.inn.part.length d1, .bool r.str.opened, .slice a2 r.str.fields.length c2, .int .i64 r.str.next, .slice b2 r.str.dicts.length d2, .slice a3 r.ready.length c3, .int .i64 r.errors] 43)).alloc (.cells #[.int .i64 0, .int .i64 0, .bool false, .int .i64 0, .int .i64 0, .slice none 0 0, .slice none 0 0, .bool false, .slice none 0 0, .int .i64 0, .slice none 0 0, .slice none 0 0, .int .i64 0] 43)).heap[w.heap.size + 1]? = some (.cells #[.int .i64 0, .int .i64 0, .bool false, .int .i64 0, .int .i64 0, .slice none 0 0, .slice none 0 0, .bool false, .slice none 0 0, .int .i64 0, .slice none 0 0, .slice none 0 0, .int .i64 0] 43 (0, 0))) := hid (heap2 _ _ (Below.refl _ _)).2
  have HB0 := hid (below_new2 w (.cells #[.int .i64 r.epoch, .int .i64 r.count, .bool r.live, .int .i64 r.inn.epoch, .int .i64 r.inn.expect, .slice a1 r.inn.held.length c1, .slice b1 r.inn.part.length d1, .bool r.str.opened, .slice a2 r.str.fields.length c2, .int .i64 r.str.next, .slice b2 r.str.dicts.length d2, .slice a3 r.ready.length c3, .int .i64 r.errors] 43) (.cells #[.int .i64 0, .int .i64 0, .bool false, .int .i64 0, .int .i64 0, .slice none 0 0, .slice none 0 0, .bool false, .slice none 0 0, .int .i64 0, .slice none 0 0, .slice none 0 0, .int .i64 0] 43))
  have HSZ := hid (size2 w (.cells #[.int .i64 r.epoch, .int .i64 r.count, .bool r.live, .int .i64 r.inn.epoch, .int .i64 r.inn.expect, .slice a1 r.inn.held.length c1, .slice b1 r.inn.part.length d1, .bool r.str.opened, .slice a2 r.str.fields.length c2, .int .i64 r.str.next, .slice b2 r.str.dicts.length d2, .slice a3 r.ready.length c3, .int .i64 r.errors] 43) (.cells #[.int .i64 0, .int .i64 0, .bool false, .int .i64 0, .int .i64 0, .slice none 0 0, .slice none 0 0, .bool false, .slice none 0 0, .int .i64 0, .slice none 0 0, .slice none 0 0, .int .i64 0] 43))
  go_enter Tryz.func31, Tryz.ntmps31
  go_upto_region 1 with fail
  generalize ((w.alloc (.cells #[.int .i64 r.epoch, .int .i64 r.count, .bool r.live, .int .i64 r.inn.epoch, .int .i64 r.inn.expect, .slice a1 r.inn.held.length c1, .slice b1 r.inn.part.length d1, .bool r.str.opened, .slice a2 r.str.fields.length c2, .int .i64 r.str.next, .slice b2 r.str.dicts.length d2, .slice a3 r.ready.length c3, .int .i64 r.errors] 43)).alloc (.cells #[.int .i64 0, .int .i64 0, .bool false, .int .i64 0, .int .i64 0, .slice none 0 0, .slice none 0 0, .bool false, .slice none 0 0, .int .i64 0, .slice none 0 0, .slice none 0 0, .int .i64 0] 43)) = W0 at *
  have p0 := cell_of_row _ _ 0 _ _ _ HK0.out
  have p1 := cell_of_row _ _ 1 _ _ _ HK0.out
  have p2 := cell_of_row _ _ 2 _ _ _ HK0.out
  have p3 := cell_of_row _ _ 3 _ _ _ HK0.out
  have p4 := cell_of_row _ _ 4 _ _ _ HK0.out
  have p5 := cell_of_row _ _ 5 _ _ _ HK0.out
  have p6 := cell_of_row _ _ 6 _ _ _ HK0.out
  have p7 := cell_of_row _ _ 7 _ _ _ HK0.out
  have p8 := cell_of_row _ _ 8 _ _ _ HK0.out
  have p9 := cell_of_row _ _ 9 _ _ _ HK0.out
  have p10 := cell_of_row _ _ 10 _ _ _ HK0.out
  have p11 := cell_of_row _ _ 11 _ _ _ HK0.out
  have p12 := cell_of_row _ _ 12 _ _ _ HK0.out
  simp only [List.getElem?_toArray, List.getElem?_cons_zero, List.getElem?_cons_succ] at p0 p1 p2 p3 p4 p5 p6 p7 p8 p9 p10 p11 p12
  go_wp2_with fail
  refine (implRcv_any r a1 b1 a2 b2 a3 c1 d1 c2 d2 c3 W0 (HR.out.later HB0.out) ht).mono ?_
  rintro e w2 ⟨rfl, bl2⟩
  have HK2 := hid (boxR HK0.out bl2)
  have HL2 := hid (boxR HL0.out bl2)
  have HB2 := hid (below_chain HB0.out bl2)
  have hs2 := bl2.size
  have hsz := HSZ.out
  clear bl2 p0 p1 p2 p3 p4 p5 p6 p7 p8 p9 p10 p11 p12
  cases hok : rcvOK r with
  | false =>
    have HD := hid (pl_no hok)
    clear hok
    have q0 := cell_of_row _ _ 0 _ _ _ HL2.out
    have zq0 := frozen_of_row _ _ 0 _ _ HL2.out
    have q1 := cell_of_row _ _ 1 _ _ _ HL2.out
    have zq1 := frozen_of_row _ _ 1 _ _ HL2.out
    have q2 := cell_of_row _ _ 2 _ _ _ HL2.out
    have zq2 := frozen_of_row _ _ 2 _ _ HL2.out
    have q3 := cell_of_row _ _ 3 _ _ _ HL2.out
    have zq3 := frozen_of_row _ _ 3 _ _ HL2.out
    have q4 := cell_of_row _ _ 4 _ _ _ HL2.out
    have zq4 := frozen_of_row _ _ 4 _ _ HL2.out
    have q5 := cell_of_row _ _ 5 _ _ _ HL2.out
    have zq5 := frozen_of_row _ _ 5 _ _ HL2.out
    have q6 := cell_of_row _ _ 6 _ _ _ HL2.out
    have zq6 := frozen_of_row _ _ 6 _ _ HL2.out
    have q7 := cell_of_row _ _ 7 _ _ _ HL2.out
    have zq7 := frozen_of_row _ _ 7 _ _ HL2.out
    have q8 := cell_of_row _ _ 8 _ _ _ HL2.out
    have zq8 := frozen_of_row _ _ 8 _ _ HL2.out
    have q9 := cell_of_row _ _ 9 _ _ _ HL2.out
    have zq9 := frozen_of_row _ _ 9 _ _ HL2.out
    have q10 := cell_of_row _ _ 10 _ _ _ HL2.out
    have zq10 := frozen_of_row _ _ 10 _ _ HL2.out
    have q11 := cell_of_row _ _ 11 _ _ _ HL2.out
    have zq11 := frozen_of_row _ _ 11 _ _ HL2.out
    have q12 := cell_of_row _ _ 12 _ _ _ HL2.out
    have zq12 := frozen_of_row _ _ 12 _ _ HL2.out
    simp only [List.getElem?_toArray, List.getElem?_cons_zero, List.getElem?_cons_succ] at q0 q1 q2 q3 q4 q5 q6 q7 q8 q9 q10 q11 q12
    go_wp2
    refine bodyPost_ret (results_cell_row_tmp2 rfl _ _ (w.heap.size + 1) 43 #[.int .i64 0, .int .i64 0, .bool false, .int .i64 0, .int .i64 0, .slice none 0 0, .slice none 0 0, .bool false, .slice none 0 0, .int .i64 0, .slice none 0 0, .slice none 0 0, .int .i64 0] (0, 0) _ rfl (set13 HL2.out) Tryz.underlying43 rfl (by kernel_rfl)) rfl ?_
    rw [HD.out.1, HD.out.2.1, HD.out.2.2]
    exact ⟨none, 0, none, 0, none, 0, none, 0, none, 0, none, 0, [], [], [], [], [], [], rfl, ⟨⟨.inl ⟨rfl, rfl, rfl⟩, .inl ⟨rfl, rfl, rfl⟩⟩, ⟨.inl ⟨rfl, rfl, rfl⟩, .inl ⟨rfl, rfl, rfl⟩⟩, .inl ⟨rfl, rfl, rfl⟩⟩, .inl ⟨rfl, rfl, rfl⟩, by simp, by simp, set13b HB2.out (by omega)⟩
  | true =>
    have HD := hid (pl_yes hok)
    have hcn := pl_count hok
    clear hok
    have p0 := cell_of_row _ _ 0 _ _ _ HK2.out
    have p1 := cell_of_row _ _ 1 _ _ _ HK2.out
    have p2 := cell_of_row _ _ 2 _ _ _ HK2.out
    have p3 := cell_of_row _ _ 3 _ _ _ HK2.out
    have p4 := cell_of_row _ _ 4 _ _ _ HK2.out
    have p5 := cell_of_row _ _ 5 _ _ _ HK2.out
    have p6 := cell_of_row _ _ 6 _ _ _ HK2.out
    have p7 := cell_of_row _ _ 7 _ _ _ HK2.out
    have p8 := cell_of_row _ _ 8 _ _ _ HK2.out
    have p9 := cell_of_row _ _ 9 _ _ _ HK2.out
    have p10 := cell_of_row _ _ 10 _ _ _ HK2.out
    have p11 := cell_of_row _ _ 11 _ _ _ HK2.out
    have p12 := cell_of_row _ _ 12 _ _ _ HK2.out
    simp only [List.getElem?_toArray, List.getElem?_cons_zero, List.getElem?_cons_succ] at p0 p1 p2 p3 p4 p5 p6 p7 p8 p9 p10 p11 p12
    go_wp2_with fail
    refine (copyReceiver_any r a1 b1 a2 b2 a3 c1 d1 c2 d2 c3 w2 (HR.out.later HB2.out) ht).mono ?_
    rintro e w3 ⟨a1x, c1x, b1x, d1x, a2x, c2x, b2x, d2x, a3x, c3x, bi, di, bs, ds, ts, rfl, oc, lc, nc, bl3⟩
    have HL3 := hid (boxR HL2.out bl3)
    have hs3 := bl3.size
    have HB3 := hid (below_chain HB2.out bl3)
    clear p0 p1 p2 p3 p4 p5 p6 p7 p8 p9 p10 p11 p12
    have HM4 : Hid ((w3.alloc (.cells #[.int .i64 r.epoch, .int .i64 r.count, .bool r.live, .int .i64 r.inn.epoch, .int .i64 r.inn.expect, .slice a1x r.inn.held.length c1x, .slice b1x r.inn.part.length d1x, .bool r.str.opened, .slice a2x r.str.fields.length c2x, .int .i64 r.str.next, .slice b2x r.str.dicts.length d2x, .slice a3x r.ready.length c3x, .int .i64 r.errors] 43)).heap[w3.heap.size]? = some (.cells #[.int .i64 r.epoch, .int .i64 r.count, .bool r.live, .int .i64 r.inn.epoch, .int .i64 r.inn.expect, .slice a1x r.inn.held.length c1x, .slice b1x r.inn.part.length d1x, .bool r.str.opened, .slice a2x r.str.fields.length c2x, .int .i64 r.str.next, .slice b2x r.str.dicts.length d2x, .slice a3x r.ready.length c3x, .int .i64 r.errors] 43 (0, 0))) := hid (heap_alloc_new w3 _)
    have hb4 := below_new1 w3 (.cells #[.int .i64 r.epoch, .int .i64 r.count, .bool r.live, .int .i64 r.inn.epoch, .int .i64 r.inn.expect, .slice a1x r.inn.held.length c1x, .slice b1x r.inn.part.length d1x, .bool r.str.opened, .slice a2x r.str.fields.length c2x, .int .i64 r.str.next, .slice b2x r.str.dicts.length d2x, .slice a3x r.ready.length c3x, .int .i64 r.errors] 43)
    have HL4 := hid (boxR HL3.out hb4)
    have HB4 := hid (below_chain HB3.out hb4)
    have HC3 := hid oc
    have HLC := hid lc
    have HNC := hid nc
    have HB34 := hid hb4
    go_upto_region 4 with fail
    generalize (w3.alloc (.cells #[.int .i64 r.epoch, .int .i64 r.count, .bool r.live, .int .i64 r.inn.epoch, .int .i64 r.inn.expect, .slice a1x r.inn.held.length c1x, .slice b1x r.inn.part.length d1x, .bool r.str.opened, .slice a2x r.str.fields.length c2x, .int .i64 r.str.next, .slice b2x r.str.dicts.length d2x, .slice a3x r.ready.length c3x, .int .i64 r.errors] 43)) = W4 at *
    clear oc lc nc bl3 hb4 HL3 HK2
    have u1 := cell_of_row _ _ 1 _ _ _ HM4.out
    have zu1 := frozen_of_row _ _ 1 _ _ HM4.out
    have u11 := cell_of_row _ _ 11 _ _ _ HM4.out
    have zu11 := frozen_of_row _ _ 11 _ _ HM4.out
    simp only [List.getElem?_toArray, List.getElem?_cons_zero, List.getElem?_cons_succ] at u1 u11
    have HM5 := hid (set13Ct (y1 := .int .i64 (r.count + (r.ready.length : Int))) HM4.out)
    have HM6 := hid (set13Rd (y11 := .slice none 0 0) HM5.out)
    have hKx : ∀ b, b ≠ w3.heap.size → ((W4.setCell ⟨w3.heap.size, 1, none⟩ (.int .i64 (r.count + (r.ready.length : Int)))).setCell ⟨w3.heap.size, 11, none⟩ (.slice none 0 0)).heap[b]? = W4.heap[b]? := fun b hb => (set13Rdo (y11 := .slice none 0 0) hb).trans (set13Cto (y1 := .int .i64 (r.count + (r.ready.length : Int))) hb)
    have HL6 := hid ((hKx (w.heap.size + 1) (by omega)).trans HL4.out)
    have HB6 := hid (set13Rdb (g := w3.heap.size) (y11 := .slice none 0 0) (set13Ctb (g := w3.heap.size) (y1 := .int .i64 (r.count + (r.ready.length : Int))) HB4.out (by omega)) (by omega))
    have HC6 : Hid (∀ b, b < w3.heap.size → ((W4.setCell ⟨w3.heap.size, 1, none⟩ (.int .i64 (r.count + (r.ready.length : Int)))).setCell ⟨w3.heap.size, 11, none⟩ (.slice none 0 0)).heap[b]? = w3.heap[b]?) := hid (fun b h2 => (hKx b (by omega)).trans (HB34.out.block b h2))
    clear hKx
    go_upto_region 7 with fail
    generalize ((W4.setCell ⟨w3.heap.size, 1, none⟩ (.int .i64 (r.count + (r.ready.length : Int)))).setCell ⟨w3.heap.size, 11, none⟩ (.slice none 0 0)) = W6 at *
    clear u1 zu1 u11 zu11
    have u0 := cell_of_row _ _ 0 _ _ _ HM6.out
    have u1 := cell_of_row _ _ 1 _ _ _ HM6.out
    have u2 := cell_of_row _ _ 2 _ _ _ HM6.out
    have u3 := cell_of_row _ _ 3 _ _ _ HM6.out
    have u4 := cell_of_row _ _ 4 _ _ _ HM6.out
    have u5 := cell_of_row _ _ 5 _ _ _ HM6.out
    have u6 := cell_of_row _ _ 6 _ _ _ HM6.out
    have u7 := cell_of_row _ _ 7 _ _ _ HM6.out
    have u8 := cell_of_row _ _ 8 _ _ _ HM6.out
    have u9 := cell_of_row _ _ 9 _ _ _ HM6.out
    have u10 := cell_of_row _ _ 10 _ _ _ HM6.out
    have u11 := cell_of_row _ _ 11 _ _ _ HM6.out
    have u12 := cell_of_row _ _ 12 _ _ _ HM6.out
    simp only [List.getElem?_toArray, List.getElem?_cons_zero, List.getElem?_cons_succ] at u0 u1 u2 u3 u4 u5 u6 u7 u8 u9 u10 u11 u12
    have q0 := cell_of_row _ _ 0 _ _ _ HL6.out
    have zq0 := frozen_of_row _ _ 0 _ _ HL6.out
    have q1 := cell_of_row _ _ 1 _ _ _ HL6.out
    have zq1 := frozen_of_row _ _ 1 _ _ HL6.out
    have q2 := cell_of_row _ _ 2 _ _ _ HL6.out
    have zq2 := frozen_of_row _ _ 2 _ _ HL6.out
    have q3 := cell_of_row _ _ 3 _ _ _ HL6.out
    have zq3 := frozen_of_row _ _ 3 _ _ HL6.out
    have q4 := cell_of_row _ _ 4 _ _ _ HL6.out
    have zq4 := frozen_of_row _ _ 4 _ _ HL6.out
    have q5 := cell_of_row _ _ 5 _ _ _ HL6.out
    have zq5 := frozen_of_row _ _ 5 _ _ HL6.out
    have q6 := cell_of_row _ _ 6 _ _ _ HL6.out
    have zq6 := frozen_of_row _ _ 6 _ _ HL6.out
    have q7 := cell_of_row _ _ 7 _ _ _ HL6.out
    have zq7 := frozen_of_row _ _ 7 _ _ HL6.out
    have q8 := cell_of_row _ _ 8 _ _ _ HL6.out
    have zq8 := frozen_of_row _ _ 8 _ _ HL6.out
    have q9 := cell_of_row _ _ 9 _ _ _ HL6.out
    have zq9 := frozen_of_row _ _ 9 _ _ HL6.out
    have q10 := cell_of_row _ _ 10 _ _ _ HL6.out
    have zq10 := frozen_of_row _ _ 10 _ _ HL6.out
    have q11 := cell_of_row _ _ 11 _ _ _ HL6.out
    have zq11 := frozen_of_row _ _ 11 _ _ HL6.out
    have q12 := cell_of_row _ _ 12 _ _ _ HL6.out
    have zq12 := frozen_of_row _ _ 12 _ _ HL6.out
    simp only [List.getElem?_toArray, List.getElem?_cons_zero, List.getElem?_cons_succ] at q0 q1 q2 q3 q4 q5 q6 q7 q8 q9 q10 q11 q12
    go_wp2
    refine bodyPost_ret (results_cell_row_tmp2 rfl _ _ (w.heap.size + 1) 43 #[.int .i64 r.epoch, .int .i64 (r.count + (r.ready.length : Int)), .bool r.live, .int .i64 r.inn.epoch, .int .i64 r.inn.expect, .slice a1x r.inn.held.length c1x, .slice b1x r.inn.part.length d1x, .bool r.str.opened, .slice a2x r.str.fields.length c2x, .int .i64 r.str.next, .slice b2x r.str.dicts.length d2x, .slice none 0 0, .int .i64 r.errors] (0, 0) _ rfl (set13 HL6.out) Tryz.underlying43 rfl (by kernel_rfl)) rfl ?_
    rw [HD.out.1, HD.out.2.1, HD.out.2.2]
    refine ⟨a1x, c1x, b1x, d1x, a2x, c2x, b2x, d2x, none, 0, a3x, c3x, bi, di, bs, ds, [], ts, rfl, ⟨keptI HC3.out.i (fun x hx => (set13o (by have := HLC.out x (List.mem_append_left _ hx); omega)).trans (HC6.out x (ltI HC3.out.i x hx))), keptS HC3.out.s (fun x hx => (set13o (by have := HLC.out x (List.mem_append_right _ (List.mem_append_left _ hx)); omega)).trans (HC6.out x (ltS HC3.out.s x hx))), .inl ⟨rfl, rfl, rfl⟩⟩, HC3.out.t.kept (fun x hx => (set13o (by have := HLC.out x (List.mem_append_right _ (List.mem_append_right _ hx)); omega)).trans (HC6.out x (HC3.out.t.lt x hx))), ?_, ?_, set13b HB6.out (by omega)⟩
    · intro x hx
      rw [List.append_nil, List.append_assoc] at hx
      have := HLC.out x hx
      omega
    · rw [List.append_nil, List.append_assoc]
      exact HNC.out
end Go.Proofs.YtfaehioeepolhaaGreat
