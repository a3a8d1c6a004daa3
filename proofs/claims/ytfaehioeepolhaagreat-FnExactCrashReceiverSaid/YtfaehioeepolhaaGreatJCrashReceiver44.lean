import Derived.Test.YtfaehioeepolhaaGreatJCrashReceiver1
import Derived.Test.YtfaehioeepolhaaGreatJCrashReceiver39
import Derived.Test.YtfaehioeepolhaaGreatJCrashReceiver43
namespace Go.Proofs.YtfaehioeepolhaaGreat
open Go.RowKit
theorem results_cell_row_tmpD {P : Program} {fn : Func} {p u : Tmp} {ty : TypeId} (h : fn.results = #[.cell p ty, .tmp u]) (tmps : Array Value) (w : World) (g : Nat) (t : TypeId) (cs : Array Value) (fr : Nat × Nat) (d : TypeDesc)
    (hp : tmps.getD p undef = .pointer (some ⟨g, 0, none⟩)) (hg : w.heap[g]? = some (.cells cs t fr))
    (hu : P.underlying ty = some d) (hd : (match d with | .struct _ | .array _ _ => true | _ => false) = true) (hi : (P.info? ty).map (·.size) = some cs.size) :
    (results fn tmps).run P w = .ok (.tuple #[.agg cs, tmps.getD u undef]) w := by
  rw [results_cell_tmp h, hp]
  simp [asAddr, run_loadVar_row w g t ty cs fr d hg hu hd hi]
end Go.Proofs.YtfaehioeepolhaaGreat
namespace Go.Proofs.YtfaehioeepolhaaGreat
open Go.RowKit
def crE (r : PRcv) : Int := if rcvOK r = true then r.epoch else 0
def crC (r : PRcv) : Int := if rcvOK r = true then r.count else 0
def crK (r : PRcv) : Int := if rcvOK r = true then 0 else 1
theorem cr_no {r : PRcv} (h : rcvOK r = false) : crE r = 0 ∧ crC r = 0 ∧ crK r = 1 := by unfold crE crC crK; rw [h]; exact ⟨rfl, rfl, rfl⟩
theorem cr_yes {r : PRcv} (h : rcvOK r = true) : crE r = r.epoch ∧ crC r = r.count ∧ crK r = 0 := by unfold crE crC crK; rw [h]; exact ⟨rfl, rfl, rfl⟩
set_option maxRecDepth 100000 in
set_option maxHeartbeats 8000000 in
theorem specCrR_any (r : PRcv) (a1 b1 a2 b2 a3 : Option Addr) (c1 d1 c2 d2 c3 : Nat) (w : World) (hr : RdRcv w r a1 c1 b1 d1 a2 c2 b2 d2 a3 c3) (ht : tRcv r ≤ 1048576) :
    Calls Tryz.prog 26 #[.agg #[.int .i64 r.epoch, .int .i64 r.count, .bool r.live, .int .i64 r.inn.epoch, .int .i64 r.inn.expect, .slice a1 r.inn.held.length c1, .slice b1 r.inn.part.length d1, .bool r.str.opened, .slice a2 r.str.fields.length c2, .int .i64 r.str.next, .slice b2 r.str.dicts.length d2, .slice a3 r.ready.length c3, .int .i64 r.errors]] w fun e w' => e = .returned (.tuple #[.agg #[.int .i64 (crE r), .int .i64 (crC r), .bool false, .int .i64 0, .int .i64 0, .slice none 0 0, .slice none 0 0, .bool false, .slice none 0 0, .int .i64 0, .slice none 0 0, .slice none 0 0, .int .i64 0], .int .i64 (crK r)]) ∧ Below w.heap.size w w' := by
  have HR := hid hr
  clear hr
  have HK0 : Hid (((w.alloc (.cells #[.int .i64 r.epoch, .int .i64 r.count, .bool r.live, .int .i64 r.inn.epoch, .int .i64 r.inn.expect, .slice a1 r.inn.held.length c1, .slice b1 r.inn.part.length d1, .bool r.str.opened, .slice a2 r.str.fields.length c2, .int .i64 r.str.next, .slice b2 r.str.dicts.length d2, .slice a3 r.ready.length c3, .int .i64 r.errors] 43)).alloc (.cells #[.int .i64 0, .int .i64 0, .bool false, .int .i64 0, .int .i64 0, .slice none 0 0, .slice none 0 0, .bool false, .slice none 0 0, .int .i64 0, .slice none 0 0, .slice none 0 0, .int .i64 0] 43)).heap[w.heap.size]? = some (.cells #[.int .i64 r.epoch, .int .i64 r.count, .bool r.live, .int .i64 r.inn.epoch, .int .i64 r.inn.expect, .slice a1 r.inn.held.length c1, .slice b1 r.inn.part.length d1, .bool r.str.opened, .slice a2 r.str.fields.length c2, .int .i64 r.str.next, .slice b2 r.str.dicts.length d2, .slice a3 r.ready.length c3, .int .i64 r.errors] 43 (0, 0))) := hid (heap2 _ _ (Below.refl _ _)).1
  have HL0 : Hid (((w.alloc (.cells #[.int .i64 r.epoch, .int .i64 r.count, .bool r.live, .int .i64 r.inn.epoch, .int .i64 r.inn.expect, .slice a1 r.inn.held.length c1, .slice b1 r.inn.part.length d1, .bool r.str.opened, .slice a2 r.str.fields.length c2, .int .i64 r.str.next, .slice b2 r.str.dicts.length d2, .slice a3 r.ready.length c3, .int .i64 r.errors] 43)).alloc (.cells #[.int .i64 0, .int .i64 0, .bool false, .int .i64 0, .int .i64 0, .slice none 0 0, .slice none 0 0, .bool false, .slice none 0 0, .int .i64 0, .slice none 0 0, .slice none 0 0, .int .i64 0] 43)).heap[w.heap.size + 1]? = some (.cells #[.int .i64 0, .int .i64 0, .bool false, .int .i64 0, .int .i64 0, .slice none 0 0, .slice none 0 0, .bool false, .slice none 0 0, .int .i64 0, .slice none 0 0, .slice none 0 0, .int .i64 0] 43 (0, 0))) := hid (heap2 _ _ (Below.refl _ _)).2
  have HB0 := hid (below_new2 w (.cells #[.int .i64 r.epoch, .int .i64 r.count, .bool r.live, .int .i64 r.inn.epoch, .int .i64 r.inn.expect, .slice a1 r.inn.held.length c1, .slice b1 r.inn.part.length d1, .bool r.str.opened, .slice a2 r.str.fields.length c2, .int .i64 r.str.next, .slice b2 r.str.dicts.length d2, .slice a3 r.ready.length c3, .int .i64 r.errors] 43) (.cells #[.int .i64 0, .int .i64 0, .bool false, .int .i64 0, .int .i64 0, .slice none 0 0, .slice none 0 0, .bool false, .slice none 0 0, .int .i64 0, .slice none 0 0, .slice none 0 0, .int .i64 0] 43))
  go_enter Tryz.func26, Tryz.ntmps26
  go_upto_region 1 with fail
  generalize ((w.alloc (.cells #[.int .i64 r.epoch, .int .i64 r.count, .bool r.live, .int .i64 r.inn.epoch, .int .i64 r.inn.expect, .slice a1 r.inn.held.length c1, .slice b1 r.inn.part.length d1, .bool r.str.opened, .slice a2 r.str.fields.length c2, .int .i64 r.str.next, .slice b2 r.str.dicts.length d2, .slice a3 r.ready.length c3, .int .i64 r.errors] 43)).alloc (.cells #[.int .i64 0, .int .i64 0, .bool false, .int .i64 0, .int .i64 0, .slice none 0 0, .slice none 0 0, .bool false, .slice none 0 0, .int .i64 0, .slice none 0 0, .slice none 0 0, .int .i64 0] 43)) = W0 at *
  have p0 := cell_of_row _ _ 0 _ _ _ HK0.out
  have p1 := cell_of_row _ _ 1 _ _ _ HK0.out
  have p2 := cell_of_row _ _ 2 _ _ _ HK0.out
  have p3 := cell_of_row _ _ 3 _ _ _ HK0.out
  have p4 := cell_of_row _ _ 4 _ _ _ HK0.out
  have p5 := cell_of_row _ _ 5 _ _ _ HK0.out
  have p6 := cell_of_row _ _ 6 _ _ _ HK0.out
  have p7 := cell_of_row _ _ 7 _ _ _ HK0.out
  have p8 := cell_of_row _ _ 8 _ _ _ HK0.out
  have p9 := cell_of_row _ _ 9 _ _ _ HK0.out
  have p10 := cell_of_row _ _ 10 _ _ _ HK0.out
  have p11 := cell_of_row _ _ 11 _ _ _ HK0.out
  have p12 := cell_of_row _ _ 12 _ _ _ HK0.out
  simp only [List.getElem?_toArray, List.getElem?_cons_zero, List.getElem?_cons_succ] at p0 p1 p2 p3 p4 p5 p6 p7 p8 p9 p10 p11 p12
  go_wp2_with fail
  refine (specRcv_any r a1 b1 a2 b2 a3 c1 d1 c2 d2 c3 W0 (HR.out.later HB0.out) ht).mono ?_
  rintro e w2 ⟨rfl, b2⟩
  have HK2 := hid (boxR HK0.out b2)
  have HL2 := hid (boxR HL0.out b2)
  have HB2 := hid (below_chain HB0.out b2)
  clear b2 p0 p1 p2 p3 p4 p5 p6 p7 p8 p9 p10 p11 p12
  have p0 := cell_of_row _ _ 0 _ _ _ HK2.out
  have p1 := cell_of_row _ _ 1 _ _ _ HK2.out
  simp only [List.getElem?_toArray, List.getElem?_cons_zero, List.getElem?_cons_succ] at p0 p1
  have q0 := cell_of_row _ _ 0 _ _ _ HL2.out
  have zq0 := frozen_of_row _ _ 0 _ _ HL2.out
  have q1 := cell_of_row _ _ 1 _ _ _ HL2.out
  have zq1 := frozen_of_row _ _ 1 _ _ HL2.out
  have q2 := cell_of_row _ _ 2 _ _ _ HL2.out
  have zq2 := frozen_of_row _ _ 2 _ _ HL2.out
  have q3 := cell_of_row _ _ 3 _ _ _ HL2.out
  have zq3 := frozen_of_row _ _ 3 _ _ HL2.out
  have q4 := cell_of_row _ _ 4 _ _ _ HL2.out
  have zq4 := frozen_of_row _ _ 4 _ _ HL2.out
  have q5 := cell_of_row _ _ 5 _ _ _ HL2.out
  have zq5 := frozen_of_row _ _ 5 _ _ HL2.out
  have q6 := cell_of_row _ _ 6 _ _ _ HL2.out
  have zq6 := frozen_of_row _ _ 6 _ _ HL2.out
  have q7 := cell_of_row _ _ 7 _ _ _ HL2.out
  have zq7 := frozen_of_row _ _ 7 _ _ HL2.out
  have q8 := cell_of_row _ _ 8 _ _ _ HL2.out
  have zq8 := frozen_of_row _ _ 8 _ _ HL2.out
  have q9 := cell_of_row _ _ 9 _ _ _ HL2.out
  have zq9 := frozen_of_row _ _ 9 _ _ HL2.out
  have q10 := cell_of_row _ _ 10 _ _ _ HL2.out
  have zq10 := frozen_of_row _ _ 10 _ _ HL2.out
  have q11 := cell_of_row _ _ 11 _ _ _ HL2.out
  have zq11 := frozen_of_row _ _ 11 _ _ HL2.out
  have q12 := cell_of_row _ _ 12 _ _ _ HL2.out
  have zq12 := frozen_of_row _ _ 12 _ _ HL2.out
  simp only [List.getElem?_toArray, List.getElem?_cons_zero, List.getElem?_cons_succ] at q0 q1 q2 q3 q4 q5 q6 q7 q8 q9 q10 q11 q12
  cases hok : rcvOK r with
  | false =>
    have HD := hid (cr_no hok)
    clear hok
    go_wp2
    refine bodyPost_ret (results_cell_row_tmpD rfl _ _ (w.heap.size + 1) 43 #[.int .i64 0, .int .i64 0, .bool false, .int .i64 0, .int .i64 0, .slice none 0 0, .slice none 0 0, .bool false, .slice none 0 0, .int .i64 0, .slice none 0 0, .slice none 0 0, .int .i64 0] (0, 0) _ rfl (set13 HL2.out) Tryz.underlying43 rfl (by kernel_rfl)) rfl ?_
    refine ⟨?_, set13b HB2.out (by omega)⟩
    rw [HD.out.1, HD.out.2.1, HD.out.2.2]
    rfl
  | true =>
    have HD := hid (cr_yes hok)
    clear hok
    go_wp2
    refine bodyPost_ret (results_cell_row_tmpD rfl _ _ (w.heap.size + 1) 43 #[.int .i64 r.epoch, .int .i64 r.count, .bool false, .int .i64 0, .int .i64 0, .slice none 0 0, .slice none 0 0, .bool false, .slice none 0 0, .int .i64 0, .slice none 0 0, .slice none 0 0, .int .i64 0] (0, 0) _ rfl (set13 HL2.out) Tryz.underlying43 rfl (by kernel_rfl)) rfl ?_
    refine ⟨?_, set13b HB2.out (by omega)⟩
    rw [HD.out.1, HD.out.2.1, HD.out.2.2]
    rfl
set_option maxRecDepth 100000 in
set_option maxHeartbeats 8000000 in
theorem implCrR_any (r : PRcv) (a1 b1 a2 b2 a3 : Option Addr) (c1 d1 c2 d2 c3 : Nat) (w : World) (hr : RdRcv w r a1 c1 b1 d1 a2 c2 b2 d2 a3 c3) (ht : tRcv r ≤ 1048576) :
    Calls Tryz.prog 27 #[.agg #[.int .i64 r.epoch, .int .i64 r.count, .bool r.live, .int .i64 r.inn.epoch, .int .i64 r.inn.expect, .slice a1 r.inn.held.length c1, .slice b1 r.inn.part.length d1, .bool r.str.opened, .slice a2 r.str.fields.length c2, .int .i64 r.str.next, .slice b2 r.str.dicts.length d2, .slice a3 r.ready.length c3, .int .i64 r.errors]] w fun e w' => e = .returned (.tuple #[.agg #[.int .i64 (crE r), .int .i64 (crC r), .bool false, .int .i64 0, .int .i64 0, .slice none 0 0, .slice none 0 0, .bool false, .slice none 0 0, .int .i64 0, .slice none 0 0, .slice none 0 0, .int .i64 0], .int .i64 (crK r)]) ∧ Below w.heap.size w w' := by
  have HR := hid hr
  clear hr
  have HK0 : Hid (((w.alloc (.cells #[.int .i64 r.epoch, .int .i64 r.count, .bool r.live, .int .i64 r.inn.epoch, .int .i64 r.inn.expect, .slice a1 r.inn.held.length c1, .slice b1 r.inn.part.length d1, .bool r.str.opened, .slice a2 r.str.fields.length c2, .int .i64 r.str.next, .slice b2 r.str.dicts.length d2, .slice a3 r.ready.length c3, .int .i64 r.errors] 43)).alloc (.cells #[.int .i64 0, .int .i64 0, .bool false, .int .i64 0, .int .i64 0, .slice none 0 0, .slice none 0 0, .bool false, .slice none 0 0, .int .i64 0, .slice none 0 0, .slice none 0 0, .int .i64 0] 43)).heap[w.heap.size]? = some (.cells #[.int .i64 r.epoch, .int .i64 r.count, .bool r.live, .int .i64 r.inn.epoch, .int .i64 r.inn.expect, .slice a1 r.inn.held.length c1, .slice b1 r.inn.part.length d1, .bool r.str.opened, .slice a2 r.str.fields.length c2, .int .i64 r.str.next, .slice b2 r.str.dicts.length d2, .slice a3 r.ready.length c3, .int .i64 r.errors] 43 (0, 0))) := hid (heap2 _ _ (Below.refl _ _)).1
  have HL0 : Hid (((w.alloc (.cells #[.int .i64 r.epoch, .int .i64 r.count, .bool r.live, .int .i64 r.inn.epoch, .int .i64 r.inn.expect, .slice a1 r.inn.held.length c1, .slice b1 r.inn.part.length d1, .bool r.str.opened, .slice a2 r.str.fields.length c2, .int .i64 r.str.next, .slice b2 r.str.dicts.length d2, .slice a3 r.ready.length c3, .int .i64 r.errors] 43)).alloc (.cells #[.int .i64 0, .int .i64 0, .bool false, .int .i64 0, .int .i64 0, .slice none 0 0, .slice none 0 0, .bool false, .slice none 0 0, .int .i64 0, .slice none 0 0, .slice none 0 0, .int .i64 0] 43)).heap[w.heap.size + 1]? = some (.cells #[.int .i64 0, .int .i64 0, .bool false, .int .i64 0, .int .i64 0, .slice none 0 0, .slice none 0 0, .bool false, .slice none 0 0, .int .i64 0, .slice none 0 0, .slice none 0 0, .int .i64 0] 43 (0, 0))) := hid (heap2 _ _ (Below.refl _ _)).2
  have HB0 := hid (below_new2 w (.cells #[.int .i64 r.epoch, .int .i64 r.count, .bool r.live, .int .i64 r.inn.epoch, .int .i64 r.inn.expect, .slice a1 r.inn.held.length c1, .slice b1 r.inn.part.length d1, .bool r.str.opened, .slice a2 r.str.fields.length c2, .int .i64 r.str.next, .slice b2 r.str.dicts.length d2, .slice a3 r.ready.length c3, .int .i64 r.errors] 43) (.cells #[.int .i64 0, .int .i64 0, .bool false, .int .i64 0, .int .i64 0, .slice none 0 0, .slice none 0 0, .bool false, .slice none 0 0, .int .i64 0, .slice none 0 0, .slice none 0 0, .int .i64 0] 43))
  go_enter Tryz.func27, Tryz.ntmps27
  go_upto_region 1 with fail
  generalize ((w.alloc (.cells #[.int .i64 r.epoch, .int .i64 r.count, .bool r.live, .int .i64 r.inn.epoch, .int .i64 r.inn.expect, .slice a1 r.inn.held.length c1, .slice b1 r.inn.part.length d1, .bool r.str.opened, .slice a2 r.str.fields.length c2, .int .i64 r.str.next, .slice b2 r.str.dicts.length d2, .slice a3 r.ready.length c3, .int .i64 r.errors] 43)).alloc (.cells #[.int .i64 0, .int .i64 0, .bool false, .int .i64 0, .int .i64 0, .slice none 0 0, .slice none 0 0, .bool false, .slice none 0 0, .int .i64 0, .slice none 0 0, .slice none 0 0, .int .i64 0] 43)) = W0 at *
  have p0 := cell_of_row _ _ 0 _ _ _ HK0.out
  have p1 := cell_of_row _ _ 1 _ _ _ HK0.out
  have p2 := cell_of_row _ _ 2 _ _ _ HK0.out
  have p3 := cell_of_row _ _ 3 _ _ _ HK0.out
  have p4 := cell_of_row _ _ 4 _ _ _ HK0.out
  have p5 := cell_of_row _ _ 5 _ _ _ HK0.out
  have p6 := cell_of_row _ _ 6 _ _ _ HK0.out
  have p7 := cell_of_row _ _ 7 _ _ _ HK0.out
  have p8 := cell_of_row _ _ 8 _ _ _ HK0.out
  have p9 := cell_of_row _ _ 9 _ _ _ HK0.out
  have p10 := cell_of_row _ _ 10 _ _ _ HK0.out
  have p11 := cell_of_row _ _ 11 _ _ _ HK0.out
  have p12 := cell_of_row _ _ 12 _ _ _ HK0.out
  simp only [List.getElem?_toArray, List.getElem?_cons_zero, List.getElem?_cons_succ] at p0 p1 p2 p3 p4 p5 p6 p7 p8 p9 p10 p11 p12
  go_wp2_with fail
  refine (implRcv_any r a1 b1 a2 b2 a3 c1 d1 c2 d2 c3 W0 (HR.out.later HB0.out) ht).mono ?_
  rintro e w2 ⟨rfl, b2⟩
  have HK2 := hid (boxR HK0.out b2)
  have HL2 := hid (boxR HL0.out b2)
  have HB2 := hid (below_chain HB0.out b2)
  clear b2 p0 p1 p2 p3 p4 p5 p6 p7 p8 p9 p10 p11 p12
  have p0 := cell_of_row _ _ 0 _ _ _ HK2.out
  have p1 := cell_of_row _ _ 1 _ _ _ HK2.out
  simp only [List.getElem?_toArray, List.getElem?_cons_zero, List.getElem?_cons_succ] at p0 p1
  have q0 := cell_of_row _ _ 0 _ _ _ HL2.out
  have zq0 := frozen_of_row _ _ 0 _ _ HL2.out
  have q1 := cell_of_row _ _ 1 _ _ _ HL2.out
  have zq1 := frozen_of_row _ _ 1 _ _ HL2.out
  have q2 := cell_of_row _ _ 2 _ _ _ HL2.out
  have zq2 := frozen_of_row _ _ 2 _ _ HL2.out
  have q3 := cell_of_row _ _ 3 _ _ _ HL2.out
  have zq3 := frozen_of_row _ _ 3 _ _ HL2.out
  have q4 := cell_of_row _ _ 4 _ _ _ HL2.out
  have zq4 := frozen_of_row _ _ 4 _ _ HL2.out
  have q5 := cell_of_row _ _ 5 _ _ _ HL2.out
  have zq5 := frozen_of_row _ _ 5 _ _ HL2.out
  have q6 := cell_of_row _ _ 6 _ _ _ HL2.out
  have zq6 := frozen_of_row _ _ 6 _ _ HL2.out
  have q7 := cell_of_row _ _ 7 _ _ _ HL2.out
  have zq7 := frozen_of_row _ _ 7 _ _ HL2.out
  have q8 := cell_of_row _ _ 8 _ _ _ HL2.out
  have zq8 := frozen_of_row _ _ 8 _ _ HL2.out
  have q9 := cell_of_row _ _ 9 _ _ _ HL2.out
  have zq9 := frozen_of_row _ _ 9 _ _ HL2.out
  have q10 := cell_of_row _ _ 10 _ _ _ HL2.out
  have zq10 := frozen_of_row _ _ 10 _ _ HL2.out
  have q11 := cell_of_row _ _ 11 _ _ _ HL2.out
  have zq11 := frozen_of_row _ _ 11 _ _ HL2.out
  have q12 := cell_of_row _ _ 12 _ _ _ HL2.out
  have zq12 := frozen_of_row _ _ 12 _ _ HL2.out
  simp only [List.getElem?_toArray, List.getElem?_cons_zero, List.getElem?_cons_succ] at q0 q1 q2 q3 q4 q5 q6 q7 q8 q9 q10 q11 q12
  cases hok : rcvOK r with
  | false =>
    have HD := hid (cr_no hok)
    clear hok
    go_wp2
    refine bodyPost_ret (results_cell_row_tmpD rfl _ _ (w.heap.size + 1) 43 #[.int .i64 0, .int .i64 0, .bool false, .int .i64 0, .int .i64 0, .slice none 0 0, .slice none 0 0, .bool false, .slice none 0 0, .int .i64 0, .slice none 0 0, .slice none 0 0, .int .i64 0] (0, 0) _ rfl (set13 HL2.out) Tryz.underlying43 rfl (by kernel_rfl)) rfl ?_
    refine ⟨?_, set13b HB2.out (by omega)⟩
    rw [HD.out.1, HD.out.2.1, HD.out.2.2]
    rfl
  | true =>
    have HD := hid (cr_yes hok)
    clear hok
    go_wp2
    refine bodyPost_ret (results_cell_row_tmpD rfl _ _ (w.heap.size + 1) 43 #[.int .i64 r.epoch, .int .i64 r.count, .bool false, .int .i64 0, .int .i64 0, .slice none 0 0, .slice none 0 0, .bool false, .slice none 0 0, .int .i64 0, .slice none 0 0, .slice none 0 0, .int .i64 0] (0, 0) _ rfl (set13 HL2.out) Tryz.underlying43 rfl (by kernel_rfl)) rfl ?_
    refine ⟨?_, set13b HB2.out (by omega)⟩
    rw [HD.out.1, HD.out.2.1, HD.out.2.2]
    rfl
end Go.Proofs.YtfaehioeepolhaaGreat
