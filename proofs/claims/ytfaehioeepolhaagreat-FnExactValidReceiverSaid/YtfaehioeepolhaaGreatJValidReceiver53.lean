import Derived.Test.YtfaehioeepolhaaGreatJValidReceiver26
import Derived.Test.YtfaehioeepolhaaGreatJValidReceiver48
import Derived.Test.YtfaehioeepolhaaGreatJValidReceiver52
import Derived.Test.YtfaehioeepolhaaGreatJValidReceiver1
import Derived.Deep.RegionHeld3
namespace Go.Proofs.YtfaehioeepolhaaGreat
open Go.RowKit
abbrev BoxR (w' : World) (g : Nat) (r : PRcv) (a1 b1 a2 b2 a3 : Option Addr) (c1 d1 c2 d2 c3 : Nat) : Prop :=
  w'.cell? ⟨g, 0, none⟩ = some (.int .i64 r.epoch) ∧ w'.cell? ⟨g, 1, none⟩ = some (.int .i64 r.count) ∧ w'.cell? ⟨g, 2, none⟩ = some (.bool r.live) ∧ w'.cell? ⟨g, 3, none⟩ = some (.int .i64 r.inn.epoch) ∧ w'.cell? ⟨g, 4, none⟩ = some (.int .i64 r.inn.expect) ∧ w'.cell? ⟨g, 5, none⟩ = some (.slice a1 r.inn.held.length c1) ∧ w'.cell? ⟨g, 6, none⟩ = some (.slice b1 r.inn.part.length d1) ∧ w'.cell? ⟨g, 7, none⟩ = some (.bool r.str.opened) ∧ w'.cell? ⟨g, 8, none⟩ = some (.slice a2 r.str.fields.length c2) ∧ w'.cell? ⟨g, 9, none⟩ = some (.int .i64 r.str.next) ∧ w'.cell? ⟨g, 10, none⟩ = some (.slice b2 r.str.dicts.length d2) ∧ w'.cell? ⟨g, 11, none⟩ = some (.slice a3 r.ready.length c3) ∧ w'.cell? ⟨g, 12, none⟩ = some (.int .i64 r.errors)
theorem boxR_of {w : World} {g : Nat} {e : TypeId} {r : PRcv} {a1 b1 a2 b2 a3 : Option Addr} {c1 d1 c2 d2 c3 : Nat} (hh : w.heap[g]? = some (.cells #[.int .i64 r.epoch, .int .i64 r.count, .bool r.live, .int .i64 r.inn.epoch, .int .i64 r.inn.expect, .slice a1 r.inn.held.length c1, .slice b1 r.inn.part.length d1, .bool r.str.opened, .slice a2 r.str.fields.length c2, .int .i64 r.str.next, .slice b2 r.str.dicts.length d2, .slice a3 r.ready.length c3, .int .i64 r.errors] e (0, 0))) : BoxR w g r a1 b1 a2 b2 a3 c1 d1 c2 d2 c3 := by
  have p0 := cell_of_row _ _ 0 _ _ _ hh
  have p1 := cell_of_row _ _ 1 _ _ _ hh
  have p2 := cell_of_row _ _ 2 _ _ _ hh
  have p3 := cell_of_row _ _ 3 _ _ _ hh
  have p4 := cell_of_row _ _ 4 _ _ _ hh
  have p5 := cell_of_row _ _ 5 _ _ _ hh
  have p6 := cell_of_row _ _ 6 _ _ _ hh
  have p7 := cell_of_row _ _ 7 _ _ _ hh
  have p8 := cell_of_row _ _ 8 _ _ _ hh
  have p9 := cell_of_row _ _ 9 _ _ _ hh
  have p10 := cell_of_row _ _ 10 _ _ _ hh
  have p11 := cell_of_row _ _ 11 _ _ _ hh
  have p12 := cell_of_row _ _ 12 _ _ _ hh
  simp only [List.getElem?_toArray, List.getElem?_cons_zero, List.getElem?_cons_succ] at p0 p1 p2 p3 p4 p5 p6 p7 p8 p9 p10 p11 p12
  exact ⟨p0, p1, p2, p3, p4, p5, p6, p7, p8, p9, p10, p11, p12⟩
set_option maxRecDepth 100000 in
set_option maxHeartbeats 8000000 in
theorem validReceiver_walk (v : Value) (w : World) (h : ReceiverIn w v) :
    Calls Tryz.prog 3 #[v] w fun e w' => e = .returned (.bool true) ∧ Below w.heap.size w w' := by
  obtain ⟨r, a1, b1, a2, b2, a3, c1, d1, c2, d2, c3, rfl, hr, -⟩ := h
  have HR := hid hr
  clear hr
  have hb0 := below_new1 w (.cells #[.int .i64 r.epoch, .int .i64 r.count, .bool r.live, .int .i64 r.inn.epoch, .int .i64 r.inn.expect, .slice a1 r.inn.held.length c1, .slice b1 r.inn.part.length d1, .bool r.str.opened, .slice a2 r.str.fields.length c2, .int .i64 r.str.next, .slice b2 r.str.dicts.length d2, .slice a3 r.ready.length c3, .int .i64 r.errors] 32)
  have HX0 : Hid ((w.alloc (.cells #[.int .i64 r.epoch, .int .i64 r.count, .bool r.live, .int .i64 r.inn.epoch, .int .i64 r.inn.expect, .slice a1 r.inn.held.length c1, .slice b1 r.inn.part.length d1, .bool r.str.opened, .slice a2 r.str.fields.length c2, .int .i64 r.str.next, .slice b2 r.str.dicts.length d2, .slice a3 r.ready.length c3, .int .i64 r.errors] 32)).heap[w.heap.size]? = some (.cells #[.int .i64 r.epoch, .int .i64 r.count, .bool r.live, .int .i64 r.inn.epoch, .int .i64 r.inn.expect, .slice a1 r.inn.held.length c1, .slice b1 r.inn.part.length d1, .bool r.str.opened, .slice a2 r.str.fields.length c2, .int .i64 r.str.next, .slice b2 r.str.dicts.length d2, .slice a3 r.ready.length c3, .int .i64 r.errors] 32 (0, 0))) := hid (heap_alloc_new w _)
  go_enter Tryz.func3, Tryz.ntmps3
  go_wp2_with fail
  generalize (w.alloc (.cells #[.int .i64 r.epoch, .int .i64 r.count, .bool r.live, .int .i64 r.inn.epoch, .int .i64 r.inn.expect, .slice a1 r.inn.held.length c1, .slice b1 r.inn.part.length d1, .bool r.str.opened, .slice a2 r.str.fields.length c2, .int .i64 r.str.next, .slice b2 r.str.dicts.length d2, .slice a3 r.ready.length c3, .int .i64 r.errors] 32)) = w0 at *
  refine (szReceiver_any r a1 b1 a2 b2 a3 c1 d1 c2 d2 c3 1048576 w0 (HR.out.later hb0) (by omega) (by omega)).mono ?_
  rintro e w1 ⟨rfl, bl1⟩
  have B1 := below_chain hb0 bl1
  have HX1 := hid (boxR HX0.out bl1)
  by_cases hneg : rest 1048576 (tRcv r) < 0
  · generalize rest 1048576 (tRcv r) = q at *
    go_wp2
    go_ret
    exact ⟨rfl, B1⟩
  have ht : tRcv r ≤ 1048576 := by have := rest_fits (l := 1048576) (n := tRcv r) (by omega); omega
  generalize rest 1048576 (tRcv r) = q at *
  have p0 := cell_of_row _ _ 0 _ _ _ HX1.out
  have p1 := cell_of_row _ _ 1 _ _ _ HX1.out
  have p2 := cell_of_row _ _ 2 _ _ _ HX1.out
  have p3 := cell_of_row _ _ 3 _ _ _ HX1.out
  have p4 := cell_of_row _ _ 4 _ _ _ HX1.out
  have p5 := cell_of_row _ _ 5 _ _ _ HX1.out
  have p6 := cell_of_row _ _ 6 _ _ _ HX1.out
  have p7 := cell_of_row _ _ 7 _ _ _ HX1.out
  have p8 := cell_of_row _ _ 8 _ _ _ HX1.out
  have p9 := cell_of_row _ _ 9 _ _ _ HX1.out
  have p10 := cell_of_row _ _ 10 _ _ _ HX1.out
  have p11 := cell_of_row _ _ 11 _ _ _ HX1.out
  have p12 := cell_of_row _ _ 12 _ _ _ HX1.out
  simp only [List.getElem?_toArray, List.getElem?_cons_zero, List.getElem?_cons_succ] at p0 p1 p2 p3 p4 p5 p6 p7 p8 p9 p10 p11 p12
  go_wp2_with fail
  refine (toReceiver_any r a1 b1 a2 b2 a3 c1 d1 c2 d2 c3 w1 (HR.out.later B1) ht).mono ?_
  rintro e w2 ⟨a1y, c1y, b1y, d1y, a2y, c2y, b2y, d2y, a3y, c3y, bi2, di2, bs2, ds2, ts2, rfl, o2, -, -, bl2⟩
  have B2 := below_chain B1 bl2
  clear p0 p1 p2 p3 p4 p5 p6 p7 p8 p9 p10 p11 p12
  go_wp2_with fail
  refine (specRcv_any r a1y b1y a2y b2y a3y c1y d1y c2y d2y c3y w2 o2.rd ht).mono ?_
  rintro e w3 ⟨rfl, bl3⟩
  have B3 := below_chain B2 bl3
  have HX3 := hid (boxR HX1.out (below_chain bl2 bl3))
  clear o2
  generalize hq : rcvOK r = qq at *
  have HQ := hid hq
  clear hq
  have p0 := cell_of_row _ _ 0 _ _ _ HX3.out
  have p1 := cell_of_row _ _ 1 _ _ _ HX3.out
  have p2 := cell_of_row _ _ 2 _ _ _ HX3.out
  have p3 := cell_of_row _ _ 3 _ _ _ HX3.out
  have p4 := cell_of_row _ _ 4 _ _ _ HX3.out
  have p5 := cell_of_row _ _ 5 _ _ _ HX3.out
  have p6 := cell_of_row _ _ 6 _ _ _ HX3.out
  have p7 := cell_of_row _ _ 7 _ _ _ HX3.out
  have p8 := cell_of_row _ _ 8 _ _ _ HX3.out
  have p9 := cell_of_row _ _ 9 _ _ _ HX3.out
  have p10 := cell_of_row _ _ 10 _ _ _ HX3.out
  have p11 := cell_of_row _ _ 11 _ _ _ HX3.out
  have p12 := cell_of_row _ _ 12 _ _ _ HX3.out
  simp only [List.getElem?_toArray, List.getElem?_cons_zero, List.getElem?_cons_succ] at p0 p1 p2 p3 p4 p5 p6 p7 p8 p9 p10 p11 p12
  go_wp2_with fail
  refine (toReceiver_any r a1 b1 a2 b2 a3 c1 d1 c2 d2 c3 w3 (HR.out.later B3) ht).mono ?_
  rintro e w4 ⟨a1x, c1x, b1x, d1x, a2x, c2x, b2x, d2x, a3x, c3x, bi4, di4, bs4, ds4, ts4, rfl, o4, -, -, bl4⟩
  have B4 := below_chain B3 bl4
  have hb5 := below_new1 w4 (.cells #[.int .i64 r.epoch, .int .i64 r.count, .bool r.live, .int .i64 r.inn.epoch, .int .i64 r.inn.expect, .slice a1x r.inn.held.length c1x, .slice b1x r.inn.part.length d1x, .bool r.str.opened, .slice a2x r.str.fields.length c2x, .int .i64 r.str.next, .slice b2x r.str.dicts.length d2x, .slice a3x r.ready.length c3x, .int .i64 r.errors] 43)
  have HY5 : Hid ((w4.alloc (.cells #[.int .i64 r.epoch, .int .i64 r.count, .bool r.live, .int .i64 r.inn.epoch, .int .i64 r.inn.expect, .slice a1x r.inn.held.length c1x, .slice b1x r.inn.part.length d1x, .bool r.str.opened, .slice a2x r.str.fields.length c2x, .int .i64 r.str.next, .slice b2x r.str.dicts.length d2x, .slice a3x r.ready.length c3x, .int .i64 r.errors] 43)).heap[w4.heap.size]? = some (.cells #[.int .i64 r.epoch, .int .i64 r.count, .bool r.live, .int .i64 r.inn.epoch, .int .i64 r.inn.expect, .slice a1x r.inn.held.length c1x, .slice b1x r.inn.part.length d1x, .bool r.str.opened, .slice a2x r.str.fields.length c2x, .int .i64 r.str.next, .slice b2x r.str.dicts.length d2x, .slice a3x r.ready.length c3x, .int .i64 r.errors] 43 (0, 0))) := hid (heap_alloc_new w4 _)
  have HR5 := hid (o4.rd.later hb5)
  have B5 := below_chain B4 hb5
  have HX5 := hid (boxR HX3.out (below_chain bl4 hb5))
  clear p0 p1 p2 p3 p4 p5 p6 p7 p8 p9 p10 p11 p12 o4
  go_wp2_with fail
  generalize (w4.alloc (.cells #[.int .i64 r.epoch, .int .i64 r.count, .bool r.live, .int .i64 r.inn.epoch, .int .i64 r.inn.expect, .slice a1x r.inn.held.length c1x, .slice b1x r.inn.part.length d1x, .bool r.str.opened, .slice a2x r.str.fields.length c2x, .int .i64 r.str.next, .slice b2x r.str.dicts.length d2x, .slice a3x r.ready.length c3x, .int .i64 r.errors] 43)) = w5 at *
  refine (implRcv_any r a1x b1x a2x b2x a3x c1x d1x c2x d2x c3x w5 HR5.out ht).mono ?_
  rintro e w6 ⟨rfl, bl6⟩
  rw [HQ.out]
  have B6 := below_chain B5 bl6
  have HX6 := hid (boxR HX5.out bl6)
  have HY6 := hid (boxR HY5.out bl6)
  have HR6 := hid (HR5.out.later bl6)
  have hqq : (qq != qq) = false := by simp
  have p0 := cell_of_row _ _ 0 _ _ _ HX6.out
  have p1 := cell_of_row _ _ 1 _ _ _ HX6.out
  have p2 := cell_of_row _ _ 2 _ _ _ HX6.out
  have p3 := cell_of_row _ _ 3 _ _ _ HX6.out
  have p4 := cell_of_row _ _ 4 _ _ _ HX6.out
  have p5 := cell_of_row _ _ 5 _ _ _ HX6.out
  have p6 := cell_of_row _ _ 6 _ _ _ HX6.out
  have p7 := cell_of_row _ _ 7 _ _ _ HX6.out
  have p8 := cell_of_row _ _ 8 _ _ _ HX6.out
  have p9 := cell_of_row _ _ 9 _ _ _ HX6.out
  have p10 := cell_of_row _ _ 10 _ _ _ HX6.out
  have p11 := cell_of_row _ _ 11 _ _ _ HX6.out
  have p12 := cell_of_row _ _ 12 _ _ _ HX6.out
  simp only [List.getElem?_toArray, List.getElem?_cons_zero, List.getElem?_cons_succ] at p0 p1 p2 p3 p4 p5 p6 p7 p8 p9 p10 p11 p12
  have q0 := cell_of_row _ _ 0 _ _ _ HY6.out
  have q1 := cell_of_row _ _ 1 _ _ _ HY6.out
  have q2 := cell_of_row _ _ 2 _ _ _ HY6.out
  have q3 := cell_of_row _ _ 3 _ _ _ HY6.out
  have q4 := cell_of_row _ _ 4 _ _ _ HY6.out
  have q5 := cell_of_row _ _ 5 _ _ _ HY6.out
  have q6 := cell_of_row _ _ 6 _ _ _ HY6.out
  have q7 := cell_of_row _ _ 7 _ _ _ HY6.out
  have q8 := cell_of_row _ _ 8 _ _ _ HY6.out
  have q9 := cell_of_row _ _ 9 _ _ _ HY6.out
  have q10 := cell_of_row _ _ 10 _ _ _ HY6.out
  have q11 := cell_of_row _ _ 11 _ _ _ HY6.out
  have q12 := cell_of_row _ _ 12 _ _ _ HY6.out
  simp only [List.getElem?_toArray, List.getElem?_cons_zero, List.getElem?_cons_succ] at q0 q1 q2 q3 q4 q5 q6 q7 q8 q9 q10 q11 q12
  have HT7 : Hid (Calls Tryz.prog 10 #[.agg #[.int .i64 r.epoch, .int .i64 r.count, .bool r.live, .int .i64 r.inn.epoch, .int .i64 r.inn.expect, .slice a1 r.inn.held.length c1, .slice b1 r.inn.part.length d1, .bool r.str.opened, .slice a2 r.str.fields.length c2, .int .i64 r.str.next, .slice b2 r.str.dicts.length d2, .slice a3 r.ready.length c3, .int .i64 r.errors]] w6.drew fun e w8 => ∃ a1z c1z b1z d1z a2z c2z b2z d2z a3z c3z, e = .returned (.agg #[.int .i64 r.epoch, .int .i64 r.count, .bool r.live, .int .i64 r.inn.epoch, .int .i64 r.inn.expect, .slice a1z r.inn.held.length c1z, .slice b1z r.inn.part.length d1z, .bool r.str.opened, .slice a2z r.str.fields.length c2z, .int .i64 r.str.next, .slice b2z r.str.dicts.length d2z, .slice a3z r.ready.length c3z, .int .i64 r.errors]) ∧ Hid (RdRcv w8 r a1z c1z b1z d1z a2z c2z b2z d2z a3z c3z) ∧ Hid (Below w6.heap.size w6 w8) ∧ BoxR w8 w.heap.size r a1 b1 a2 b2 a3 c1 d1 c2 d2 c3 ∧ BoxR w8 w4.heap.size r a1x b1x a2x b2x a3x c1x d1x c2x d2x c3x) := hid (by
    refine (toReceiver_any r a1 b1 a2 b2 a3 c1 d1 c2 d2 c3 w6.drew (HR.out.later B6.drew) ht).mono ?_
    rintro e w8 ⟨a1z, c1z, b1z, d1z, a2z, c2z, b2z, d2z, a3z, c3z, bi8, di8, bs8, ds8, ts8, rfl, o8, -, -, bl8⟩
    have bl := (Below.refl _ w6).drew.trans bl8
    exact ⟨a1z, c1z, b1z, d1z, a2z, c2z, b2z, d2z, a3z, c3z, rfl, hid o8.rd, hid bl, boxR_of (boxR HX6.out bl), boxR_of (boxR HY6.out bl)⟩)
  have HE7 : Hid (∀ w8 a1z c1z b1z d1z a2z c2z b2z d2z a3z c3z, Hid (RdRcv w8 r a1z c1z b1z d1z a2z c2z b2z d2z a3z c3z) → Hid (Below w6.heap.size w6 w8) → Calls Tryz.prog 12 #[.agg #[.int .i64 r.epoch, .int .i64 r.count, .bool r.live, .int .i64 r.inn.epoch, .int .i64 r.inn.expect, .slice a1x r.inn.held.length c1x, .slice b1x r.inn.part.length d1x, .bool r.str.opened, .slice a2x r.str.fields.length c2x, .int .i64 r.str.next, .slice b2x r.str.dicts.length d2x, .slice a3x r.ready.length c3x, .int .i64 r.errors], .agg #[.int .i64 r.epoch, .int .i64 r.count, .bool r.live, .int .i64 r.inn.epoch, .int .i64 r.inn.expect, .slice a1z r.inn.held.length c1z, .slice b1z r.inn.part.length d1z, .bool r.str.opened, .slice a2z r.str.fields.length c2z, .int .i64 r.str.next, .slice b2z r.str.dicts.length d2z, .slice a3z r.ready.length c3z, .int .i64 r.errors]] w8 fun e w9 => e = .returned (.bool true) ∧ Hid (Below w6.heap.size w6 w9) ∧ BoxR w9 w.heap.size r a1 b1 a2 b2 a3 c1 d1 c2 d2 c3 ∧ BoxR w9 w4.heap.size r a1x b1x a2x b2x a3x c1x d1x c2x d2x c3x) := hid (fun w8 a1z c1z b1z d1z a2z c2z b2z d2z a3z c3z h8 hb => by
    refine (eqReceiver_any r a1x b1x a2x b2x a3x c1x d1x c2x d2x c3x a1z b1z a2z b2z a3z c1z d1z c2z d2z c3z w8 (HR6.out.later hb.out) h8.out ht).mono ?_
    rintro e w9 ⟨rfl, bl9⟩
    have bl := below_chain hb.out bl9
    exact ⟨rfl, hid bl, boxR_of (boxR HX6.out bl), boxR_of (boxR HY6.out bl)⟩)
  go_wp2
  (go_region_held3 (fun w' => w'.cell? ⟨w.heap.size, 0, none⟩ = some (.int .i64 r.epoch) ∧ w'.cell? ⟨w.heap.size, 1, none⟩ = some (.int .i64 r.count) ∧ w'.cell? ⟨w.heap.size, 2, none⟩ = some (.bool r.live) ∧ w'.cell? ⟨w.heap.size, 3, none⟩ = some (.int .i64 r.inn.epoch) ∧ w'.cell? ⟨w.heap.size, 4, none⟩ = some (.int .i64 r.inn.expect) ∧ w'.cell? ⟨w.heap.size, 5, none⟩ = some (.slice a1 r.inn.held.length c1) ∧ w'.cell? ⟨w.heap.size, 6, none⟩ = some (.slice b1 r.inn.part.length d1) ∧ w'.cell? ⟨w.heap.size, 7, none⟩ = some (.bool r.str.opened) ∧ w'.cell? ⟨w.heap.size, 8, none⟩ = some (.slice a2 r.str.fields.length c2) ∧ w'.cell? ⟨w.heap.size, 9, none⟩ = some (.int .i64 r.str.next) ∧ w'.cell? ⟨w.heap.size, 10, none⟩ = some (.slice b2 r.str.dicts.length d2) ∧ w'.cell? ⟨w.heap.size, 11, none⟩ = some (.slice a3 r.ready.length c3) ∧ w'.cell? ⟨w.heap.size, 12, none⟩ = some (.int .i64 r.errors) ∧ w'.cell? ⟨w4.heap.size, 0, none⟩ = some (.int .i64 r.epoch) ∧ w'.cell? ⟨w4.heap.size, 1, none⟩ = some (.int .i64 r.count) ∧ w'.cell? ⟨w4.heap.size, 2, none⟩ = some (.bool r.live) ∧ w'.cell? ⟨w4.heap.size, 3, none⟩ = some (.int .i64 r.inn.epoch) ∧ w'.cell? ⟨w4.heap.size, 4, none⟩ = some (.int .i64 r.inn.expect) ∧ w'.cell? ⟨w4.heap.size, 5, none⟩ = some (.slice a1x r.inn.held.length c1x) ∧ w'.cell? ⟨w4.heap.size, 6, none⟩ = some (.slice b1x r.inn.part.length d1x) ∧ w'.cell? ⟨w4.heap.size, 7, none⟩ = some (.bool r.str.opened) ∧ w'.cell? ⟨w4.heap.size, 8, none⟩ = some (.slice a2x r.str.fields.length c2x) ∧ w'.cell? ⟨w4.heap.size, 9, none⟩ = some (.int .i64 r.str.next) ∧ w'.cell? ⟨w4.heap.size, 10, none⟩ = some (.slice b2x r.str.dicts.length d2x) ∧ w'.cell? ⟨w4.heap.size, 11, none⟩ = some (.slice a3x r.ready.length c3x) ∧ w'.cell? ⟨w4.heap.size, 12, none⟩ = some (.int .i64 r.errors)) (go_keep) (first
    | (go_at_call 10; refine HT7.out.mono ?_; rintro e w8 ⟨a1z, c1z, b1z, d1z, a2z, c2z, b2z, d2z, a3z, c3z, rfl, hr8, hb8, ⟨xx0, xx1, xx2, xx3, xx4, xx5, xx6, xx7, xx8, xx9, xx10, xx11, xx12⟩, ⟨yy0, yy1, yy2, yy3, yy4, yy5, yy6, yy7, yy8, yy9, yy10, yy11, yy12⟩⟩)
    | (go_at_call 12; refine (HE7.out _ a1z c1z b1z d1z a2z c2z b2z d2z a3z c3z hr8 hb8).mono ?_; rintro e w9 ⟨rfl, hb9, ⟨zz0, zz1, zz2, zz3, zz4, zz5, zz6, zz7, zz8, zz9, zz10, zz11, zz12⟩, ⟨uu0, uu1, uu2, uu3, uu4, uu5, uu6, uu7, uu8, uu9, uu10, uu11, uu12⟩⟩)))
  have B9 := below_chain B6 hb9.out
  go_wp2
  go_ret
  exact ⟨rfl, B9⟩
end Go.Proofs.YtfaehioeepolhaaGreat
