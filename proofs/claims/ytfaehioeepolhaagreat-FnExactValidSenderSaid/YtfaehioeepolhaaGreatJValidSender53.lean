import Derived.Test.YtfaehioeepolhaaGreatJValidSender25
import Derived.Test.YtfaehioeepolhaaGreatJValidSender47
import Derived.Test.YtfaehioeepolhaaGreatJValidSender52
import Derived.Test.YtfaehioeepolhaaGreatJValidSender0
import Derived.Deep.RegionHeld3
namespace Go.Proofs.YtfaehioeepolhaaGreat
open Go.RowKit
abbrev BoxSd (w' : World) (g : Nat) (r : PSnd) (a0 a3 a1 a2 b2 : Option Addr) (c0 c3 c1 c2 d2 : Nat) : Prop :=
  w'.cell? ⟨g, 0, none⟩ = some (.slice a0 r.fields.length c0) ∧ w'.cell? ⟨g, 1, none⟩ = some (.int .i64 r.epoch) ∧ w'.cell? ⟨g, 2, none⟩ = some (.int .i64 r.base) ∧ w'.cell? ⟨g, 3, none⟩ = some (.slice a3 r.tables.length c3) ∧ w'.cell? ⟨g, 4, none⟩ = some (.int .i64 r.pushed) ∧ w'.cell? ⟨g, 5, none⟩ = some (.int .i64 r.out.epoch) ∧ w'.cell? ⟨g, 6, none⟩ = some (.int .i64 r.out.next) ∧ w'.cell? ⟨g, 7, none⟩ = some (.int .i64 r.out.now) ∧ w'.cell? ⟨g, 8, none⟩ = some (.slice a1 r.out.wait.length c1) ∧ w'.cell? ⟨g, 9, none⟩ = some (.bool r.str.opened) ∧ w'.cell? ⟨g, 10, none⟩ = some (.slice a2 r.str.fields.length c2) ∧ w'.cell? ⟨g, 11, none⟩ = some (.int .i64 r.str.next) ∧ w'.cell? ⟨g, 12, none⟩ = some (.slice b2 r.str.dicts.length d2)
theorem boxSd_of {w : World} {g : Nat} {e : TypeId} {r : PSnd} {a0 a3 a1 a2 b2 : Option Addr} {c0 c3 c1 c2 d2 : Nat} (hh : w.heap[g]? = some (.cells #[.slice a0 r.fields.length c0, .int .i64 r.epoch, .int .i64 r.base, .slice a3 r.tables.length c3, .int .i64 r.pushed, .int .i64 r.out.epoch, .int .i64 r.out.next, .int .i64 r.out.now, .slice a1 r.out.wait.length c1, .bool r.str.opened, .slice a2 r.str.fields.length c2, .int .i64 r.str.next, .slice b2 r.str.dicts.length d2] e (0, 0))) : BoxSd w g r a0 a3 a1 a2 b2 c0 c3 c1 c2 d2 := by
  have p0 := cell_of_row _ _ 0 _ _ _ hh
  have p1 := cell_of_row _ _ 1 _ _ _ hh
  have p2 := cell_of_row _ _ 2 _ _ _ hh
  have p3 := cell_of_row _ _ 3 _ _ _ hh
  have p4 := cell_of_row _ _ 4 _ _ _ hh
  have p5 := cell_of_row _ _ 5 _ _ _ hh
  have p6 := cell_of_row _ _ 6 _ _ _ hh
  have p7 := cell_of_row _ _ 7 _ _ _ hh
  have p8 := cell_of_row _ _ 8 _ _ _ hh
  have p9 := cell_of_row _ _ 9 _ _ _ hh
  have p10 := cell_of_row _ _ 10 _ _ _ hh
  have p11 := cell_of_row _ _ 11 _ _ _ hh
  have p12 := cell_of_row _ _ 12 _ _ _ hh
  simp only [List.getElem?_toArray, List.getElem?_cons_zero, List.getElem?_cons_succ] at p0 p1 p2 p3 p4 p5 p6 p7 p8 p9 p10 p11 p12
  exact ⟨p0, p1, p2, p3, p4, p5, p6, p7, p8, p9, p10, p11, p12⟩
set_option maxRecDepth 100000 in
set_option maxHeartbeats 8000000 in
theorem validSender_walk (v : Value) (w : World) (h : SenderIn w v) :
    Calls Tryz.prog 4 #[v] w fun e w' => e = .returned (.bool true) ∧ Below w.heap.size w w' := by
  obtain ⟨r, a0, a3, a1, a2, b2, c0, c3, c1, c2, d2, rfl, hr, -⟩ := h
  have HR := hid hr
  clear hr
  have hb0 := below_new1 w (.cells #[.slice a0 r.fields.length c0, .int .i64 r.epoch, .int .i64 r.base, .slice a3 r.tables.length c3, .int .i64 r.pushed, .int .i64 r.out.epoch, .int .i64 r.out.next, .int .i64 r.out.now, .slice a1 r.out.wait.length c1, .bool r.str.opened, .slice a2 r.str.fields.length c2, .int .i64 r.str.next, .slice b2 r.str.dicts.length d2] 51)
  have HX0 : Hid ((w.alloc (.cells #[.slice a0 r.fields.length c0, .int .i64 r.epoch, .int .i64 r.base, .slice a3 r.tables.length c3, .int .i64 r.pushed, .int .i64 r.out.epoch, .int .i64 r.out.next, .int .i64 r.out.now, .slice a1 r.out.wait.length c1, .bool r.str.opened, .slice a2 r.str.fields.length c2, .int .i64 r.str.next, .slice b2 r.str.dicts.length d2] 51)).heap[w.heap.size]? = some (.cells #[.slice a0 r.fields.length c0, .int .i64 r.epoch, .int .i64 r.base, .slice a3 r.tables.length c3, .int .i64 r.pushed, .int .i64 r.out.epoch, .int .i64 r.out.next, .int .i64 r.out.now, .slice a1 r.out.wait.length c1, .bool r.str.opened, .slice a2 r.str.fields.length c2, .int .i64 r.str.next, .slice b2 r.str.dicts.length d2] 51 (0, 0))) := hid (heap_alloc_new w _)
  go_enter Tryz.func4, Tryz.ntmps4
  go_wp2_with fail
  generalize (w.alloc (.cells #[.slice a0 r.fields.length c0, .int .i64 r.epoch, .int .i64 r.base, .slice a3 r.tables.length c3, .int .i64 r.pushed, .int .i64 r.out.epoch, .int .i64 r.out.next, .int .i64 r.out.now, .slice a1 r.out.wait.length c1, .bool r.str.opened, .slice a2 r.str.fields.length c2, .int .i64 r.str.next, .slice b2 r.str.dicts.length d2] 51)) = w0 at *
  refine (szSender_any r a0 a3 a1 a2 b2 c0 c3 c1 c2 d2 1048576 w0 (HR.out.later hb0) (by omega) (by omega)).mono ?_
  rintro e w1 ⟨rfl, bl1⟩
  have B1 := below_chain hb0 bl1
  have HX1 := hid (boxSd HX0.out bl1)
  by_cases hneg : rest 1048576 (tSnd r) < 0
  · generalize rest 1048576 (tSnd r) = q at *
    go_wp2
    go_ret
    exact ⟨rfl, B1⟩
  have ht : tSnd r ≤ 1048576 := by have := rest_fits (l := 1048576) (n := tSnd r) (by omega); omega
  generalize rest 1048576 (tSnd r) = q at *
  have p0 := cell_of_row _ _ 0 _ _ _ HX1.out
  have p1 := cell_of_row _ _ 1 _ _ _ HX1.out
  have p2 := cell_of_row _ _ 2 _ _ _ HX1.out
  have p3 := cell_of_row _ _ 3 _ _ _ HX1.out
  have p4 := cell_of_row _ _ 4 _ _ _ HX1.out
  have p5 := cell_of_row _ _ 5 _ _ _ HX1.out
  have p6 := cell_of_row _ _ 6 _ _ _ HX1.out
  have p7 := cell_of_row _ _ 7 _ _ _ HX1.out
  have p8 := cell_of_row _ _ 8 _ _ _ HX1.out
  have p9 := cell_of_row _ _ 9 _ _ _ HX1.out
  have p10 := cell_of_row _ _ 10 _ _ _ HX1.out
  have p11 := cell_of_row _ _ 11 _ _ _ HX1.out
  have p12 := cell_of_row _ _ 12 _ _ _ HX1.out
  simp only [List.getElem?_toArray, List.getElem?_cons_zero, List.getElem?_cons_succ] at p0 p1 p2 p3 p4 p5 p6 p7 p8 p9 p10 p11 p12
  go_wp2_with fail
  refine (toSender_any r a0 a3 a1 a2 b2 c0 c3 c1 c2 d2 w1 (HR.out.later B1) ht).mono ?_
  rintro e w2 ⟨a0y, c0y, a3y, c3y, a1y, c1y, a2y, c2y, b2y, d2y, bi2, di2, bs2, ds2, ts2, rfl, o2, -, -, bl2⟩
  have B2 := below_chain B1 bl2
  clear p0 p1 p2 p3 p4 p5 p6 p7 p8 p9 p10 p11 p12
  go_wp2_with fail
  refine (specSnd_any r a0y a3y a1y a2y b2y c0y c3y c1y c2y d2y w2 o2.rd ht).mono ?_
  rintro e w3 ⟨rfl, bl3⟩
  have B3 := below_chain B2 bl3
  have HX3 := hid (boxSd HX1.out (below_chain bl2 bl3))
  clear o2
  generalize hq : sndOK r = qq at *
  have HQ := hid hq
  clear hq
  have p0 := cell_of_row _ _ 0 _ _ _ HX3.out
  have p1 := cell_of_row _ _ 1 _ _ _ HX3.out
  have p2 := cell_of_row _ _ 2 _ _ _ HX3.out
  have p3 := cell_of_row _ _ 3 _ _ _ HX3.out
  have p4 := cell_of_row _ _ 4 _ _ _ HX3.out
  have p5 := cell_of_row _ _ 5 _ _ _ HX3.out
  have p6 := cell_of_row _ _ 6 _ _ _ HX3.out
  have p7 := cell_of_row _ _ 7 _ _ _ HX3.out
  have p8 := cell_of_row _ _ 8 _ _ _ HX3.out
  have p9 := cell_of_row _ _ 9 _ _ _ HX3.out
  have p10 := cell_of_row _ _ 10 _ _ _ HX3.out
  have p11 := cell_of_row _ _ 11 _ _ _ HX3.out
  have p12 := cell_of_row _ _ 12 _ _ _ HX3.out
  simp only [List.getElem?_toArray, List.getElem?_cons_zero, List.getElem?_cons_succ] at p0 p1 p2 p3 p4 p5 p6 p7 p8 p9 p10 p11 p12
  go_wp2_with fail
  refine (toSender_any r a0 a3 a1 a2 b2 c0 c3 c1 c2 d2 w3 (HR.out.later B3) ht).mono ?_
  rintro e w4 ⟨a0x, c0x, a3x, c3x, a1x, c1x, a2x, c2x, b2x, d2x, bi4, di4, bs4, ds4, ts4, rfl, o4, -, -, bl4⟩
  have B4 := below_chain B3 bl4
  have hb5 := below_new1 w4 (.cells #[.slice a0x r.fields.length c0x, .int .i64 r.epoch, .int .i64 r.base, .slice a3x r.tables.length c3x, .int .i64 r.pushed, .int .i64 r.out.epoch, .int .i64 r.out.next, .int .i64 r.out.now, .slice a1x r.out.wait.length c1x, .bool r.str.opened, .slice a2x r.str.fields.length c2x, .int .i64 r.str.next, .slice b2x r.str.dicts.length d2x] 58)
  have HY5 : Hid ((w4.alloc (.cells #[.slice a0x r.fields.length c0x, .int .i64 r.epoch, .int .i64 r.base, .slice a3x r.tables.length c3x, .int .i64 r.pushed, .int .i64 r.out.epoch, .int .i64 r.out.next, .int .i64 r.out.now, .slice a1x r.out.wait.length c1x, .bool r.str.opened, .slice a2x r.str.fields.length c2x, .int .i64 r.str.next, .slice b2x r.str.dicts.length d2x] 58)).heap[w4.heap.size]? = some (.cells #[.slice a0x r.fields.length c0x, .int .i64 r.epoch, .int .i64 r.base, .slice a3x r.tables.length c3x, .int .i64 r.pushed, .int .i64 r.out.epoch, .int .i64 r.out.next, .int .i64 r.out.now, .slice a1x r.out.wait.length c1x, .bool r.str.opened, .slice a2x r.str.fields.length c2x, .int .i64 r.str.next, .slice b2x r.str.dicts.length d2x] 58 (0, 0))) := hid (heap_alloc_new w4 _)
  have HR5 := hid (o4.rd.later hb5)
  have B5 := below_chain B4 hb5
  have HX5 := hid (boxSd HX3.out (below_chain bl4 hb5))
  clear p0 p1 p2 p3 p4 p5 p6 p7 p8 p9 p10 p11 p12 o4
  go_wp2_with fail
  generalize (w4.alloc (.cells #[.slice a0x r.fields.length c0x, .int .i64 r.epoch, .int .i64 r.base, .slice a3x r.tables.length c3x, .int .i64 r.pushed, .int .i64 r.out.epoch, .int .i64 r.out.next, .int .i64 r.out.now, .slice a1x r.out.wait.length c1x, .bool r.str.opened, .slice a2x r.str.fields.length c2x, .int .i64 r.str.next, .slice b2x r.str.dicts.length d2x] 58)) = w5 at *
  refine (implSnd_any r a0x a3x a1x a2x b2x c0x c3x c1x c2x d2x w5 HR5.out ht).mono ?_
  rintro e w6 ⟨rfl, bl6⟩
  rw [HQ.out]
  have B6 := below_chain B5 bl6
  have HX6 := hid (boxSd HX5.out bl6)
  have HY6 := hid (boxSd HY5.out bl6)
  have HR6 := hid (HR5.out.later bl6)
  have hqq : (qq != qq) = false := by simp
  have p0 := cell_of_row _ _ 0 _ _ _ HX6.out
  have p1 := cell_of_row _ _ 1 _ _ _ HX6.out
  have p2 := cell_of_row _ _ 2 _ _ _ HX6.out
  have p3 := cell_of_row _ _ 3 _ _ _ HX6.out
  have p4 := cell_of_row _ _ 4 _ _ _ HX6.out
  have p5 := cell_of_row _ _ 5 _ _ _ HX6.out
  have p6 := cell_of_row _ _ 6 _ _ _ HX6.out
  have p7 := cell_of_row _ _ 7 _ _ _ HX6.out
  have p8 := cell_of_row _ _ 8 _ _ _ HX6.out
  have p9 := cell_of_row _ _ 9 _ _ _ HX6.out
  have p10 := cell_of_row _ _ 10 _ _ _ HX6.out
  have p11 := cell_of_row _ _ 11 _ _ _ HX6.out
  have p12 := cell_of_row _ _ 12 _ _ _ HX6.out
  simp only [List.getElem?_toArray, List.getElem?_cons_zero, List.getElem?_cons_succ] at p0 p1 p2 p3 p4 p5 p6 p7 p8 p9 p10 p11 p12
  have q0 := cell_of_row _ _ 0 _ _ _ HY6.out
  have q1 := cell_of_row _ _ 1 _ _ _ HY6.out
  have q2 := cell_of_row _ _ 2 _ _ _ HY6.out
  have q3 := cell_of_row _ _ 3 _ _ _ HY6.out
  have q4 := cell_of_row _ _ 4 _ _ _ HY6.out
  have q5 := cell_of_row _ _ 5 _ _ _ HY6.out
  have q6 := cell_of_row _ _ 6 _ _ _ HY6.out
  have q7 := cell_of_row _ _ 7 _ _ _ HY6.out
  have q8 := cell_of_row _ _ 8 _ _ _ HY6.out
  have q9 := cell_of_row _ _ 9 _ _ _ HY6.out
  have q10 := cell_of_row _ _ 10 _ _ _ HY6.out
  have q11 := cell_of_row _ _ 11 _ _ _ HY6.out
  have q12 := cell_of_row _ _ 12 _ _ _ HY6.out
  simp only [List.getElem?_toArray, List.getElem?_cons_zero, List.getElem?_cons_succ] at q0 q1 q2 q3 q4 q5 q6 q7 q8 q9 q10 q11 q12
  have HT7 : Hid (Calls Tryz.prog 15 #[.agg #[.slice a0 r.fields.length c0, .int .i64 r.epoch, .int .i64 r.base, .slice a3 r.tables.length c3, .int .i64 r.pushed, .int .i64 r.out.epoch, .int .i64 r.out.next, .int .i64 r.out.now, .slice a1 r.out.wait.length c1, .bool r.str.opened, .slice a2 r.str.fields.length c2, .int .i64 r.str.next, .slice b2 r.str.dicts.length d2]] w6.drew fun e w8 => ∃ a0z c0z a3z c3z a1z c1z a2z c2z b2z d2z, e = .returned (.agg #[.slice a0z r.fields.length c0z, .int .i64 r.epoch, .int .i64 r.base, .slice a3z r.tables.length c3z, .int .i64 r.pushed, .int .i64 r.out.epoch, .int .i64 r.out.next, .int .i64 r.out.now, .slice a1z r.out.wait.length c1z, .bool r.str.opened, .slice a2z r.str.fields.length c2z, .int .i64 r.str.next, .slice b2z r.str.dicts.length d2z]) ∧ Hid (RdSnd w8 r a0z c0z a3z c3z a1z c1z a2z c2z b2z d2z) ∧ Hid (Below w6.heap.size w6 w8) ∧ BoxSd w8 w.heap.size r a0 a3 a1 a2 b2 c0 c3 c1 c2 d2 ∧ BoxSd w8 w4.heap.size r a0x a3x a1x a2x b2x c0x c3x c1x c2x d2x) := hid (by
    refine (toSender_any r a0 a3 a1 a2 b2 c0 c3 c1 c2 d2 w6.drew (HR.out.later B6.drew) ht).mono ?_
    rintro e w8 ⟨a0z, c0z, a3z, c3z, a1z, c1z, a2z, c2z, b2z, d2z, bi8, di8, bs8, ds8, ts8, rfl, o8, -, -, bl8⟩
    have bl := (Below.refl _ w6).drew.trans bl8
    exact ⟨a0z, c0z, a3z, c3z, a1z, c1z, a2z, c2z, b2z, d2z, rfl, hid o8.rd, hid bl, boxSd_of (boxSd HX6.out bl), boxSd_of (boxSd HY6.out bl)⟩)
  have HE7 : Hid (∀ w8 a0z c0z a3z c3z a1z c1z a2z c2z b2z d2z, Hid (RdSnd w8 r a0z c0z a3z c3z a1z c1z a2z c2z b2z d2z) → Hid (Below w6.heap.size w6 w8) → Calls Tryz.prog 17 #[.agg #[.slice a0x r.fields.length c0x, .int .i64 r.epoch, .int .i64 r.base, .slice a3x r.tables.length c3x, .int .i64 r.pushed, .int .i64 r.out.epoch, .int .i64 r.out.next, .int .i64 r.out.now, .slice a1x r.out.wait.length c1x, .bool r.str.opened, .slice a2x r.str.fields.length c2x, .int .i64 r.str.next, .slice b2x r.str.dicts.length d2x], .agg #[.slice a0z r.fields.length c0z, .int .i64 r.epoch, .int .i64 r.base, .slice a3z r.tables.length c3z, .int .i64 r.pushed, .int .i64 r.out.epoch, .int .i64 r.out.next, .int .i64 r.out.now, .slice a1z r.out.wait.length c1z, .bool r.str.opened, .slice a2z r.str.fields.length c2z, .int .i64 r.str.next, .slice b2z r.str.dicts.length d2z]] w8 fun e w9 => e = .returned (.bool true) ∧ Hid (Below w6.heap.size w6 w9) ∧ BoxSd w9 w.heap.size r a0 a3 a1 a2 b2 c0 c3 c1 c2 d2 ∧ BoxSd w9 w4.heap.size r a0x a3x a1x a2x b2x c0x c3x c1x c2x d2x) := hid (fun w8 a0z c0z a3z c3z a1z c1z a2z c2z b2z d2z h8 hb => by
    refine (eqSender_any r a0x a3x a1x a2x b2x c0x c3x c1x c2x d2x a0z a3z a1z a2z b2z c0z c3z c1z c2z d2z w8 (HR6.out.later hb.out) h8.out ht).mono ?_
    rintro e w9 ⟨rfl, bl9⟩
    have bl := below_chain hb.out bl9
    exact ⟨rfl, hid bl, boxSd_of (boxSd HX6.out bl), boxSd_of (boxSd HY6.out bl)⟩)
  go_wp2
  (go_region_held3 (fun w' => w'.cell? ⟨w.heap.size, 0, none⟩ = some (.slice a0 r.fields.length c0) ∧ w'.cell? ⟨w.heap.size, 1, none⟩ = some (.int .i64 r.epoch) ∧ w'.cell? ⟨w.heap.size, 2, none⟩ = some (.int .i64 r.base) ∧ w'.cell? ⟨w.heap.size, 3, none⟩ = some (.slice a3 r.tables.length c3) ∧ w'.cell? ⟨w.heap.size, 4, none⟩ = some (.int .i64 r.pushed) ∧ w'.cell? ⟨w.heap.size, 5, none⟩ = some (.int .i64 r.out.epoch) ∧ w'.cell? ⟨w.heap.size, 6, none⟩ = some (.int .i64 r.out.next) ∧ w'.cell? ⟨w.heap.size, 7, none⟩ = some (.int .i64 r.out.now) ∧ w'.cell? ⟨w.heap.size, 8, none⟩ = some (.slice a1 r.out.wait.length c1) ∧ w'.cell? ⟨w.heap.size, 9, none⟩ = some (.bool r.str.opened) ∧ w'.cell? ⟨w.heap.size, 10, none⟩ = some (.slice a2 r.str.fields.length c2) ∧ w'.cell? ⟨w.heap.size, 11, none⟩ = some (.int .i64 r.str.next) ∧ w'.cell? ⟨w.heap.size, 12, none⟩ = some (.slice b2 r.str.dicts.length d2) ∧ w'.cell? ⟨w4.heap.size, 0, none⟩ = some (.slice a0x r.fields.length c0x) ∧ w'.cell? ⟨w4.heap.size, 1, none⟩ = some (.int .i64 r.epoch) ∧ w'.cell? ⟨w4.heap.size, 2, none⟩ = some (.int .i64 r.base) ∧ w'.cell? ⟨w4.heap.size, 3, none⟩ = some (.slice a3x r.tables.length c3x) ∧ w'.cell? ⟨w4.heap.size, 4, none⟩ = some (.int .i64 r.pushed) ∧ w'.cell? ⟨w4.heap.size, 5, none⟩ = some (.int .i64 r.out.epoch) ∧ w'.cell? ⟨w4.heap.size, 6, none⟩ = some (.int .i64 r.out.next) ∧ w'.cell? ⟨w4.heap.size, 7, none⟩ = some (.int .i64 r.out.now) ∧ w'.cell? ⟨w4.heap.size, 8, none⟩ = some (.slice a1x r.out.wait.length c1x) ∧ w'.cell? ⟨w4.heap.size, 9, none⟩ = some (.bool r.str.opened) ∧ w'.cell? ⟨w4.heap.size, 10, none⟩ = some (.slice a2x r.str.fields.length c2x) ∧ w'.cell? ⟨w4.heap.size, 11, none⟩ = some (.int .i64 r.str.next) ∧ w'.cell? ⟨w4.heap.size, 12, none⟩ = some (.slice b2x r.str.dicts.length d2x)) (go_keep) (first
    | (go_at_call 15; refine HT7.out.mono ?_; rintro e w8 ⟨a0z, c0z, a3z, c3z, a1z, c1z, a2z, c2z, b2z, d2z, rfl, hr8, hb8, ⟨xx0, xx1, xx2, xx3, xx4, xx5, xx6, xx7, xx8, xx9, xx10, xx11, xx12⟩, ⟨yy0, yy1, yy2, yy3, yy4, yy5, yy6, yy7, yy8, yy9, yy10, yy11, yy12⟩⟩)
    | (go_at_call 17; refine (HE7.out _ a0z c0z a3z c3z a1z c1z a2z c2z b2z d2z hr8 hb8).mono ?_; rintro e w9 ⟨rfl, hb9, ⟨zz0, zz1, zz2, zz3, zz4, zz5, zz6, zz7, zz8, zz9, zz10, zz11, zz12⟩, ⟨uu0, uu1, uu2, uu3, uu4, uu5, uu6, uu7, uu8, uu9, uu10, uu11, uu12⟩⟩)))
  have B9 := below_chain B6 hb9.out
  go_wp2
  go_ret
  exact ⟨rfl, B9⟩
end Go.Proofs.YtfaehioeepolhaaGreat
