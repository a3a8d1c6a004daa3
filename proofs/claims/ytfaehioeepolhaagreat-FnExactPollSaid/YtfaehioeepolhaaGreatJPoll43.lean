import Derived.Test.YtfaehioeepolhaaGreatJPoll37
import Derived.Test.YtfaehioeepolhaaGreatJPoll41
import Derived.Test.YtfaehioeepolhaaGreatJPoll42
import Derived.Test.YtfaehioeepolhaaGreatJPoll12
import Derived.Test.YtfaehioeepolhaaGreatJPoll35
namespace Go.Proofs.YtfaehioeepolhaaGreat
open Go.RowKit
set_option maxRecDepth 100000 in
set_option maxHeartbeats 8000000 in
theorem copyReceiver_any (r : PRcv) (a1 b1 a2 b2 a3 : Option Addr) (c1 d1 c2 d2 c3 : Nat) (w : World) (hr : RdRcv w r a1 c1 b1 d1 a2 c2 b2 d2 a3 c3) (ht : tRcv r ≤ 1048576) :
    Calls Tryz.prog 78 #[.agg #[.int .i64 r.epoch, .int .i64 r.count, .bool r.live, .int .i64 r.inn.epoch, .int .i64 r.inn.expect, .slice a1 r.inn.held.length c1, .slice b1 r.inn.part.length d1, .bool r.str.opened, .slice a2 r.str.fields.length c2, .int .i64 r.str.next, .slice b2 r.str.dicts.length d2, .slice a3 r.ready.length c3, .int .i64 r.errors]] w fun e w' => ∃ a1x c1x b1x d1x a2x c2x b2x d2x a3x c3x bi di bs ds ts, e = .returned (.agg #[.int .i64 r.epoch, .int .i64 r.count, .bool r.live, .int .i64 r.inn.epoch, .int .i64 r.inn.expect, .slice a1x r.inn.held.length c1x, .slice b1x r.inn.part.length d1x, .bool r.str.opened, .slice a2x r.str.fields.length c2x, .int .i64 r.str.next, .slice b2x r.str.dicts.length d2x, .slice a3x r.ready.length c3x, .int .i64 r.errors]) ∧ OwnRcv w' r a1x c1x b1x d1x a2x c2x b2x d2x a3x c3x bi di bs ds ts ∧ (∀ y ∈ ((bi ++ di) ++ ((bs ++ ds) ++ ts)), w.heap.size ≤ y) ∧ ((bi ++ di) ++ ((bs ++ ds) ++ ts)).Nodup ∧ Below w.heap.size w w' := by
  have HR := hid hr
  clear hr
  have hT : totL pN r.inn.held ≤ 1048576 ∧ r.inn.part.length ≤ 1048576 ∧ totL fN r.str.fields ≤ 1048576 ∧ totL tS r.str.dicts ≤ 1048576 ∧ totL totT r.ready ≤ 1048576 := by unfold tRcv tIn tStr at ht; omega
  have HK0 : Hid (((w.alloc (.cells #[.int .i64 r.epoch, .int .i64 r.count, .bool r.live, .int .i64 r.inn.epoch, .int .i64 r.inn.expect, .slice a1 r.inn.held.length c1, .slice b1 r.inn.part.length d1, .bool r.str.opened, .slice a2 r.str.fields.length c2, .int .i64 r.str.next, .slice b2 r.str.dicts.length d2, .slice a3 r.ready.length c3, .int .i64 r.errors] 43)).alloc (.cells #[.int .i64 0, .int .i64 0, .bool false, .int .i64 0, .int .i64 0, .slice none 0 0, .slice none 0 0, .bool false, .slice none 0 0, .int .i64 0, .slice none 0 0, .slice none 0 0, .int .i64 0] 43)).heap[w.heap.size]? = some (.cells #[.int .i64 r.epoch, .int .i64 r.count, .bool r.live, .int .i64 r.inn.epoch, .int .i64 r.inn.expect, .slice a1 r.inn.held.length c1, .slice b1 r.inn.part.length d1, .bool r.str.opened, .slice a2 r.str.fields.length c2, .int .i64 r.str.next, .slice b2 r.str.dicts.length d2, .slice a3 r.ready.length c3, .int .i64 r.errors] 43 (0, 0))) := hid (heap2 _ _ (Below.refl _ _)).1
  have HL0 : Hid (((w.alloc (.cells #[.int .i64 r.epoch, .int .i64 r.count, .bool r.live, .int .i64 r.inn.epoch, .int .i64 r.inn.expect, .slice a1 r.inn.held.length c1, .slice b1 r.inn.part.length d1, .bool r.str.opened, .slice a2 r.str.fields.length c2, .int .i64 r.str.next, .slice b2 r.str.dicts.length d2, .slice a3 r.ready.length c3, .int .i64 r.errors] 43)).alloc (.cells #[.int .i64 0, .int .i64 0, .bool false, .int .i64 0, .int .i64 0, .slice none 0 0, .slice none 0 0, .bool false, .slice none 0 0, .int .i64 0, .slice none 0 0, .slice none 0 0, .int .i64 0] 43)).heap[w.heap.size + 1]? = some (.cells #[.int .i64 0, .int .i64 0, .bool false, .int .i64 0, .int .i64 0, .slice none 0 0, .slice none 0 0, .bool false, .slice none 0 0, .int .i64 0, .slice none 0 0, .slice none 0 0, .int .i64 0] 43 (0, 0))) := hid (heap2 _ _ (Below.refl _ _)).2
  have HB0 := hid (below_new2 w (.cells #[.int .i64 r.epoch, .int .i64 r.count, .bool r.live, .int .i64 r.inn.epoch, .int .i64 r.inn.expect, .slice a1 r.inn.held.length c1, .slice b1 r.inn.part.length d1, .bool r.str.opened, .slice a2 r.str.fields.length c2, .int .i64 r.str.next, .slice b2 r.str.dicts.length d2, .slice a3 r.ready.length c3, .int .i64 r.errors] 43) (.cells #[.int .i64 0, .int .i64 0, .bool false, .int .i64 0, .int .i64 0, .slice none 0 0, .slice none 0 0, .bool false, .slice none 0 0, .int .i64 0, .slice none 0 0, .slice none 0 0, .int .i64 0] 43))
  have HSZ := hid (size2 w (.cells #[.int .i64 r.epoch, .int .i64 r.count, .bool r.live, .int .i64 r.inn.epoch, .int .i64 r.inn.expect, .slice a1 r.inn.held.length c1, .slice b1 r.inn.part.length d1, .bool r.str.opened, .slice a2 r.str.fields.length c2, .int .i64 r.str.next, .slice b2 r.str.dicts.length d2, .slice a3 r.ready.length c3, .int .i64 r.errors] 43) (.cells #[.int .i64 0, .int .i64 0, .bool false, .int .i64 0, .int .i64 0, .slice none 0 0, .slice none 0 0, .bool false, .slice none 0 0, .int .i64 0, .slice none 0 0, .slice none 0 0, .int .i64 0] 43))
  go_enter Tryz.func78, Tryz.ntmps78
  go_upto_region 1 with fail
  generalize ((w.alloc (.cells #[.int .i64 r.epoch, .int .i64 r.count, .bool r.live, .int .i64 r.inn.epoch, .int .i64 r.inn.expect, .slice a1 r.inn.held.length c1, .slice b1 r.inn.part.length d1, .bool r.str.opened, .slice a2 r.str.fields.length c2, .int .i64 r.str.next, .slice b2 r.str.dicts.length d2, .slice a3 r.ready.length c3, .int .i64 r.errors] 43)).alloc (.cells #[.int .i64 0, .int .i64 0, .bool false, .int .i64 0, .int .i64 0, .slice none 0 0, .slice none 0 0, .bool false, .slice none 0 0, .int .i64 0, .slice none 0 0, .slice none 0 0, .int .i64 0] 43)) = W0 at *
  have p3 := cell_of_row _ _ 3 _ _ _ HK0.out
  have p4 := cell_of_row _ _ 4 _ _ _ HK0.out
  have p5 := cell_of_row _ _ 5 _ _ _ HK0.out
  have p6 := cell_of_row _ _ 6 _ _ _ HK0.out
  simp only [List.getElem?_toArray, List.getElem?_cons_zero, List.getElem?_cons_succ] at p3 p4 p5 p6
  go_wp2_with fail
  refine (copyIn_any r.inn a1 b1 c1 d1 W0 (HR.out.i.later HB0.out) hT.1 hT.2.1).mono ?_
  rintro e w2 ⟨a1x, c1x, b1x, d1x, bi, di, rfl, oi, li, ni, bl2⟩
  have HK2 := hid (boxR HK0.out bl2)
  clear p3 p4 p5 p6
  have p3 := cell_of_row _ _ 3 _ _ _ HK2.out
  have zp3 := frozen_of_row _ _ 3 _ _ HK2.out
  have p4 := cell_of_row _ _ 4 _ _ _ HK2.out
  have zp4 := frozen_of_row _ _ 4 _ _ HK2.out
  have p5 := cell_of_row _ _ 5 _ _ _ HK2.out
  have zp5 := frozen_of_row _ _ 5 _ _ HK2.out
  have p6 := cell_of_row _ _ 6 _ _ _ HK2.out
  have zp6 := frozen_of_row _ _ 6 _ _ HK2.out
  simp only [List.getElem?_toArray, List.getElem?_cons_zero, List.getElem?_cons_succ] at p3 p4 p5 p6
  have HK3 := hid (set13In (y3 := .int .i64 r.inn.epoch) (y4 := .int .i64 r.inn.expect) (y5 := .slice a1x r.inn.held.length c1x) (y6 := .slice b1x r.inn.part.length d1x) HK2.out)
  have HI3 := hid (keptI oi (fun x hx => set13Ino (g := w.heap.size) (y3 := .int .i64 r.inn.epoch) (y4 := .int .i64 r.inn.expect) (y5 := .slice a1x r.inn.held.length c1x) (y6 := .slice b1x r.inn.part.length d1x) (by have := li x hx; have := HSZ.out; omega)))
  have HB3 := hid (set13Inb (g := w.heap.size) (y3 := .int .i64 r.inn.epoch) (y4 := .int .i64 r.inn.expect) (y5 := .slice a1x r.inn.held.length c1x) (y6 := .slice b1x r.inn.part.length d1x) (below_chain HB0.out bl2) (Nat.le_refl _))
  have HL3 := hid ((set13Ino (g := w.heap.size) (k := w.heap.size + 1) (y3 := .int .i64 r.inn.epoch) (y4 := .int .i64 r.inn.expect) (y5 := .slice a1x r.inn.held.length c1x) (y6 := .slice b1x r.inn.part.length d1x) (by omega)).trans (boxR HL0.out bl2))
  have HLI := hid li
  have HNI := hid ni
  have HLT3 : Hid (∀ x ∈ bi ++ di, x < w2.heap.size) := hid (ltI oi)
  clear oi li ni
  go_upto_region 2 with fail
  generalize hW3 : ((((w2.setCell ⟨w.heap.size, 3, none⟩ (.int .i64 r.inn.epoch)).setCell ⟨w.heap.size, 4, none⟩ (.int .i64 r.inn.expect)).setCell ⟨w.heap.size, 5, none⟩ (.slice a1x r.inn.held.length c1x)).setCell ⟨w.heap.size, 6, none⟩ (.slice b1x r.inn.part.length d1x)) = W3 at *
  have HS3 : Hid (W3.heap.size = w2.heap.size) := hid (by rw [← hW3]; simp)
  have HSW : Hid (W0.heap.size ≤ w2.heap.size) := hid bl2.size
  clear hW3 bl2 p3 zp3 p4 zp4 p5 zp5 p6 zp6 HK2
  have p7 := cell_of_row _ _ 7 _ _ _ HK3.out
  have p8 := cell_of_row _ _ 8 _ _ _ HK3.out
  have p9 := cell_of_row _ _ 9 _ _ _ HK3.out
  have p10 := cell_of_row _ _ 10 _ _ _ HK3.out
  simp only [List.getElem?_toArray, List.getElem?_cons_zero, List.getElem?_cons_succ] at p7 p8 p9 p10
  go_wp2_with fail
  refine (copyStream_any r.str a2 b2 c2 d2 W3 (HR.out.s.later HB3.out) hT.2.2.1 hT.2.2.2.1).mono ?_
  rintro e w4 ⟨a2x, c2x, b2x, d2x, bs, ds, rfl, os, ls, ns, bl4⟩
  have HK4 := hid (boxR HK3.out bl4)
  clear p7 p8 p9 p10
  have p7 := cell_of_row _ _ 7 _ _ _ HK4.out
  have zp7 := frozen_of_row _ _ 7 _ _ HK4.out
  have p8 := cell_of_row _ _ 8 _ _ _ HK4.out
  have zp8 := frozen_of_row _ _ 8 _ _ HK4.out
  have p9 := cell_of_row _ _ 9 _ _ _ HK4.out
  have zp9 := frozen_of_row _ _ 9 _ _ HK4.out
  have p10 := cell_of_row _ _ 10 _ _ _ HK4.out
  have zp10 := frozen_of_row _ _ 10 _ _ HK4.out
  simp only [List.getElem?_toArray, List.getElem?_cons_zero, List.getElem?_cons_succ] at p7 p8 p9 p10
  have HK5 := hid (set13St (y7 := .bool r.str.opened) (y8 := .slice a2x r.str.fields.length c2x) (y9 := .int .i64 r.str.next) (y10 := .slice b2x r.str.dicts.length d2x) HK4.out)
  have HS5 := hid (keptS os (fun x hx => set13Sto (g := w.heap.size) (y7 := .bool r.str.opened) (y8 := .slice a2x r.str.fields.length c2x) (y9 := .int .i64 r.str.next) (y10 := .slice b2x r.str.dicts.length d2x) (by have := ls x hx; have := HS3.out; have := HSW.out; have := HSZ.out; omega)))
  have HI5 := hid (keptI (keptI HI3.out (fun x hx => bl4.block x (ltI HI3.out x hx))) (fun x hx => set13Sto (g := w.heap.size) (y7 := .bool r.str.opened) (y8 := .slice a2x r.str.fields.length c2x) (y9 := .int .i64 r.str.next) (y10 := .slice b2x r.str.dicts.length d2x) (by have := HLI.out x hx; have := HSZ.out; omega)))
  have HB5 := hid (set13Stb (g := w.heap.size) (y7 := .bool r.str.opened) (y8 := .slice a2x r.str.fields.length c2x) (y9 := .int .i64 r.str.next) (y10 := .slice b2x r.str.dicts.length d2x) (below_chain HB3.out bl4) (Nat.le_refl _))
  have HL5 := hid ((set13Sto (g := w.heap.size) (k := w.heap.size + 1) (y7 := .bool r.str.opened) (y8 := .slice a2x r.str.fields.length c2x) (y9 := .int .i64 r.str.next) (y10 := .slice b2x r.str.dicts.length d2x) (by omega)).trans (boxR HL3.out bl4))
  have HLS : Hid (∀ x ∈ bs ++ ds, w2.heap.size ≤ x) := hid (fun x hx => by have := ls x hx; have := HS3.out; omega)
  have HNS := hid ns
  have HLT5 : Hid (∀ x ∈ bs ++ ds, x < w4.heap.size) := hid (ltS os)
  have HSX : Hid (w2.heap.size ≤ w4.heap.size) := hid (by have := bl4.size; have := HS3.out; omega)
  clear os ls ns
  go_upto_region 3 with fail
  generalize hW5 : ((((w4.setCell ⟨w.heap.size, 7, none⟩ (.bool r.str.opened)).setCell ⟨w.heap.size, 8, none⟩ (.slice a2x r.str.fields.length c2x)).setCell ⟨w.heap.size, 9, none⟩ (.int .i64 r.str.next)).setCell ⟨w.heap.size, 10, none⟩ (.slice b2x r.str.dicts.length d2x)) = W5 at *
  have HS6 : Hid (W5.heap.size = w4.heap.size) := hid (by rw [← hW5]; simp)
  clear hW5 bl4 p7 zp7 p8 zp8 p9 zp9 p10 zp10 HK4
  have p11 := cell_of_row _ _ 11 _ _ _ HK5.out
  simp only [List.getElem?_toArray, List.getElem?_cons_zero, List.getElem?_cons_succ] at p11
  go_wp2_with fail
  refine (copyTables_any a3 c3 r.ready W5 (HR.out.t.later HB5.out) hT.2.2.2.2).mono ?_
  rintro e w6 ⟨v6, ts, rfl, ot, lt6, nt, bl6⟩
  obtain ⟨a3x, c3x, rfl, -⟩ := id ot.rd
  have HK6 := hid (boxR HK5.out bl6)
  clear p11
  have p11 := cell_of_row _ _ 11 _ _ _ HK6.out
  have zp11 := frozen_of_row _ _ 11 _ _ HK6.out
  simp only [List.getElem?_toArray, List.getElem?_cons_zero, List.getElem?_cons_succ] at p11
  have HK7 := hid (set13Rd (y11 := .slice a3x r.ready.length c3x) HK6.out)
  have HT7 := hid (ot.kept (fun x hx => set13Rdo (g := w.heap.size) (y11 := .slice a3x r.ready.length c3x) (by have := lt6 x hx; have := HS6.out; have := HSX.out; have := HSW.out; have := HSZ.out; omega)))
  have HS7 := hid (keptS (keptS HS5.out (fun x hx => bl6.block x (ltS HS5.out x hx))) (fun x hx => set13Rdo (g := w.heap.size) (y11 := .slice a3x r.ready.length c3x) (by have := HLS.out x hx; have := HSW.out; have := HSZ.out; omega)))
  have HI7 := hid (keptI (keptI HI5.out (fun x hx => bl6.block x (ltI HI5.out x hx))) (fun x hx => set13Rdo (g := w.heap.size) (y11 := .slice a3x r.ready.length c3x) (by have := HLI.out x hx; have := HSZ.out; omega)))
  have HB7 := hid (set13Rdb (g := w.heap.size) (y11 := .slice a3x r.ready.length c3x) (below_chain HB5.out bl6) (Nat.le_refl _))
  have HL7 := hid ((set13Rdo (g := w.heap.size) (k := w.heap.size + 1) (y11 := .slice a3x r.ready.length c3x) (by omega)).trans (boxR HL5.out bl6))
  have HLT : Hid (∀ x ∈ ts, w4.heap.size ≤ x) := hid (fun x hx => by have := lt6 x hx; have := HS6.out; omega)
  have HNT := hid nt
  clear ot lt6 nt
  go_upto_region 4 with fail
  generalize (w6.setCell ⟨w.heap.size, 11, none⟩ (.slice a3x r.ready.length c3x)) = W7 at *
  clear bl6 p11 zp11 HK6
  have p0 := cell_of_row _ _ 0 _ _ _ HK7.out
  have p1 := cell_of_row _ _ 1 _ _ _ HK7.out
  have p2 := cell_of_row _ _ 2 _ _ _ HK7.out
  have p3 := cell_of_row _ _ 3 _ _ _ HK7.out
  have p4 := cell_of_row _ _ 4 _ _ _ HK7.out
  have p5 := cell_of_row _ _ 5 _ _ _ HK7.out
  have p6 := cell_of_row _ _ 6 _ _ _ HK7.out
  have p7 := cell_of_row _ _ 7 _ _ _ HK7.out
  have p8 := cell_of_row _ _ 8 _ _ _ HK7.out
  have p9 := cell_of_row _ _ 9 _ _ _ HK7.out
  have p10 := cell_of_row _ _ 10 _ _ _ HK7.out
  have p11 := cell_of_row _ _ 11 _ _ _ HK7.out
  have p12 := cell_of_row _ _ 12 _ _ _ HK7.out
  simp only [List.getElem?_toArray, List.getElem?_cons_zero, List.getElem?_cons_succ] at p0 p1 p2 p3 p4 p5 p6 p7 p8 p9 p10 p11 p12
  have q0 := cell_of_row _ _ 0 _ _ _ HL7.out
  have zq0 := frozen_of_row _ _ 0 _ _ HL7.out
  have q1 := cell_of_row _ _ 1 _ _ _ HL7.out
  have zq1 := frozen_of_row _ _ 1 _ _ HL7.out
  have q2 := cell_of_row _ _ 2 _ _ _ HL7.out
  have zq2 := frozen_of_row _ _ 2 _ _ HL7.out
  have q3 := cell_of_row _ _ 3 _ _ _ HL7.out
  have zq3 := frozen_of_row _ _ 3 _ _ HL7.out
  have q4 := cell_of_row _ _ 4 _ _ _ HL7.out
  have zq4 := frozen_of_row _ _ 4 _ _ HL7.out
  have q5 := cell_of_row _ _ 5 _ _ _ HL7.out
  have zq5 := frozen_of_row _ _ 5 _ _ HL7.out
  have q6 := cell_of_row _ _ 6 _ _ _ HL7.out
  have zq6 := frozen_of_row _ _ 6 _ _ HL7.out
  have q7 := cell_of_row _ _ 7 _ _ _ HL7.out
  have zq7 := frozen_of_row _ _ 7 _ _ HL7.out
  have q8 := cell_of_row _ _ 8 _ _ _ HL7.out
  have zq8 := frozen_of_row _ _ 8 _ _ HL7.out
  have q9 := cell_of_row _ _ 9 _ _ _ HL7.out
  have zq9 := frozen_of_row _ _ 9 _ _ HL7.out
  have q10 := cell_of_row _ _ 10 _ _ _ HL7.out
  have zq10 := frozen_of_row _ _ 10 _ _ HL7.out
  have q11 := cell_of_row _ _ 11 _ _ _ HL7.out
  have zq11 := frozen_of_row _ _ 11 _ _ HL7.out
  have q12 := cell_of_row _ _ 12 _ _ _ HL7.out
  have zq12 := frozen_of_row _ _ 12 _ _ HL7.out
  simp only [List.getElem?_toArray, List.getElem?_cons_zero, List.getElem?_cons_succ] at q0 q1 q2 q3 q4 q5 q6 q7 q8 q9 q10 q11 q12
  go_wp2
  refine bodyPost_ret (results_cell_row rfl _ _ (w.heap.size + 1) 43 #[.int .i64 r.epoch, .int .i64 r.count, .bool r.live, .int .i64 r.inn.epoch, .int .i64 r.inn.expect, .slice a1x r.inn.held.length c1x, .slice b1x r.inn.part.length d1x, .bool r.str.opened, .slice a2x r.str.fields.length c2x, .int .i64 r.str.next, .slice b2x r.str.dicts.length d2x, .slice a3x r.ready.length c3x, .int .i64 r.errors] (0, 0) _ rfl (set13 HL7.out) Tryz.underlying43 rfl (by kernel_rfl)) rfl ?_
  have hsz := HSZ.out
  have hsw := HSW.out
  have hsx := HSX.out
  refine ⟨a1x, c1x, b1x, d1x, a2x, c2x, b2x, d2x, a3x, c3x, bi, di, bs, ds, ts, rfl, ⟨keptI HI7.out (fun x hx => set13o (by have := HLI.out x hx; omega)), keptS HS7.out (fun x hx => set13o (by have := HLS.out x hx; omega)), HT7.out.kept (fun x hx => set13o (by have := HLT.out x hx; omega))⟩, ?_, ?_, set13b HB7.out (by omega)⟩
  · intro x hx
    rcases List.mem_append.1 hx with h | h
    · have := HLI.out x h; omega
    · rcases List.mem_append.1 h with h | h
      · have := HLS.out x h; omega
      · have := HLT.out x h; omega
  · refine List.nodup_append.2 ⟨HNI.out, List.nodup_append.2 ⟨HNS.out, HNT.out, fun x hx y hy e => ?_⟩, fun x hx y hy e => ?_⟩
    · have := HLT5.out x hx; have := HLT.out y hy; omega
    · have := HLT3.out x hx
      rcases List.mem_append.1 hy with h | h
      · have := HLS.out y h; omega
      · have := HLT.out y h; omega
end Go.Proofs.YtfaehioeepolhaaGreat
