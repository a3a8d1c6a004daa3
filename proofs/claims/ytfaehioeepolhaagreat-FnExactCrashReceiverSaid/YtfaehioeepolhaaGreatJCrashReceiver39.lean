import Derived.Test.YtfaehioeepolhaaGreatJCrashReceiver36
import Derived.Test.YtfaehioeepolhaaGreatJCrashReceiver38
namespace Go.Proofs.YtfaehioeepolhaaGreat
open Go.RowKit
set_option maxRecDepth 100000 in
set_option maxHeartbeats 4000000 in
theorem l6ready_any (r : PRcv) (a1 b1 a2 b2 a3 : Option Addr) (c1 d1 c2 d2 c3 : Nat) (w : World) (hr : RdRcv w r a1 c1 b1 d1 a2 c2 b2 d2 a3 c3) (ht : tRcv r ≤ 1048576) :
    Calls Tryz.prog 40 #[.agg #[.int .i64 r.epoch, .int .i64 r.count, .bool r.live, .int .i64 r.inn.epoch, .int .i64 r.inn.expect, .slice a1 r.inn.held.length c1, .slice b1 r.inn.part.length d1, .bool r.str.opened, .slice a2 r.str.fields.length c2, .int .i64 r.str.next, .slice b2 r.str.dicts.length d2, .slice a3 r.ready.length c3, .int .i64 r.errors]] w fun e w' => e = .returned (.bool (readyOK r)) ∧ Below w.heap.size w w' := by
  have HR := hid hr
  clear hr
  have HK0 : Hid ((w.alloc (.cells #[.int .i64 r.epoch, .int .i64 r.count, .bool r.live, .int .i64 r.inn.epoch, .int .i64 r.inn.expect, .slice a1 r.inn.held.length c1, .slice b1 r.inn.part.length d1, .bool r.str.opened, .slice a2 r.str.fields.length c2, .int .i64 r.str.next, .slice b2 r.str.dicts.length d2, .slice a3 r.ready.length c3, .int .i64 r.errors] 43)).heap[w.heap.size]? = some (.cells #[.int .i64 r.epoch, .int .i64 r.count, .bool r.live, .int .i64 r.inn.epoch, .int .i64 r.inn.expect, .slice a1 r.inn.held.length c1, .slice b1 r.inn.part.length d1, .bool r.str.opened, .slice a2 r.str.fields.length c2, .int .i64 r.str.next, .slice b2 r.str.dicts.length d2, .slice a3 r.ready.length c3, .int .i64 r.errors] 43 (0, 0))) := hid (heap_alloc_new w _)
  have HB0 := hid (below_new1 w (.cells #[.int .i64 r.epoch, .int .i64 r.count, .bool r.live, .int .i64 r.inn.epoch, .int .i64 r.inn.expect, .slice a1 r.inn.held.length c1, .slice b1 r.inn.part.length d1, .bool r.str.opened, .slice a2 r.str.fields.length c2, .int .i64 r.str.next, .slice b2 r.str.dicts.length d2, .slice a3 r.ready.length c3, .int .i64 r.errors] 43))
  have hT : totL totT r.ready ≤ 1048576 := by unfold tRcv at ht; omega
  go_enter Tryz.func40, Tryz.ntmps40
  go_upto_region 1 with fail
  generalize (w.alloc (.cells #[.int .i64 r.epoch, .int .i64 r.count, .bool r.live, .int .i64 r.inn.epoch, .int .i64 r.inn.expect, .slice a1 r.inn.held.length c1, .slice b1 r.inn.part.length d1, .bool r.str.opened, .slice a2 r.str.fields.length c2, .int .i64 r.str.next, .slice b2 r.str.dicts.length d2, .slice a3 r.ready.length c3, .int .i64 r.errors] 43)) = W0 at *
  have p7 := cell_of_row _ _ 7 _ _ _ HK0.out
  have p8 := cell_of_row _ _ 8 _ _ _ HK0.out
  have p11 := cell_of_row _ _ 11 _ _ _ HK0.out
  simp only [List.getElem?_toArray, List.getElem?_cons_zero, List.getElem?_cons_succ] at p7 p8 p11
  cases ho : r.str.opened with
  | false =>
    rw [ho] at p7
    by_cases hn : r.ready.length = 0
    · have HF : Hid (readyOK r = true) := hid (by unfold readyOK; rw [if_neg (by simp [ho])]; exact decide_eq_true hn)
      have f0 : ((r.ready.length : Int) == 0) = true := by simp [hn]
      clear ho hn
      go_wp2
      go_ret
      exact ⟨by rw [HF.out]; rfl, HB0.out⟩
    · have HF : Hid (readyOK r = false) := hid (by unfold readyOK; rw [if_neg (by simp [ho])]; exact decide_eq_false hn)
      have f0 : ((r.ready.length : Int) == 0) = false := beq_false_of_ne (by omega)
      clear ho hn
      go_wp2
      go_ret
      exact ⟨by rw [HF.out]; rfl, HB0.out⟩
  | true =>
    rw [ho] at p7
    have HF : Hid (readyOK r = (decide (r.ready.length ≤ 20) && tabsOK r.str.fields r.ready)) := hid (by unfold readyOK; rw [if_pos ho])
    clear ho
    go_wp2_with fail
    refine (l6tablesOK_any r.str.fields r.ready a2 a3 c2 c3 W0 (HR.out.s.f.later HB0.out) (HR.out.t.later HB0.out) hT).mono ?_
    rintro e w2 ⟨rfl, b2⟩
    have HB2 := hid (below_chain HB0.out b2)
    clear b2
    rw [← HF.out]
    generalize hqe : readyOK r = q at *
    have HQE := hid hqe
    clear hqe
    go_wp2
    go_ret
    exact ⟨by rw [HQE.out]; rfl, HB2.out⟩
set_option maxRecDepth 100000 in
set_option maxHeartbeats 16000000 in
theorem specRcv_any (r : PRcv) (a1 b1 a2 b2 a3 : Option Addr) (c1 d1 c2 d2 c3 : Nat) (w : World) (hr : RdRcv w r a1 c1 b1 d1 a2 c2 b2 d2 a3 c3) (ht : tRcv r ≤ 1048576) :
    Calls Tryz.prog 9 #[.agg #[.int .i64 r.epoch, .int .i64 r.count, .bool r.live, .int .i64 r.inn.epoch, .int .i64 r.inn.expect, .slice a1 r.inn.held.length c1, .slice b1 r.inn.part.length d1, .bool r.str.opened, .slice a2 r.str.fields.length c2, .int .i64 r.str.next, .slice b2 r.str.dicts.length d2, .slice a3 r.ready.length c3, .int .i64 r.errors]] w fun e w' => e = .returned (.bool (rcvOK r)) ∧ Below w.heap.size w w' := by
  have HR := hid hr
  clear hr
  have HK0 : Hid ((w.alloc (.cells #[.int .i64 r.epoch, .int .i64 r.count, .bool r.live, .int .i64 r.inn.epoch, .int .i64 r.inn.expect, .slice a1 r.inn.held.length c1, .slice b1 r.inn.part.length d1, .bool r.str.opened, .slice a2 r.str.fields.length c2, .int .i64 r.str.next, .slice b2 r.str.dicts.length d2, .slice a3 r.ready.length c3, .int .i64 r.errors] 43)).heap[w.heap.size]? = some (.cells #[.int .i64 r.epoch, .int .i64 r.count, .bool r.live, .int .i64 r.inn.epoch, .int .i64 r.inn.expect, .slice a1 r.inn.held.length c1, .slice b1 r.inn.part.length d1, .bool r.str.opened, .slice a2 r.str.fields.length c2, .int .i64 r.str.next, .slice b2 r.str.dicts.length d2, .slice a3 r.ready.length c3, .int .i64 r.errors] 43 (0, 0))) := hid (heap_alloc_new w _)
  have HB0 := hid (below_new1 w (.cells #[.int .i64 r.epoch, .int .i64 r.count, .bool r.live, .int .i64 r.inn.epoch, .int .i64 r.inn.expect, .slice a1 r.inn.held.length c1, .slice b1 r.inn.part.length d1, .bool r.str.opened, .slice a2 r.str.fields.length c2, .int .i64 r.str.next, .slice b2 r.str.dicts.length d2, .slice a3 r.ready.length c3, .int .i64 r.errors] 43))
  have hT : tIn r.inn ≤ 1048576 ∧ tStr r.str ≤ 1048576 := by unfold tRcv at ht; omega
  have hln : r.ready.length ≤ 1048576 := by unfold tRcv totL at ht; omega
  go_enter Tryz.func9, Tryz.ntmps9
  go_upto_region 1 with fail
  generalize (w.alloc (.cells #[.int .i64 r.epoch, .int .i64 r.count, .bool r.live, .int .i64 r.inn.epoch, .int .i64 r.inn.expect, .slice a1 r.inn.held.length c1, .slice b1 r.inn.part.length d1, .bool r.str.opened, .slice a2 r.str.fields.length c2, .int .i64 r.str.next, .slice b2 r.str.dicts.length d2, .slice a3 r.ready.length c3, .int .i64 r.errors] 43)) = W0 at *
  have p0 := cell_of_row _ _ 0 _ _ _ HK0.out
  have p1 := cell_of_row _ _ 1 _ _ _ HK0.out
  have p2 := cell_of_row _ _ 2 _ _ _ HK0.out
  have p3 := cell_of_row _ _ 3 _ _ _ HK0.out
  have p4 := cell_of_row _ _ 4 _ _ _ HK0.out
  have p5 := cell_of_row _ _ 5 _ _ _ HK0.out
  have p6 := cell_of_row _ _ 6 _ _ _ HK0.out
  have p7 := cell_of_row _ _ 7 _ _ _ HK0.out
  have p8 := cell_of_row _ _ 8 _ _ _ HK0.out
  have p9 := cell_of_row _ _ 9 _ _ _ HK0.out
  have p10 := cell_of_row _ _ 10 _ _ _ HK0.out
  have p11 := cell_of_row _ _ 11 _ _ _ HK0.out
  have p12 := cell_of_row _ _ 12 _ _ _ HK0.out
  simp only [List.getElem?_toArray, List.getElem?_cons_zero, List.getElem?_cons_succ] at p0 p1 p2 p3 p4 p5 p6 p7 p8 p9 p10 p11 p12
  by_cases k0 : r.epoch < 0
  · have g0 : decide (r.epoch < 0) = true := decide_eq_true k0
    have HF : Hid (rcvOK r = false) := hid (rcv_head (by unfold RcvH; omega))
    go_wp2
    go_ret
    exact ⟨by rw [HF.out]; rfl, HB0.out⟩
  have g0 : decide (r.epoch < 0) = false := decide_eq_false k0
  by_cases k1 : 1000000000 < r.epoch
  · have g1 : decide (1000000000 < r.epoch) = true := decide_eq_true k1
    have HF : Hid (rcvOK r = false) := hid (rcv_head (by unfold RcvH; omega))
    go_wp2
    go_ret
    exact ⟨by rw [HF.out]; rfl, HB0.out⟩
  have g1 : decide (1000000000 < r.epoch) = false := decide_eq_false k1
  by_cases k2 : r.count < 0
  · have g2 : decide (r.count < 0) = true := decide_eq_true k2
    have HF : Hid (rcvOK r = false) := hid (rcv_head (by unfold RcvH; omega))
    go_wp2
    go_ret
    exact ⟨by rw [HF.out]; rfl, HB0.out⟩
  have g2 : decide (r.count < 0) = false := decide_eq_false k2
  by_cases k3 : 1000000000 < r.count
  · have g3 : decide (1000000000 < r.count) = true := decide_eq_true k3
    have HF : Hid (rcvOK r = false) := hid (rcv_head (by unfold RcvH; omega))
    go_wp2
    go_ret
    exact ⟨by rw [HF.out]; rfl, HB0.out⟩
  have g3 : decide (1000000000 < r.count) = false := decide_eq_false k3
  by_cases k4 : r.errors < 0
  · have g4 : decide (r.errors < 0) = true := decide_eq_true k4
    have HF : Hid (rcvOK r = false) := hid (rcv_head (by unfold RcvH; omega))
    go_wp2
    go_ret
    exact ⟨by rw [HF.out]; rfl, HB0.out⟩
  have g4 : decide (r.errors < 0) = false := decide_eq_false k4
  by_cases k5 : 1000000000 < r.errors
  · have g5 : decide (1000000000 < r.errors) = true := decide_eq_true k5
    have HF : Hid (rcvOK r = false) := hid (rcv_head (by unfold RcvH; omega))
    go_wp2
    go_ret
    exact ⟨by rw [HF.out]; rfl, HB0.out⟩
  have g5 : decide (1000000000 < r.errors) = false := decide_eq_false k5
  have hH : RcvH r := by unfold RcvH; omega
  cases hlv : r.live with
  | false =>
    have HL := hid (rcv_dead hH hlv)
    rw [hlv] at p2
    clear hlv hH k0 k1 k2 k3 k4 k5
    have HKa : Hid ((W0.alloc (.cells #[.int .i64 r.inn.epoch, .int .i64 r.inn.expect, .slice a1 r.inn.held.length c1, .slice b1 r.inn.part.length d1] 37)).heap[W0.heap.size]? = some (.cells #[.int .i64 r.inn.epoch, .int .i64 r.inn.expect, .slice a1 r.inn.held.length c1, .slice b1 r.inn.part.length d1] 37 (0, 0))) := hid (heap_alloc_new W0 _)
    have HBa := hid (below_new1 W0 (.cells #[.int .i64 r.inn.epoch, .int .i64 r.inn.expect, .slice a1 r.inn.held.length c1, .slice b1 r.inn.part.length d1] 37))
    go_upto_region 5 with fail
    generalize (W0.alloc (.cells #[.int .i64 r.inn.epoch, .int .i64 r.inn.expect, .slice a1 r.inn.held.length c1, .slice b1 r.inn.part.length d1] 37)) = Wa at *
    have HKb := hid (boxR HK0.out HBa.out)
    clear p0 p1 p2 p3 p4 p5 p6 p7 p8 p9 p10 p11 p12 g0 g1 g2 g3 g4 g5
    have p7 := cell_of_row _ _ 7 _ _ _ HKb.out
    have p8 := cell_of_row _ _ 8 _ _ _ HKb.out
    have p9 := cell_of_row _ _ 9 _ _ _ HKb.out
    have p10 := cell_of_row _ _ 10 _ _ _ HKb.out
    have p11 := cell_of_row _ _ 11 _ _ _ HKb.out
    simp only [List.getElem?_toArray, List.getElem?_cons_zero, List.getElem?_cons_succ] at p7 p8 p9 p10 p11
    have HBb := hid (below_new1 Wa (.cells #[.bool r.str.opened, .slice a2 r.str.fields.length c2, .int .i64 r.str.next, .slice b2 r.str.dicts.length d2] 40))
    have HK4 : Hid ((Wa.alloc (.cells #[.bool r.str.opened, .slice a2 r.str.fields.length c2, .int .i64 r.str.next, .slice b2 r.str.dicts.length d2] 40)).heap[Wa.heap.size]? = some (.cells #[.bool r.str.opened, .slice a2 r.str.fields.length c2, .int .i64 r.str.next, .slice b2 r.str.dicts.length d2] 40 (0, 0))) := hid (heap_alloc_new Wa _)
    have HK3 := hid (boxR HKa.out HBb.out)
    have HK5 := hid (boxR HKb.out HBb.out)
    have HB1 := hid (below_chain HB0.out (below_chain HBa.out HBb.out))
    go_upto_region 6 with fail
    generalize (Wa.alloc (.cells #[.bool r.str.opened, .slice a2 r.str.fields.length c2, .int .i64 r.str.next, .slice b2 r.str.dicts.length d2] 40)) = W1 at *
    clear p7 p8 p9 p10 p11
    have p0 := cell_of_row _ _ 0 _ _ _ HK3.out
    have p1 := cell_of_row _ _ 1 _ _ _ HK3.out
    have p2 := cell_of_row _ _ 2 _ _ _ HK3.out
    have p3 := cell_of_row _ _ 3 _ _ _ HK3.out
    simp only [List.getElem?_toArray, List.getElem?_cons_zero, List.getElem?_cons_succ] at p0 p1 p2 p3
    have q0 := cell_of_row _ _ 0 _ _ _ HK4.out
    have q1 := cell_of_row _ _ 1 _ _ _ HK4.out
    have q2 := cell_of_row _ _ 2 _ _ _ HK4.out
    have q3 := cell_of_row _ _ 3 _ _ _ HK4.out
    simp only [List.getElem?_toArray, List.getElem?_cons_zero, List.getElem?_cons_succ] at q0 q1 q2 q3
    have s11 := cell_of_row _ _ 11 _ _ _ HK5.out
    simp only [List.getElem?_toArray, List.getElem?_cons_zero, List.getElem?_cons_succ] at s11
    by_cases z0 : ¬ r.inn.epoch = 0
    · have y0 : (r.inn.epoch == 0) = false := beq_false_of_ne (by omega)
      have HF : Hid (rcvOK r = false) := hid (by rw [HL.out]; exact decide_eq_false (fun h => z0 h.1))
      clear z0
      go_wp2
      go_ret
      exact ⟨by rw [HF.out]; rfl, HB1.out⟩
    replace z0 := Decidable.not_not.1 z0
    have y0 : (r.inn.epoch == 0) = true := beq_iff_eq.2 (by omega)
    by_cases z1 : ¬ r.inn.expect = 0
    · have y1 : (r.inn.expect == 0) = false := beq_false_of_ne (by omega)
      have HF : Hid (rcvOK r = false) := hid (by rw [HL.out]; exact decide_eq_false (fun h => z1 h.2.1))
      clear z1
      go_wp2
      go_ret
      exact ⟨by rw [HF.out]; rfl, HB1.out⟩
    replace z1 := Decidable.not_not.1 z1
    have y1 : (r.inn.expect == 0) = true := beq_iff_eq.2 (by omega)
    by_cases z2 : ¬ r.inn.held.length = 0
    · have y2 : ((r.inn.held.length : Int) == 0) = false := beq_false_of_ne (by omega)
      have HF : Hid (rcvOK r = false) := hid (by rw [HL.out]; exact decide_eq_false (fun h => z2 h.2.2.1))
      clear z2
      go_wp2
      go_ret
      exact ⟨by rw [HF.out]; rfl, HB1.out⟩
    replace z2 := Decidable.not_not.1 z2
    have y2 : ((r.inn.held.length : Int) == 0) = true := beq_iff_eq.2 (by omega)
    by_cases z3 : ¬ r.inn.part.length = 0
    · have y3 : ((r.inn.part.length : Int) == 0) = false := beq_false_of_ne (by omega)
      have HF : Hid (rcvOK r = false) := hid (by rw [HL.out]; exact decide_eq_false (fun h => z3 h.2.2.2.1))
      clear z3
      go_wp2
      go_ret
      exact ⟨by rw [HF.out]; rfl, HB1.out⟩
    replace z3 := Decidable.not_not.1 z3
    have y3 : ((r.inn.part.length : Int) == 0) = true := beq_iff_eq.2 (by omega)
    by_cases z4 : ¬ r.str.opened = false
    · have y4 : (!r.str.opened) = false := by simpa using z4
      have HF : Hid (rcvOK r = false) := hid (by rw [HL.out]; exact decide_eq_false (fun h => z4 h.2.2.2.2.1))
      clear z4
      go_wp2
      go_ret
      exact ⟨by rw [HF.out]; rfl, HB1.out⟩
    replace z4 := Decidable.not_not.1 z4
    have y4 : (!r.str.opened) = true := by simp [z4]
    by_cases z5 : ¬ r.str.next = 0
    · have y5 : (r.str.next == 0) = false := beq_false_of_ne (by omega)
      have HF : Hid (rcvOK r = false) := hid (by rw [HL.out]; exact decide_eq_false (fun h => z5 h.2.2.2.2.2.1))
      clear z5
      go_wp2
      go_ret
      exact ⟨by rw [HF.out]; rfl, HB1.out⟩
    replace z5 := Decidable.not_not.1 z5
    have y5 : (r.str.next == 0) = true := beq_iff_eq.2 (by omega)
    by_cases z6 : ¬ r.str.fields.length = 0
    · have y6 : ((r.str.fields.length : Int) == 0) = false := beq_false_of_ne (by omega)
      have HF : Hid (rcvOK r = false) := hid (by rw [HL.out]; exact decide_eq_false (fun h => z6 h.2.2.2.2.2.2.1))
      clear z6
      go_wp2
      go_ret
      exact ⟨by rw [HF.out]; rfl, HB1.out⟩
    replace z6 := Decidable.not_not.1 z6
    have y6 : ((r.str.fields.length : Int) == 0) = true := beq_iff_eq.2 (by omega)
    by_cases z7 : ¬ r.str.dicts.length = 0
    · have y7 : ((r.str.dicts.length : Int) == 0) = false := beq_false_of_ne (by omega)
      have HF : Hid (rcvOK r = false) := hid (by rw [HL.out]; exact decide_eq_false (fun h => z7 h.2.2.2.2.2.2.2.1))
      clear z7
      go_wp2
      go_ret
      exact ⟨by rw [HF.out]; rfl, HB1.out⟩
    replace z7 := Decidable.not_not.1 z7
    have y7 : ((r.str.dicts.length : Int) == 0) = true := beq_iff_eq.2 (by omega)
    by_cases z8 : ¬ r.ready.length = 0
    · have y8 : ((r.ready.length : Int) == 0) = false := beq_false_of_ne (by omega)
      have HF : Hid (rcvOK r = false) := hid (by rw [HL.out]; exact decide_eq_false (fun h => z8 h.2.2.2.2.2.2.2.2))
      clear z8
      go_wp2
      go_ret
      exact ⟨by rw [HF.out]; rfl, HB1.out⟩
    replace z8 := Decidable.not_not.1 z8
    have y8 : ((r.ready.length : Int) == 0) = true := beq_iff_eq.2 (by omega)
    have HF : Hid (rcvOK r = true) := hid (by rw [HL.out]; exact decide_eq_true ⟨z0, z1, z2, z3, z4, z5, z6, z7, z8⟩)
    clear z0 z1 z2 z3 z4 z5 z6 z7 z8
    go_wp2
    go_ret
    exact ⟨by rw [HF.out]; rfl, HB1.out⟩
  | true =>
    have HL := hid (rcv_live hH hlv)
    rw [hlv] at p2
    clear hlv
    by_cases l0 : r.epoch < 1
    · have m0 : decide (r.epoch < 1) = true := decide_eq_true l0
      have HF : Hid (rcvOK r = false) := hid (by rw [HL.out, decide_eq_false (by omega)]; rfl)
      go_wp2
      go_ret
      exact ⟨by rw [HF.out]; rfl, HB0.out⟩
    have m0 : decide (r.epoch < 1) = false := decide_eq_false l0
    by_cases l1 : ¬ r.inn.epoch = r.epoch
    · have m1 : (r.inn.epoch != r.epoch) = true := by simpa using l1
      have HF : Hid (rcvOK r = false) := hid (by rw [HL.out, decide_eq_false (fun h => l1 h.2)]; rfl)
      clear l1
      go_wp2
      go_ret
      exact ⟨by rw [HF.out]; rfl, HB0.out⟩
    replace l1 := Decidable.not_not.1 l1
    have m1 : (r.inn.epoch != r.epoch) = false := by simpa using l1
    rw [decide_eq_true ⟨by omega, l1⟩, Bool.true_and] at HL
    clear l1 l0
    go_wp2_with fail
    refine (specVI_any r.inn a1 b1 c1 d1 W0 (HR.out.i.later HB0.out)).mono ?_
    rintro e w2 ⟨rfl, b2⟩
    have HK2 := hid (boxR HK0.out b2)
    have HB2 := hid (below_chain HB0.out b2)
    clear b2 p0 p1 p2 p3 p4 p5 p6 p7 p8 p9 p10 p11 p12
    have p0 := cell_of_row _ _ 0 _ _ _ HK2.out
    have p1 := cell_of_row _ _ 1 _ _ _ HK2.out
    have p2 := cell_of_row _ _ 2 _ _ _ HK2.out
    have p3 := cell_of_row _ _ 3 _ _ _ HK2.out
    have p4 := cell_of_row _ _ 4 _ _ _ HK2.out
    have p5 := cell_of_row _ _ 5 _ _ _ HK2.out
    have p6 := cell_of_row _ _ 6 _ _ _ HK2.out
    have p7 := cell_of_row _ _ 7 _ _ _ HK2.out
    have p8 := cell_of_row _ _ 8 _ _ _ HK2.out
    have p9 := cell_of_row _ _ 9 _ _ _ HK2.out
    have p10 := cell_of_row _ _ 10 _ _ _ HK2.out
    have p11 := cell_of_row _ _ 11 _ _ _ HK2.out
    have p12 := cell_of_row _ _ 12 _ _ _ HK2.out
    simp only [List.getElem?_toArray, List.getElem?_cons_zero, List.getElem?_cons_succ] at p0 p1 p2 p3 p4 p5 p6 p7 p8 p9 p10 p11 p12

    cases hi : inOK r.inn with
    | false =>
      have HF : Hid (rcvOK r = false) := hid (by rw [HL.out, hi]; rfl)
      clear hi
      go_wp2
      go_ret
      exact ⟨by rw [HF.out]; rfl, HB2.out⟩
    | true =>
    rw [hi, Bool.true_and] at HL
    clear hi
    go_wp2_with fail
    refine (specStr_any r.str a2 b2 c2 d2 w2 (HR.out.s.later HB2.out) hT.2).mono ?_
    rintro e w3 ⟨rfl, b3⟩
    have HK3 := hid (boxR HK2.out b3)
    have HB3 := hid (below_chain HB2.out b3)
    clear b3 p0 p1 p2 p3 p4 p5 p6 p7 p8 p9 p10 p11 p12
    have p0 := cell_of_row _ _ 0 _ _ _ HK3.out
    have p1 := cell_of_row _ _ 1 _ _ _ HK3.out
    have p2 := cell_of_row _ _ 2 _ _ _ HK3.out
    have p3 := cell_of_row _ _ 3 _ _ _ HK3.out
    have p4 := cell_of_row _ _ 4 _ _ _ HK3.out
    have p5 := cell_of_row _ _ 5 _ _ _ HK3.out
    have p6 := cell_of_row _ _ 6 _ _ _ HK3.out
    have p7 := cell_of_row _ _ 7 _ _ _ HK3.out
    have p8 := cell_of_row _ _ 8 _ _ _ HK3.out
    have p9 := cell_of_row _ _ 9 _ _ _ HK3.out
    have p10 := cell_of_row _ _ 10 _ _ _ HK3.out
    have p11 := cell_of_row _ _ 11 _ _ _ HK3.out
    have p12 := cell_of_row _ _ 12 _ _ _ HK3.out
    simp only [List.getElem?_toArray, List.getElem?_cons_zero, List.getElem?_cons_succ] at p0 p1 p2 p3 p4 p5 p6 p7 p8 p9 p10 p11 p12

    cases hs : strOK r.str with
    | false =>
      have HF : Hid (rcvOK r = false) := hid (by rw [HL.out, hs]; rfl)
      clear hs
      go_wp2
      go_ret
      exact ⟨by rw [HF.out]; rfl, HB3.out⟩
    | true =>
    rw [hs, Bool.true_and] at HL
    clear hs
    go_wp2_with fail
    refine (l6ready_any r a1 b1 a2 b2 a3 c1 d1 c2 d2 c3 w3 (HR.out.later HB3.out) ht).mono ?_
    rintro e w4 ⟨rfl, b4⟩
    have HK4 := hid (boxR HK3.out b4)
    have HB4 := hid (below_chain HB3.out b4)
    clear b4 p0 p1 p2 p3 p4 p5 p6 p7 p8 p9 p10 p11 p12
    have p0 := cell_of_row _ _ 0 _ _ _ HK4.out
    have p1 := cell_of_row _ _ 1 _ _ _ HK4.out
    have p2 := cell_of_row _ _ 2 _ _ _ HK4.out
    have p3 := cell_of_row _ _ 3 _ _ _ HK4.out
    have p4 := cell_of_row _ _ 4 _ _ _ HK4.out
    have p5 := cell_of_row _ _ 5 _ _ _ HK4.out
    have p6 := cell_of_row _ _ 6 _ _ _ HK4.out
    have p7 := cell_of_row _ _ 7 _ _ _ HK4.out
    have p8 := cell_of_row _ _ 8 _ _ _ HK4.out
    have p9 := cell_of_row _ _ 9 _ _ _ HK4.out
    have p10 := cell_of_row _ _ 10 _ _ _ HK4.out
    have p11 := cell_of_row _ _ 11 _ _ _ HK4.out
    have p12 := cell_of_row _ _ 12 _ _ _ HK4.out
    simp only [List.getElem?_toArray, List.getElem?_cons_zero, List.getElem?_cons_succ] at p0 p1 p2 p3 p4 p5 p6 p7 p8 p9 p10 p11 p12

    cases hq : readyOK r with
    | false =>
      have HF : Hid (rcvOK r = false) := hid (by rw [HL.out, hq]; rfl)
      clear hq
      go_wp2
      go_ret
      exact ⟨by rw [HF.out]; rfl, HB4.out⟩
    | true =>
    rw [hq, Bool.true_and] at HL
    clear hq
    cases ho : r.str.opened with
    | false =>
      have HF : Hid (rcvOK r = true) := hid (by rw [HL.out, ho]; rfl)
      rw [ho] at p7
      clear ho
      go_wp2
      go_ret
      exact ⟨by rw [HF.out]; rfl, HB4.out⟩
    | true =>
    rw [ho] at p7
    have HL2 : Hid (rcvOK r = decide (RcvN r)) := hid (by rw [HL.out, ho]; rfl)
    clear ho
    by_cases u0 : ¬ r.str.next ≤ r.count + (r.ready.length : Int)
    · have v0 : decide (r.str.next ≤ r.count + (r.ready.length : Int)) = false := decide_eq_false u0
      have HF : Hid (rcvOK r = false) := hid (by rw [HL2.out]; exact decide_eq_false (fun h => u0 h.1))
      go_wp2
      go_ret
      exact ⟨by rw [HF.out]; rfl, HB4.out⟩
    replace u0 := Decidable.not_not.1 u0
    have v0 : decide (r.str.next ≤ r.count + (r.ready.length : Int)) = true := decide_eq_true u0
    by_cases u1 : r.ready.length = 0
    · have v1 : ((r.ready.length : Int) == 0) = true := by simp [u1]
      have HF : Hid (rcvOK r = true) := hid (by rw [HL2.out]; exact decide_eq_true ⟨u0, .inl u1⟩)
      clear u1
      go_wp2
      go_ret
      exact ⟨by rw [HF.out]; rfl, HB4.out⟩
    have v1 : ((r.ready.length : Int) == 0) = false := beq_false_of_ne (by omega)
    by_cases u2 : r.str.next = r.count + (r.ready.length : Int)
    · have v2 : (r.str.next == r.count + (r.ready.length : Int)) = true := by simpa using u2
      have HF : Hid (rcvOK r = true) := hid (by rw [HL2.out]; exact decide_eq_true ⟨u0, .inr u2⟩)
      clear u2
      go_wp2
      go_ret
      exact ⟨by rw [HF.out]; rfl, HB4.out⟩
    · have v2 : (r.str.next == r.count + (r.ready.length : Int)) = false := by simpa using u2
      have HF : Hid (rcvOK r = false) := hid (by rw [HL2.out]; exact decide_eq_false (fun h => h.2.elim u1 u2))
      clear u2
      go_wp2
      go_ret
      exact ⟨by rw [HF.out]; rfl, HB4.out⟩
end Go.Proofs.YtfaehioeepolhaaGreat
