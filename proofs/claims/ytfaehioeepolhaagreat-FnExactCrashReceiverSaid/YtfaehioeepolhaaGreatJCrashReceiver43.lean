import Derived.Test.YtfaehioeepolhaaGreatJCrashReceiver36
import Derived.Test.YtfaehioeepolhaaGreatJCrashReceiver41
import Derived.Test.YtfaehioeepolhaaGreatJCrashReceiver42
import Derived.BigQuiet
namespace Go.Proofs.YtfaehioeepolhaaGreat
open Go.RowKit
def zeroI (r : PRcv) : Bool := decide (r.inn.epoch = 0 ∧ r.inn.expect = 0 ∧ r.inn.held.length = 0 ∧ r.inn.part.length = 0)
set_option maxRecDepth 100000 in
set_option maxHeartbeats 4000000 in
theorem zeroIn_any (r : PRcv) (a1 b1 : Option Addr) (c1 d1 : Nat) (w : World) :
    Calls Tryz.prog 45 #[.agg #[.int .i64 r.inn.epoch, .int .i64 r.inn.expect, .slice a1 r.inn.held.length c1, .slice b1 r.inn.part.length d1]] w fun e w' => e = .returned (.bool (zeroI r)) ∧ Below w.heap.size w w' := by
  have HK0 : Hid ((w.alloc (.cells #[.int .i64 r.inn.epoch, .int .i64 r.inn.expect, .slice a1 r.inn.held.length c1, .slice b1 r.inn.part.length d1] 37)).heap[w.heap.size]? = some (.cells #[.int .i64 r.inn.epoch, .int .i64 r.inn.expect, .slice a1 r.inn.held.length c1, .slice b1 r.inn.part.length d1] 37 (0, 0))) := hid (heap_alloc_new w _)
  have HB0 := hid (below_new1 w (.cells #[.int .i64 r.inn.epoch, .int .i64 r.inn.expect, .slice a1 r.inn.held.length c1, .slice b1 r.inn.part.length d1] 37))
  go_enter Tryz.func45, Tryz.ntmps45
  go_upto_region 1 with fail
  generalize (w.alloc (.cells #[.int .i64 r.inn.epoch, .int .i64 r.inn.expect, .slice a1 r.inn.held.length c1, .slice b1 r.inn.part.length d1] 37)) = W0 at *
  have p0 := cell_of_row _ _ 0 _ _ _ HK0.out
  have p1 := cell_of_row _ _ 1 _ _ _ HK0.out
  have p2 := cell_of_row _ _ 2 _ _ _ HK0.out
  have p3 := cell_of_row _ _ 3 _ _ _ HK0.out
  simp only [List.getElem?_toArray, List.getElem?_cons_zero, List.getElem?_cons_succ] at p0 p1 p2 p3
  by_cases z0 : ¬ r.inn.epoch = 0
  · have y0 : (r.inn.epoch == 0) = false := beq_false_of_ne (by omega)
    have HF : Hid (zeroI r = false) := hid (decide_eq_false (fun h => z0 h.1))
    clear z0
    go_wp2
    go_ret
    exact ⟨by rw [HF.out]; rfl, HB0.out⟩
  replace z0 := Decidable.not_not.1 z0
  have y0 : (r.inn.epoch == 0) = true := beq_iff_eq.2 (by omega)
  by_cases z1 : ¬ r.inn.expect = 0
  · have y1 : (r.inn.expect == 0) = false := beq_false_of_ne (by omega)
    have HF : Hid (zeroI r = false) := hid (decide_eq_false (fun h => z1 h.2.1))
    clear z1
    go_wp2
    go_ret
    exact ⟨by rw [HF.out]; rfl, HB0.out⟩
  replace z1 := Decidable.not_not.1 z1
  have y1 : (r.inn.expect == 0) = true := beq_iff_eq.2 (by omega)
  by_cases z2 : ¬ r.inn.held.length = 0
  · have y2 : ((r.inn.held.length : Int) == 0) = false := beq_false_of_ne (by omega)
    have HF : Hid (zeroI r = false) := hid (decide_eq_false (fun h => z2 h.2.2.1))
    clear z2
    go_wp2
    go_ret
    exact ⟨by rw [HF.out]; rfl, HB0.out⟩
  replace z2 := Decidable.not_not.1 z2
  have y2 : ((r.inn.held.length : Int) == 0) = true := beq_iff_eq.2 (by omega)
  by_cases z3 : ¬ r.inn.part.length = 0
  · have y3 : ((r.inn.part.length : Int) == 0) = false := beq_false_of_ne (by omega)
    have HF : Hid (zeroI r = false) := hid (decide_eq_false (fun h => z3 h.2.2.2))
    clear z3
    go_wp2
    go_ret
    exact ⟨by rw [HF.out]; rfl, HB0.out⟩
  replace z3 := Decidable.not_not.1 z3
  have y3 : ((r.inn.part.length : Int) == 0) = true := beq_iff_eq.2 (by omega)
  have HF : Hid (zeroI r = true) := hid (decide_eq_true ⟨z0, z1, z2, z3⟩)
  clear z0 z1 z2 z3
  go_wp2
  go_ret
  exact ⟨by rw [HF.out]; rfl, HB0.out⟩
set_option maxRecDepth 100000 in
set_option maxHeartbeats 4000000 in
theorem firstMissing_any (g : Nat) (n L : Int) (k : Nat) (a : Option Addr) (c : Nat) (w : World) (h1 : w.cell? ⟨g, 1, none⟩ = some (.int .i64 n)) (h2 : w.cell? ⟨g, 11, none⟩ = some (.slice a k c)) (hL : L = n + (k : Int)) (hn : 0 ≤ n) (hn2 : n ≤ 1000000000) (hk : k ≤ 1048576) :
    Calls Tryz.prog 95 #[.pointer (some ⟨g, 0, none⟩)] w fun e w' => e = .returned (.int .i64 L) ∧ ∃ m, w' = w.drewN m := by
  have HL := hid hL
  clear hL
  go_enter Tryz.func95, Tryz.ntmps95
  go_wp2_with fail
  go_quiet (fail)
  go_wp2
  go_ret
  exact ⟨by rw [HL.out]; rfl, _, rfl⟩
def lastOK (r : PRcv) : Bool := (decide (r.ready.length ≤ 20) && tabsOK r.str.fields r.ready) && decide (RcvN r)
set_option maxRecDepth 100000 in
set_option maxHeartbeats 4000000 in
theorem validReady_any (r : PRcv) (a1 b1 a2 b2 a3 : Option Addr) (c1 d1 c2 d2 c3 : Nat) (w : World) (hr : RdRcv w r a1 c1 b1 d1 a2 c2 b2 d2 a3 c3) (ht : tRcv r ≤ 1048576) (hc0 : 0 ≤ r.count) (hc1 : r.count ≤ 1000000000) :
    Calls Tryz.prog 48 #[.agg #[.int .i64 r.epoch, .int .i64 r.count, .bool r.live, .int .i64 r.inn.epoch, .int .i64 r.inn.expect, .slice a1 r.inn.held.length c1, .slice b1 r.inn.part.length d1, .bool r.str.opened, .slice a2 r.str.fields.length c2, .int .i64 r.str.next, .slice b2 r.str.dicts.length d2, .slice a3 r.ready.length c3, .int .i64 r.errors]] w fun e w' => e = .returned (.bool (lastOK r)) ∧ Below w.heap.size w w' := by
  have HR := hid hr
  clear hr
  have HK0 : Hid ((w.alloc (.cells #[.int .i64 r.epoch, .int .i64 r.count, .bool r.live, .int .i64 r.inn.epoch, .int .i64 r.inn.expect, .slice a1 r.inn.held.length c1, .slice b1 r.inn.part.length d1, .bool r.str.opened, .slice a2 r.str.fields.length c2, .int .i64 r.str.next, .slice b2 r.str.dicts.length d2, .slice a3 r.ready.length c3, .int .i64 r.errors] 43)).heap[w.heap.size]? = some (.cells #[.int .i64 r.epoch, .int .i64 r.count, .bool r.live, .int .i64 r.inn.epoch, .int .i64 r.inn.expect, .slice a1 r.inn.held.length c1, .slice b1 r.inn.part.length d1, .bool r.str.opened, .slice a2 r.str.fields.length c2, .int .i64 r.str.next, .slice b2 r.str.dicts.length d2, .slice a3 r.ready.length c3, .int .i64 r.errors] 43 (0, 0))) := hid (heap_alloc_new w _)
  have HB0 := hid (below_new1 w (.cells #[.int .i64 r.epoch, .int .i64 r.count, .bool r.live, .int .i64 r.inn.epoch, .int .i64 r.inn.expect, .slice a1 r.inn.held.length c1, .slice b1 r.inn.part.length d1, .bool r.str.opened, .slice a2 r.str.fields.length c2, .int .i64 r.str.next, .slice b2 r.str.dicts.length d2, .slice a3 r.ready.length c3, .int .i64 r.errors] 43))
  have hT : totL totT r.ready ≤ 1048576 := by unfold tRcv at ht; omega
  have hln : r.ready.length ≤ 1048576 := by unfold totL at hT; omega
  go_enter Tryz.func48, Tryz.ntmps48
  go_upto_region 1 with fail
  generalize (w.alloc (.cells #[.int .i64 r.epoch, .int .i64 r.count, .bool r.live, .int .i64 r.inn.epoch, .int .i64 r.inn.expect, .slice a1 r.inn.held.length c1, .slice b1 r.inn.part.length d1, .bool r.str.opened, .slice a2 r.str.fields.length c2, .int .i64 r.str.next, .slice b2 r.str.dicts.length d2, .slice a3 r.ready.length c3, .int .i64 r.errors] 43)) = W0 at *
  have p1 := cell_of_row _ _ 1 _ _ _ HK0.out
  have p8 := cell_of_row _ _ 8 _ _ _ HK0.out
  have p9 := cell_of_row _ _ 9 _ _ _ HK0.out
  have p11 := cell_of_row _ _ 11 _ _ _ HK0.out
  simp only [List.getElem?_toArray, List.getElem?_cons_zero, List.getElem?_cons_succ] at p1 p8 p9 p11
  by_cases h20 : 20 < r.ready.length
  · have f0 : decide ((20 : Int) < (r.ready.length : Int)) = true := decide_eq_true (by omega)
    have HF : Hid (lastOK r = false) := hid (by unfold lastOK; rw [decide_eq_false (by omega)]; rfl)
    go_wp2
    go_ret
    exact ⟨by rw [HF.out]; rfl, HB0.out⟩
  have f0 : decide ((20 : Int) < (r.ready.length : Int)) = false := decide_eq_false (by omega)
  have HLA : Hid (lastOK r = (tabsOK r.str.fields r.ready && decide (RcvN r))) := hid (by unfold lastOK; rw [decide_eq_true (by omega)]; rfl)
  go_wp2_with fail
  refine (validTables_any r.str.fields r.ready a2 a3 c2 c3 W0 (HR.out.s.f.later HB0.out) (HR.out.t.later HB0.out) hT).mono ?_
  rintro e w2 ⟨rfl, b2⟩
  have HK2 := hid (boxR HK0.out b2)
  have HB2 := hid (below_chain HB0.out b2)
  clear b2 p1 p8 p9 p11
  have p1 := cell_of_row _ _ 1 _ _ _ HK2.out
  have p8 := cell_of_row _ _ 8 _ _ _ HK2.out
  have p9 := cell_of_row _ _ 9 _ _ _ HK2.out
  have p11 := cell_of_row _ _ 11 _ _ _ HK2.out
  simp only [List.getElem?_toArray, List.getElem?_cons_zero, List.getElem?_cons_succ] at p1 p8 p9 p11
  cases hq : tabsOK r.str.fields r.ready with
  | false =>
    have HF : Hid (lastOK r = false) := hid (by rw [HLA.out, hq]; rfl)
    clear hq
    go_wp2
    go_ret
    exact ⟨by rw [HF.out]; rfl, HB2.out⟩
  | true =>
  have HN : Hid (lastOK r = decide (RcvN r)) := hid (by rw [HLA.out, hq]; rfl)
  clear hq
  by_cases u1 : r.ready.length = 0
  · have v1 : ((r.ready.length : Int) == 0) = true := beq_iff_eq.2 (by omega)
    by_cases u0 : r.str.next ≤ r.count
    · have v0 : decide (r.str.next ≤ r.count) = true := decide_eq_true u0
      have HF : Hid (lastOK r = true) := hid (by rw [HN.out]; exact decide_eq_true ⟨by omega, .inl u1⟩)
      clear u1
      go_wp2
      go_ret
      exact ⟨by rw [HF.out]; rfl, HB2.out⟩
    · have v0 : decide (r.str.next ≤ r.count) = false := decide_eq_false u0
      have HF : Hid (lastOK r = false) := hid (by rw [HN.out]; exact decide_eq_false (fun h => by have := h.1; omega))
      clear u1
      go_wp2
      go_ret
      exact ⟨by rw [HF.out]; rfl, HB2.out⟩
  have v1 : ((r.ready.length : Int) == 0) = false := beq_false_of_ne (by omega)
  obtain ⟨S, hS⟩ : ∃ S : Int, S = r.count + (r.ready.length : Int) := ⟨_, rfl⟩
  have HQ : Hid (∀ n, Calls Tryz.prog 95 #[.pointer (some ⟨w.heap.size, 0, none⟩)] (w2.drewN n) fun e w' => e = .returned (.int .i64 S) ∧ ∃ m, w' = (w2.drewN n).drewN m) := hid (fun n => firstMissing_any w.heap.size r.count S r.ready.length a3 c3 (w2.drewN n) (((below_drewN (Below.refl _ w2) n).cell (World.block_lt_of_cell? _ _ p1)).trans p1) (((below_drewN (Below.refl _ w2) n).cell (World.block_lt_of_cell? _ _ p11)).trans p11) hS hc0 hc1 hln)
  by_cases u2 : S = r.str.next
  · have v2 : (S == r.str.next) = true := beq_iff_eq.2 u2
    have HF : Hid (lastOK r = true) := hid (by rw [HN.out]; exact decide_eq_true ⟨by omega, .inr (by omega)⟩)
    clear u2 hS
    go_wp2_with fail
    go_quiet ((go_at_call 95; exact Calls.quiet_of (HQ.out _)))
    go_wp2
    go_ret
    exact ⟨by rw [HF.out]; rfl, below_drewN HB2.out _⟩
  · have v2 : (S == r.str.next) = false := beq_false_of_ne u2
    have HF : Hid (lastOK r = false) := hid (by rw [HN.out]; exact decide_eq_false (fun h => h.2.elim u1 (fun h => u2 (by omega))))
    clear u2 hS
    go_wp2_with fail
    go_quiet ((go_at_call 95; exact Calls.quiet_of (HQ.out _)))
    go_wp2
    go_ret
    exact ⟨by rw [HF.out]; rfl, below_drewN HB2.out _⟩
set_option maxRecDepth 100000 in
set_option maxHeartbeats 16000000 in
theorem implRcv_any (r : PRcv) (a1 b1 a2 b2 a3 : Option Addr) (c1 d1 c2 d2 c3 : Nat) (w : World) (hr : RdRcv w r a1 c1 b1 d1 a2 c2 b2 d2 a3 c3) (ht : tRcv r ≤ 1048576) :
    Calls Tryz.prog 11 #[.agg #[.int .i64 r.epoch, .int .i64 r.count, .bool r.live, .int .i64 r.inn.epoch, .int .i64 r.inn.expect, .slice a1 r.inn.held.length c1, .slice b1 r.inn.part.length d1, .bool r.str.opened, .slice a2 r.str.fields.length c2, .int .i64 r.str.next, .slice b2 r.str.dicts.length d2, .slice a3 r.ready.length c3, .int .i64 r.errors]] w fun e w' => e = .returned (.bool (rcvOK r)) ∧ Below w.heap.size w w' := by
  have HR := hid hr
  clear hr
  have HK0 : Hid ((w.alloc (.cells #[.int .i64 r.epoch, .int .i64 r.count, .bool r.live, .int .i64 r.inn.epoch, .int .i64 r.inn.expect, .slice a1 r.inn.held.length c1, .slice b1 r.inn.part.length d1, .bool r.str.opened, .slice a2 r.str.fields.length c2, .int .i64 r.str.next, .slice b2 r.str.dicts.length d2, .slice a3 r.ready.length c3, .int .i64 r.errors] 43)).heap[w.heap.size]? = some (.cells #[.int .i64 r.epoch, .int .i64 r.count, .bool r.live, .int .i64 r.inn.epoch, .int .i64 r.inn.expect, .slice a1 r.inn.held.length c1, .slice b1 r.inn.part.length d1, .bool r.str.opened, .slice a2 r.str.fields.length c2, .int .i64 r.str.next, .slice b2 r.str.dicts.length d2, .slice a3 r.ready.length c3, .int .i64 r.errors] 43 (0, 0))) := hid (heap_alloc_new w _)
  have HB0 := hid (below_new1 w (.cells #[.int .i64 r.epoch, .int .i64 r.count, .bool r.live, .int .i64 r.inn.epoch, .int .i64 r.inn.expect, .slice a1 r.inn.held.length c1, .slice b1 r.inn.part.length d1, .bool r.str.opened, .slice a2 r.str.fields.length c2, .int .i64 r.str.next, .slice b2 r.str.dicts.length d2, .slice a3 r.ready.length c3, .int .i64 r.errors] 43))
  have hT : tIn r.inn ≤ 1048576 ∧ tStr r.str ≤ 1048576 := by unfold tRcv at ht; omega
  have hln : r.ready.length ≤ 1048576 := by unfold tRcv totL at ht; omega
  go_enter Tryz.func11, Tryz.ntmps11
  go_upto_region 1 with fail
  generalize (w.alloc (.cells #[.int .i64 r.epoch, .int .i64 r.count, .bool r.live, .int .i64 r.inn.epoch, .int .i64 r.inn.expect, .slice a1 r.inn.held.length c1, .slice b1 r.inn.part.length d1, .bool r.str.opened, .slice a2 r.str.fields.length c2, .int .i64 r.str.next, .slice b2 r.str.dicts.length d2, .slice a3 r.ready.length c3, .int .i64 r.errors] 43)) = W0 at *
  have p0 := cell_of_row _ _ 0 _ _ _ HK0.out
  have p1 := cell_of_row _ _ 1 _ _ _ HK0.out
  have p2 := cell_of_row _ _ 2 _ _ _ HK0.out
  have p3 := cell_of_row _ _ 3 _ _ _ HK0.out
  have p4 := cell_of_row _ _ 4 _ _ _ HK0.out
  have p5 := cell_of_row _ _ 5 _ _ _ HK0.out
  have p6 := cell_of_row _ _ 6 _ _ _ HK0.out
  have p7 := cell_of_row _ _ 7 _ _ _ HK0.out
  have p8 := cell_of_row _ _ 8 _ _ _ HK0.out
  have p9 := cell_of_row _ _ 9 _ _ _ HK0.out
  have p10 := cell_of_row _ _ 10 _ _ _ HK0.out
  have p11 := cell_of_row _ _ 11 _ _ _ HK0.out
  have p12 := cell_of_row _ _ 12 _ _ _ HK0.out
  simp only [List.getElem?_toArray, List.getElem?_cons_zero, List.getElem?_cons_succ] at p0 p1 p2 p3 p4 p5 p6 p7 p8 p9 p10 p11 p12
  go_wp2_with fail
  refine (within_any r.epoch 0 1000000000 W0).mono ?_
  rintro e w2 ⟨rfl, hw2⟩
  subst w2
  by_cases k0 : ¬ (0 ≤ r.epoch ∧ r.epoch ≤ 1000000000)
  · rw [decide_eq_false k0]
    have HF : Hid (rcvOK r = false) := hid (rcv_head (by unfold RcvH; omega))
    clear k0
    go_wp2
    go_ret
    exact ⟨by rw [HF.out]; rfl, HB0.out⟩
  replace k0 := Decidable.not_not.1 k0
  rw [decide_eq_true k0]
  go_wp2_with fail
  refine (within_any r.count 0 1000000000 W0).mono ?_
  rintro e w2 ⟨rfl, hw2⟩
  subst w2
  by_cases k1 : ¬ (0 ≤ r.count ∧ r.count ≤ 1000000000)
  · rw [decide_eq_false k1]
    have HF : Hid (rcvOK r = false) := hid (rcv_head (by unfold RcvH; omega))
    clear k1
    go_wp2
    go_ret
    exact ⟨by rw [HF.out]; rfl, HB0.out⟩
  replace k1 := Decidable.not_not.1 k1
  rw [decide_eq_true k1]
  go_wp2_with fail
  refine (within_any r.errors 0 1000000000 W0).mono ?_
  rintro e w2 ⟨rfl, hw2⟩
  subst w2
  by_cases k2 : ¬ (0 ≤ r.errors ∧ r.errors ≤ 1000000000)
  · rw [decide_eq_false k2]
    have HF : Hid (rcvOK r = false) := hid (rcv_head (by unfold RcvH; omega))
    clear k2
    go_wp2
    go_ret
    exact ⟨by rw [HF.out]; rfl, HB0.out⟩
  replace k2 := Decidable.not_not.1 k2
  rw [decide_eq_true k2]
  have hH : RcvH r := by unfold RcvH; omega
  cases hlv : r.live with
  | false =>
    have HL := hid (rcv_dead hH hlv)
    rw [hlv] at p2
    clear hlv hH
    go_wp2_with fail
    refine (zeroIn_any r a1 b1 c1 d1 W0).mono ?_
    rintro e w2 ⟨rfl, b2⟩
    have HK2 := hid (boxR HK0.out b2)
    have HB2 := hid (below_chain HB0.out b2)
    clear b2 p0 p1 p2 p3 p4 p5 p6 p7 p8 p9 p10 p11 p12
    have p0 := cell_of_row _ _ 0 _ _ _ HK2.out
    have p1 := cell_of_row _ _ 1 _ _ _ HK2.out
    have p2 := cell_of_row _ _ 2 _ _ _ HK2.out
    have p3 := cell_of_row _ _ 3 _ _ _ HK2.out
    have p4 := cell_of_row _ _ 4 _ _ _ HK2.out
    have p5 := cell_of_row _ _ 5 _ _ _ HK2.out
    have p6 := cell_of_row _ _ 6 _ _ _ HK2.out
    have p7 := cell_of_row _ _ 7 _ _ _ HK2.out
    have p8 := cell_of_row _ _ 8 _ _ _ HK2.out
    have p9 := cell_of_row _ _ 9 _ _ _ HK2.out
    have p10 := cell_of_row _ _ 10 _ _ _ HK2.out
    have p11 := cell_of_row _ _ 11 _ _ _ HK2.out
    have p12 := cell_of_row _ _ 12 _ _ _ HK2.out
    simp only [List.getElem?_toArray, List.getElem?_cons_zero, List.getElem?_cons_succ] at p0 p1 p2 p3 p4 p5 p6 p7 p8 p9 p10 p11 p12
    cases hz : zeroI r with
    | false =>
      have HF : Hid (rcvOK r = false) := hid (by rw [HL.out]; exact decide_eq_false (fun h => (of_decide_eq_false hz) ⟨h.1, h.2.1, h.2.2.1, h.2.2.2.1⟩))
      clear hz
      go_wp2
      go_ret
      exact ⟨by rw [HF.out]; rfl, HB2.out⟩
    | true =>
    have HZ := hid (of_decide_eq_true hz)
    clear hz
    go_wp2_with fail
    refine (implStr_any r.str a2 b2 c2 d2 w2 (HR.out.s.later HB2.out) hT.2).mono ?_
    rintro e w3 ⟨rfl, b3⟩
    have HK3 := hid (boxR HK2.out b3)
    have HB3 := hid (below_chain HB2.out b3)
    clear b3 p0 p1 p2 p3 p4 p5 p6 p7 p8 p9 p10 p11 p12
    have p0 := cell_of_row _ _ 0 _ _ _ HK3.out
    have p1 := cell_of_row _ _ 1 _ _ _ HK3.out
    have p2 := cell_of_row _ _ 2 _ _ _ HK3.out
    have p3 := cell_of_row _ _ 3 _ _ _ HK3.out
    have p4 := cell_of_row _ _ 4 _ _ _ HK3.out
    have p5 := cell_of_row _ _ 5 _ _ _ HK3.out
    have p6 := cell_of_row _ _ 6 _ _ _ HK3.out
    have p7 := cell_of_row _ _ 7 _ _ _ HK3.out
    have p8 := cell_of_row _ _ 8 _ _ _ HK3.out
    have p9 := cell_of_row _ _ 9 _ _ _ HK3.out
    have p10 := cell_of_row _ _ 10 _ _ _ HK3.out
    have p11 := cell_of_row _ _ 11 _ _ _ HK3.out
    have p12 := cell_of_row _ _ 12 _ _ _ HK3.out
    simp only [List.getElem?_toArray, List.getElem?_cons_zero, List.getElem?_cons_succ] at p0 p1 p2 p3 p4 p5 p6 p7 p8 p9 p10 p11 p12
    cases hs : strOK r.str with
    | false =>
      have HF : Hid (rcvOK r = false) := hid (by
        rw [HL.out]
        refine decide_eq_false (fun h => ?_)
        rw [strOK_shut h.2.2.2.2.1] at hs
        exact (of_decide_eq_false hs) ⟨h.2.2.2.2.2.2.1, h.2.2.2.2.2.1, h.2.2.2.2.2.2.2.1⟩)
      clear hs
      go_wp2
      go_ret
      exact ⟨by rw [HF.out]; rfl, HB3.out⟩
    | true =>
    cases ho : r.str.opened with
    | true =>
      have HF : Hid (rcvOK r = false) := hid (by rw [HL.out]; exact decide_eq_false (fun h => by have h5 := h.2.2.2.2.1; rw [ho] at h5; cases h5))
      rw [ho] at p7
      clear ho hs
      go_wp2
      go_ret
      exact ⟨by rw [HF.out]; rfl, HB3.out⟩
    | false =>
    rw [strOK_shut ho] at hs
    have HS := hid (of_decide_eq_true hs)
    have HO := hid ho
    rw [ho] at p7
    clear ho hs
    by_cases z8 : r.ready.length = 0
    · have y8 : ((r.ready.length : Int) == 0) = true := beq_iff_eq.2 (by omega)
      have HF : Hid (rcvOK r = true) := hid (by rw [HL.out]; exact decide_eq_true ⟨HZ.out.1, HZ.out.2.1, HZ.out.2.2.1, HZ.out.2.2.2, HO.out, HS.out.2.1, HS.out.1, HS.out.2.2, z8⟩)
      clear z8
      go_wp2
      go_ret
      exact ⟨by rw [HF.out]; rfl, HB3.out⟩
    · have y8 : ((r.ready.length : Int) == 0) = false := beq_false_of_ne (by omega)
      have HF : Hid (rcvOK r = false) := hid (by rw [HL.out]; exact decide_eq_false (fun h => z8 h.2.2.2.2.2.2.2.2))
      clear z8
      go_wp2
      go_ret
      exact ⟨by rw [HF.out]; rfl, HB3.out⟩
  | true =>
    have HL := hid (rcv_live hH hlv)
    rw [hlv] at p2
    clear hlv
    by_cases l0 : r.epoch = 0
    · have m0 : (r.epoch == 0) = true := beq_iff_eq.2 l0
      have HF : Hid (rcvOK r = false) := hid (by rw [HL.out, decide_eq_false (by omega)]; rfl)
      clear l0
      go_wp2
      go_ret
      exact ⟨by rw [HF.out]; rfl, HB0.out⟩
    have m0 : (r.epoch == 0) = false := beq_false_of_ne l0
    by_cases l1 : ¬ r.inn.epoch = r.epoch
    · have m1 : (r.epoch != r.inn.epoch) = true := by simpa using (Ne.symm l1)
      have HF : Hid (rcvOK r = false) := hid (by rw [HL.out, decide_eq_false (fun h => l1 h.2)]; rfl)
      clear l1
      go_wp2
      go_ret
      exact ⟨by rw [HF.out]; rfl, HB0.out⟩
    replace l1 := Decidable.not_not.1 l1
    have m1 : (r.epoch != r.inn.epoch) = false := by simpa using l1.symm
    rw [decide_eq_true ⟨by omega, l1⟩, Bool.true_and] at HL
    clear l1 l0
    go_wp2_with fail
    refine (implVI_any r.inn a1 b1 c1 d1 W0 (HR.out.i.later HB0.out)).mono ?_
    rintro e w2 ⟨rfl, b2⟩
    have HK2 := hid (boxR HK0.out b2)
    have HB2 := hid (below_chain HB0.out b2)
    clear b2 p0 p1 p2 p3 p4 p5 p6 p7 p8 p9 p10 p11 p12
    have p0 := cell_of_row _ _ 0 _ _ _ HK2.out
    have p1 := cell_of_row _ _ 1 _ _ _ HK2.out
    have p2 := cell_of_row _ _ 2 _ _ _ HK2.out
    have p3 := cell_of_row _ _ 3 _ _ _ HK2.out
    have p4 := cell_of_row _ _ 4 _ _ _ HK2.out
    have p5 := cell_of_row _ _ 5 _ _ _ HK2.out
    have p6 := cell_of_row _ _ 6 _ _ _ HK2.out
    have p7 := cell_of_row _ _ 7 _ _ _ HK2.out
    have p8 := cell_of_row _ _ 8 _ _ _ HK2.out
    have p9 := cell_of_row _ _ 9 _ _ _ HK2.out
    have p10 := cell_of_row _ _ 10 _ _ _ HK2.out
    have p11 := cell_of_row _ _ 11 _ _ _ HK2.out
    have p12 := cell_of_row _ _ 12 _ _ _ HK2.out
    simp only [List.getElem?_toArray, List.getElem?_cons_zero, List.getElem?_cons_succ] at p0 p1 p2 p3 p4 p5 p6 p7 p8 p9 p10 p11 p12
    cases hi : inOK r.inn with
    | false =>
      have HF : Hid (rcvOK r = false) := hid (by rw [HL.out, hi]; rfl)
      clear hi
      go_wp2
      go_ret
      exact ⟨by rw [HF.out]; rfl, HB2.out⟩
    | true =>
    rw [hi, Bool.true_and] at HL
    clear hi
    go_wp2_with fail
    refine (implStr_any r.str a2 b2 c2 d2 w2 (HR.out.s.later HB2.out) hT.2).mono ?_
    rintro e w3 ⟨rfl, b3⟩
    have HK3 := hid (boxR HK2.out b3)
    have HB3 := hid (below_chain HB2.out b3)
    clear b3 p0 p1 p2 p3 p4 p5 p6 p7 p8 p9 p10 p11 p12
    have p0 := cell_of_row _ _ 0 _ _ _ HK3.out
    have p1 := cell_of_row _ _ 1 _ _ _ HK3.out
    have p2 := cell_of_row _ _ 2 _ _ _ HK3.out
    have p3 := cell_of_row _ _ 3 _ _ _ HK3.out
    have p4 := cell_of_row _ _ 4 _ _ _ HK3.out
    have p5 := cell_of_row _ _ 5 _ _ _ HK3.out
    have p6 := cell_of_row _ _ 6 _ _ _ HK3.out
    have p7 := cell_of_row _ _ 7 _ _ _ HK3.out
    have p8 := cell_of_row _ _ 8 _ _ _ HK3.out
    have p9 := cell_of_row _ _ 9 _ _ _ HK3.out
    have p10 := cell_of_row _ _ 10 _ _ _ HK3.out
    have p11 := cell_of_row _ _ 11 _ _ _ HK3.out
    have p12 := cell_of_row _ _ 12 _ _ _ HK3.out
    simp only [List.getElem?_toArray, List.getElem?_cons_zero, List.getElem?_cons_succ] at p0 p1 p2 p3 p4 p5 p6 p7 p8 p9 p10 p11 p12
    cases hs : strOK r.str with
    | false =>
      have HF : Hid (rcvOK r = false) := hid (by rw [HL.out, hs]; rfl)
      clear hs
      go_wp2
      go_ret
      exact ⟨by rw [HF.out]; rfl, HB3.out⟩
    | true =>
    rw [hs, Bool.true_and] at HL
    clear hs
    cases ho : r.str.opened with
    | false =>
      have HL2 : Hid (rcvOK r = decide (r.ready.length = 0)) := hid (by rw [HL.out]; unfold readyOK; rw [if_neg (by simp [ho]), ho]; simp)
      rw [ho] at p7
      clear ho
      by_cases z8 : r.ready.length = 0
      · have y8 : ((r.ready.length : Int) == 0) = true := beq_iff_eq.2 (by omega)
        have HF : Hid (rcvOK r = true) := hid (by rw [HL2.out]; exact decide_eq_true z8)
        clear z8
        go_wp2
        go_ret
        exact ⟨by rw [HF.out]; rfl, HB3.out⟩
      · have y8 : ((r.ready.length : Int) == 0) = false := beq_false_of_ne (by omega)
        have HF : Hid (rcvOK r = false) := hid (by rw [HL2.out]; exact decide_eq_false z8)
        clear z8
        go_wp2
        go_ret
        exact ⟨by rw [HF.out]; rfl, HB3.out⟩
    | true =>
    have HL2 : Hid (rcvOK r = lastOK r) := hid (by rw [HL.out]; unfold readyOK lastOK; rw [if_pos ho, ho]; simp)
    have hno : (!r.str.opened) = false := by simp [ho]
    clear ho
    have hct : 0 ≤ r.count ∧ r.count ≤ 1000000000 := k1
    go_wp2_with fail
    refine (validReady_any r a1 b1 a2 b2 a3 c1 d1 c2 d2 c3 w3 (HR.out.later HB3.out) ht hct.1 hct.2).mono ?_
    rintro e w4 ⟨rfl, b4⟩
    rw [← HL2.out]
    have HB4 := hid (below_chain HB3.out b4)
    clear b4
    generalize hqe : rcvOK r = q at *
    have HQE := hid hqe
    clear hqe
    go_wp2
    go_ret
    exact ⟨by rw [HQE.out]; rfl, HB4.out⟩
end Go.Proofs.YtfaehioeepolhaaGreat
