import Derived.Test.YtfaehioeepolhabGreatJCrashSender33
import Derived.Test.YtfaehioeepolhabGreatJCrashSender20
import Derived.Test.YtfaehioeepolhabGreatJCrashSender25
import Derived.Test.YtfaehioeepolhabGreatJCrashSender26
import Derived.Test.YtfaehioeepolhabGreatJCrashSender19
namespace Go.Proofs.YtfaehioeepolhabGreat
open Go.RowKit
set_option maxRecDepth 100000 in
set_option maxHeartbeats 16000000 in
theorem specSnd_any (r : PSnd) (a0 a3 a1 a2 b2 : Option Addr) (c0 c3 c1 c2 d2 : Nat) (w : World) (hr : RdSnd w r a0 c0 a3 c3 a1 c1 a2 c2 b2 d2) (ht : tSnd r ≤ 1048576) :
  Calls Tryz.prog 23 #[.agg #[.slice a0 r.fields.length c0, .int .i64 r.epoch, .int .i64 r.base, .slice a3 r.tables.length c3, .int .i64 r.pushed, .int .i64 r.out.epoch, .int .i64 r.out.next, .int .i64 r.out.now, .slice a1 r.out.wait.length c1, .bool r.str.opened, .slice a2 r.str.fields.length c2, .int .i64 r.str.next, .slice b2 r.str.dicts.length d2]] w fun e w' => e = .returned (.bool (sndOK r)) ∧ Below w.heap.size w w' := by
 have HR := hid hr
 clear hr
 have HK0 : Hid ((w.alloc (.cells #[.slice a0 r.fields.length c0, .int .i64 r.epoch, .int .i64 r.base, .slice a3 r.tables.length c3, .int .i64 r.pushed, .int .i64 r.out.epoch, .int .i64 r.out.next, .int .i64 r.out.now, .slice a1 r.out.wait.length c1, .bool r.str.opened, .slice a2 r.str.fields.length c2, .int .i64 r.str.next, .slice b2 r.str.dicts.length d2] 45)).heap[w.heap.size]? = some (.cells #[.slice a0 r.fields.length c0, .int .i64 r.epoch, .int .i64 r.base, .slice a3 r.tables.length c3, .int .i64 r.pushed, .int .i64 r.out.epoch, .int .i64 r.out.next, .int .i64 r.out.now, .slice a1 r.out.wait.length c1, .bool r.str.opened, .slice a2 r.str.fields.length c2, .int .i64 r.str.next, .slice b2 r.str.dicts.length d2] 45 (0, 0))) := hid (heap_alloc_new w _)
 have HB0 := hid (bN w (.cells #[.slice a0 r.fields.length c0, .int .i64 r.epoch, .int .i64 r.base, .slice a3 r.tables.length c3, .int .i64 r.pushed, .int .i64 r.out.epoch, .int .i64 r.out.next, .int .i64 r.out.now, .slice a1 r.out.wait.length c1, .bool r.str.opened, .slice a2 r.str.fields.length c2, .int .i64 r.str.next, .slice b2 r.str.dicts.length d2] 45))
 have hT : totL totT r.tables ≤ 1048576 ∧ tStr r.str ≤ 1048576 := by unfold tSnd at ht; omega
 have hln : r.str.fields.length ≤ 1048576 ∧ r.tables.length ≤ 1048576 := by
  have h1 := hT.1
  have h2 := hT.2
  unfold tStr at h2
  unfold totL at h1 h2
  omega
 go_enter Tryz.func23, Tryz.ntmps23
 go_upto_region 1 with fail
 generalize (w.alloc (.cells #[.slice a0 r.fields.length c0, .int .i64 r.epoch, .int .i64 r.base, .slice a3 r.tables.length c3, .int .i64 r.pushed, .int .i64 r.out.epoch, .int .i64 r.out.next, .int .i64 r.out.now, .slice a1 r.out.wait.length c1, .bool r.str.opened, .slice a2 r.str.fields.length c2, .int .i64 r.str.next, .slice b2 r.str.dicts.length d2] 45)) = W0 at *
 have p0 := cR _ _ 0 _ _ _ HK0.out
 have p1 := cR _ _ 1 _ _ _ HK0.out
 have p2 := cR _ _ 2 _ _ _ HK0.out
 have p3 := cR _ _ 3 _ _ _ HK0.out
 have p4 := cR _ _ 4 _ _ _ HK0.out
 have p5 := cR _ _ 5 _ _ _ HK0.out
 have p6 := cR _ _ 6 _ _ _ HK0.out
 have p7 := cR _ _ 7 _ _ _ HK0.out
 have p8 := cR _ _ 8 _ _ _ HK0.out
 have p9 := cR _ _ 9 _ _ _ HK0.out
 have p10 := cR _ _ 10 _ _ _ HK0.out
 have p11 := cR _ _ 11 _ _ _ HK0.out
 have p12 := cR _ _ 12 _ _ _ HK0.out
 simp only [gA, gZ, gU] at p0 p1 p2 p3 p4 p5 p6 p7 p8 p9 p10 p11 p12
 go_wp2_with fail
 refine (specFields_any a0 c0 r.fields W0 (HR.out.f.later HB0.out)).mono ?_
 rintro e w2 ⟨rfl, b1⟩
 have HK1 := hid (boxSd HK0.out b1)
 have HB1 := hid (bC HB0.out b1)
 clear b1 p0 p1 p2 p3 p4 p5 p6 p7 p8 p9 p10 p11 p12
 have p0 := cR _ _ 0 _ _ _ HK1.out
 have p1 := cR _ _ 1 _ _ _ HK1.out
 have p2 := cR _ _ 2 _ _ _ HK1.out
 have p3 := cR _ _ 3 _ _ _ HK1.out
 have p4 := cR _ _ 4 _ _ _ HK1.out
 have p5 := cR _ _ 5 _ _ _ HK1.out
 have p6 := cR _ _ 6 _ _ _ HK1.out
 have p7 := cR _ _ 7 _ _ _ HK1.out
 have p8 := cR _ _ 8 _ _ _ HK1.out
 have p9 := cR _ _ 9 _ _ _ HK1.out
 have p10 := cR _ _ 10 _ _ _ HK1.out
 have p11 := cR _ _ 11 _ _ _ HK1.out
 have p12 := cR _ _ 12 _ _ _ HK1.out
 simp only [gA, gZ, gU] at p0 p1 p2 p3 p4 p5 p6 p7 p8 p9 p10 p11 p12
 cases hff : fieldsOK r.fields with
 | false =>
  have HF : Hid (sndOK r = false) := hid (sndOK_no (fun h => by rw [h.1] at hff; cases hff))
  clear hff
  go_wp2
  go_ret
  exact ⟨by rw [HF.out]; rfl, HB1.out⟩
 | true =>
 have HFF := hid hff
 clear hff
 by_cases k0 : r.epoch < 1
 ·have g0 : decide (r.epoch < 1) = true := decide_eq_true k0
  have HF : Hid (sndOK r = false) := hid (sndOK_no (fun h => by have := h.2.1.1; omega))
  go_wp2
  go_ret
  exact ⟨by rw [HF.out]; rfl, HB1.out⟩
 have g0 : decide (r.epoch < 1) = false := decide_eq_false k0
 by_cases k1 : 1000000000 < r.epoch
 ·have g1 : decide (1000000000 < r.epoch) = true := decide_eq_true k1
  have HF : Hid (sndOK r = false) := hid (sndOK_no (fun h => by have := h.2.1.2.1; omega))
  go_wp2
  go_ret
  exact ⟨by rw [HF.out]; rfl, HB1.out⟩
 have g1 : decide (1000000000 < r.epoch) = false := decide_eq_false k1
 by_cases k2 : ¬ r.out.epoch = r.epoch
 ·have g2 : (r.out.epoch != r.epoch) = true := by simpa using k2
  have HF : Hid (sndOK r = false) := hid (sndOK_no (fun h => by exact k2 h.2.1.2.2))
  go_wp2
  go_ret
  exact ⟨by rw [HF.out]; rfl, HB1.out⟩
 replace k2 := Decidable.not_not.1 k2
 have g2 : (r.out.epoch != r.epoch) = false := by simpa using k2
 have HE : Hid (SndE r) := hid ⟨by omega, by omega, k2⟩
 clear k2
 go_wp2_with fail
 refine (specVO_any r.out a1 c1 w2 (HR.out.o.later HB1.out)).mono ?_
 rintro e w3 ⟨rfl, b2⟩
 have HK2 := hid (boxSd HK1.out b2)
 have HB2 := hid (bC HB1.out b2)
 clear b2 p0 p1 p2 p3 p4 p5 p6 p7 p8 p9 p10 p11 p12
 have p0 := cR _ _ 0 _ _ _ HK2.out
 have p1 := cR _ _ 1 _ _ _ HK2.out
 have p2 := cR _ _ 2 _ _ _ HK2.out
 have p3 := cR _ _ 3 _ _ _ HK2.out
 have p4 := cR _ _ 4 _ _ _ HK2.out
 have p5 := cR _ _ 5 _ _ _ HK2.out
 have p6 := cR _ _ 6 _ _ _ HK2.out
 have p7 := cR _ _ 7 _ _ _ HK2.out
 have p8 := cR _ _ 8 _ _ _ HK2.out
 have p9 := cR _ _ 9 _ _ _ HK2.out
 have p10 := cR _ _ 10 _ _ _ HK2.out
 have p11 := cR _ _ 11 _ _ _ HK2.out
 have p12 := cR _ _ 12 _ _ _ HK2.out
 simp only [gA, gZ, gU] at p0 p1 p2 p3 p4 p5 p6 p7 p8 p9 p10 p11 p12
 cases hoo : outOK r.out with
 | false =>
  have HF : Hid (sndOK r = false) := hid (sndOK_no (fun h => by rw [h.2.2.1] at hoo; cases hoo))
  clear hoo
  go_wp2
  go_ret
  exact ⟨by rw [HF.out]; rfl, HB2.out⟩
 | true =>
 have HOO := hid hoo
 clear hoo
 by_cases k3 : r.base < 0
 ·have g3 : decide (r.base < 0) = true := decide_eq_true k3
  have HF : Hid (sndOK r = false) := hid (sndOK_no (fun h => by have := h.2.2.2.1.1; omega))
  go_wp2
  go_ret
  exact ⟨by rw [HF.out]; rfl, HB2.out⟩
 have g3 : decide (r.base < 0) = false := decide_eq_false k3
 by_cases k4 : 1000000000 - (r.tables.length : Int) < r.base
 ·have g4 : decide (1000000000 - (r.tables.length : Int) < r.base) = true := decide_eq_true k4
  have HF : Hid (sndOK r = false) := hid (sndOK_no (fun h => by have := h.2.2.2.1.2; omega))
  go_wp2
  go_ret
  exact ⟨by rw [HF.out]; rfl, HB2.out⟩
 have g4 : decide (1000000000 - (r.tables.length : Int) < r.base) = false := decide_eq_false k4
 have HBB : Hid (SndB r) := hid ⟨by omega, by omega⟩
 go_wp2_with fail
 refine (l6tablesOK_any r.fields r.tables a0 a3 c0 c3 w3 (HR.out.f.later HB2.out) (HR.out.t.later HB2.out) hT.1).mono ?_
 rintro e w4 ⟨rfl, b3⟩
 have HK3 := hid (boxSd HK2.out b3)
 have HB3 := hid (bC HB2.out b3)
 clear b3 p0 p1 p2 p3 p4 p5 p6 p7 p8 p9 p10 p11 p12
 have p0 := cR _ _ 0 _ _ _ HK3.out
 have p1 := cR _ _ 1 _ _ _ HK3.out
 have p2 := cR _ _ 2 _ _ _ HK3.out
 have p3 := cR _ _ 3 _ _ _ HK3.out
 have p4 := cR _ _ 4 _ _ _ HK3.out
 have p5 := cR _ _ 5 _ _ _ HK3.out
 have p6 := cR _ _ 6 _ _ _ HK3.out
 have p7 := cR _ _ 7 _ _ _ HK3.out
 have p8 := cR _ _ 8 _ _ _ HK3.out
 have p9 := cR _ _ 9 _ _ _ HK3.out
 have p10 := cR _ _ 10 _ _ _ HK3.out
 have p11 := cR _ _ 11 _ _ _ HK3.out
 have p12 := cR _ _ 12 _ _ _ HK3.out
 simp only [gA, gZ, gU] at p0 p1 p2 p3 p4 p5 p6 p7 p8 p9 p10 p11 p12
 cases htt : (decide (r.tables.length ≤ 20) && tabsOK r.fields r.tables) with
 | false =>
  have HF : Hid (sndOK r = false) := hid (sndOK_no (fun h => by rw [decide_eq_true h.2.2.2.2.1, h.2.2.2.2.2.1] at htt; cases htt))
  clear htt
  go_wp2
  go_ret
  exact ⟨by rw [HF.out]; rfl, HB3.out⟩
 | true =>
 have HTT := hid htt
 clear htt
 by_cases k5 : r.pushed < 0
 ·have g5 : decide (r.pushed < 0) = true := decide_eq_true k5
  have HF : Hid (sndOK r = false) := hid (sndOK_no (fun h => by have := h.2.2.2.2.2.2.1.1; omega))
  go_wp2
  go_ret
  exact ⟨by rw [HF.out]; rfl, HB3.out⟩
 have g5 : decide (r.pushed < 0) = false := decide_eq_false k5
 by_cases k6 : (r.tables.length : Int) < r.pushed
 ·have g6 : decide ((r.tables.length : Int) < r.pushed) = true := decide_eq_true k6
  have HF : Hid (sndOK r = false) := hid (sndOK_no (fun h => by have := h.2.2.2.2.2.2.1.2; omega))
  go_wp2
  go_ret
  exact ⟨by rw [HF.out]; rfl, HB3.out⟩
 have g6 : decide ((r.tables.length : Int) < r.pushed) = false := decide_eq_false k6
 have HPP : Hid (SndP r) := hid ⟨by omega, by omega⟩
 have HL : Hid (sndOK r = sndS r) := hid (by
  have ht := HTT.out
  rw [Bool.and_eq_true, decide_eq_true_eq] at ht
  exact sndOK_last HFF.out HE.out HOO.out HBB.out ht.1 ht.2 HPP.out)
 go_wp2_with fail
 refine (specStr_any r.str a2 b2 c2 d2 w4 (HR.out.s.later HB3.out) hT.2).mono ?_
 rintro e w5 ⟨rfl, b4⟩
 have HK4 := hid (boxSd HK3.out b4)
 have HB4 := hid (bC HB3.out b4)
 clear b4 p0 p1 p2 p3 p4 p5 p6 p7 p8 p9 p10 p11 p12
 have p0 := cR _ _ 0 _ _ _ HK4.out
 have p1 := cR _ _ 1 _ _ _ HK4.out
 have p2 := cR _ _ 2 _ _ _ HK4.out
 have p3 := cR _ _ 3 _ _ _ HK4.out
 have p4 := cR _ _ 4 _ _ _ HK4.out
 have p5 := cR _ _ 5 _ _ _ HK4.out
 have p6 := cR _ _ 6 _ _ _ HK4.out
 have p7 := cR _ _ 7 _ _ _ HK4.out
 have p8 := cR _ _ 8 _ _ _ HK4.out
 have p9 := cR _ _ 9 _ _ _ HK4.out
 have p10 := cR _ _ 10 _ _ _ HK4.out
 have p11 := cR _ _ 11 _ _ _ HK4.out
 have p12 := cR _ _ 12 _ _ _ HK4.out
 simp only [gA, gZ, gU] at p0 p1 p2 p3 p4 p5 p6 p7 p8 p9 p10 p11 p12
 cases hss : strOK r.str with
 | false =>
  have HF : Hid (sndOK r = false) := hid (by rw [HL.out]; exact sndS_no (fun h => by rw [h.1] at hss; cases hss))
  clear hss
  go_wp2
  go_ret
  exact ⟨by rw [HF.out]; rfl, HB4.out⟩
 | true =>
 have HSS := hid hss
 clear hss
 cases hpp : r.str.opened with
 | false =>
  have HF : Hid (sndOK r = false) := hid (by rw [HL.out]; exact sndS_no (fun h => by rw [h.2.1] at hpp; cases hpp))
  rw [hpp] at p9
  clear hpp
  go_wp2
  go_ret
  exact ⟨by rw [HF.out]; rfl, HB4.out⟩
 | true =>
 rw [hpp] at p9 HK4
 have HOP := hid hpp
 clear hpp
 go_wp2_with fail
 refine (l6sameFields_any r.str.fields r.fields a2 a0 c2 c0 w5 (HR.out.s.f.later HB4.out) (HR.out.f.later HB4.out) hln.1).mono ?_
 rintro e w6 ⟨rfl, b5⟩
 have HK5 := hid (boxSd HK4.out b5)
 have HB5 := hid (bC HB4.out b5)
 clear b5 p0 p1 p2 p3 p4 p5 p6 p7 p8 p9 p10 p11 p12
 have p0 := cR _ _ 0 _ _ _ HK5.out
 have p1 := cR _ _ 1 _ _ _ HK5.out
 have p2 := cR _ _ 2 _ _ _ HK5.out
 have p3 := cR _ _ 3 _ _ _ HK5.out
 have p4 := cR _ _ 4 _ _ _ HK5.out
 have p5 := cR _ _ 5 _ _ _ HK5.out
 have p6 := cR _ _ 6 _ _ _ HK5.out
 have p7 := cR _ _ 7 _ _ _ HK5.out
 have p8 := cR _ _ 8 _ _ _ HK5.out
 have p9 := cR _ _ 9 _ _ _ HK5.out
 have p10 := cR _ _ 10 _ _ _ HK5.out
 have p11 := cR _ _ 11 _ _ _ HK5.out
 have p12 := cR _ _ 12 _ _ _ HK5.out
 simp only [gA, gZ, gU] at p0 p1 p2 p3 p4 p5 p6 p7 p8 p9 p10 p11 p12
 cases hqq : sameFs r.str.fields r.fields with
 | false =>
  have HF : Hid (sndOK r = false) := hid (by rw [HL.out]; exact sndS_no (fun h => by rw [h.2.2.1] at hqq; cases hqq))
  clear hqq
  go_wp2
  go_ret
  exact ⟨by rw [HF.out]; rfl, HB5.out⟩
 | true =>
 have HQQ := hid hqq
 clear hqq
 by_cases k7 : ¬ r.str.next = r.base + r.pushed
 ·have g7 : (r.str.next == r.base + r.pushed) = false := beq_false_of_ne k7
  have HF : Hid (sndOK r = false) := hid (by rw [HL.out]; exact sndS_no (fun h => k7 h.2.2.2))
  clear k7
  go_wp2
  go_ret
  exact ⟨by rw [HF.out]; rfl, HB5.out⟩
 replace k7 := Decidable.not_not.1 k7
 have g7 : (r.str.next == r.base + r.pushed) = true := beq_iff_eq.2 k7
 have HF : Hid (sndOK r = true) := hid (by rw [HL.out]; exact sndS_yes ⟨HSS.out, HOP.out, HQQ.out, k7⟩)
 clear k7
 go_wp2
 go_ret
 exact ⟨by rw [HF.out]; rfl, HB5.out⟩
set_option maxRecDepth 100000 in
set_option maxHeartbeats 8000000 in
theorem specCrs_any (r : PSnd) (a0 a3 a1 a2 b2 : Option Addr) (c0 c3 c1 c2 d2 : Nat) (w : World) (hr : RdSnd w r a0 c0 a3 c3 a1 c1 a2 c2 b2 d2) (ht : tSnd r ≤ 1048576) :
  Calls Tryz.prog 16 #[.agg #[.slice a0 r.fields.length c0, .int .i64 r.epoch, .int .i64 r.base, .slice a3 r.tables.length c3, .int .i64 r.pushed, .int .i64 r.out.epoch, .int .i64 r.out.next, .int .i64 r.out.now, .slice a1 r.out.wait.length c1, .bool r.str.opened, .slice a2 r.str.fields.length c2, .int .i64 r.str.next, .slice b2 r.str.dicts.length d2]] w fun e w' => ∃ a0x c0x a3x c3x a1x c1x a2x c2x b2x d2x, e = .returned (.tuple #[.agg #[.slice a0x (csR r).fields.length c0x, .int .i64 (csR r).epoch, .int .i64 (csR r).base, .slice a3x (csR r).tables.length c3x, .int .i64 (csR r).pushed, .int .i64 (csR r).out.epoch, .int .i64 (csR r).out.next, .int .i64 (csR r).out.now, .slice a1x (csR r).out.wait.length c1x, .bool (csR r).str.opened, .slice a2x (csR r).str.fields.length c2x, .int .i64 (csR r).str.next, .slice b2x (csR r).str.dicts.length d2x], .int .i64 (csK r)]) ∧ RdSnd w' (csR r) a0x c0x a3x c3x a1x c1x a2x c2x b2x d2x ∧ Below w.heap.size w w' := by
 have HR := hid hr
 clear hr
 have HK0 : Hid (((w.alloc (.cells #[.slice a0 r.fields.length c0, .int .i64 r.epoch, .int .i64 r.base, .slice a3 r.tables.length c3, .int .i64 r.pushed, .int .i64 r.out.epoch, .int .i64 r.out.next, .int .i64 r.out.now, .slice a1 r.out.wait.length c1, .bool r.str.opened, .slice a2 r.str.fields.length c2, .int .i64 r.str.next, .slice b2 r.str.dicts.length d2] 45)).alloc (.cells #[.slice none 0 0, .int .i64 0, .int .i64 0, .slice none 0 0, .int .i64 0, .int .i64 0, .int .i64 0, .int .i64 0, .slice none 0 0, .bool false, .slice none 0 0, .int .i64 0, .slice none 0 0] 45)).heap[w.heap.size]? = some (.cells #[.slice a0 r.fields.length c0, .int .i64 r.epoch, .int .i64 r.base, .slice a3 r.tables.length c3, .int .i64 r.pushed, .int .i64 r.out.epoch, .int .i64 r.out.next, .int .i64 r.out.now, .slice a1 r.out.wait.length c1, .bool r.str.opened, .slice a2 r.str.fields.length c2, .int .i64 r.str.next, .slice b2 r.str.dicts.length d2] 45 (0, 0))) := hid (heap2 _ _ (Below.refl _ _)).1
 have HL0 : Hid (((w.alloc (.cells #[.slice a0 r.fields.length c0, .int .i64 r.epoch, .int .i64 r.base, .slice a3 r.tables.length c3, .int .i64 r.pushed, .int .i64 r.out.epoch, .int .i64 r.out.next, .int .i64 r.out.now, .slice a1 r.out.wait.length c1, .bool r.str.opened, .slice a2 r.str.fields.length c2, .int .i64 r.str.next, .slice b2 r.str.dicts.length d2] 45)).alloc (.cells #[.slice none 0 0, .int .i64 0, .int .i64 0, .slice none 0 0, .int .i64 0, .int .i64 0, .int .i64 0, .int .i64 0, .slice none 0 0, .bool false, .slice none 0 0, .int .i64 0, .slice none 0 0] 45)).heap[w.heap.size + 1]? = some (.cells #[.slice none 0 0, .int .i64 0, .int .i64 0, .slice none 0 0, .int .i64 0, .int .i64 0, .int .i64 0, .int .i64 0, .slice none 0 0, .bool false, .slice none 0 0, .int .i64 0, .slice none 0 0] 45 (0, 0))) := hid (heap2 _ _ (Below.refl _ _)).2
 have HB0 := hid (below_new2 w (.cells #[.slice a0 r.fields.length c0, .int .i64 r.epoch, .int .i64 r.base, .slice a3 r.tables.length c3, .int .i64 r.pushed, .int .i64 r.out.epoch, .int .i64 r.out.next, .int .i64 r.out.now, .slice a1 r.out.wait.length c1, .bool r.str.opened, .slice a2 r.str.fields.length c2, .int .i64 r.str.next, .slice b2 r.str.dicts.length d2] 45) (.cells #[.slice none 0 0, .int .i64 0, .int .i64 0, .slice none 0 0, .int .i64 0, .int .i64 0, .int .i64 0, .int .i64 0, .slice none 0 0, .bool false, .slice none 0 0, .int .i64 0, .slice none 0 0] 45))
 have HSZ := hid (size2 w (.cells #[.slice a0 r.fields.length c0, .int .i64 r.epoch, .int .i64 r.base, .slice a3 r.tables.length c3, .int .i64 r.pushed, .int .i64 r.out.epoch, .int .i64 r.out.next, .int .i64 r.out.now, .slice a1 r.out.wait.length c1, .bool r.str.opened, .slice a2 r.str.fields.length c2, .int .i64 r.str.next, .slice b2 r.str.dicts.length d2] 45) (.cells #[.slice none 0 0, .int .i64 0, .int .i64 0, .slice none 0 0, .int .i64 0, .int .i64 0, .int .i64 0, .int .i64 0, .slice none 0 0, .bool false, .slice none 0 0, .int .i64 0, .slice none 0 0] 45))
 go_enter Tryz.func16, Tryz.ntmps16
 go_upto_region 1 with fail
 generalize ((w.alloc (.cells #[.slice a0 r.fields.length c0, .int .i64 r.epoch, .int .i64 r.base, .slice a3 r.tables.length c3, .int .i64 r.pushed, .int .i64 r.out.epoch, .int .i64 r.out.next, .int .i64 r.out.now, .slice a1 r.out.wait.length c1, .bool r.str.opened, .slice a2 r.str.fields.length c2, .int .i64 r.str.next, .slice b2 r.str.dicts.length d2] 45)).alloc (.cells #[.slice none 0 0, .int .i64 0, .int .i64 0, .slice none 0 0, .int .i64 0, .int .i64 0, .int .i64 0, .int .i64 0, .slice none 0 0, .bool false, .slice none 0 0, .int .i64 0, .slice none 0 0] 45)) = W0 at *
 have p0 := cR _ _ 0 _ _ _ HK0.out
 have p1 := cR _ _ 1 _ _ _ HK0.out
 have p2 := cR _ _ 2 _ _ _ HK0.out
 have p3 := cR _ _ 3 _ _ _ HK0.out
 have p4 := cR _ _ 4 _ _ _ HK0.out
 have p5 := cR _ _ 5 _ _ _ HK0.out
 have p6 := cR _ _ 6 _ _ _ HK0.out
 have p7 := cR _ _ 7 _ _ _ HK0.out
 have p8 := cR _ _ 8 _ _ _ HK0.out
 have p9 := cR _ _ 9 _ _ _ HK0.out
 have p10 := cR _ _ 10 _ _ _ HK0.out
 have p11 := cR _ _ 11 _ _ _ HK0.out
 have p12 := cR _ _ 12 _ _ _ HK0.out
 simp only [gA, gZ, gU] at p0 p1 p2 p3 p4 p5 p6 p7 p8 p9 p10 p11 p12
 go_wp2_with fail
 refine (specSnd_any r a0 a3 a1 a2 b2 c0 c3 c1 c2 d2 W0 (HR.out.later HB0.out) ht).mono ?_
 rintro e w2 ⟨rfl, bl2⟩
 have HK2 := hid (boxSd HK0.out bl2)
 have HL2 := hid (boxSd HL0.out bl2)
 have HB2 := hid (bC HB0.out bl2)
 have hs2 := bl2.size
 have hsz := HSZ.out
 clear bl2 p0 p1 p2 p3 p4 p5 p6 p7 p8 p9 p10 p11 p12
 cases hok : sndOK r with
 | false =>
  have HD := hid (cs_no hok)
  clear hok
  have q0 := cR _ _ 0 _ _ _ HL2.out
  have zq0 := fR _ _ 0 _ _ HL2.out
  have q1 := cR _ _ 1 _ _ _ HL2.out
  have zq1 := fR _ _ 1 _ _ HL2.out
  have q2 := cR _ _ 2 _ _ _ HL2.out
  have zq2 := fR _ _ 2 _ _ HL2.out
  have q3 := cR _ _ 3 _ _ _ HL2.out
  have zq3 := fR _ _ 3 _ _ HL2.out
  have q4 := cR _ _ 4 _ _ _ HL2.out
  have zq4 := fR _ _ 4 _ _ HL2.out
  have q5 := cR _ _ 5 _ _ _ HL2.out
  have zq5 := fR _ _ 5 _ _ HL2.out
  have q6 := cR _ _ 6 _ _ _ HL2.out
  have zq6 := fR _ _ 6 _ _ HL2.out
  have q7 := cR _ _ 7 _ _ _ HL2.out
  have zq7 := fR _ _ 7 _ _ HL2.out
  have q8 := cR _ _ 8 _ _ _ HL2.out
  have zq8 := fR _ _ 8 _ _ HL2.out
  have q9 := cR _ _ 9 _ _ _ HL2.out
  have zq9 := fR _ _ 9 _ _ HL2.out
  have q10 := cR _ _ 10 _ _ _ HL2.out
  have zq10 := fR _ _ 10 _ _ HL2.out
  have q11 := cR _ _ 11 _ _ _ HL2.out
  have zq11 := fR _ _ 11 _ _ HL2.out
  have q12 := cR _ _ 12 _ _ _ HL2.out
  have zq12 := fR _ _ 12 _ _ HL2.out
  simp only [gA, gZ, gU] at q0 q1 q2 q3 q4 q5 q6 q7 q8 q9 q10 q11 q12
  go_wp2
  refine bodyPost_ret (results_cell_row_tmpD rfl _ _ (w.heap.size + 1) 45 #[.slice none 0 0, .int .i64 0, .int .i64 0, .slice none 0 0, .int .i64 0, .int .i64 0, .int .i64 0, .int .i64 0, .slice none 0 0, .bool false, .slice none 0 0, .int .i64 0, .slice none 0 0] (0, 0) _ rfl (set13 HL2.out) Tryz.underlying45 rfl (by kernel_rfl)) rfl ?_
  rw [HD.out.1, HD.out.2]
  exact ⟨none, 0, none, 0, none, 0, none, 0, none, 0, rfl, ⟨RdSl.empty none, RdSl.empty none, RdSl.empty none, ⟨RdSl.empty none, RdSl.empty none⟩⟩, set13b HB2.out (by omega)⟩
 | true =>
  have HOK := hid hok
  have hep : 0 ≤ r.epoch ∧ r.epoch ≤ 1000000000 := by have h := (sndOK_of hok).2.1; exact ⟨by have := h.1; omega, h.2.1⟩
  have hbi : IntIn r.base := by have h := (sndOK_of hok).2.2.2.1; have h1 := h.1; have h2 := h.2; unfold IntIn; omega
  have htf : totL (fun f : PF => f.name.length) r.fields ≤ 1048576 := (sndFits_of ht).1
  have htt : totL totT r.tables ≤ 1048576 := (sndFits_of ht).2.1
  have HBI := hid hbi
  clear hok hbi
  have p0 := cR _ _ 0 _ _ _ HK2.out
  have p1 := cR _ _ 1 _ _ _ HK2.out
  have p2 := cR _ _ 2 _ _ _ HK2.out
  have p3 := cR _ _ 3 _ _ _ HK2.out
  have p4 := cR _ _ 4 _ _ _ HK2.out
  have p5 := cR _ _ 5 _ _ _ HK2.out
  have p6 := cR _ _ 6 _ _ _ HK2.out
  have p7 := cR _ _ 7 _ _ _ HK2.out
  have p8 := cR _ _ 8 _ _ _ HK2.out
  have p9 := cR _ _ 9 _ _ _ HK2.out
  have p10 := cR _ _ 10 _ _ _ HK2.out
  have p11 := cR _ _ 11 _ _ _ HK2.out
  have p12 := cR _ _ 12 _ _ _ HK2.out
  simp only [gA, gZ, gU] at p0 p1 p2 p3 p4 p5 p6 p7 p8 p9 p10 p11 p12
  by_cases he : r.epoch = 1000000000
  ·have HD := hid (cs_end HOK.out he)
   have heg : decide (1000000000 ≤ r.epoch) = true := decide_eq_true (by omega)
   clear he
   go_wp2_with fail
   refine (l6sender_any r a0 a3 a1 a2 b2 c0 c3 c1 c2 d2 w2 (HR.out.later HB2.out) ht).mono ?_
   rintro e w3 ⟨a0x, c0x, a3x, c3x, a1x, c1x, a2x, c2x, b2x, d2x, bo, rfl, oc, bl3⟩
   have HL3 := hid (boxSd HL2.out bl3)
   have HB3 := hid (bC HB2.out bl3)
   have HC3 := hid oc
   clear oc bl3 p0 p1 p2 p3 p4 p5 p6 p7 p8 p9 p10 p11 p12
   have q0 := cR _ _ 0 _ _ _ HL3.out
   have zq0 := fR _ _ 0 _ _ HL3.out
   have q1 := cR _ _ 1 _ _ _ HL3.out
   have zq1 := fR _ _ 1 _ _ HL3.out
   have q2 := cR _ _ 2 _ _ _ HL3.out
   have zq2 := fR _ _ 2 _ _ HL3.out
   have q3 := cR _ _ 3 _ _ _ HL3.out
   have zq3 := fR _ _ 3 _ _ HL3.out
   have q4 := cR _ _ 4 _ _ _ HL3.out
   have zq4 := fR _ _ 4 _ _ HL3.out
   have q5 := cR _ _ 5 _ _ _ HL3.out
   have zq5 := fR _ _ 5 _ _ HL3.out
   have q6 := cR _ _ 6 _ _ _ HL3.out
   have zq6 := fR _ _ 6 _ _ HL3.out
   have q7 := cR _ _ 7 _ _ _ HL3.out
   have zq7 := fR _ _ 7 _ _ HL3.out
   have q8 := cR _ _ 8 _ _ _ HL3.out
   have zq8 := fR _ _ 8 _ _ HL3.out
   have q9 := cR _ _ 9 _ _ _ HL3.out
   have zq9 := fR _ _ 9 _ _ HL3.out
   have q10 := cR _ _ 10 _ _ _ HL3.out
   have zq10 := fR _ _ 10 _ _ HL3.out
   have q11 := cR _ _ 11 _ _ _ HL3.out
   have zq11 := fR _ _ 11 _ _ HL3.out
   have q12 := cR _ _ 12 _ _ _ HL3.out
   have zq12 := fR _ _ 12 _ _ HL3.out
   simp only [gA, gZ, gU] at q0 q1 q2 q3 q4 q5 q6 q7 q8 q9 q10 q11 q12
   go_wp2
   refine bodyPost_ret (results_cell_row_tmpD rfl _ _ (w.heap.size + 1) 45 #[.slice a0x r.fields.length c0x, .int .i64 r.epoch, .int .i64 r.base, .slice a3x r.tables.length c3x, .int .i64 r.pushed, .int .i64 r.out.epoch, .int .i64 r.out.next, .int .i64 r.out.now, .slice a1x r.out.wait.length c1x, .bool r.str.opened, .slice a2x r.str.fields.length c2x, .int .i64 r.str.next, .slice b2x r.str.dicts.length d2x] (0, 0) _ rfl (set13 HL3.out) Tryz.underlying45 rfl (by kernel_rfl)) rfl ?_
   rw [HD.out.1, HD.out.2]
   exact ⟨a0x, c0x, a3x, c3x, a1x, c1x, a2x, c2x, b2x, d2x, rfl, (HC3.out.kept (fun b h1 _ => set13o (by omega))).rd, set13b HB3.out (by omega)⟩
  ·have HD := hid (cs_yes HOK.out he)
   have heg : decide (1000000000 ≤ r.epoch) = false := decide_eq_false (by omega)
   obtain ⟨P, hP⟩ : ∃ P : PSnd, P = bgR r.fields (r.epoch + 1) r.base r.tables := ⟨_, rfl⟩
   have HBG := hid (fun (w' : World) (h : RdSl cField w' r.fields (.slice a0 r.fields.length c0)) (h2 : RdSl cTable w' r.tables (.slice a3 r.tables.length c3)) => l6begin2_any a0 c0 r.fields (r.epoch + 1) r.base a3 c3 r.tables w' h htf h2 htt HBI.out)
   rw [← hP] at HBG HD
   clear hP he
   go_wp2_with fail
   refine (HBG.out w2 (HR.out.later HB2.out).f (HR.out.later HB2.out).t).mono ?_
   rintro e w3 ⟨a0x, c0x, a3x, c3x, a1x, c1x, a2x, c2x, b2x, d2x, rfl, rob3, bl3⟩
   have HL3 := hid (boxSd HL2.out bl3)
   have HB3 := hid (bC HB2.out bl3)
   have HROB := hid rob3
   clear rob3 bl3 p0 p1 p2 p3 p4 p5 p6 p7 p8 p9 p10 p11 p12
   have q0 := cR _ _ 0 _ _ _ HL3.out
   have zq0 := fR _ _ 0 _ _ HL3.out
   have q1 := cR _ _ 1 _ _ _ HL3.out
   have zq1 := fR _ _ 1 _ _ HL3.out
   have q2 := cR _ _ 2 _ _ _ HL3.out
   have zq2 := fR _ _ 2 _ _ HL3.out
   have q3 := cR _ _ 3 _ _ _ HL3.out
   have zq3 := fR _ _ 3 _ _ HL3.out
   have q4 := cR _ _ 4 _ _ _ HL3.out
   have zq4 := fR _ _ 4 _ _ HL3.out
   have q5 := cR _ _ 5 _ _ _ HL3.out
   have zq5 := fR _ _ 5 _ _ HL3.out
   have q6 := cR _ _ 6 _ _ _ HL3.out
   have zq6 := fR _ _ 6 _ _ HL3.out
   have q7 := cR _ _ 7 _ _ _ HL3.out
   have zq7 := fR _ _ 7 _ _ HL3.out
   have q8 := cR _ _ 8 _ _ _ HL3.out
   have zq8 := fR _ _ 8 _ _ HL3.out
   have q9 := cR _ _ 9 _ _ _ HL3.out
   have zq9 := fR _ _ 9 _ _ HL3.out
   have q10 := cR _ _ 10 _ _ _ HL3.out
   have zq10 := fR _ _ 10 _ _ HL3.out
   have q11 := cR _ _ 11 _ _ _ HL3.out
   have zq11 := fR _ _ 11 _ _ HL3.out
   have q12 := cR _ _ 12 _ _ _ HL3.out
   have zq12 := fR _ _ 12 _ _ HL3.out
   simp only [gA, gZ, gU] at q0 q1 q2 q3 q4 q5 q6 q7 q8 q9 q10 q11 q12
   go_wp2
   refine bodyPost_ret (results_cell_row_tmpD rfl _ _ (w.heap.size + 1) 45 #[.slice a0x P.fields.length c0x, .int .i64 P.epoch, .int .i64 P.base, .slice a3x P.tables.length c3x, .int .i64 P.pushed, .int .i64 P.out.epoch, .int .i64 P.out.next, .int .i64 P.out.now, .slice a1x P.out.wait.length c1x, .bool P.str.opened, .slice a2x P.str.fields.length c2x, .int .i64 P.str.next, .slice b2x P.str.dicts.length d2x] (0, 0) _ rfl (set13 HL3.out) Tryz.underlying45 rfl (by kernel_rfl)) rfl ?_
   rw [HD.out.1, HD.out.2]
   exact ⟨a0x, c0x, a3x, c3x, a1x, c1x, a2x, c2x, b2x, d2x, rfl, HROB.out _ (fun b h1 h2 => set13o (by omega)), set13b HB3.out (by omega)⟩
end Go.Proofs.YtfaehioeepolhabGreat
