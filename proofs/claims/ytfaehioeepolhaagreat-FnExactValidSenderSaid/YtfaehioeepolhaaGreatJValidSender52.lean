import Derived.Test.YtfaehioeepolhaaGreatJValidSender45
import Derived.Test.YtfaehioeepolhaaGreatJValidSender49
import Derived.Test.YtfaehioeepolhaaGreatJValidSender50
import Derived.Test.YtfaehioeepolhaaGreatJValidSender51
import Derived.BigQuiet
namespace Go.Proofs.YtfaehioeepolhaaGreat
open Go.RowKit
set_option maxRecDepth 100000 in
set_option maxHeartbeats 8000000 in
theorem validSenderStream_any (r : PSnd) (a0 a3 a1 a2 b2 : Option Addr) (c0 c3 c1 c2 d2 : Nat) (w : World) (hr : RdSnd w r a0 c0 a3 c3 a1 c1 a2 c2 b2 d2) (ht : tSnd r ≤ 1048576) (hbp : 0 ≤ r.base ∧ r.base ≤ 1000000000 ∧ 0 ≤ r.pushed ∧ r.pushed ≤ 1000000000) :
    Calls Tryz.prog 60 #[.agg #[.slice a0 r.fields.length c0, .int .i64 r.epoch, .int .i64 r.base, .slice a3 r.tables.length c3, .int .i64 r.pushed, .int .i64 r.out.epoch, .int .i64 r.out.next, .int .i64 r.out.now, .slice a1 r.out.wait.length c1, .bool r.str.opened, .slice a2 r.str.fields.length c2, .int .i64 r.str.next, .slice b2 r.str.dicts.length d2]] w fun e w' => e = .returned (.bool (sndS r)) ∧ Below w.heap.size w w' := by
  have HR := hid hr
  clear hr
  have hT : tStr r.str ≤ 1048576 := by unfold tSnd at ht; omega
  have hln : r.str.fields.length ≤ 1048576 := by unfold tStr totL at hT; omega
  have HKa : Hid ((w.alloc (.cells #[.slice a0 r.fields.length c0, .int .i64 r.epoch, .int .i64 r.base, .slice a3 r.tables.length c3, .int .i64 r.pushed, .int .i64 r.out.epoch, .int .i64 r.out.next, .int .i64 r.out.now, .slice a1 r.out.wait.length c1, .bool r.str.opened, .slice a2 r.str.fields.length c2, .int .i64 r.str.next, .slice b2 r.str.dicts.length d2] 58)).heap[w.heap.size]? = some (.cells #[.slice a0 r.fields.length c0, .int .i64 r.epoch, .int .i64 r.base, .slice a3 r.tables.length c3, .int .i64 r.pushed, .int .i64 r.out.epoch, .int .i64 r.out.next, .int .i64 r.out.now, .slice a1 r.out.wait.length c1, .bool r.str.opened, .slice a2 r.str.fields.length c2, .int .i64 r.str.next, .slice b2 r.str.dicts.length d2] 58 (0, 0))) := hid (heap_alloc_new w _)
  have HBa := hid (below_new1 w (.cells #[.slice a0 r.fields.length c0, .int .i64 r.epoch, .int .i64 r.base, .slice a3 r.tables.length c3, .int .i64 r.pushed, .int .i64 r.out.epoch, .int .i64 r.out.next, .int .i64 r.out.now, .slice a1 r.out.wait.length c1, .bool r.str.opened, .slice a2 r.str.fields.length c2, .int .i64 r.str.next, .slice b2 r.str.dicts.length d2] 58))
  go_enter Tryz.func60, Tryz.ntmps60
  go_upto_region 1 with fail
  generalize (w.alloc (.cells #[.slice a0 r.fields.length c0, .int .i64 r.epoch, .int .i64 r.base, .slice a3 r.tables.length c3, .int .i64 r.pushed, .int .i64 r.out.epoch, .int .i64 r.out.next, .int .i64 r.out.now, .slice a1 r.out.wait.length c1, .bool r.str.opened, .slice a2 r.str.fields.length c2, .int .i64 r.str.next, .slice b2 r.str.dicts.length d2] 58)) = W0 at *
  have p0 := cell_of_row _ _ 0 _ _ _ HKa.out
  have p1 := cell_of_row _ _ 1 _ _ _ HKa.out
  have p2 := cell_of_row _ _ 2 _ _ _ HKa.out
  have p3 := cell_of_row _ _ 3 _ _ _ HKa.out
  have p4 := cell_of_row _ _ 4 _ _ _ HKa.out
  have p5 := cell_of_row _ _ 5 _ _ _ HKa.out
  have p6 := cell_of_row _ _ 6 _ _ _ HKa.out
  have p7 := cell_of_row _ _ 7 _ _ _ HKa.out
  have p8 := cell_of_row _ _ 8 _ _ _ HKa.out
  have p9 := cell_of_row _ _ 9 _ _ _ HKa.out
  have p10 := cell_of_row _ _ 10 _ _ _ HKa.out
  have p11 := cell_of_row _ _ 11 _ _ _ HKa.out
  have p12 := cell_of_row _ _ 12 _ _ _ HKa.out
  simp only [List.getElem?_toArray, List.getElem?_cons_zero, List.getElem?_cons_succ] at p0 p1 p2 p3 p4 p5 p6 p7 p8 p9 p10 p11 p12
  have HBb := hid (below_new1 W0 (.cells #[.bool r.str.opened, .slice a2 r.str.fields.length c2, .int .i64 r.str.next, .slice b2 r.str.dicts.length d2] 40))
  have HS0 : Hid ((W0.alloc (.cells #[.bool r.str.opened, .slice a2 r.str.fields.length c2, .int .i64 r.str.next, .slice b2 r.str.dicts.length d2] 40)).heap[W0.heap.size]? = some (.cells #[.bool r.str.opened, .slice a2 r.str.fields.length c2, .int .i64 r.str.next, .slice b2 r.str.dicts.length d2] 40 (0, 0))) := hid (heap_alloc_new W0 _)
  have HK0 := hid (boxSd HKa.out HBb.out)
  have HB0 := hid (below_chain HBa.out HBb.out)
  go_upto_region 2 with fail
  generalize (W0.alloc (.cells #[.bool r.str.opened, .slice a2 r.str.fields.length c2, .int .i64 r.str.next, .slice b2 r.str.dicts.length d2] 40)) = W1 at *
  clear p0 p1 p2 p3 p4 p5 p6 p7 p8 p9 p10 p11 p12
  have p0 := cell_of_row _ _ 0 _ _ _ HK0.out
  have p2 := cell_of_row _ _ 2 _ _ _ HK0.out
  have p4 := cell_of_row _ _ 4 _ _ _ HK0.out
  simp only [List.getElem?_toArray, List.getElem?_cons_zero, List.getElem?_cons_succ] at p0 p2 p4
  have q0 := cell_of_row _ _ 0 _ _ _ HS0.out
  have q1 := cell_of_row _ _ 1 _ _ _ HS0.out
  have q2 := cell_of_row _ _ 2 _ _ _ HS0.out
  have q3 := cell_of_row _ _ 3 _ _ _ HS0.out
  simp only [List.getElem?_toArray, List.getElem?_cons_zero, List.getElem?_cons_succ] at q0 q1 q2 q3
  go_wp2_with fail
  refine (implStr_any r.str a2 b2 c2 d2 W1 (HR.out.s.later HB0.out) hT).mono ?_
  rintro e w2 ⟨rfl, b1⟩
  have HK1 := hid (boxSd HK0.out b1)
  have HS1 := hid (boxSd HS0.out b1)
  have HB1 := hid (below_chain HB0.out b1)
  clear b1 p0 p2 p4 q0 q1 q2 q3
  have p0 := cell_of_row _ _ 0 _ _ _ HK1.out
  have p2 := cell_of_row _ _ 2 _ _ _ HK1.out
  have p4 := cell_of_row _ _ 4 _ _ _ HK1.out
  simp only [List.getElem?_toArray, List.getElem?_cons_zero, List.getElem?_cons_succ] at p0 p2 p4
  have q0 := cell_of_row _ _ 0 _ _ _ HS1.out
  have q1 := cell_of_row _ _ 1 _ _ _ HS1.out
  have q2 := cell_of_row _ _ 2 _ _ _ HS1.out
  have q3 := cell_of_row _ _ 3 _ _ _ HS1.out
  simp only [List.getElem?_toArray, List.getElem?_cons_zero, List.getElem?_cons_succ] at q0 q1 q2 q3
  cases hss : strOK r.str with
  | false =>
    have HF : Hid (sndS r = false) := hid (sndS_no (fun h => by rw [h.1] at hss; cases hss))
    clear hss
    go_wp2
    go_ret
    exact ⟨by rw [HF.out]; rfl, HB1.out⟩
  | true =>
  have HSS := hid hss
  clear hss
  cases hpp : r.str.opened with
  | false =>
    have HF : Hid (sndS r = false) := hid (sndS_no (fun h => by rw [h.2.1] at hpp; cases hpp))
    rw [hpp] at q0
    clear hpp
    go_wp2
    go_ret
    exact ⟨by rw [HF.out]; rfl, HB1.out⟩
  | true =>
  rw [hpp] at q0 HS1
  have HOP := hid hpp
  clear hpp
  go_wp2_with fail
  refine (eqFuncField_any r.str.fields r.fields a2 a0 c2 c0 w2 (HR.out.s.f.later HB1.out) (HR.out.f.later HB1.out) hln).mono ?_
  rintro e w3 ⟨rfl, b2⟩
  have HK2 := hid (boxSd HK1.out b2)
  have HS2 := hid (boxSd HS1.out b2)
  have HB2 := hid (below_chain HB1.out b2)
  clear b2 p0 p2 p4 q0 q1 q2 q3
  have p0 := cell_of_row _ _ 0 _ _ _ HK2.out
  have p2 := cell_of_row _ _ 2 _ _ _ HK2.out
  have p4 := cell_of_row _ _ 4 _ _ _ HK2.out
  simp only [List.getElem?_toArray, List.getElem?_cons_zero, List.getElem?_cons_succ] at p0 p2 p4
  have q0 := cell_of_row _ _ 0 _ _ _ HS2.out
  have q1 := cell_of_row _ _ 1 _ _ _ HS2.out
  have q2 := cell_of_row _ _ 2 _ _ _ HS2.out
  have q3 := cell_of_row _ _ 3 _ _ _ HS2.out
  simp only [List.getElem?_toArray, List.getElem?_cons_zero, List.getElem?_cons_succ] at q0 q1 q2 q3
  cases hqq : sameFs r.str.fields r.fields with
  | false =>
    have HF : Hid (sndS r = false) := hid (sndS_no (fun h => by rw [h.2.2.1] at hqq; cases hqq))
    clear hqq
    go_wp2
    go_ret
    exact ⟨by rw [HF.out]; rfl, HB2.out⟩
  | true =>
  have HQQ := hid hqq
  clear hqq
  by_cases k7 : ¬ r.str.next = r.base + r.pushed
  · have g7 : (r.str.next == r.base + r.pushed) = false := beq_false_of_ne k7
    have HF : Hid (sndS r = false) := hid (sndS_no (fun h => k7 h.2.2.2))
    clear k7
    go_wp2
    go_ret
    exact ⟨by rw [HF.out]; rfl, HB2.out⟩
  replace k7 := Decidable.not_not.1 k7
  have g7 : (r.str.next == r.base + r.pushed) = true := beq_iff_eq.2 k7
  have HF : Hid (sndS r = true) := hid (sndS_yes ⟨HSS.out, HOP.out, HQQ.out, k7⟩)
  clear k7
  go_wp2
  go_ret
  exact ⟨by rw [HF.out]; rfl, HB2.out⟩
set_option maxRecDepth 100000 in
set_option maxHeartbeats 16000000 in
theorem implSnd_any (r : PSnd) (a0 a3 a1 a2 b2 : Option Addr) (c0 c3 c1 c2 d2 : Nat) (w : World) (hr : RdSnd w r a0 c0 a3 c3 a1 c1 a2 c2 b2 d2) (ht : tSnd r ≤ 1048576) :
    Calls Tryz.prog 16 #[.agg #[.slice a0 r.fields.length c0, .int .i64 r.epoch, .int .i64 r.base, .slice a3 r.tables.length c3, .int .i64 r.pushed, .int .i64 r.out.epoch, .int .i64 r.out.next, .int .i64 r.out.now, .slice a1 r.out.wait.length c1, .bool r.str.opened, .slice a2 r.str.fields.length c2, .int .i64 r.str.next, .slice b2 r.str.dicts.length d2]] w fun e w' => e = .returned (.bool (sndOK r)) ∧ Below w.heap.size w w' := by
  have HR := hid hr
  clear hr
  have HK0 : Hid ((w.alloc (.cells #[.slice a0 r.fields.length c0, .int .i64 r.epoch, .int .i64 r.base, .slice a3 r.tables.length c3, .int .i64 r.pushed, .int .i64 r.out.epoch, .int .i64 r.out.next, .int .i64 r.out.now, .slice a1 r.out.wait.length c1, .bool r.str.opened, .slice a2 r.str.fields.length c2, .int .i64 r.str.next, .slice b2 r.str.dicts.length d2] 58)).heap[w.heap.size]? = some (.cells #[.slice a0 r.fields.length c0, .int .i64 r.epoch, .int .i64 r.base, .slice a3 r.tables.length c3, .int .i64 r.pushed, .int .i64 r.out.epoch, .int .i64 r.out.next, .int .i64 r.out.now, .slice a1 r.out.wait.length c1, .bool r.str.opened, .slice a2 r.str.fields.length c2, .int .i64 r.str.next, .slice b2 r.str.dicts.length d2] 58 (0, 0))) := hid (heap_alloc_new w _)
  have HB0 := hid (below_new1 w (.cells #[.slice a0 r.fields.length c0, .int .i64 r.epoch, .int .i64 r.base, .slice a3 r.tables.length c3, .int .i64 r.pushed, .int .i64 r.out.epoch, .int .i64 r.out.next, .int .i64 r.out.now, .slice a1 r.out.wait.length c1, .bool r.str.opened, .slice a2 r.str.fields.length c2, .int .i64 r.str.next, .slice b2 r.str.dicts.length d2] 58))
  have hT : totL totT r.tables ≤ 1048576 ∧ tStr r.str ≤ 1048576 := by unfold tSnd at ht; omega
  have hln : r.str.fields.length ≤ 1048576 ∧ r.tables.length ≤ 1048576 := by
    have h1 := hT.1
    have h2 := hT.2
    unfold tStr at h2
    unfold totL at h1 h2
    omega
  go_enter Tryz.func16, Tryz.ntmps16
  go_upto_region 1 with fail
  generalize (w.alloc (.cells #[.slice a0 r.fields.length c0, .int .i64 r.epoch, .int .i64 r.base, .slice a3 r.tables.length c3, .int .i64 r.pushed, .int .i64 r.out.epoch, .int .i64 r.out.next, .int .i64 r.out.now, .slice a1 r.out.wait.length c1, .bool r.str.opened, .slice a2 r.str.fields.length c2, .int .i64 r.str.next, .slice b2 r.str.dicts.length d2] 58)) = W0 at *
  have p0 := cell_of_row _ _ 0 _ _ _ HK0.out
  have p1 := cell_of_row _ _ 1 _ _ _ HK0.out
  have p2 := cell_of_row _ _ 2 _ _ _ HK0.out
  have p3 := cell_of_row _ _ 3 _ _ _ HK0.out
  have p4 := cell_of_row _ _ 4 _ _ _ HK0.out
  have p5 := cell_of_row _ _ 5 _ _ _ HK0.out
  have p6 := cell_of_row _ _ 6 _ _ _ HK0.out
  have p7 := cell_of_row _ _ 7 _ _ _ HK0.out
  have p8 := cell_of_row _ _ 8 _ _ _ HK0.out
  have p9 := cell_of_row _ _ 9 _ _ _ HK0.out
  have p10 := cell_of_row _ _ 10 _ _ _ HK0.out
  have p11 := cell_of_row _ _ 11 _ _ _ HK0.out
  have p12 := cell_of_row _ _ 12 _ _ _ HK0.out
  simp only [List.getElem?_toArray, List.getElem?_cons_zero, List.getElem?_cons_succ] at p0 p1 p2 p3 p4 p5 p6 p7 p8 p9 p10 p11 p12
  go_wp2_with fail
  refine (implFields_any a0 c0 r.fields W0 (HR.out.f.later HB0.out)).mono ?_
  rintro e w2 ⟨rfl, b1⟩
  have HK1 := hid (boxSd HK0.out b1)
  have HB1 := hid (below_chain HB0.out b1)
  clear b1 p0 p1 p2 p3 p4 p5 p6 p7 p8 p9 p10 p11 p12
  have p0 := cell_of_row _ _ 0 _ _ _ HK1.out
  have p1 := cell_of_row _ _ 1 _ _ _ HK1.out
  have p2 := cell_of_row _ _ 2 _ _ _ HK1.out
  have p3 := cell_of_row _ _ 3 _ _ _ HK1.out
  have p4 := cell_of_row _ _ 4 _ _ _ HK1.out
  have p5 := cell_of_row _ _ 5 _ _ _ HK1.out
  have p6 := cell_of_row _ _ 6 _ _ _ HK1.out
  have p7 := cell_of_row _ _ 7 _ _ _ HK1.out
  have p8 := cell_of_row _ _ 8 _ _ _ HK1.out
  have p9 := cell_of_row _ _ 9 _ _ _ HK1.out
  have p10 := cell_of_row _ _ 10 _ _ _ HK1.out
  have p11 := cell_of_row _ _ 11 _ _ _ HK1.out
  have p12 := cell_of_row _ _ 12 _ _ _ HK1.out
  simp only [List.getElem?_toArray, List.getElem?_cons_zero, List.getElem?_cons_succ] at p0 p1 p2 p3 p4 p5 p6 p7 p8 p9 p10 p11 p12
  cases hff : fieldsOK r.fields with
  | false =>
    have HF : Hid (sndOK r = false) := hid (sndOK_no (fun h => by rw [h.1] at hff; cases hff))
    clear hff
    go_wp2
    go_ret
    exact ⟨by rw [HF.out]; rfl, HB1.out⟩
  | true =>
  have HFF := hid hff
  clear hff
  by_cases k2 : ¬ r.epoch = r.out.epoch
  · have g2 : (r.epoch != r.out.epoch) = true := by simpa using k2
    have HF : Hid (sndOK r = false) := hid (sndOK_no (fun h => by exact k2 h.2.1.2.2.symm))
    go_wp2
    go_ret
    exact ⟨by rw [HF.out]; rfl, HB1.out⟩
  replace k2 := Decidable.not_not.1 k2
  have g2 : (r.epoch != r.out.epoch) = false := by simpa using k2
  have HE0 := hid k2
  clear k2
  go_wp2_with fail
  refine (implVO_any r.out a1 c1 w2 (HR.out.o.later HB1.out)).mono ?_
  rintro e w3 ⟨rfl, b2⟩
  have HK2 := hid (boxSd HK1.out b2)
  have HB2 := hid (below_chain HB1.out b2)
  clear b2 p0 p1 p2 p3 p4 p5 p6 p7 p8 p9 p10 p11 p12
  have p0 := cell_of_row _ _ 0 _ _ _ HK2.out
  have p1 := cell_of_row _ _ 1 _ _ _ HK2.out
  have p2 := cell_of_row _ _ 2 _ _ _ HK2.out
  have p3 := cell_of_row _ _ 3 _ _ _ HK2.out
  have p4 := cell_of_row _ _ 4 _ _ _ HK2.out
  have p5 := cell_of_row _ _ 5 _ _ _ HK2.out
  have p6 := cell_of_row _ _ 6 _ _ _ HK2.out
  have p7 := cell_of_row _ _ 7 _ _ _ HK2.out
  have p8 := cell_of_row _ _ 8 _ _ _ HK2.out
  have p9 := cell_of_row _ _ 9 _ _ _ HK2.out
  have p10 := cell_of_row _ _ 10 _ _ _ HK2.out
  have p11 := cell_of_row _ _ 11 _ _ _ HK2.out
  have p12 := cell_of_row _ _ 12 _ _ _ HK2.out
  simp only [List.getElem?_toArray, List.getElem?_cons_zero, List.getElem?_cons_succ] at p0 p1 p2 p3 p4 p5 p6 p7 p8 p9 p10 p11 p12
  cases hoo : outOK r.out with
  | false =>
    have HF : Hid (sndOK r = false) := hid (sndOK_no (fun h => by rw [h.2.2.1] at hoo; cases hoo))
    clear hoo
    go_wp2
    go_ret
    exact ⟨by rw [HF.out]; rfl, HB2.out⟩
  | true =>
  have HOO := hid hoo
  clear hoo
  have HE : Hid (SndE r) := hid (by have h := outOK_epoch HOO.out; have h2 := HE0.out; exact ⟨by omega, by omega, h2.symm⟩)
  by_cases k3 : 20 < r.tables.length
  · have g3 : decide ((20 : Int) < (r.tables.length : Int)) = true := decide_eq_true (by omega)
    have HF : Hid (sndOK r = false) := hid (sndOK_no (fun h => by have := h.2.2.2.2.1; omega))
    go_wp2
    go_ret
    exact ⟨by rw [HF.out]; rfl, HB2.out⟩
  have g3 : decide ((20 : Int) < (r.tables.length : Int)) = false := decide_eq_false (by omega)
  go_wp2_with fail
  refine (within_any r.base 0 (1000000000 - (r.tables.length : Int)) w3).mono ?_
  rintro e v ⟨rfl, hv⟩
  subst v
  by_cases kb : ¬ (0 ≤ r.base ∧ r.base ≤ (1000000000 - (r.tables.length : Int)))
  · rw [decide_eq_false kb]
    have HF : Hid (sndOK r = false) := hid (sndOK_no (fun h => by exact kb h.2.2.2.1))
    clear kb
    go_wp2
    go_ret
    exact ⟨by rw [HF.out]; rfl, HB2.out⟩
  replace kb := Decidable.not_not.1 kb
  rw [decide_eq_true kb]
  have Hkb : Hid (SndB r) := hid kb
  go_wp2_with fail
  refine (validTables_any r.fields r.tables a0 a3 c0 c3 w3 (HR.out.f.later HB2.out) (HR.out.t.later HB2.out) hT.1).mono ?_
  rintro e w4 ⟨rfl, b3⟩
  have HK3 := hid (boxSd HK2.out b3)
  have HB3 := hid (below_chain HB2.out b3)
  clear b3 p0 p1 p2 p3 p4 p5 p6 p7 p8 p9 p10 p11 p12
  have p0 := cell_of_row _ _ 0 _ _ _ HK3.out
  have p1 := cell_of_row _ _ 1 _ _ _ HK3.out
  have p2 := cell_of_row _ _ 2 _ _ _ HK3.out
  have p3 := cell_of_row _ _ 3 _ _ _ HK3.out
  have p4 := cell_of_row _ _ 4 _ _ _ HK3.out
  have p5 := cell_of_row _ _ 5 _ _ _ HK3.out
  have p6 := cell_of_row _ _ 6 _ _ _ HK3.out
  have p7 := cell_of_row _ _ 7 _ _ _ HK3.out
  have p8 := cell_of_row _ _ 8 _ _ _ HK3.out
  have p9 := cell_of_row _ _ 9 _ _ _ HK3.out
  have p10 := cell_of_row _ _ 10 _ _ _ HK3.out
  have p11 := cell_of_row _ _ 11 _ _ _ HK3.out
  have p12 := cell_of_row _ _ 12 _ _ _ HK3.out
  simp only [List.getElem?_toArray, List.getElem?_cons_zero, List.getElem?_cons_succ] at p0 p1 p2 p3 p4 p5 p6 p7 p8 p9 p10 p11 p12
  cases htt : tabsOK r.fields r.tables with
  | false =>
    have HF : Hid (sndOK r = false) := hid (sndOK_no (fun h => by rw [h.2.2.2.2.2.1] at htt; cases htt))
    clear htt
    go_wp2
    go_ret
    exact ⟨by rw [HF.out]; rfl, HB3.out⟩
  | true =>
  have HTT := hid htt
  clear htt
  go_wp2_with fail
  refine (within_any r.pushed 0 (r.tables.length : Int) w4).mono ?_
  rintro e v ⟨rfl, hv⟩
  subst v
  by_cases kp : ¬ (0 ≤ r.pushed ∧ r.pushed ≤ (r.tables.length : Int))
  · rw [decide_eq_false kp]
    have HF : Hid (sndOK r = false) := hid (sndOK_no (fun h => by exact kp h.2.2.2.2.2.2.1))
    clear kp
    go_wp2
    go_ret
    exact ⟨by rw [HF.out]; rfl, HB3.out⟩
  replace kp := Decidable.not_not.1 kp
  rw [decide_eq_true kp]
  have Hkp : Hid (SndP r) := hid kp
  have HL : Hid (sndOK r = sndS r) := hid (sndOK_last HFF.out HE.out HOO.out Hkb.out (by omega) HTT.out Hkp.out)
  go_wp2_with fail
  refine (validSenderStream_any r a0 a3 a1 a2 b2 c0 c3 c1 c2 d2 w4 (HR.out.later HB3.out) ht ⟨kb.1, by omega, kp.1, by omega⟩).mono ?_
  rintro e w5 ⟨rfl, b4⟩
  rw [← HL.out]
  have HB4 := hid (below_chain HB3.out b4)
  clear b4
  generalize hqe : sndOK r = q at *
  have HQE := hid hqe
  clear hqe
  go_wp2
  go_ret
  exact ⟨by rw [HQE.out]; rfl, HB4.out⟩
end Go.Proofs.YtfaehioeepolhaaGreat
