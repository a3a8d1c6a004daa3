import Derived.Test.YtfaehioeepolhaaGreatJValidSender45
import Derived.Test.YtfaehioeepolhaaGreatJValidSender46
namespace Go.Proofs.YtfaehioeepolhaaGreat
open Go.RowKit
set_option maxRecDepth 100000 in
set_option maxHeartbeats 16000000 in
theorem specSnd_any (r : PSnd) (a0 a3 a1 a2 b2 : Option Addr) (c0 c3 c1 c2 d2 : Nat) (w : World) (hr : RdSnd w r a0 c0 a3 c3 a1 c1 a2 c2 b2 d2) (ht : tSnd r ≤ 1048576) :
    Calls Tryz.prog 14 #[.agg #[.slice a0 r.fields.length c0, .int .i64 r.epoch, .int .i64 r.base, .slice a3 r.tables.length c3, .int .i64 r.pushed, .int .i64 r.out.epoch, .int .i64 r.out.next, .int .i64 r.out.now, .slice a1 r.out.wait.length c1, .bool r.str.opened, .slice a2 r.str.fields.length c2, .int .i64 r.str.next, .slice b2 r.str.dicts.length d2]] w fun e w' => e = .returned (.bool (sndOK r)) ∧ Below w.heap.size w w' := by
  have HR := hid hr
  clear hr
  have HK0 : Hid ((w.alloc (.cells #[.slice a0 r.fields.length c0, .int .i64 r.epoch, .int .i64 r.base, .slice a3 r.tables.length c3, .int .i64 r.pushed, .int .i64 r.out.epoch, .int .i64 r.out.next, .int .i64 r.out.now, .slice a1 r.out.wait.length c1, .bool r.str.opened, .slice a2 r.str.fields.length c2, .int .i64 r.str.next, .slice b2 r.str.dicts.length d2] 58)).heap[w.heap.size]? = some (.cells #[.slice a0 r.fields.length c0, .int .i64 r.epoch, .int .i64 r.base, .slice a3 r.tables.length c3, .int .i64 r.pushed, .int .i64 r.out.epoch, .int .i64 r.out.next, .int .i64 r.out.now, .slice a1 r.out.wait.length c1, .bool r.str.opened, .slice a2 r.str.fields.length c2, .int .i64 r.str.next, .slice b2 r.str.dicts.length d2] 58 (0, 0))) := hid (heap_alloc_new w _)
  have HB0 := hid (below_new1 w (.cells #[.slice a0 r.fields.length c0, .int .i64 r.epoch, .int .i64 r.base, .slice a3 r.tables.length c3, .int .i64 r.pushed, .int .i64 r.out.epoch, .int .i64 r.out.next, .int .i64 r.out.now, .slice a1 r.out.wait.length c1, .bool r.str.opened, .slice a2 r.str.fields.length c2, .int .i64 r.str.next, .slice b2 r.str.dicts.length d2] 58))
  have hT : totL totT r.tables ≤ 1048576 ∧ tStr r.str ≤ 1048576 := by unfold tSnd at ht; omega
  have hln : r.str.fields.length ≤ 1048576 ∧ r.tables.length ≤ 1048576 := by
    have h1 := hT.1
    have h2 := hT.2
    unfold tStr at h2
    unfold totL at h1 h2
    omega
  go_enter Tryz.func14, Tryz.ntmps14
  go_upto_region 1 with fail
  generalize (w.alloc (.cells #[.slice a0 r.fields.length c0, .int .i64 r.epoch, .int .i64 r.base, .slice a3 r.tables.length c3, .int .i64 r.pushed, .int .i64 r.out.epoch, .int .i64 r.out.next, .int .i64 r.out.now, .slice a1 r.out.wait.length c1, .bool r.str.opened, .slice a2 r.str.fields.length c2, .int .i64 r.str.next, .slice b2 r.str.dicts.length d2] 58)) = W0 at *
  have p0 := cell_of_row _ _ 0 _ _ _ HK0.out
  have p1 := cell_of_row _ _ 1 _ _ _ HK0.out
  have p2 := cell_of_row _ _ 2 _ _ _ HK0.out
  have p3 := cell_of_row _ _ 3 _ _ _ HK0.out
  have p4 := cell_of_row _ _ 4 _ _ _ HK0.out
  have p5 := cell_of_row _ _ 5 _ _ _ HK0.out
  have p6 := cell_of_row _ _ 6 _ _ _ HK0.out
  have p7 := cell_of_row _ _ 7 _ _ _ HK0.out
  have p8 := cell_of_row _ _ 8 _ _ _ HK0.out
  have p9 := cell_of_row _ _ 9 _ _ _ HK0.out
  have p10 := cell_of_row _ _ 10 _ _ _ HK0.out
  have p11 := cell_of_row _ _ 11 _ _ _ HK0.out
  have p12 := cell_of_row _ _ 12 _ _ _ HK0.out
  simp only [List.getElem?_toArray, List.getElem?_cons_zero, List.getElem?_cons_succ] at p0 p1 p2 p3 p4 p5 p6 p7 p8 p9 p10 p11 p12
  go_wp2_with fail
  refine (specFields_any a0 c0 r.fields W0 (HR.out.f.later HB0.out)).mono ?_
  rintro e w2 ⟨rfl, b1⟩
  have HK1 := hid (boxSd HK0.out b1)
  have HB1 := hid (below_chain HB0.out b1)
  clear b1 p0 p1 p2 p3 p4 p5 p6 p7 p8 p9 p10 p11 p12
  have p0 := cell_of_row _ _ 0 _ _ _ HK1.out
  have p1 := cell_of_row _ _ 1 _ _ _ HK1.out
  have p2 := cell_of_row _ _ 2 _ _ _ HK1.out
  have p3 := cell_of_row _ _ 3 _ _ _ HK1.out
  have p4 := cell_of_row _ _ 4 _ _ _ HK1.out
  have p5 := cell_of_row _ _ 5 _ _ _ HK1.out
  have p6 := cell_of_row _ _ 6 _ _ _ HK1.out
  have p7 := cell_of_row _ _ 7 _ _ _ HK1.out
  have p8 := cell_of_row _ _ 8 _ _ _ HK1.out
  have p9 := cell_of_row _ _ 9 _ _ _ HK1.out
  have p10 := cell_of_row _ _ 10 _ _ _ HK1.out
  have p11 := cell_of_row _ _ 11 _ _ _ HK1.out
  have p12 := cell_of_row _ _ 12 _ _ _ HK1.out
  simp only [List.getElem?_toArray, List.getElem?_cons_zero, List.getElem?_cons_succ] at p0 p1 p2 p3 p4 p5 p6 p7 p8 p9 p10 p11 p12
  cases hff : fieldsOK r.fields with
  | false =>
    have HF : Hid (sndOK r = false) := hid (sndOK_no (fun h => by rw [h.1] at hff; cases hff))
    clear hff
    go_wp2
    go_ret
    exact ⟨by rw [HF.out]; rfl, HB1.out⟩
  | true =>
  have HFF := hid hff
  clear hff
  by_cases k0 : r.epoch < 1
  · have g0 : decide (r.epoch < 1) = true := decide_eq_true k0
    have HF : Hid (sndOK r = false) := hid (sndOK_no (fun h => by have := h.2.1.1; omega))
    go_wp2
    go_ret
    exact ⟨by rw [HF.out]; rfl, HB1.out⟩
  have g0 : decide (r.epoch < 1) = false := decide_eq_false k0
  by_cases k1 : 1000000000 < r.epoch
  · have g1 : decide (1000000000 < r.epoch) = true := decide_eq_true k1
    have HF : Hid (sndOK r = false) := hid (sndOK_no (fun h => by have := h.2.1.2.1; omega))
    go_wp2
    go_ret
    exact ⟨by rw [HF.out]; rfl, HB1.out⟩
  have g1 : decide (1000000000 < r.epoch) = false := decide_eq_false k1
  by_cases k2 : ¬ r.out.epoch = r.epoch
  · have g2 : (r.out.epoch != r.epoch) = true := by simpa using k2
    have HF : Hid (sndOK r = false) := hid (sndOK_no (fun h => by exact k2 h.2.1.2.2))
    go_wp2
    go_ret
    exact ⟨by rw [HF.out]; rfl, HB1.out⟩
  replace k2 := Decidable.not_not.1 k2
  have g2 : (r.out.epoch != r.epoch) = false := by simpa using k2
  have HE : Hid (SndE r) := hid ⟨by omega, by omega, k2⟩
  clear k2
  go_wp2_with fail
  refine (specVO_any r.out a1 c1 w2 (HR.out.o.later HB1.out)).mono ?_
  rintro e w3 ⟨rfl, b2⟩
  have HK2 := hid (boxSd HK1.out b2)
  have HB2 := hid (below_chain HB1.out b2)
  clear b2 p0 p1 p2 p3 p4 p5 p6 p7 p8 p9 p10 p11 p12
  have p0 := cell_of_row _ _ 0 _ _ _ HK2.out
  have p1 := cell_of_row _ _ 1 _ _ _ HK2.out
  have p2 := cell_of_row _ _ 2 _ _ _ HK2.out
  have p3 := cell_of_row _ _ 3 _ _ _ HK2.out
  have p4 := cell_of_row _ _ 4 _ _ _ HK2.out
  have p5 := cell_of_row _ _ 5 _ _ _ HK2.out
  have p6 := cell_of_row _ _ 6 _ _ _ HK2.out
  have p7 := cell_of_row _ _ 7 _ _ _ HK2.out
  have p8 := cell_of_row _ _ 8 _ _ _ HK2.out
  have p9 := cell_of_row _ _ 9 _ _ _ HK2.out
  have p10 := cell_of_row _ _ 10 _ _ _ HK2.out
  have p11 := cell_of_row _ _ 11 _ _ _ HK2.out
  have p12 := cell_of_row _ _ 12 _ _ _ HK2.out
  simp only [List.getElem?_toArray, List.getElem?_cons_zero, List.getElem?_cons_succ] at p0 p1 p2 p3 p4 p5 p6 p7 p8 p9 p10 p11 p12
  cases hoo : outOK r.out with
  | false =>
    have HF : Hid (sndOK r = false) := hid (sndOK_no (fun h => by rw [h.2.2.1] at hoo; cases hoo))
    clear hoo
    go_wp2
    go_ret
    exact ⟨by rw [HF.out]; rfl, HB2.out⟩
  | true =>
  have HOO := hid hoo
  clear hoo
  by_cases k3 : r.base < 0
  · have g3 : decide (r.base < 0) = true := decide_eq_true k3
    have HF : Hid (sndOK r = false) := hid (sndOK_no (fun h => by have := h.2.2.2.1.1; omega))
    go_wp2
    go_ret
    exact ⟨by rw [HF.out]; rfl, HB2.out⟩
  have g3 : decide (r.base < 0) = false := decide_eq_false k3
  by_cases k4 : 1000000000 - (r.tables.length : Int) < r.base
  · have g4 : decide (1000000000 - (r.tables.length : Int) < r.base) = true := decide_eq_true k4
    have HF : Hid (sndOK r = false) := hid (sndOK_no (fun h => by have := h.2.2.2.1.2; omega))
    go_wp2
    go_ret
    exact ⟨by rw [HF.out]; rfl, HB2.out⟩
  have g4 : decide (1000000000 - (r.tables.length : Int) < r.base) = false := decide_eq_false k4
  have HBB : Hid (SndB r) := hid ⟨by omega, by omega⟩
  go_wp2_with fail
  refine (l6tablesOK_any r.fields r.tables a0 a3 c0 c3 w3 (HR.out.f.later HB2.out) (HR.out.t.later HB2.out) hT.1).mono ?_
  rintro e w4 ⟨rfl, b3⟩
  have HK3 := hid (boxSd HK2.out b3)
  have HB3 := hid (below_chain HB2.out b3)
  clear b3 p0 p1 p2 p3 p4 p5 p6 p7 p8 p9 p10 p11 p12
  have p0 := cell_of_row _ _ 0 _ _ _ HK3.out
  have p1 := cell_of_row _ _ 1 _ _ _ HK3.out
  have p2 := cell_of_row _ _ 2 _ _ _ HK3.out
  have p3 := cell_of_row _ _ 3 _ _ _ HK3.out
  have p4 := cell_of_row _ _ 4 _ _ _ HK3.out
  have p5 := cell_of_row _ _ 5 _ _ _ HK3.out
  have p6 := cell_of_row _ _ 6 _ _ _ HK3.out
  have p7 := cell_of_row _ _ 7 _ _ _ HK3.out
  have p8 := cell_of_row _ _ 8 _ _ _ HK3.out
  have p9 := cell_of_row _ _ 9 _ _ _ HK3.out
  have p10 := cell_of_row _ _ 10 _ _ _ HK3.out
  have p11 := cell_of_row _ _ 11 _ _ _ HK3.out
  have p12 := cell_of_row _ _ 12 _ _ _ HK3.out
  simp only [List.getElem?_toArray, List.getElem?_cons_zero, List.getElem?_cons_succ] at p0 p1 p2 p3 p4 p5 p6 p7 p8 p9 p10 p11 p12
  cases htt : (decide (r.tables.length ≤ 20) && tabsOK r.fields r.tables) with
  | false =>
    have HF : Hid (sndOK r = false) := hid (sndOK_no (fun h => by rw [decide_eq_true h.2.2.2.2.1, h.2.2.2.2.2.1] at htt; cases htt))
    clear htt
    go_wp2
    go_ret
    exact ⟨by rw [HF.out]; rfl, HB3.out⟩
  | true =>
  have HTT := hid htt
  clear htt
  by_cases k5 : r.pushed < 0
  · have g5 : decide (r.pushed < 0) = true := decide_eq_true k5
    have HF : Hid (sndOK r = false) := hid (sndOK_no (fun h => by have := h.2.2.2.2.2.2.1.1; omega))
    go_wp2
    go_ret
    exact ⟨by rw [HF.out]; rfl, HB3.out⟩
  have g5 : decide (r.pushed < 0) = false := decide_eq_false k5
  by_cases k6 : (r.tables.length : Int) < r.pushed
  · have g6 : decide ((r.tables.length : Int) < r.pushed) = true := decide_eq_true k6
    have HF : Hid (sndOK r = false) := hid (sndOK_no (fun h => by have := h.2.2.2.2.2.2.1.2; omega))
    go_wp2
    go_ret
    exact ⟨by rw [HF.out]; rfl, HB3.out⟩
  have g6 : decide ((r.tables.length : Int) < r.pushed) = false := decide_eq_false k6
  have HPP : Hid (SndP r) := hid ⟨by omega, by omega⟩
  have HL : Hid (sndOK r = sndS r) := hid (by
    have ht := HTT.out
    rw [Bool.and_eq_true, decide_eq_true_eq] at ht
    exact sndOK_last HFF.out HE.out HOO.out HBB.out ht.1 ht.2 HPP.out)
  go_wp2_with fail
  refine (specStr_any r.str a2 b2 c2 d2 w4 (HR.out.s.later HB3.out) hT.2).mono ?_
  rintro e w5 ⟨rfl, b4⟩
  have HK4 := hid (boxSd HK3.out b4)
  have HB4 := hid (below_chain HB3.out b4)
  clear b4 p0 p1 p2 p3 p4 p5 p6 p7 p8 p9 p10 p11 p12
  have p0 := cell_of_row _ _ 0 _ _ _ HK4.out
  have p1 := cell_of_row _ _ 1 _ _ _ HK4.out
  have p2 := cell_of_row _ _ 2 _ _ _ HK4.out
  have p3 := cell_of_row _ _ 3 _ _ _ HK4.out
  have p4 := cell_of_row _ _ 4 _ _ _ HK4.out
  have p5 := cell_of_row _ _ 5 _ _ _ HK4.out
  have p6 := cell_of_row _ _ 6 _ _ _ HK4.out
  have p7 := cell_of_row _ _ 7 _ _ _ HK4.out
  have p8 := cell_of_row _ _ 8 _ _ _ HK4.out
  have p9 := cell_of_row _ _ 9 _ _ _ HK4.out
  have p10 := cell_of_row _ _ 10 _ _ _ HK4.out
  have p11 := cell_of_row _ _ 11 _ _ _ HK4.out
  have p12 := cell_of_row _ _ 12 _ _ _ HK4.out
  simp only [List.getElem?_toArray, List.getElem?_cons_zero, List.getElem?_cons_succ] at p0 p1 p2 p3 p4 p5 p6 p7 p8 p9 p10 p11 p12
  cases hss : strOK r.str with
  | false =>
    have HF : Hid (sndOK r = false) := hid (by rw [HL.out]; exact sndS_no (fun h => by rw [h.1] at hss; cases hss))
    clear hss
    go_wp2
    go_ret
    exact ⟨by rw [HF.out]; rfl, HB4.out⟩
  | true =>
  have HSS := hid hss
  clear hss
  cases hpp : r.str.opened with
  | false =>
    have HF : Hid (sndOK r = false) := hid (by rw [HL.out]; exact sndS_no (fun h => by rw [h.2.1] at hpp; cases hpp))
    rw [hpp] at p9
    clear hpp
    go_wp2
    go_ret
    exact ⟨by rw [HF.out]; rfl, HB4.out⟩
  | true =>
  rw [hpp] at p9 HK4
  have HOP := hid hpp
  clear hpp
  go_wp2_with fail
  refine (l6sameFields_any r.str.fields r.fields a2 a0 c2 c0 w5 (HR.out.s.f.later HB4.out) (HR.out.f.later HB4.out) hln.1).mono ?_
  rintro e w6 ⟨rfl, b5⟩
  have HK5 := hid (boxSd HK4.out b5)
  have HB5 := hid (below_chain HB4.out b5)
  clear b5 p0 p1 p2 p3 p4 p5 p6 p7 p8 p9 p10 p11 p12
  have p0 := cell_of_row _ _ 0 _ _ _ HK5.out
  have p1 := cell_of_row _ _ 1 _ _ _ HK5.out
  have p2 := cell_of_row _ _ 2 _ _ _ HK5.out
  have p3 := cell_of_row _ _ 3 _ _ _ HK5.out
  have p4 := cell_of_row _ _ 4 _ _ _ HK5.out
  have p5 := cell_of_row _ _ 5 _ _ _ HK5.out
  have p6 := cell_of_row _ _ 6 _ _ _ HK5.out
  have p7 := cell_of_row _ _ 7 _ _ _ HK5.out
  have p8 := cell_of_row _ _ 8 _ _ _ HK5.out
  have p9 := cell_of_row _ _ 9 _ _ _ HK5.out
  have p10 := cell_of_row _ _ 10 _ _ _ HK5.out
  have p11 := cell_of_row _ _ 11 _ _ _ HK5.out
  have p12 := cell_of_row _ _ 12 _ _ _ HK5.out
  simp only [List.getElem?_toArray, List.getElem?_cons_zero, List.getElem?_cons_succ] at p0 p1 p2 p3 p4 p5 p6 p7 p8 p9 p10 p11 p12
  cases hqq : sameFs r.str.fields r.fields with
  | false =>
    have HF : Hid (sndOK r = false) := hid (by rw [HL.out]; exact sndS_no (fun h => by rw [h.2.2.1] at hqq; cases hqq))
    clear hqq
    go_wp2
    go_ret
    exact ⟨by rw [HF.out]; rfl, HB5.out⟩
  | true =>
  have HQQ := hid hqq
  clear hqq
  by_cases k7 : ¬ r.str.next = r.base + r.pushed
  · have g7 : (r.str.next == r.base + r.pushed) = false := beq_false_of_ne k7
    have HF : Hid (sndOK r = false) := hid (by rw [HL.out]; exact sndS_no (fun h => k7 h.2.2.2))
    clear k7
    go_wp2
    go_ret
    exact ⟨by rw [HF.out]; rfl, HB5.out⟩
  replace k7 := Decidable.not_not.1 k7
  have g7 : (r.str.next == r.base + r.pushed) = true := beq_iff_eq.2 k7
  have HF : Hid (sndOK r = true) := hid (by rw [HL.out]; exact sndS_yes ⟨HSS.out, HOP.out, HQQ.out, k7⟩)
  clear k7
  go_wp2
  go_ret
  exact ⟨by rw [HF.out]; rfl, HB5.out⟩
end Go.Proofs.YtfaehioeepolhaaGreat
