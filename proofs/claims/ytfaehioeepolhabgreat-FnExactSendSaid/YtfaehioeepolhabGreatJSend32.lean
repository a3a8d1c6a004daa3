import Derived.Test.YtfaehioeepolhabGreatJSend26
import Derived.Test.YtfaehioeepolhabGreatJSend31
import Derived.Test.YtfaehioeepolhabGreatJSend12
import Derived.Test.YtfaehioeepolhabGreatJSend13
import Derived.Test.YtfaehioeepolhabGreatJSend15
namespace Go.Proofs.YtfaehioeepolhabGreat
open Go.RowKit
set_option maxRecDepth 100000 in
set_option maxHeartbeats 16000000 in
theorem specSnd_any (r : PSnd) (a0 a3 a1 a2 b2 : Option Addr) (c0 c3 c1 c2 d2 : Nat) (w : World) (hr : RdSnd w r a0 c0 a3 c3 a1 c1 a2 c2 b2 d2) (ht : tSnd r ≤ 1048576) :
    Calls Tryz.prog 23 #[.agg #[.slice a0 r.fields.length c0, .int .i64 r.epoch, .int .i64 r.base, .slice a3 r.tables.length c3, .int .i64 r.pushed, .int .i64 r.out.epoch, .int .i64 r.out.next, .int .i64 r.out.now, .slice a1 r.out.wait.length c1, .bool r.str.opened, .slice a2 r.str.fields.length c2, .int .i64 r.str.next, .slice b2 r.str.dicts.length d2]] w fun e w' => e = .returned (.bool (sndOK r)) ∧ Below w.heap.size w w' := by
  have HR := hid hr
  clear hr
  have HK0 : Hid ((w.alloc (.cells #[.slice a0 r.fields.length c0, .int .i64 r.epoch, .int .i64 r.base, .slice a3 r.tables.length c3, .int .i64 r.pushed, .int .i64 r.out.epoch, .int .i64 r.out.next, .int .i64 r.out.now, .slice a1 r.out.wait.length c1, .bool r.str.opened, .slice a2 r.str.fields.length c2, .int .i64 r.str.next, .slice b2 r.str.dicts.length d2] 45)).heap[w.heap.size]? = some (.cells #[.slice a0 r.fields.length c0, .int .i64 r.epoch, .int .i64 r.base, .slice a3 r.tables.length c3, .int .i64 r.pushed, .int .i64 r.out.epoch, .int .i64 r.out.next, .int .i64 r.out.now, .slice a1 r.out.wait.length c1, .bool r.str.opened, .slice a2 r.str.fields.length c2, .int .i64 r.str.next, .slice b2 r.str.dicts.length d2] 45 (0, 0))) := hid (heap_alloc_new w _)
  have HB0 := hid (below_new1 w (.cells #[.slice a0 r.fields.length c0, .int .i64 r.epoch, .int .i64 r.base, .slice a3 r.tables.length c3, .int .i64 r.pushed, .int .i64 r.out.epoch, .int .i64 r.out.next, .int .i64 r.out.now, .slice a1 r.out.wait.length c1, .bool r.str.opened, .slice a2 r.str.fields.length c2, .int .i64 r.str.next, .slice b2 r.str.dicts.length d2] 45))
  have hT : totL totT r.tables ≤ 1048576 ∧ tStr r.str ≤ 1048576 := by unfold tSnd at ht; omega
  have hln : r.str.fields.length ≤ 1048576 ∧ r.tables.length ≤ 1048576 := by
    have h1 := hT.1
    have h2 := hT.2
    unfold tStr at h2
    unfold totL at h1 h2
    omega
  go_enter Tryz.func23, Tryz.ntmps23
  go_upto_region 1 with fail
  generalize (w.alloc (.cells #[.slice a0 r.fields.length c0, .int .i64 r.epoch, .int .i64 r.base, .slice a3 r.tables.length c3, .int .i64 r.pushed, .int .i64 r.out.epoch, .int .i64 r.out.next, .int .i64 r.out.now, .slice a1 r.out.wait.length c1, .bool r.str.opened, .slice a2 r.str.fields.length c2, .int .i64 r.str.next, .slice b2 r.str.dicts.length d2] 45)) = W0 at *
  have p0 := cell_of_row _ _ 0 _ _ _ HK0.out
  have p1 := cell_of_row _ _ 1 _ _ _ HK0.out
  have p2 := cell_of_row _ _ 2 _ _ _ HK0.out
  have p3 := cell_of_row _ _ 3 _ _ _ HK0.out
  have p4 := cell_of_row _ _ 4 _ _ _ HK0.out
  have p5 := cell_of_row _ _ 5 _ _ _ HK0.out
  have p6 := cell_of_row _ _ 6 _ _ _ HK0.out
  have p7 := cell_of_row _ _ 7 _ _ _ HK0.out
  have p8 := cell_of_row _ _ 8 _ _ _ HK0.out
  have p9 := cell_of_row _ _ 9 _ _ _ HK0.out
  have p10 := cell_of_row _ _ 10 _ _ _ HK0.out
  have p11 := cell_of_row _ _ 11 _ _ _ HK0.out
  have p12 := cell_of_row _ _ 12 _ _ _ HK0.out
  simp only [List.getElem?_toArray, List.getElem?_cons_zero, List.getElem?_cons_succ] at p0 p1 p2 p3 p4 p5 p6 p7 p8 p9 p10 p11 p12
  go_wp2_with fail
  refine (specFields_any a0 c0 r.fields W0 (HR.out.f.later HB0.out)).mono ?_
  rintro e w2 ⟨rfl, b1⟩
  have HK1 := hid (boxSd HK0.out b1)
  have HB1 := hid (below_chain HB0.out b1)
  clear b1 p0 p1 p2 p3 p4 p5 p6 p7 p8 p9 p10 p11 p12
  have p0 := cell_of_row _ _ 0 _ _ _ HK1.out
  have p1 := cell_of_row _ _ 1 _ _ _ HK1.out
  have p2 := cell_of_row _ _ 2 _ _ _ HK1.out
  have p3 := cell_of_row _ _ 3 _ _ _ HK1.out
  have p4 := cell_of_row _ _ 4 _ _ _ HK1.out
  have p5 := cell_of_row _ _ 5 _ _ _ HK1.out
  have p6 := cell_of_row _ _ 6 _ _ _ HK1.out
  have p7 := cell_of_row _ _ 7 _ _ _ HK1.out
  have p8 := cell_of_row _ _ 8 _ _ _ HK1.out
  have p9 := cell_of_row _ _ 9 _ _ _ HK1.out
  have p10 := cell_of_row _ _ 10 _ _ _ HK1.out
  have p11 := cell_of_row _ _ 11 _ _ _ HK1.out
  have p12 := cell_of_row _ _ 12 _ _ _ HK1.out
  simp only [List.getElem?_toArray, List.getElem?_cons_zero, List.getElem?_cons_succ] at p0 p1 p2 p3 p4 p5 p6 p7 p8 p9 p10 p11 p12
  cases hff : fieldsOK r.fields with
  | false =>
    have HF : Hid (sndOK r = false) := hid (sndOK_no (fun h => by rw [h.1] at hff; cases hff))
    clear hff
    go_wp2
    go_ret
    exact ⟨by rw [HF.out]; rfl, HB1.out⟩
  | true =>
  have HFF := hid hff
  clear hff
  by_cases k0 : r.epoch < 1
  · have g0 : decide (r.epoch < 1) = true := decide_eq_true k0
    have HF : Hid (sndOK r = false) := hid (sndOK_no (fun h => by have := h.2.1.1; omega))
    go_wp2
    go_ret
    exact ⟨by rw [HF.out]; rfl, HB1.out⟩
  have g0 : decide (r.epoch < 1) = false := decide_eq_false k0
  by_cases k1 : 1000000000 < r.epoch
  · have g1 : decide (1000000000 < r.epoch) = true := decide_eq_true k1
    have HF : Hid (sndOK r = false) := hid (sndOK_no (fun h => by have := h.2.1.2.1; omega))
    go_wp2
    go_ret
    exact ⟨by rw [HF.out]; rfl, HB1.out⟩
  have g1 : decide (1000000000 < r.epoch) = false := decide_eq_false k1
  by_cases k2 : ¬ r.out.epoch = r.epoch
  · have g2 : (r.out.epoch != r.epoch) = true := by simpa using k2
    have HF : Hid (sndOK r = false) := hid (sndOK_no (fun h => by exact k2 h.2.1.2.2))
    go_wp2
    go_ret
    exact ⟨by rw [HF.out]; rfl, HB1.out⟩
  replace k2 := Decidable.not_not.1 k2
  have g2 : (r.out.epoch != r.epoch) = false := by simpa using k2
  have HE : Hid (SndE r) := hid ⟨by omega, by omega, k2⟩
  clear k2
  go_wp2_with fail
  refine (specVO_any r.out a1 c1 w2 (HR.out.o.later HB1.out)).mono ?_
  rintro e w3 ⟨rfl, b2⟩
  have HK2 := hid (boxSd HK1.out b2)
  have HB2 := hid (below_chain HB1.out b2)
  clear b2 p0 p1 p2 p3 p4 p5 p6 p7 p8 p9 p10 p11 p12
  have p0 := cell_of_row _ _ 0 _ _ _ HK2.out
  have p1 := cell_of_row _ _ 1 _ _ _ HK2.out
  have p2 := cell_of_row _ _ 2 _ _ _ HK2.out
  have p3 := cell_of_row _ _ 3 _ _ _ HK2.out
  have p4 := cell_of_row _ _ 4 _ _ _ HK2.out
  have p5 := cell_of_row _ _ 5 _ _ _ HK2.out
  have p6 := cell_of_row _ _ 6 _ _ _ HK2.out
  have p7 := cell_of_row _ _ 7 _ _ _ HK2.out
  have p8 := cell_of_row _ _ 8 _ _ _ HK2.out
  have p9 := cell_of_row _ _ 9 _ _ _ HK2.out
  have p10 := cell_of_row _ _ 10 _ _ _ HK2.out
  have p11 := cell_of_row _ _ 11 _ _ _ HK2.out
  have p12 := cell_of_row _ _ 12 _ _ _ HK2.out
  simp only [List.getElem?_toArray, List.getElem?_cons_zero, List.getElem?_cons_succ] at p0 p1 p2 p3 p4 p5 p6 p7 p8 p9 p10 p11 p12
  cases hoo : outOK r.out with
  | false =>
    have HF : Hid (sndOK r = false) := hid (sndOK_no (fun h => by rw [h.2.2.1] at hoo; cases hoo))
    clear hoo
    go_wp2
    go_ret
    exact ⟨by rw [HF.out]; rfl, HB2.out⟩
  | true =>
  have HOO := hid hoo
  clear hoo
  by_cases k3 : r.base < 0
  · have g3 : decide (r.base < 0) = true := decide_eq_true k3
    have HF : Hid (sndOK r = false) := hid (sndOK_no (fun h => by have := h.2.2.2.1.1; omega))
    go_wp2
    go_ret
    exact ⟨by rw [HF.out]; rfl, HB2.out⟩
  have g3 : decide (r.base < 0) = false := decide_eq_false k3
  by_cases k4 : 1000000000 - (r.tables.length : Int) < r.base
  · have g4 : decide (1000000000 - (r.tables.length : Int) < r.base) = true := decide_eq_true k4
    have HF : Hid (sndOK r = false) := hid (sndOK_no (fun h => by have := h.2.2.2.1.2; omega))
    go_wp2
    go_ret
    exact ⟨by rw [HF.out]; rfl, HB2.out⟩
  have g4 : decide (1000000000 - (r.tables.length : Int) < r.base) = false := decide_eq_false k4
  have HBB : Hid (SndB r) := hid ⟨by omega, by omega⟩
  go_wp2_with fail
  refine (l6tablesOK_any r.fields r.tables a0 a3 c0 c3 w3 (HR.out.f.later HB2.out) (HR.out.t.later HB2.out) hT.1).mono ?_
  rintro e w4 ⟨rfl, b3⟩
  have HK3 := hid (boxSd HK2.out b3)
  have HB3 := hid (below_chain HB2.out b3)
  clear b3 p0 p1 p2 p3 p4 p5 p6 p7 p8 p9 p10 p11 p12
  have p0 := cell_of_row _ _ 0 _ _ _ HK3.out
  have p1 := cell_of_row _ _ 1 _ _ _ HK3.out
  have p2 := cell_of_row _ _ 2 _ _ _ HK3.out
  have p3 := cell_of_row _ _ 3 _ _ _ HK3.out
  have p4 := cell_of_row _ _ 4 _ _ _ HK3.out
  have p5 := cell_of_row _ _ 5 _ _ _ HK3.out
  have p6 := cell_of_row _ _ 6 _ _ _ HK3.out
  have p7 := cell_of_row _ _ 7 _ _ _ HK3.out
  have p8 := cell_of_row _ _ 8 _ _ _ HK3.out
  have p9 := cell_of_row _ _ 9 _ _ _ HK3.out
  have p10 := cell_of_row _ _ 10 _ _ _ HK3.out
  have p11 := cell_of_row _ _ 11 _ _ _ HK3.out
  have p12 := cell_of_row _ _ 12 _ _ _ HK3.out
  simp only [List.getElem?_toArray, List.getElem?_cons_zero, List.getElem?_cons_succ] at p0 p1 p2 p3 p4 p5 p6 p7 p8 p9 p10 p11 p12
  cases htt : (decide (r.tables.length ≤ 20) && tabsOK r.fields r.tables) with
  | false =>
    have HF : Hid (sndOK r = false) := hid (sndOK_no (fun h => by rw [decide_eq_true h.2.2.2.2.1, h.2.2.2.2.2.1] at htt; cases htt))
    clear htt
    go_wp2
    go_ret
    exact ⟨by rw [HF.out]; rfl, HB3.out⟩
  | true =>
  have HTT := hid htt
  clear htt
  by_cases k5 : r.pushed < 0
  · have g5 : decide (r.pushed < 0) = true := decide_eq_true k5
    have HF : Hid (sndOK r = false) := hid (sndOK_no (fun h => by have := h.2.2.2.2.2.2.1.1; omega))
    go_wp2
    go_ret
    exact ⟨by rw [HF.out]; rfl, HB3.out⟩
  have g5 : decide (r.pushed < 0) = false := decide_eq_false k5
  by_cases k6 : (r.tables.length : Int) < r.pushed
  · have g6 : decide ((r.tables.length : Int) < r.pushed) = true := decide_eq_true k6
    have HF : Hid (sndOK r = false) := hid (sndOK_no (fun h => by have := h.2.2.2.2.2.2.1.2; omega))
    go_wp2
    go_ret
    exact ⟨by rw [HF.out]; rfl, HB3.out⟩
  have g6 : decide ((r.tables.length : Int) < r.pushed) = false := decide_eq_false k6
  have HPP : Hid (SndP r) := hid ⟨by omega, by omega⟩
  have HL : Hid (sndOK r = sndS r) := hid (by
    have ht := HTT.out
    rw [Bool.and_eq_true, decide_eq_true_eq] at ht
    exact sndOK_last HFF.out HE.out HOO.out HBB.out ht.1 ht.2 HPP.out)
  go_wp2_with fail
  refine (specStr_any r.str a2 b2 c2 d2 w4 (HR.out.s.later HB3.out) hT.2).mono ?_
  rintro e w5 ⟨rfl, b4⟩
  have HK4 := hid (boxSd HK3.out b4)
  have HB4 := hid (below_chain HB3.out b4)
  clear b4 p0 p1 p2 p3 p4 p5 p6 p7 p8 p9 p10 p11 p12
  have p0 := cell_of_row _ _ 0 _ _ _ HK4.out
  have p1 := cell_of_row _ _ 1 _ _ _ HK4.out
  have p2 := cell_of_row _ _ 2 _ _ _ HK4.out
  have p3 := cell_of_row _ _ 3 _ _ _ HK4.out
  have p4 := cell_of_row _ _ 4 _ _ _ HK4.out
  have p5 := cell_of_row _ _ 5 _ _ _ HK4.out
  have p6 := cell_of_row _ _ 6 _ _ _ HK4.out
  have p7 := cell_of_row _ _ 7 _ _ _ HK4.out
  have p8 := cell_of_row _ _ 8 _ _ _ HK4.out
  have p9 := cell_of_row _ _ 9 _ _ _ HK4.out
  have p10 := cell_of_row _ _ 10 _ _ _ HK4.out
  have p11 := cell_of_row _ _ 11 _ _ _ HK4.out
  have p12 := cell_of_row _ _ 12 _ _ _ HK4.out
  simp only [List.getElem?_toArray, List.getElem?_cons_zero, List.getElem?_cons_succ] at p0 p1 p2 p3 p4 p5 p6 p7 p8 p9 p10 p11 p12
  cases hss : strOK r.str with
  | false =>
    have HF : Hid (sndOK r = false) := hid (by rw [HL.out]; exact sndS_no (fun h => by rw [h.1] at hss; cases hss))
    clear hss
    go_wp2
    go_ret
    exact ⟨by rw [HF.out]; rfl, HB4.out⟩
  | true =>
  have HSS := hid hss
  clear hss
  cases hpp : r.str.opened with
  | false =>
    have HF : Hid (sndOK r = false) := hid (by rw [HL.out]; exact sndS_no (fun h => by rw [h.2.1] at hpp; cases hpp))
    rw [hpp] at p9
    clear hpp
    go_wp2
    go_ret
    exact ⟨by rw [HF.out]; rfl, HB4.out⟩
  | true =>
  rw [hpp] at p9 HK4
  have HOP := hid hpp
  clear hpp
  go_wp2_with fail
  refine (l6sameFields_any r.str.fields r.fields a2 a0 c2 c0 w5 (HR.out.s.f.later HB4.out) (HR.out.f.later HB4.out) hln.1).mono ?_
  rintro e w6 ⟨rfl, b5⟩
  have HK5 := hid (boxSd HK4.out b5)
  have HB5 := hid (below_chain HB4.out b5)
  clear b5 p0 p1 p2 p3 p4 p5 p6 p7 p8 p9 p10 p11 p12
  have p0 := cell_of_row _ _ 0 _ _ _ HK5.out
  have p1 := cell_of_row _ _ 1 _ _ _ HK5.out
  have p2 := cell_of_row _ _ 2 _ _ _ HK5.out
  have p3 := cell_of_row _ _ 3 _ _ _ HK5.out
  have p4 := cell_of_row _ _ 4 _ _ _ HK5.out
  have p5 := cell_of_row _ _ 5 _ _ _ HK5.out
  have p6 := cell_of_row _ _ 6 _ _ _ HK5.out
  have p7 := cell_of_row _ _ 7 _ _ _ HK5.out
  have p8 := cell_of_row _ _ 8 _ _ _ HK5.out
  have p9 := cell_of_row _ _ 9 _ _ _ HK5.out
  have p10 := cell_of_row _ _ 10 _ _ _ HK5.out
  have p11 := cell_of_row _ _ 11 _ _ _ HK5.out
  have p12 := cell_of_row _ _ 12 _ _ _ HK5.out
  simp only [List.getElem?_toArray, List.getElem?_cons_zero, List.getElem?_cons_succ] at p0 p1 p2 p3 p4 p5 p6 p7 p8 p9 p10 p11 p12
  cases hqq : sameFs r.str.fields r.fields with
  | false =>
    have HF : Hid (sndOK r = false) := hid (by rw [HL.out]; exact sndS_no (fun h => by rw [h.2.2.1] at hqq; cases hqq))
    clear hqq
    go_wp2
    go_ret
    exact ⟨by rw [HF.out]; rfl, HB5.out⟩
  | true =>
  have HQQ := hid hqq
  clear hqq
  by_cases k7 : ¬ r.str.next = r.base + r.pushed
  · have g7 : (r.str.next == r.base + r.pushed) = false := beq_false_of_ne k7
    have HF : Hid (sndOK r = false) := hid (by rw [HL.out]; exact sndS_no (fun h => k7 h.2.2.2))
    clear k7
    go_wp2
    go_ret
    exact ⟨by rw [HF.out]; rfl, HB5.out⟩
  replace k7 := Decidable.not_not.1 k7
  have g7 : (r.str.next == r.base + r.pushed) = true := beq_iff_eq.2 k7
  have HF : Hid (sndOK r = true) := hid (by rw [HL.out]; exact sndS_yes ⟨HSS.out, HOP.out, HQQ.out, k7⟩)
  clear k7
  go_wp2
  go_ret
  exact ⟨by rw [HF.out]; rfl, HB5.out⟩
end Go.Proofs.YtfaehioeepolhabGreat
namespace Go.Proofs.YtfaehioeepolhabGreat
open Go.RowKit
theorem isNilC (w : World) : (binOp .eql 87 (.slice none 0 0) (.slice none 0 0)).run Tryz.prog w = .ok (.bool true) w := by kernel_rfl
theorem notNilC (w : World) (ad : Addr) (n c : Nat) : (binOp .eql 87 (.slice (some ad) n c) (.slice none 0 0)).run Tryz.prog w = .ok (.bool false) w := by kernel_rfl
set_option maxRecDepth 100000 in
set_option maxHeartbeats 1000000 in
theorem bclone_any (a : Option Addr) (cap : Nat) (xs : List Nat) (w : World) (hr : RdSl cByte w xs (.slice a xs.length cap)) (hl : xs.length ≤ 1048576) :
    Calls Tryz.prog 89 #[.slice a xs.length cap] w fun e w' => ∃ v, e = .returned v ∧ w'.ownsRow w.heap.size 5 1 v xs.length (byt xs) ∧ Below w.heap.size w w' := by
  obtain ⟨i0, hi, hz0, hz1, hz2⟩ := info_parts infoByteT
  have HR := hid hr.rdB.1
  have HN := hid hr.nil0
  clear hr
  cases a with
  | none =>
    obtain ⟨e1, e2⟩ := HN.out rfl
    obtain rfl : xs = [] := List.length_eq_zero_iff.1 e1
    subst e2
    have hnl := isNilC w
    go_enter Tryz.func89, Tryz.ntmps89
    go_wp2
    go_ret
    exact ⟨_, rfl, World.ownsRow_nil _ _ _ _, Below.refl _ _⟩
  | some ad =>
    have HB0 := hid (below_new1 w (.cells #[] 5))
    have HO0 : Hid ((w.alloc (.cells #[] 5)).ownsRow w.heap.size 5 1 (.slice (some ⟨w.heap.size, 0, none⟩) 0 0) 0 []) := hid ⟨rfl, .inr ⟨w.heap.size, 0, #[], rfl, Nat.le_refl _, heap_alloc_new w _, Nat.le_refl _, Nat.zero_le _, rfl, rfl⟩⟩
    have HR0 := hid (HR.out.later HB0.out)
    have hnl := notNilC w ad xs.length cap
    go_enter Tryz.func89, Tryz.ntmps89
    go_wp2_with (first | (at_builtin; refine append_any rfl _ _ 87 rfl w.heap.size 5 i0 (.int .u8 0) 1 Tryz.underlying87 hi hz0 hz1 hz2 rfl _ 0 [] rfl HO0.out (some ad) xs.length cap (byt xs) rfl (byt_len _) HN.out HR0.out (byt_one _) (by unfold maxLen; omega) (by omega) (by simp) ?_))
    intro v' w1 hown hgrow
    have HB : Hid (Below w.heap.size w w1) := hid (HB0.out.grown hgrow (by simp) (fun k h => by simp [Value.ownBlock] at h; omega))
    have HO : Hid (w1.ownsRow w.heap.size 5 1 v' xs.length (byt xs)) := hid (by simpa using hown)
    clear hown hgrow
    go_wp2
    go_ret
    exact ⟨_, rfl, HO.out, HB.out⟩
end Go.Proofs.YtfaehioeepolhabGreat
namespace Go.Proofs.YtfaehioeepolhabGreat
open Go.RowKit
theorem Made3.later {α : Type} {c : Cod α} {e : TypeId} {w wr w2 : World} {xs : List α} {k : Nat} (hm : Made3 c e w wr xs k) (b2 : Below wr.heap.size wr w2) : Made3 c e w w2 xs k := by
  obtain ⟨vs, bss, how, hbl, hown, hin, hnn⟩ := hm
  refine ⟨vs, bss, ownsRow_kept how (fun b hb => b2.block b (World.ownsRow.lt how b hb).2), hbl, fun i h1 h2 => c.ownLater (hown i h1 h2) b2, fun b hb => ?_, hnn⟩
  have := hin b hb
  have := b2.size
  omega
def fcMade (w : World) (fs : List PF) (k : Nat) : Fct := ⟨fun _ wx => Made3 cField 101 w wx fs k, fun _ _ _ h hb => h.later hb⟩
theorem set3bk {B : Nat} {a w : World} {g k : Nat} {x y z : Value} (h : Below B a w) (hg : B ≤ g) : Below B a (((w.setCell ⟨g, k * 3, none⟩ x).setCell ⟨g, k * 3 + 1, none⟩ y).setCell ⟨g, k * 3 + 2, none⟩ z) :=
  ((h.setCell (p := ⟨g, k * 3, none⟩) hg _).setCell (p := ⟨g, k * 3 + 1, none⟩) hg _).setCell (p := ⟨g, k * 3 + 2, none⟩) hg _
def cfT (w : World) (lo gf k : Nat) (fs : List PF) (f : PF) (an : Option Addr) (cn : Nat) : Nat → FX
  | 0 => FX.eq (.slice (some ⟨w.heap.size, 0, none⟩) fs.length fs.length)
  | 1 => FX.eq (.int .i64 (k : Int))
  | 2 => FX.eq (.pointer (some ⟨gf, 0, none⟩))
  | 3 => FX.eq (.slice an f.name.length cn)
  | 4 => FX.pre [11] (fcNm lo f.name)
  | 5 => FX.eq (.pointer (some ⟨gf, 1, none⟩))
  | 6 => FX.eq (.int .i64 f.kind)
  | 7 => FX.eq (.pointer (some ⟨gf, 2, none⟩))
  | 8 => FX.eq (.int .i64 f.width)
  | 9 => FX.pre [11] (fcAgg lo f)
  | 10 => FX.eq (.pointer (some ⟨w.heap.size, k * 3, none⟩))
  | 11 => FX.is (fcMade w fs (k + 1))
  | _ => FX.eq undef
set_option maxHeartbeats 4000000 in
theorem copyFields_any (a : Option Addr) (c : Nat) (fs : List PF) (w : World) (hr : RdSl cField w fs (.slice a fs.length c)) (ht : totL (fun f : PF => f.name.length) fs ≤ 1048576) :
    Calls Tryz.prog 85 #[.slice a fs.length c] w fun e w' => ∃ v bs, e = .returned v ∧ OwnSl cField 101 w' fs v bs ∧ (∀ b ∈ bs, w.heap.size ≤ b) ∧ bs.Nodup ∧ Below w.heap.size w w' := by
  obtain ⟨i0, hi, hz0, hz1, hz2⟩ := info_parts infoImField
  have HR := hid hr
  clear hr
  have hlen : fs.length ≤ 1048576 := by unfold totL at ht; omega
  go_enter Tryz.func85, Tryz.ntmps85
  go_wp2_with (first | (at_make; refine wpList_make_full _ rfl (.tmp 7) (.tmp 7) 37 rfl w.heap.size 101 i0 (.agg #[.slice none 0 0, .int .i64 0, .int .i64 0]) 3 Tryz.underlying37 hi hz0 hz1 .i64 .i64 _ _ fs.length rfl rfl rfl rfl (by rw [hz2]; omega) (by unfold maxLen; omega) (by simp) ?_))
  intro w1 ho hg1
  have HB1 : Hid (Below w.heap.size w w1) := hid ((Below.refl _ w).grown hg1 (Nat.le_refl _) (by intro k h; cases h))
  have HM : Hid (Made3 cField 101 w w1 fs 0) := hid ⟨_, [], ho, rfl, fun i h h2 => by simp at h2, by simp, by simp⟩
  clear hg1 hi hz0 hz1 hz2 ho
  go_wp2
  go_loopw [11] (fun i wr => ∃ k : Nat, k ≤ fs.length ∧ i = .int .i64 k ∧ Made3 cField 101 w wr fs k ∧ Below w.heap.size w wr) (fun i _ => fs.length - (intOf i).toNat)
  case atStart => exact ⟨0, Nat.zero_le _, rfl, HM.out, HB1.out⟩
  case round =>
    obtain ⟨k, hk, rfl, hm, hbe⟩ := hrel
    have HV := hid hm
    have HBW := hid hbe
    clear hm hbe
    by_cases hlt : k < fs.length
    · obtain ⟨b, off, x0, x1, x2, rfl, hes, d0, d1, d2⟩ := (HR.out.later HBW.out).at3 rfl hlt
      obtain ⟨an, cn, e3⟩ := cField_shape hes
      simp only [List.cons.injEq, and_true] at e3
      obtain ⟨rfl, rfl, rfl⟩ := e3
      obtain ⟨vn, en, hnm, hik, hiw⟩ := cField_rd hes
      simp only [List.cons.injEq, and_true] at en
      obtain ⟨rfl, -⟩ := en
      have hki : (k : Int) < (fs.length : Int) := by omega
      have HNM := hid hnm
      have HOK : Hid (FOK fs[k]) := hid ⟨rdSl_ok hnm, hik, hiw⟩
      have hnl : fs[k].name.length ≤ 1048576 := by have h := tot_at (fun f : PF => f.name.length) fs k hlt; unfold totL at ht; exact Nat.le_trans h (by omega)
      have HGF : Hid (wr.heap.size < (wr.alloc (.cells #[.slice an fs[k].name.length cn, .int .i64 fs[k].kind, .int .i64 fs[k].width] 101)).heap.size) := hid (by simp)
      have HLO : Hid (wr.heap.size ≤ (wr.alloc (.cells #[.slice an fs[k].name.length cn, .int .i64 fs[k].kind, .int .i64 fs[k].width] 101)).heap.size) := hid (by simp)
      have HKF : Hid ((wr.alloc (.cells #[.slice an fs[k].name.length cn, .int .i64 fs[k].kind, .int .i64 fs[k].width] 101)).heap[wr.heap.size]? = some (.cells #[.slice an fs[k].name.length cn, .int .i64 fs[k].kind, .int .i64 fs[k].width] 101 (0, 0))) := hid (heap_alloc_new wr _)
      clear hes hnm hik hiw
      go_wp2_with fail
      refine region_turns (n := 12) (by kernel_rfl) (by kernel_rfl) ?_ (fun t => { tmps := #[.slice (some ⟨b, off, none⟩) fs.length c, undef, .slice none 0 0, .slice (some ⟨w.heap.size, 0, none⟩) fs.length fs.length, .int .i64 (k : Int), .pointer (some ⟨wr.heap.size, 0, none⟩), .slice (some ⟨b, off, none⟩) fs.length c, .int .i64 (fs.length : Int), .slice (some ⟨w.heap.size, 0, none⟩) fs.length fs.length, .slice (some ⟨b, off, none⟩) fs.length c, .int .i64 (fs.length : Int), .int .i64 (k : Int), .bool true, .int .i64 (k : Int), .pointer (some ⟨b, off + k * 3, none⟩), .agg #[.slice an fs[k].name.length cn, .int .i64 fs[k].kind, .int .i64 fs[k].width], t 0, t 1, t 2, t 3, t 4, t 5, t 6, t 7, t 8, t 9, t 10, u27, undef], defers := [] }) (cfT w wr.heap.size wr.heap.size k fs fs[k] an cn) [11] (fcSame (wr.alloc (.cells #[.slice an fs[k].name.length cn, .int .i64 fs[k].kind, .int .i64 fs[k].width] 101))) w (wr.alloc (.cells #[.slice an fs[k].name.length cn, .int .i64 fs[k].kind, .int .i64 fs[k].width] 101)) (fun k => if k = 4 then [11] else if k = 9 then [11] else []) (fun k => !(k == 4 || k == 9 || k == 11)) (by kernel_rfl) (fun j hj => by rcases (by omega : j = 0 ∨ j = 1 ∨ j = 2 ∨ j = 3 ∨ j = 4 ∨ j = 5 ∨ j = 6 ∨ j = 7 ∨ j = 8 ∨ j = 9 ∨ j = 10 ∨ j = 11) with rfl | rfl | rfl | rfl | rfl | rfl | rfl | rfl | rfl | rfl | rfl | rfl <;> rfl) (fun j hj hp => by rcases (by omega : j = 0 ∨ j = 1 ∨ j = 2 ∨ j = 3 ∨ j = 4 ∨ j = 5 ∨ j = 6 ∨ j = 7 ∨ j = 8 ∨ j = 9 ∨ j = 10 ∨ j = 11) with rfl | rfl | rfl | rfl | rfl | rfl | rfl | rfl | rfl | rfl | rfl | rfl <;> first | rfl | (exact absurd hp (by decide))) (fun j => ([u16, u17, u18, u19, u20, u21, u22, u23, u24, u25, u26, undef] : List Value).getD j undef) (below_chain HBW.out (below_new1 _ _)) (Below.refl _ _) ?_ ?_
      · rfl
      · intro i hi x t wx hxi hsh h0 hbx hgx hdp hall
        rcases (by omega : i = 0 ∨ i = 1 ∨ i = 2 ∨ i = 3 ∨ i = 4 ∨ i = 5 ∨ i = 6 ∨ i = 7 ∨ i = 8 ∨ i = 9 ∨ i = 10 ∨ i = 11) with rfl | rfl | rfl | rfl | rfl | rfl | rfl | rfl | rfl | rfl | rfl | rfl
        · 
          try dsimp only
          clear h0
          refine wpOp_step rfl (fun K' hK => ?_)
          go_simp
          exact hK _ _ ⟨.slice (some ⟨w.heap.size, 0, none⟩) fs.length fs.length, (by simp [upd]), FX.eq_mk rfl, fun _ => Below.refl _ _, hbx⟩
        · 
          try dsimp only
          clear h0
          refine wpOp_step rfl (fun K' hK => ?_)
          go_simp
          exact hK _ _ ⟨.int .i64 (k : Int), (by simp [upd]), FX.eq_mk rfl, fun _ => Below.refl _ _, hbx⟩
        · 
          try dsimp only
          clear h0
          refine wpOp_step rfl (fun K' hK => ?_)
          go_simp
          exact hK _ _ ⟨.pointer (some ⟨wr.heap.size, 0, none⟩), (by simp [upd]), FX.eq_mk rfl, fun _ => Below.refl _ _, hbx⟩
        · 
          try dsimp only
          have x2 := depX hdp 2 (by kernel_rfl)
          have d2 := hall 2 (by omega) x2
          have e2 : t 2 = .pointer (some ⟨wr.heap.size, 0, none⟩) := d2.1
          rw [e2]
          have y11 := notYet hsh hxi 11 (by kernel_rfl)
          have hz : Below (wr.alloc (.cells #[.slice an fs[k].name.length cn, .int .i64 fs[k].kind, .int .i64 fs[k].width] 101)).heap.size (wr.alloc (.cells #[.slice an fs[k].name.length cn, .int .i64 fs[k].kind, .int .i64 fs[k].width] 101)) wx := hgx (by simp [y11])
          have kf := cell_of_row _ _ 0 _ _ _ ((hz.block _ HGF.out).trans HKF.out)
          simp only [List.getElem?_toArray, List.getElem?_cons_zero] at kf
          clear y11 hz
          clear h0
          refine wpOp_step rfl (fun K' hK => ?_)
          go_simp
          exact hK _ _ ⟨.slice an fs[k].name.length cn, (by simp [upd, e2]), FX.eq_mk rfl, fun _ => Below.refl _ _, hbx⟩
        · 
          try dsimp only
          have x3 := depX hdp 3 (by kernel_rfl)
          have d3 := hall 3 (by omega) x3
          have e3 : t 3 = .slice an fs[k].name.length cn := d3.1
          rw [e3]
          have y11 := notYet hsh hxi 11 (by kernel_rfl)
          have hz : Below (wr.alloc (.cells #[.slice an fs[k].name.length cn, .int .i64 fs[k].kind, .int .i64 fs[k].width] 101)).heap.size (wr.alloc (.cells #[.slice an fs[k].name.length cn, .int .i64 fs[k].kind, .int .i64 fs[k].width] 101)) wx := hgx (by simp [y11])
          have hsz := hz.size
          clear h0
          refine wpOp_step rfl (fun K' hK => ?_)
          go_simp
          refine (bclone_any an cn fs[k].name wx ((HNM.out.later (below_new1 wr _)).later hz) hnl).mono ?_
          rintro e w2 ⟨v2, rfl, o2, b2⟩
          exact hK _ _ ⟨v2, (by simp [upd, e3]), FX.pre_mk (own_mono o2 (Nat.le_trans HLO.out hsz)), fun _ => b2, below_chain hbx b2⟩
        · 
          try dsimp only
          clear h0
          refine wpOp_step rfl (fun K' hK => ?_)
          go_simp
          exact hK _ _ ⟨.pointer (some ⟨wr.heap.size, 1, none⟩), (by simp [upd]), FX.eq_mk rfl, fun _ => Below.refl _ _, hbx⟩
        · 
          try dsimp only
          have x5 := depX hdp 5 (by kernel_rfl)
          have d5 := hall 5 (by omega) x5
          have e5 : t 5 = .pointer (some ⟨wr.heap.size, 1, none⟩) := d5.1
          rw [e5]
          have y11 := notYet hsh hxi 11 (by kernel_rfl)
          have hz : Below (wr.alloc (.cells #[.slice an fs[k].name.length cn, .int .i64 fs[k].kind, .int .i64 fs[k].width] 101)).heap.size (wr.alloc (.cells #[.slice an fs[k].name.length cn, .int .i64 fs[k].kind, .int .i64 fs[k].width] 101)) wx := hgx (by simp [y11])
          have kf := cell_of_row _ _ 1 _ _ _ ((hz.block _ HGF.out).trans HKF.out)
          simp only [List.getElem?_toArray, List.getElem?_cons_zero, List.getElem?_cons_succ] at kf
          clear y11 hz
          clear h0
          refine wpOp_step rfl (fun K' hK => ?_)
          go_simp
          exact hK _ _ ⟨.int .i64 fs[k].kind, (by simp [upd, e5]), FX.eq_mk rfl, fun _ => Below.refl _ _, hbx⟩
        · 
          try dsimp only
          clear h0
          refine wpOp_step rfl (fun K' hK => ?_)
          go_simp
          exact hK _ _ ⟨.pointer (some ⟨wr.heap.size, 2, none⟩), (by simp [upd]), FX.eq_mk rfl, fun _ => Below.refl _ _, hbx⟩
        · 
          try dsimp only
          have x7 := depX hdp 7 (by kernel_rfl)
          have d7 := hall 7 (by omega) x7
          have e7 : t 7 = .pointer (some ⟨wr.heap.size, 2, none⟩) := d7.1
          rw [e7]
          have y11 := notYet hsh hxi 11 (by kernel_rfl)
          have hz : Below (wr.alloc (.cells #[.slice an fs[k].name.length cn, .int .i64 fs[k].kind, .int .i64 fs[k].width] 101)).heap.size (wr.alloc (.cells #[.slice an fs[k].name.length cn, .int .i64 fs[k].kind, .int .i64 fs[k].width] 101)) wx := hgx (by simp [y11])
          have kf := cell_of_row _ _ 2 _ _ _ ((hz.block _ HGF.out).trans HKF.out)
          simp only [List.getElem?_toArray, List.getElem?_cons_zero, List.getElem?_cons_succ] at kf
          clear y11 hz
          clear h0
          refine wpOp_step rfl (fun K' hK => ?_)
          go_simp
          exact hK _ _ ⟨.int .i64 fs[k].width, (by simp [upd, e7]), FX.eq_mk rfl, fun _ => Below.refl _ _, hbx⟩
        · 
          try dsimp only
          have x4 := depX hdp 4 (by kernel_rfl)
          have d4 := hall 4 (by omega) x4
          have x6 := depX hdp 6 (by kernel_rfl)
          have d6 := hall 6 (by omega) x6
          have e6 : t 6 = .int .i64 fs[k].kind := d6.1
          have x8 := depX hdp 8 (by kernel_rfl)
          have d8 := hall 8 (by omega) x8
          have e8 : t 8 = .int .i64 fs[k].width := d8.1
          rw [e6, e8]
          have y11 := notYet hsh hxi 11 (by kernel_rfl)
          have r4 : wx.ownsRow wr.heap.size 5 1 (t 4) fs[k].name.length (byt fs[k].name) := FX.pre_of d4 y11
          obtain ⟨a4, c4, e4, -⟩ := rd_own r4
          rw [e4]
          clear y11
          clear h0
          refine wpOp_step rfl (fun K' hK => ?_)
          go_simp
          exact hK _ _ ⟨.agg #[.slice a4 fs[k].name.length c4, .int .i64 fs[k].kind, .int .i64 fs[k].width], (by simp [upd, e4, e6, e8]), FX.pre_mk ⟨_, _, rfl, e4 ▸ r4⟩, fun _ => Below.refl _ _, hbx⟩
        · 
          try dsimp only
          have x0 := depX hdp 0 (by kernel_rfl)
          have d0 := hall 0 (by omega) x0
          have e0 : t 0 = .slice (some ⟨w.heap.size, 0, none⟩) fs.length fs.length := d0.1
          have x1 := depX hdp 1 (by kernel_rfl)
          have d1 := hall 1 (by omega) x1
          have e1 : t 1 = .int .i64 (k : Int) := d1.1
          rw [e0, e1]
          clear h0
          refine wpOp_step rfl (fun K' hK => ?_)
          go_simp
          exact hK _ _ ⟨.pointer (some ⟨w.heap.size, k * 3, none⟩), (by simp [upd, e0, e1]), FX.eq_mk rfl, fun _ => Below.refl _ _, hbx⟩
        · 
          try dsimp only
          have x10 := depX hdp 10 (by kernel_rfl)
          have d10 := hall 10 (by omega) x10
          have e10 : t 10 = .pointer (some ⟨w.heap.size, k * 3, none⟩) := d10.1
          have x9 := depX hdp 9 (by kernel_rfl)
          have d9 := hall 9 (by omega) x9
          rw [e10]
          obtain ⟨a4, c4, e9, r4⟩ : (fcAgg wr.heap.size fs[k]).p (t 9) wx := FX.pre_of d9 hxi
          have hz : Below (wr.alloc (.cells #[.slice an fs[k].name.length cn, .int .i64 fs[k].kind, .int .i64 fs[k].width] 101)).heap.size (wr.alloc (.cells #[.slice an fs[k].name.length cn, .int .i64 fs[k].kind, .int .i64 fs[k].width] 101)) wx := hgx (by simp [hxi])
          have hz2 := below_chain (below_new1 wr _) hz
          obtain ⟨vs, hvl, how2⟩ := HV.out.row hz2
          have f0 := how2.frozenAt (k * 3)
          have f1 := how2.frozenAt (k * 3 + 1)
          have f2 := how2.frozenAt (k * 3 + 2)
          have q0 := how2.cellAt (k * 3) (by omega)
          have q1 := how2.cellAt (k * 3 + 1) (by omega)
          have q2 := how2.cellAt (k * 3 + 2) (by omega)
          rw [List.getElem?_eq_getElem (by omega)] at q0 q1 q2
          generalize vs[k * 3] = y0 at q0
          generalize vs[k * 3 + 1] = y1 at q1
          generalize vs[k * 3 + 2] = y2 at q2
          have HN := hid (HV.out.step (x := .slice a4 fs[k].name.length c4) (y := .int .i64 fs[k].kind) (z := .int .i64 fs[k].width) hlt hz2 (cField_own (ownSl_bytes r4 HOK.out.1) HOK.out.2.1 HOK.out.2.2) (fun b hb => (own_in r4 (by simpa using hb)).1) (by cases (Value.slice a4 fs[k].name.length c4).ownBlock <;> simp))
          have HS3 := hid (set3bk (x := .slice a4 fs[k].name.length c4) (y := .int .i64 fs[k].kind) (z := .int .i64 fs[k].width) hbx (Nat.le_refl _) (k := k))
          rw [e9]
          clear how2 hvl hz hz2
          clear h0
          refine wpOp_step rfl (fun K' hK => ?_)
          go_simp
          exact hK _ _ ⟨undef, (by simp [upd, e9, e10]), FX.is_mk HN.out, fun h => absurd (by simp) h, HS3.out⟩
      · intro x t wx hx hbx hall
        have HN : Hid (Made3 cField 101 w wx fs (k + 1)) := hid (FX.is_of (hall 11 (by omega)))
        have HBX := hid hbx
        clear hall hbx
        try dsimp only
        go_wp2
        go_roundw
        case rel => exact ⟨k + 1, by omega, by go_num, HN.out, HBX.out⟩
        case measure => simp [intOf]; omega
    · obtain rfl : k = fs.length := by omega
      obtain ⟨bs, h1, h2, h3⟩ := HV.out.done rfl
      have HF := hid h1
      clear h1
      go_wp2
      go_ret
      exact ⟨_, bs, rfl, HF.out, h2, h3, HBW.out⟩
end Go.Proofs.YtfaehioeepolhabGreat
