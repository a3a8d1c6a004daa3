import Derived.Test.YtfaehioeepolhabGreatJSend11
import Derived.Test.YtfaehioeepolhabGreatJSend24
import Derived.Test.YtfaehioeepolhabGreatJSend18
import Derived.Test.YtfaehioeepolhabGreatJSend25
import Derived.Test.YtfaehioeepolhabGreatJSend19
import Derived.Test.YtfaehioeepolhabGreatJSend7
import Derived.Test.YtfaehioeepolhabGreatJSend12
namespace Go.Proofs.YtfaehioeepolhabGreat
open Go.RowKit
abbrev SndE (r : PSnd) : Prop := 1 ≤ r.epoch ∧ r.epoch ≤ 1000000000 ∧ r.out.epoch = r.epoch
abbrev SndB (r : PSnd) : Prop := 0 ≤ r.base ∧ r.base ≤ 1000000000 - (r.tables.length : Int)
abbrev SndP (r : PSnd) : Prop := 0 ≤ r.pushed ∧ r.pushed ≤ (r.tables.length : Int)
def sndS (r : PSnd) : Bool := strOK r.str && (r.str.opened && (sameFs r.str.fields r.fields && decide (r.str.next = r.base + r.pushed)))
def sndOK (r : PSnd) : Bool := fieldsOK r.fields && (decide (SndE r) && (outOK r.out && (decide (SndB r) && ((decide (r.tables.length ≤ 20) && tabsOK r.fields r.tables) && (decide (SndP r) && sndS r)))))
theorem outOK_epoch {o : PO} (h : outOK o = true) : 1 ≤ o.epoch ∧ o.epoch ≤ 1000000000 := by
  by_cases k : OutH o
  · exact ⟨k.1, k.2.1⟩
  · rw [outOK_head k] at h; cases h
theorem sndOK_of {r : PSnd} (h : sndOK r = true) : fieldsOK r.fields = true ∧ SndE r ∧ outOK r.out = true ∧ SndB r ∧ r.tables.length ≤ 20 ∧ tabsOK r.fields r.tables = true ∧ SndP r ∧ sndS r = true := by
  unfold sndOK at h
  simp only [Bool.and_eq_true, decide_eq_true_eq] at h
  obtain ⟨h0, h1, h2, h3, ⟨h4, h5⟩, h6, h7⟩ := h
  exact ⟨h0, h1, h2, h3, h4, h5, h6, h7⟩
theorem sndOK_no {r : PSnd} (h : ¬ (fieldsOK r.fields = true ∧ SndE r ∧ outOK r.out = true ∧ SndB r ∧ r.tables.length ≤ 20 ∧ tabsOK r.fields r.tables = true ∧ SndP r ∧ sndS r = true)) : sndOK r = false := by
  cases k : sndOK r with
  | false => rfl
  | true => exact absurd (sndOK_of k) h
theorem sndOK_last {r : PSnd} (h0 : fieldsOK r.fields = true) (h1 : SndE r) (h2 : outOK r.out = true) (h3 : SndB r) (h4 : r.tables.length ≤ 20) (h5 : tabsOK r.fields r.tables = true) (h6 : SndP r) : sndOK r = sndS r := by
  unfold sndOK
  rw [h0, decide_eq_true h1, h2, decide_eq_true h3, decide_eq_true h4, h5, decide_eq_true h6]
  rfl
theorem sndS_no {r : PSnd} (h : ¬ (strOK r.str = true ∧ r.str.opened = true ∧ sameFs r.str.fields r.fields = true ∧ r.str.next = r.base + r.pushed)) : sndS r = false := by
  cases k : sndS r with
  | false => rfl
  | true =>
    unfold sndS at k
    simp only [Bool.and_eq_true, decide_eq_true_eq] at k
    exact absurd k h
theorem sndS_yes {r : PSnd} (h : strOK r.str = true ∧ r.str.opened = true ∧ sameFs r.str.fields r.fields = true ∧ r.str.next = r.base + r.pushed) : sndS r = true := by
  unfold sndS
  rw [h.1, h.2.1, h.2.2.1, decide_eq_true h.2.2.2]
  rfl
end Go.Proofs.YtfaehioeepolhabGreat
namespace Go.Proofs.YtfaehioeepolhabGreat
open Go.RowKit
def SndFits (r : PSnd) : Prop := totL fN r.fields ≤ 1048576 ∧ totL totT r.tables ≤ 1048576 ∧ totL wN r.out.wait ≤ 1048576 ∧ tStr r.str ≤ 1048576
theorem sndFits_of {r : PSnd} (h : tSnd r ≤ 1048576) : SndFits r := by unfold tSnd at h; unfold SndFits; omega
set_option maxRecDepth 100000 in
set_option maxHeartbeats 4000000 in
theorem eqSenderF_any (r : PSnd) (a0 a3 a1 a2 b2 : Option Addr) (c0 c3 c1 c2 d2 : Nat) (a0x a3x a1x a2x b2x : Option Addr) (c0x c3x c1x c2x d2x : Nat) (w : World) (h1 : RdSnd w r a0 c0 a3 c3 a1 c1 a2 c2 b2 d2) (h2 : RdSnd w r a0x c0x a3x c3x a1x c1x a2x c2x b2x d2x) (ht : SndFits r) :
    Calls Tryz.prog 11 #[.agg #[.slice a0 r.fields.length c0, .int .i64 r.epoch, .int .i64 r.base, .slice a3 r.tables.length c3, .int .i64 r.pushed, .int .i64 r.out.epoch, .int .i64 r.out.next, .int .i64 r.out.now, .slice a1 r.out.wait.length c1, .bool r.str.opened, .slice a2 r.str.fields.length c2, .int .i64 r.str.next, .slice b2 r.str.dicts.length d2], .agg #[.slice a0x r.fields.length c0x, .int .i64 r.epoch, .int .i64 r.base, .slice a3x r.tables.length c3x, .int .i64 r.pushed, .int .i64 r.out.epoch, .int .i64 r.out.next, .int .i64 r.out.now, .slice a1x r.out.wait.length c1x, .bool r.str.opened, .slice a2x r.str.fields.length c2x, .int .i64 r.str.next, .slice b2x r.str.dicts.length d2x]] w fun e w' => e = .returned (.bool true) ∧ Below w.heap.size w w' := by
  have H1 := hid h1
  have H2 := hid h2
  clear h1 h2
  have HT : Hid (totL fN r.fields ≤ 1048576 ∧ totL totT r.tables ≤ 1048576 ∧ totL wN r.out.wait ≤ 1048576 ∧ tStr r.str ≤ 1048576) := hid ht
  have n0 : (r.epoch != r.epoch) = false := by simp
  have n1 : (r.base != r.base) = false := by simp
  have n2 : (r.pushed != r.pushed) = false := by simp
  have HK0 : Hid (((w.alloc (.cells #[.slice a0 r.fields.length c0, .int .i64 r.epoch, .int .i64 r.base, .slice a3 r.tables.length c3, .int .i64 r.pushed, .int .i64 r.out.epoch, .int .i64 r.out.next, .int .i64 r.out.now, .slice a1 r.out.wait.length c1, .bool r.str.opened, .slice a2 r.str.fields.length c2, .int .i64 r.str.next, .slice b2 r.str.dicts.length d2] 45)).alloc (.cells #[.slice a0x r.fields.length c0x, .int .i64 r.epoch, .int .i64 r.base, .slice a3x r.tables.length c3x, .int .i64 r.pushed, .int .i64 r.out.epoch, .int .i64 r.out.next, .int .i64 r.out.now, .slice a1x r.out.wait.length c1x, .bool r.str.opened, .slice a2x r.str.fields.length c2x, .int .i64 r.str.next, .slice b2x r.str.dicts.length d2x] 45)).heap[w.heap.size]? = some (.cells #[.slice a0 r.fields.length c0, .int .i64 r.epoch, .int .i64 r.base, .slice a3 r.tables.length c3, .int .i64 r.pushed, .int .i64 r.out.epoch, .int .i64 r.out.next, .int .i64 r.out.now, .slice a1 r.out.wait.length c1, .bool r.str.opened, .slice a2 r.str.fields.length c2, .int .i64 r.str.next, .slice b2 r.str.dicts.length d2] 45 (0, 0))) := hid (heap2 _ _ (Below.refl _ _)).1
  have HL0 : Hid (((w.alloc (.cells #[.slice a0 r.fields.length c0, .int .i64 r.epoch, .int .i64 r.base, .slice a3 r.tables.length c3, .int .i64 r.pushed, .int .i64 r.out.epoch, .int .i64 r.out.next, .int .i64 r.out.now, .slice a1 r.out.wait.length c1, .bool r.str.opened, .slice a2 r.str.fields.length c2, .int .i64 r.str.next, .slice b2 r.str.dicts.length d2] 45)).alloc (.cells #[.slice a0x r.fields.length c0x, .int .i64 r.epoch, .int .i64 r.base, .slice a3x r.tables.length c3x, .int .i64 r.pushed, .int .i64 r.out.epoch, .int .i64 r.out.next, .int .i64 r.out.now, .slice a1x r.out.wait.length c1x, .bool r.str.opened, .slice a2x r.str.fields.length c2x, .int .i64 r.str.next, .slice b2x r.str.dicts.length d2x] 45)).heap[w.heap.size + 1]? = some (.cells #[.slice a0x r.fields.length c0x, .int .i64 r.epoch, .int .i64 r.base, .slice a3x r.tables.length c3x, .int .i64 r.pushed, .int .i64 r.out.epoch, .int .i64 r.out.next, .int .i64 r.out.now, .slice a1x r.out.wait.length c1x, .bool r.str.opened, .slice a2x r.str.fields.length c2x, .int .i64 r.str.next, .slice b2x r.str.dicts.length d2x] 45 (0, 0))) := hid (heap2 _ _ (Below.refl _ _)).2
  have HB0 := hid (below_new2 w (.cells #[.slice a0 r.fields.length c0, .int .i64 r.epoch, .int .i64 r.base, .slice a3 r.tables.length c3, .int .i64 r.pushed, .int .i64 r.out.epoch, .int .i64 r.out.next, .int .i64 r.out.now, .slice a1 r.out.wait.length c1, .bool r.str.opened, .slice a2 r.str.fields.length c2, .int .i64 r.str.next, .slice b2 r.str.dicts.length d2] 45) (.cells #[.slice a0x r.fields.length c0x, .int .i64 r.epoch, .int .i64 r.base, .slice a3x r.tables.length c3x, .int .i64 r.pushed, .int .i64 r.out.epoch, .int .i64 r.out.next, .int .i64 r.out.now, .slice a1x r.out.wait.length c1x, .bool r.str.opened, .slice a2x r.str.fields.length c2x, .int .i64 r.str.next, .slice b2x r.str.dicts.length d2x] 45))
  go_enter Tryz.func11, Tryz.ntmps11
  go_upto_region 1 with fail
  generalize ((w.alloc (.cells #[.slice a0 r.fields.length c0, .int .i64 r.epoch, .int .i64 r.base, .slice a3 r.tables.length c3, .int .i64 r.pushed, .int .i64 r.out.epoch, .int .i64 r.out.next, .int .i64 r.out.now, .slice a1 r.out.wait.length c1, .bool r.str.opened, .slice a2 r.str.fields.length c2, .int .i64 r.str.next, .slice b2 r.str.dicts.length d2] 45)).alloc (.cells #[.slice a0x r.fields.length c0x, .int .i64 r.epoch, .int .i64 r.base, .slice a3x r.tables.length c3x, .int .i64 r.pushed, .int .i64 r.out.epoch, .int .i64 r.out.next, .int .i64 r.out.now, .slice a1x r.out.wait.length c1x, .bool r.str.opened, .slice a2x r.str.fields.length c2x, .int .i64 r.str.next, .slice b2x r.str.dicts.length d2x] 45)) = w0 at *
  have p0 := cell_of_row _ _ 0 _ _ _ HK0.out
  simp only [List.getElem?_toArray, List.getElem?_cons_zero] at p0
  have q0 := cell_of_row _ _ 0 _ _ _ HL0.out
  simp only [List.getElem?_toArray, List.getElem?_cons_zero] at q0
  go_wp2_with fail
  refine (eqFieldS_any a0 a0x c0 c0x r.fields w0 (H1.out.f.later HB0.out) (H2.out.f.later HB0.out) HT.out.1).mono ?_
  rintro e w1 ⟨rfl, b1⟩
  have HK1 := hid (boxSd HK0.out b1)
  have HL1 := hid (boxSd HL0.out b1)
  have HB1 := hid (below_chain HB0.out b1)
  clear b1 p0 q0
  have p1 := cell_of_row _ _ 1 _ _ _ HK1.out
  have p2 := cell_of_row _ _ 2 _ _ _ HK1.out
  have p3 := cell_of_row _ _ 3 _ _ _ HK1.out
  simp only [List.getElem?_toArray, List.getElem?_cons_zero, List.getElem?_cons_succ] at p1 p2 p3
  have q1 := cell_of_row _ _ 1 _ _ _ HL1.out
  have q2 := cell_of_row _ _ 2 _ _ _ HL1.out
  have q3 := cell_of_row _ _ 3 _ _ _ HL1.out
  simp only [List.getElem?_toArray, List.getElem?_cons_zero, List.getElem?_cons_succ] at q1 q2 q3
  go_wp2_with fail
  refine (eqTableS_any a3 a3x c3 c3x r.tables w1 (H1.out.t.later HB1.out) (H2.out.t.later HB1.out) HT.out.2.1).mono ?_
  rintro e w2 ⟨rfl, b2⟩
  have HK2 := hid (boxSd HK1.out b2)
  have HL2 := hid (boxSd HL1.out b2)
  have HB2 := hid (below_chain HB1.out b2)
  clear b2 p1 p2 p3 q1 q2 q3
  have p4 := cell_of_row _ _ 4 _ _ _ HK2.out
  have p5 := cell_of_row _ _ 5 _ _ _ HK2.out
  have p6 := cell_of_row _ _ 6 _ _ _ HK2.out
  have p7 := cell_of_row _ _ 7 _ _ _ HK2.out
  have p8 := cell_of_row _ _ 8 _ _ _ HK2.out
  simp only [List.getElem?_toArray, List.getElem?_cons_zero, List.getElem?_cons_succ] at p4 p5 p6 p7 p8
  have q4 := cell_of_row _ _ 4 _ _ _ HL2.out
  have q5 := cell_of_row _ _ 5 _ _ _ HL2.out
  have q6 := cell_of_row _ _ 6 _ _ _ HL2.out
  have q7 := cell_of_row _ _ 7 _ _ _ HL2.out
  have q8 := cell_of_row _ _ 8 _ _ _ HL2.out
  simp only [List.getElem?_toArray, List.getElem?_cons_zero, List.getElem?_cons_succ] at q4 q5 q6 q7 q8
  go_wp2_with fail
  refine (eqLinkOut_any r.out a1 a1x c1 c1x w2 (H1.out.o.later HB2.out) (H2.out.o.later HB2.out) HT.out.2.2.1).mono ?_
  rintro e w3 ⟨rfl, b3⟩
  have HK3 := hid (boxSd HK2.out b3)
  have HL3 := hid (boxSd HL2.out b3)
  have HB3 := hid (below_chain HB2.out b3)
  clear b3 p4 p5 p6 p7 p8 q4 q5 q6 q7 q8
  have p9 := cell_of_row _ _ 9 _ _ _ HK3.out
  have p10 := cell_of_row _ _ 10 _ _ _ HK3.out
  have p11 := cell_of_row _ _ 11 _ _ _ HK3.out
  have p12 := cell_of_row _ _ 12 _ _ _ HK3.out
  simp only [List.getElem?_toArray, List.getElem?_cons_zero, List.getElem?_cons_succ] at p9 p10 p11 p12
  have q9 := cell_of_row _ _ 9 _ _ _ HL3.out
  have q10 := cell_of_row _ _ 10 _ _ _ HL3.out
  have q11 := cell_of_row _ _ 11 _ _ _ HL3.out
  have q12 := cell_of_row _ _ 12 _ _ _ HL3.out
  simp only [List.getElem?_toArray, List.getElem?_cons_zero, List.getElem?_cons_succ] at q9 q10 q11 q12
  go_wp2_with fail
  refine (eqStream_any r.str a2 b2 a2x b2x c2 d2 c2x d2x w3 (H1.out.s.later HB3.out) (H2.out.s.later HB3.out) HT.out.2.2.2).mono ?_
  rintro e w4 ⟨rfl, b4⟩
  have HK4 := hid (boxSd HK3.out b4)
  have HL4 := hid (boxSd HL3.out b4)
  have HB4 := hid (below_chain HB3.out b4)
  clear b4 p9 p10 p11 p12 q9 q10 q11 q12
  go_wp2
  go_ret
  exact ⟨rfl, HB4.out⟩
end Go.Proofs.YtfaehioeepolhabGreat
namespace Go.Proofs.YtfaehioeepolhabGreat
open Go.RowKit
end Go.Proofs.YtfaehioeepolhabGreat
namespace Go.Proofs.YtfaehioeepolhabGreat
open Go.RowKit
def sdR (r : PSnd) (t : PT) : PSnd := if sndOK r = true ∧ tableOK r.fields t = true then (if r.tables.length = 20 then r else if r.base + (r.tables.length : Int) = 1000000000 then r else ⟨r.fields, r.epoch, r.base, r.tables ++ [t], r.pushed, r.out, r.str⟩) else zSnd
def sdK (r : PSnd) (t : PT) : Int := if sndOK r = true ∧ tableOK r.fields t = true then (if r.tables.length = 20 then 2 else if r.base + (r.tables.length : Int) = 1000000000 then 6 else 0) else 1
theorem sd_no {r : PSnd} {t : PT} (h : ¬ (sndOK r = true ∧ tableOK r.fields t = true)) : sdR r t = zSnd ∧ sdK r t = 1 := by unfold sdR sdK; rw [if_neg h, if_neg h]; exact ⟨rfl, rfl⟩
theorem sd_full {r : PSnd} {t : PT} (h : sndOK r = true ∧ tableOK r.fields t = true) (h1 : r.tables.length = 20) : sdR r t = r ∧ sdK r t = 2 := by unfold sdR sdK; rw [if_pos h, if_pos h, if_pos h1, if_pos h1]; exact ⟨rfl, rfl⟩
theorem sd_end {r : PSnd} {t : PT} (h : sndOK r = true ∧ tableOK r.fields t = true) (h1 : ¬ r.tables.length = 20) (h2 : r.base + (r.tables.length : Int) = 1000000000) : sdR r t = r ∧ sdK r t = 6 := by unfold sdR sdK; rw [if_pos h, if_pos h, if_neg h1, if_neg h1, if_pos h2, if_pos h2]; exact ⟨rfl, rfl⟩
theorem sd_yes {r : PSnd} {t : PT} (h : sndOK r = true ∧ tableOK r.fields t = true) (h1 : ¬ r.tables.length = 20) (h2 : ¬ r.base + (r.tables.length : Int) = 1000000000) : sdR r t = ⟨r.fields, r.epoch, r.base, r.tables ++ [t], r.pushed, r.out, r.str⟩ ∧ sdK r t = 0 := by unfold sdR sdK; rw [if_pos h, if_pos h, if_neg h1, if_neg h1, if_neg h2, if_neg h2]; exact ⟨rfl, rfl⟩
theorem sd_fits (r : PSnd) (t : PT) (ht : tSnd r + totT t ≤ 1048576) : SndFits (sdR r t) := by
  have h0 : SndFits r := sndFits_of (by omega)
  by_cases hok : sndOK r = true ∧ tableOK r.fields t = true
  · by_cases h1 : r.tables.length = 20
    · rw [(sd_full hok h1).1]; exact h0
    · by_cases h2 : r.base + (r.tables.length : Int) = 1000000000
      · rw [(sd_end hok h1 h2).1]; exact h0
      · rw [(sd_yes hok h1 h2).1]
        refine ⟨h0.1, ?_, h0.2.2.1, h0.2.2.2⟩
        have hf : 1 ≤ totL fN r.fields := by
          have h3 := (sndOK_of hok.1).1
          simp only [fieldsOK, Bool.and_eq_true, decide_eq_true_eq] at h3
          have h4 : 1 ≤ r.fields.length := h3.1.1
          unfold totL
          omega
        have h5 : totL totT (r.tables ++ [t]) = totL totT r.tables + totT t + 1 := by
          unfold totL
          simp only [List.map_append, List.map_cons, List.map_nil, List.sum_append, List.sum_cons, List.sum_nil, List.length_append, List.length_cons, List.length_nil]
          omega
        show totL totT (r.tables ++ [t]) ≤ 1048576
        unfold tSnd at ht
        omega
  · rw [(sd_no hok).1]
    exact ⟨by decide, by decide, by decide, by decide⟩
end Go.Proofs.YtfaehioeepolhabGreat
namespace Go.Proofs.YtfaehioeepolhabGreat
open Go.RowKit
set_option linter.unusedVariables false in
def soT (B lo gm gO b off c n k : Nat) (s : PW) (an : Option Addr) (cn : Nat) (acc : Value) (e nx t : Int) (xs : List PW) : Nat → FX
  | 0 => FX.eq (.pointer (some ⟨gm, 3, none⟩))
  | 1 => FX.eq (acc)
  | 2 => FX.eq (.pointer (some ⟨gO, 3, none⟩))
  | 3 => FX.eq (.slice (some ⟨b, off, none⟩) n c)
  | 4 => FX.eq (.int .i64 (k : Int))
  | 5 => FX.eq (.pointer (some ⟨b, off + k * 7, none⟩))
  | 6 => FX.eq (.pointer (some ⟨b, off + k * 7, none⟩))
  | 7 => FX.eq (.agg #[.int .i64 s.pkt.kind, .int .i64 s.pkt.epoch, .int .i64 s.pkt.seq, .int .i64 s.pkt.count, .bool s.pkt.last, .slice an s.pkt.data.length cn])
  | 8 => FX.pre [17, 19] (fcPk lo s.pkt)
  | 9 => FX.eq (.pointer (some ⟨gO, 3, none⟩))
  | 10 => FX.eq (.slice (some ⟨b, off, none⟩) n c)
  | 11 => FX.eq (.int .i64 (k : Int))
  | 12 => FX.eq (.pointer (some ⟨b, off + k * 7, none⟩))
  | 13 => FX.eq (.pointer (some ⟨b, off + k * 7 + 6, none⟩))
  | 14 => FX.eq (.int .i64 s.at_)
  | 15 => FX.pre [17, 19] (fcSn lo s)
  | 16 => FX.pre [17, 19] (fcOneS lo s)
  | 17 => FX.pre [19] (fcGotS B gm e nx t acc (xs ++ [s]))
  | 18 => FX.eq (.pointer (some ⟨gm, 3, none⟩))
  | 19 => FX.is (fcPutS B gm e nx t (xs ++ [s]))
  | _ => FX.eq undef
end Go.Proofs.YtfaehioeepolhabGreat
namespace Go.Proofs.YtfaehioeepolhabGreat
open Go.RowKit
set_option maxRecDepth 100000 in
set_option maxHeartbeats 2000000 in
theorem l5packet_any (p : PP) (a : Option Addr) (c : Nat) (w : World) (hr : RdSl cByte w p.data (.slice a p.data.length c)) (hl : p.data.length ≤ 1048576) :
    Calls Tryz.prog 113 #[.agg #[.int .i64 p.kind, .int .i64 p.epoch, .int .i64 p.seq, .int .i64 p.count, .bool p.last, .slice a p.data.length c]] w fun e w' => ∃ a2 c2 bk, e = .returned (.agg #[.int .i64 p.kind, .int .i64 p.epoch, .int .i64 p.seq, .int .i64 p.count, .bool p.last, .slice a2 p.data.length c2]) ∧ OwnSl cByte 5 w' p.data (.slice a2 p.data.length c2) bk ∧ (∀ b ∈ bk, w.heap.size ≤ b) ∧ bk.Nodup ∧ Below w.heap.size w w' := by
  have HR := hid hr
  have HBY : Hid (∀ x ∈ p.data, x < 256) := hid (by obtain ⟨_, _, _, _, _, _, _, h⟩ := hr.bytes; exact h)
  clear hr
  go_enter Tryz.func113, Tryz.ntmps113
  go_wp2_with fail
  refine (l1copy_any a c p.data _ (HR.out.later (below_new2 _ _ _)) hl).mono ?_
  rintro e w2 ⟨v2, rfl, o2, b2⟩
  obtain ⟨a2, c2, rfl, -⟩ := rd_own o2
  have hg := fun g h => own_in (g := g) o2 h
  rw [size2] at hg b2
  obtain ⟨k0, k1⟩ := heap2 _ _ b2
  have c00 := cell_of_row w2 _ 0 _ _ _ k0
  have f00 := frozen_of_row w2 _ 0 _ _ k0
  have c10 := cell_of_row w2 _ 0 _ _ _ k1
  have f10 := frozen_of_row w2 _ 0 _ _ k1
  have c01 := cell_of_row w2 _ 1 _ _ _ k0
  have f01 := frozen_of_row w2 _ 1 _ _ k0
  have c11 := cell_of_row w2 _ 1 _ _ _ k1
  have f11 := frozen_of_row w2 _ 1 _ _ k1
  have c02 := cell_of_row w2 _ 2 _ _ _ k0
  have f02 := frozen_of_row w2 _ 2 _ _ k0
  have c12 := cell_of_row w2 _ 2 _ _ _ k1
  have f12 := frozen_of_row w2 _ 2 _ _ k1
  have c03 := cell_of_row w2 _ 3 _ _ _ k0
  have f03 := frozen_of_row w2 _ 3 _ _ k0
  have c13 := cell_of_row w2 _ 3 _ _ _ k1
  have f13 := frozen_of_row w2 _ 3 _ _ k1
  have c04 := cell_of_row w2 _ 4 _ _ _ k0
  have f04 := frozen_of_row w2 _ 4 _ _ k0
  have c14 := cell_of_row w2 _ 4 _ _ _ k1
  have f14 := frozen_of_row w2 _ 4 _ _ k1
  have c05 := cell_of_row w2 _ 5 _ _ _ k0
  have f05 := frozen_of_row w2 _ 5 _ _ k0
  have c15 := cell_of_row w2 _ 5 _ _ _ k1
  have f15 := frozen_of_row w2 _ 5 _ _ k1
  simp only [List.getElem?_toArray, List.getElem?_cons_zero, List.getElem?_cons_succ] at c00 c10 c01 c11 c02 c12 c03 c13 c04 c14 c05 c15
  have K1 := hid k1
  have HB : Hid (Below w.heap.size w w2) := hid ((below_new2 w _ _).trans (b2.mono (by omega)))
  have HO := hid (ownSl_bytes o2 HBY.out)
  have HG : Hid (∀ b ∈ (Value.slice a2 p.data.length c2).ownBlock.toList, w.heap.size + 2 ≤ b) := hid (fun b hb => (hg b (by simpa using hb)).1)
  have HN : Hid ((Value.slice a2 p.data.length c2).ownBlock.toList.Nodup) := hid (by cases (Value.slice a2 p.data.length c2).ownBlock <;> simp)
  generalize (Value.slice a2 p.data.length c2).ownBlock.toList = bk at *
  have h01 : w.heap.size + 1 ≠ w.heap.size := by omega
  clear k0 k1 b2 o2 hg
  go_wp2
  refine bodyPost_ret (results_cell_row rfl _ _ (w.heap.size + 1) 139 #[.int .i64 p.kind, .int .i64 p.epoch, .int .i64 p.seq, .int .i64 p.count, .bool p.last, .slice a2 p.data.length c2] (0, 0) _ rfl (set6 ((Below.heap_setCell _ ⟨w.heap.size, 5, none⟩ _ _ h01).trans K1.out)) Tryz.underlying139 rfl (by kernel_rfl)) rfl ?_
  refine ⟨a2, c2, bk, rfl, HO.out.kept (fun b hb => ?_), fun b hb => by have := HG.out b hb; omega, HN.out, set6b (HB.out.setCell (p := ⟨w.heap.size, 5, none⟩) (by simp only []; omega) _) (by omega)⟩
  have := HG.out b hb
  exact (set6o (by omega)).trans (Below.heap_setCell _ ⟨w.heap.size, 5, none⟩ _ _ (by simp only []; omega))
end Go.Proofs.YtfaehioeepolhabGreat
