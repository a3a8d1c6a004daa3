import Derived.Test.YtfaehioeepolhabGreatJCrashSender10
import Derived.Test.YtfaehioeepolhabGreatJCrashSender7
import Derived.Test.YtfaehioeepolhabGreatJCrashSender9
import Derived.Deep.DeepCutAuto
namespace Go.Proofs.YtfaehioeepolhabGreat
open Go.RowKit
structure PSnd where
 fields : List PF
 epoch : Int
 base : Int
 tables : List PT
 pushed : Int
 out : PO
 str : PStr
def tSnd (r : PSnd) : Nat := totL fN r.fields + totL totT r.tables + totL wN r.out.wait + tStr r.str
structure RdSnd (w : World) (r : PSnd) (a0 : Option Addr) (c0 : Nat) (a3 : Option Addr) (c3 : Nat) (a1 : Option Addr) (c1 : Nat) (a2 : Option Addr) (c2 : Nat) (b2 : Option Addr) (d2 : Nat) : Prop where
 f : RdSl cField w r.fields (.slice a0 r.fields.length c0)
 t : RdSl cTable w r.tables (.slice a3 r.tables.length c3)
 o : RdSl cSnt w r.out.wait (.slice a1 r.out.wait.length c1)
 s : RdStr w r.str a2 c2 b2 d2
theorem RdSnd.later {w w' : World} {r : PSnd} {a0 a3 a1 a2 b2 : Option Addr} {c0 c3 c1 c2 d2 : Nat} (h : RdSnd w r a0 c0 a3 c3 a1 c1 a2 c2 b2 d2) (hb : Below w.heap.size w w') : RdSnd w' r a0 c0 a3 c3 a1 c1 a2 c2 b2 d2 := ⟨h.f.later hb, h.t.later hb, h.o.later hb, h.s.later hb⟩
structure OwnSnd (w : World) (r : PSnd) (a0 : Option Addr) (c0 : Nat) (a3 : Option Addr) (c3 : Nat) (a1 : Option Addr) (c1 : Nat) (a2 : Option Addr) (c2 : Nat) (b2 : Option Addr) (d2 : Nat) (fs ts os bs ds : List Nat) : Prop where
 f : OwnSl cField 101 w r.fields (.slice a0 r.fields.length c0) fs
 t : OwnSl cTable 51 w r.tables (.slice a3 r.tables.length c3) ts
 o : OwnSl cSnt 141 w r.out.wait (.slice a1 r.out.wait.length c1) os
 s : OwnStr w r.str a2 c2 b2 d2 bs ds
theorem OwnSnd.rd {w : World} {r : PSnd} {a0 a3 a1 a2 b2 : Option Addr} {c0 c3 c1 c2 d2 : Nat} {fs ts os bs ds : List Nat} (h : OwnSnd w r a0 c0 a3 c3 a1 c1 a2 c2 b2 d2 fs ts os bs ds) : RdSnd w r a0 c0 a3 c3 a1 c1 a2 c2 b2 d2 := ⟨h.f.rd, h.t.rd, h.o.rd, h.s.rd⟩
theorem keptSt {w w' : World} {s : PStr} {a b : Option Addr} {c d : Nat} {bs ds : List Nat} (h : OwnStr w s a c b d bs ds) (hk : ∀ x ∈ bs ++ ds, w'.heap[x]? = w.heap[x]?) : OwnStr w' s a c b d bs ds := ⟨h.f.kept (fun x hx => hk x (List.mem_append_left _ hx)), h.t.kept (fun x hx => hk x (List.mem_append_right _ hx))⟩
theorem boxSd {w w' : World} {g : Nat} {o : Obj} (h : w.heap[g]? = some o) (hb : Below w.heap.size w w') : w'.heap[g]? = some o := (hb.block g (Array.getElem?_eq_some_iff.1 h).1).trans h
set_option maxRecDepth 100000 in
set_option maxHeartbeats 4000000 in
theorem szSender_any (r : PSnd) (a0 a3 a1 a2 b2 : Option Addr) (c0 c3 c1 c2 d2 : Nat) (l : Int) (w : World) (hr : RdSnd w r a0 c0 a3 c3 a1 c1 a2 c2 b2 d2) (h0 : 0 ≤ l) (h1 : l ≤ 1048576) :
  Calls Tryz.prog 5 #[.agg #[.slice a0 r.fields.length c0, .int .i64 r.epoch, .int .i64 r.base, .slice a3 r.tables.length c3, .int .i64 r.pushed, .int .i64 r.out.epoch, .int .i64 r.out.next, .int .i64 r.out.now, .slice a1 r.out.wait.length c1, .bool r.str.opened, .slice a2 r.str.fields.length c2, .int .i64 r.str.next, .slice b2 r.str.dicts.length d2], .int .i64 l] w fun e w' => e = .returned (.int .i64 (rest l (tSnd r))) ∧ Below w.heap.size w w' := by
 have HR := hid hr
 clear hr
 have HK0 : Hid ((w.alloc (.cells #[.slice a0 r.fields.length c0, .int .i64 r.epoch, .int .i64 r.base, .slice a3 r.tables.length c3, .int .i64 r.pushed, .int .i64 r.out.epoch, .int .i64 r.out.next, .int .i64 r.out.now, .slice a1 r.out.wait.length c1, .bool r.str.opened, .slice a2 r.str.fields.length c2, .int .i64 r.str.next, .slice b2 r.str.dicts.length d2] 31)).heap[w.heap.size]? = some (.cells #[.slice a0 r.fields.length c0, .int .i64 r.epoch, .int .i64 r.base, .slice a3 r.tables.length c3, .int .i64 r.pushed, .int .i64 r.out.epoch, .int .i64 r.out.next, .int .i64 r.out.now, .slice a1 r.out.wait.length c1, .bool r.str.opened, .slice a2 r.str.fields.length c2, .int .i64 r.str.next, .slice b2 r.str.dicts.length d2] 31 (0, 0))) := hid (heap_alloc_new w _)
 have HB0 := hid (bN w (.cells #[.slice a0 r.fields.length c0, .int .i64 r.epoch, .int .i64 r.base, .slice a3 r.tables.length c3, .int .i64 r.pushed, .int .i64 r.out.epoch, .int .i64 r.out.next, .int .i64 r.out.now, .slice a1 r.out.wait.length c1, .bool r.str.opened, .slice a2 r.str.fields.length c2, .int .i64 r.str.next, .slice b2 r.str.dicts.length d2] 31))
 have HT : Hid (tSnd r = totL fN r.fields + totL totT r.tables + totL wN r.out.wait + tStr r.str) := hid rfl
 go_enter Tryz.func5, Tryz.ntmps5
 go_upto_region 1 with fail
 generalize (w.alloc (.cells #[.slice a0 r.fields.length c0, .int .i64 r.epoch, .int .i64 r.base, .slice a3 r.tables.length c3, .int .i64 r.pushed, .int .i64 r.out.epoch, .int .i64 r.out.next, .int .i64 r.out.now, .slice a1 r.out.wait.length c1, .bool r.str.opened, .slice a2 r.str.fields.length c2, .int .i64 r.str.next, .slice b2 r.str.dicts.length d2] 31)) = w0 at *
 have p0 := cR _ _ 0 _ _ _ HK0.out
 simp only [gA, gZ] at p0
 go_wp2_with fail
 refine (szFieldS_any a0 c0 r.fields l w0 (HR.out.f.later HB0.out) (by omega) h1).mono ?_
 rintro e w1 ⟨rfl, b1⟩
 have HK1 := hid (boxSd HK0.out b1)
 have HB1 := hid (bC HB0.out b1)
 clear b1 p0
 rw [show totL (fun f : PF => f.name.length) r.fields = totL fN r.fields from rfl]
 have hup1 := rest_le (n := totL fN r.fields) h1
 by_cases hn0 : rest l (totL fN r.fields) < 0
 ·have HM : Hid (rest l (tSnd r) = -1) := hid (by rw [HT.out, Nat.add_assoc, Nat.add_assoc]; exact rest_neg hn0)
  generalize rest l (totL fN r.fields) = q at *
  go_wp2
  go_ret
  exact ⟨by rw [HM.out]; rfl, HB1.out⟩
 have HE1 : Hid (rest (rest l (totL fN r.fields)) (totL totT r.tables) = rest l (totL fN r.fields + totL totT r.tables)) := hid (rest_two (by omega))
 generalize rest l (totL fN r.fields) = q1 at *
 have hq1 : decide (q1 < 0) = false := decide_eq_false hn0
 have p3 := cR _ _ 3 _ _ _ HK1.out
 simp only [gA, gZ, gU] at p3
 go_wp2_with fail
 refine (szTableS_any a3 c3 r.tables q1 w1 (HR.out.t.later HB1.out) (by omega) hup1).mono ?_
 rintro e w2 ⟨rfl, b2⟩
 have HK2 := hid (boxSd HK1.out b2)
 have HB2 := hid (bC HB1.out b2)
 clear b2 p3 hq1
 rw [HE1.out]
 have hup2 := rest_le (n := totL fN r.fields + totL totT r.tables) h1
 by_cases hn1 : rest l (totL fN r.fields + totL totT r.tables) < 0
 ·have HM : Hid (rest l (tSnd r) = -1) := hid (by rw [HT.out, Nat.add_assoc]; exact rest_neg hn1)
  generalize rest l (totL fN r.fields + totL totT r.tables) = q at *
  go_wp2
  go_ret
  exact ⟨by rw [HM.out]; rfl, HB2.out⟩
 have HE2 : Hid (rest (rest l (totL fN r.fields + totL totT r.tables)) (totL wN r.out.wait) = rest l (totL fN r.fields + totL totT r.tables + totL wN r.out.wait)) := hid (rest_two (by omega))
 generalize rest l (totL fN r.fields + totL totT r.tables) = q2 at *
 have hq2 : decide (q2 < 0) = false := decide_eq_false hn1
 have p5 := cR _ _ 5 _ _ _ HK2.out
 have p6 := cR _ _ 6 _ _ _ HK2.out
 have p7 := cR _ _ 7 _ _ _ HK2.out
 have p8 := cR _ _ 8 _ _ _ HK2.out
 simp only [gA, gZ, gU] at p5 p6 p7 p8
 go_wp2_with fail
 refine (szLinkOut_any r.out a1 c1 q2 w2 (HR.out.o.later HB2.out) (by omega) hup2).mono ?_
 rintro e w3 ⟨rfl, b3⟩
 have HK3 := hid (boxSd HK2.out b3)
 have HB3 := hid (bC HB2.out b3)
 clear b3 p5 p6 p7 p8 hq2
 rw [HE2.out]
 have hup3 := rest_le (n := totL fN r.fields + totL totT r.tables + totL wN r.out.wait) h1
 by_cases hn2 : rest l (totL fN r.fields + totL totT r.tables + totL wN r.out.wait) < 0
 ·have HM : Hid (rest l (tSnd r) = -1) := hid (by rw [HT.out]; exact rest_neg hn2)
  generalize rest l (totL fN r.fields + totL totT r.tables + totL wN r.out.wait) = q at *
  go_wp2
  go_ret
  exact ⟨by rw [HM.out]; rfl, HB3.out⟩
 have HE3 : Hid (rest (rest l (totL fN r.fields + totL totT r.tables + totL wN r.out.wait)) (tStr r.str) = rest l (totL fN r.fields + totL totT r.tables + totL wN r.out.wait + tStr r.str)) := hid (rest_two (by omega))
 generalize rest l (totL fN r.fields + totL totT r.tables + totL wN r.out.wait) = q3 at *
 have hq3 : decide (q3 < 0) = false := decide_eq_false hn2
 have p9 := cR _ _ 9 _ _ _ HK3.out
 have p10 := cR _ _ 10 _ _ _ HK3.out
 have p11 := cR _ _ 11 _ _ _ HK3.out
 have p12 := cR _ _ 12 _ _ _ HK3.out
 simp only [gA, gZ, gU] at p9 p10 p11 p12
 go_wp2_with fail
 refine (szStream_any r.str a2 b2 c2 d2 q3 w3 (HR.out.s.later HB3.out) (by omega) hup3).mono ?_
 rintro e w4 ⟨rfl, b4⟩
 have HK4 := hid (boxSd HK3.out b4)
 have HB4 := hid (bC HB3.out b4)
 clear b4 p9 p10 p11 p12 hq3
 rw [HE3.out]
 rw [← HT.out]
 have HN : Hid (rest l (tSnd r) < 0 → rest l (tSnd r) = -1) := hid rest_neg1
 generalize hqe : rest l (tSnd r) = qz at *
 have HQZ := hid hqe
 clear hqe
 by_cases hn3 : qz < 0
 ·have HM := hid (HN.out hn3)
  have hqz : decide (qz < 0) = true := decide_eq_true hn3
  go_wp2
  go_ret
  exact ⟨by rw [HQZ.out, HM.out]; rfl, HB4.out⟩
 ·have hqz : decide (qz < 0) = false := decide_eq_false hn3
  go_wp2
  go_ret
  exact ⟨by rw [HQZ.out]; rfl, HB4.out⟩
set_option maxRecDepth 100000 in
set_option maxHeartbeats 4000000 in
theorem eqSender_any (r : PSnd) (a0 a3 a1 a2 b2 : Option Addr) (c0 c3 c1 c2 d2 : Nat) (a0x a3x a1x a2x b2x : Option Addr) (c0x c3x c1x c2x d2x : Nat) (w : World) (h1 : RdSnd w r a0 c0 a3 c3 a1 c1 a2 c2 b2 d2) (h2 : RdSnd w r a0x c0x a3x c3x a1x c1x a2x c2x b2x d2x) (ht : tSnd r ≤ 1048576) :
  Calls Tryz.prog 11 #[.agg #[.slice a0 r.fields.length c0, .int .i64 r.epoch, .int .i64 r.base, .slice a3 r.tables.length c3, .int .i64 r.pushed, .int .i64 r.out.epoch, .int .i64 r.out.next, .int .i64 r.out.now, .slice a1 r.out.wait.length c1, .bool r.str.opened, .slice a2 r.str.fields.length c2, .int .i64 r.str.next, .slice b2 r.str.dicts.length d2], .agg #[.slice a0x r.fields.length c0x, .int .i64 r.epoch, .int .i64 r.base, .slice a3x r.tables.length c3x, .int .i64 r.pushed, .int .i64 r.out.epoch, .int .i64 r.out.next, .int .i64 r.out.now, .slice a1x r.out.wait.length c1x, .bool r.str.opened, .slice a2x r.str.fields.length c2x, .int .i64 r.str.next, .slice b2x r.str.dicts.length d2x]] w fun e w' => e = .returned (.bool true) ∧ Below w.heap.size w w' := by
 have H1 := hid h1
 have H2 := hid h2
 clear h1 h2
 have HT : Hid (totL fN r.fields ≤ 1048576 ∧ totL totT r.tables ≤ 1048576 ∧ totL wN r.out.wait ≤ 1048576 ∧ tStr r.str ≤ 1048576) := hid (by unfold tSnd at ht; omega)
 have n0 : (r.epoch != r.epoch) = false := by simp
 have n1 : (r.base != r.base) = false := by simp
 have n2 : (r.pushed != r.pushed) = false := by simp
 have HK0 : Hid (((w.alloc (.cells #[.slice a0 r.fields.length c0, .int .i64 r.epoch, .int .i64 r.base, .slice a3 r.tables.length c3, .int .i64 r.pushed, .int .i64 r.out.epoch, .int .i64 r.out.next, .int .i64 r.out.now, .slice a1 r.out.wait.length c1, .bool r.str.opened, .slice a2 r.str.fields.length c2, .int .i64 r.str.next, .slice b2 r.str.dicts.length d2] 45)).alloc (.cells #[.slice a0x r.fields.length c0x, .int .i64 r.epoch, .int .i64 r.base, .slice a3x r.tables.length c3x, .int .i64 r.pushed, .int .i64 r.out.epoch, .int .i64 r.out.next, .int .i64 r.out.now, .slice a1x r.out.wait.length c1x, .bool r.str.opened, .slice a2x r.str.fields.length c2x, .int .i64 r.str.next, .slice b2x r.str.dicts.length d2x] 45)).heap[w.heap.size]? = some (.cells #[.slice a0 r.fields.length c0, .int .i64 r.epoch, .int .i64 r.base, .slice a3 r.tables.length c3, .int .i64 r.pushed, .int .i64 r.out.epoch, .int .i64 r.out.next, .int .i64 r.out.now, .slice a1 r.out.wait.length c1, .bool r.str.opened, .slice a2 r.str.fields.length c2, .int .i64 r.str.next, .slice b2 r.str.dicts.length d2] 45 (0, 0))) := hid (heap2 _ _ (Below.refl _ _)).1
 have HL0 : Hid (((w.alloc (.cells #[.slice a0 r.fields.length c0, .int .i64 r.epoch, .int .i64 r.base, .slice a3 r.tables.length c3, .int .i64 r.pushed, .int .i64 r.out.epoch, .int .i64 r.out.next, .int .i64 r.out.now, .slice a1 r.out.wait.length c1, .bool r.str.opened, .slice a2 r.str.fields.length c2, .int .i64 r.str.next, .slice b2 r.str.dicts.length d2] 45)).alloc (.cells #[.slice a0x r.fields.length c0x, .int .i64 r.epoch, .int .i64 r.base, .slice a3x r.tables.length c3x, .int .i64 r.pushed, .int .i64 r.out.epoch, .int .i64 r.out.next, .int .i64 r.out.now, .slice a1x r.out.wait.length c1x, .bool r.str.opened, .slice a2x r.str.fields.length c2x, .int .i64 r.str.next, .slice b2x r.str.dicts.length d2x] 45)).heap[w.heap.size + 1]? = some (.cells #[.slice a0x r.fields.length c0x, .int .i64 r.epoch, .int .i64 r.base, .slice a3x r.tables.length c3x, .int .i64 r.pushed, .int .i64 r.out.epoch, .int .i64 r.out.next, .int .i64 r.out.now, .slice a1x r.out.wait.length c1x, .bool r.str.opened, .slice a2x r.str.fields.length c2x, .int .i64 r.str.next, .slice b2x r.str.dicts.length d2x] 45 (0, 0))) := hid (heap2 _ _ (Below.refl _ _)).2
 have HB0 := hid (below_new2 w (.cells #[.slice a0 r.fields.length c0, .int .i64 r.epoch, .int .i64 r.base, .slice a3 r.tables.length c3, .int .i64 r.pushed, .int .i64 r.out.epoch, .int .i64 r.out.next, .int .i64 r.out.now, .slice a1 r.out.wait.length c1, .bool r.str.opened, .slice a2 r.str.fields.length c2, .int .i64 r.str.next, .slice b2 r.str.dicts.length d2] 45) (.cells #[.slice a0x r.fields.length c0x, .int .i64 r.epoch, .int .i64 r.base, .slice a3x r.tables.length c3x, .int .i64 r.pushed, .int .i64 r.out.epoch, .int .i64 r.out.next, .int .i64 r.out.now, .slice a1x r.out.wait.length c1x, .bool r.str.opened, .slice a2x r.str.fields.length c2x, .int .i64 r.str.next, .slice b2x r.str.dicts.length d2x] 45))
 go_enter Tryz.func11, Tryz.ntmps11
 go_upto_region 1 with fail
 generalize ((w.alloc (.cells #[.slice a0 r.fields.length c0, .int .i64 r.epoch, .int .i64 r.base, .slice a3 r.tables.length c3, .int .i64 r.pushed, .int .i64 r.out.epoch, .int .i64 r.out.next, .int .i64 r.out.now, .slice a1 r.out.wait.length c1, .bool r.str.opened, .slice a2 r.str.fields.length c2, .int .i64 r.str.next, .slice b2 r.str.dicts.length d2] 45)).alloc (.cells #[.slice a0x r.fields.length c0x, .int .i64 r.epoch, .int .i64 r.base, .slice a3x r.tables.length c3x, .int .i64 r.pushed, .int .i64 r.out.epoch, .int .i64 r.out.next, .int .i64 r.out.now, .slice a1x r.out.wait.length c1x, .bool r.str.opened, .slice a2x r.str.fields.length c2x, .int .i64 r.str.next, .slice b2x r.str.dicts.length d2x] 45)) = w0 at *
 have p0 := cR _ _ 0 _ _ _ HK0.out
 simp only [gA, gZ] at p0
 have q0 := cR _ _ 0 _ _ _ HL0.out
 simp only [gA, gZ] at q0
 go_wp2_with fail
 refine (eqFieldS_any a0 a0x c0 c0x r.fields w0 (H1.out.f.later HB0.out) (H2.out.f.later HB0.out) HT.out.1).mono ?_
 rintro e w1 ⟨rfl, b1⟩
 have HK1 := hid (boxSd HK0.out b1)
 have HL1 := hid (boxSd HL0.out b1)
 have HB1 := hid (bC HB0.out b1)
 clear b1 p0 q0
 have p1 := cR _ _ 1 _ _ _ HK1.out
 have p2 := cR _ _ 2 _ _ _ HK1.out
 have p3 := cR _ _ 3 _ _ _ HK1.out
 simp only [gA, gZ, gU] at p1 p2 p3
 have q1 := cR _ _ 1 _ _ _ HL1.out
 have q2 := cR _ _ 2 _ _ _ HL1.out
 have q3 := cR _ _ 3 _ _ _ HL1.out
 simp only [gA, gZ, gU] at q1 q2 q3
 go_wp2_with fail
 refine (eqTableS_any a3 a3x c3 c3x r.tables w1 (H1.out.t.later HB1.out) (H2.out.t.later HB1.out) HT.out.2.1).mono ?_
 rintro e w2 ⟨rfl, b2⟩
 have HK2 := hid (boxSd HK1.out b2)
 have HL2 := hid (boxSd HL1.out b2)
 have HB2 := hid (bC HB1.out b2)
 clear b2 p1 p2 p3 q1 q2 q3
 have p4 := cR _ _ 4 _ _ _ HK2.out
 have p5 := cR _ _ 5 _ _ _ HK2.out
 have p6 := cR _ _ 6 _ _ _ HK2.out
 have p7 := cR _ _ 7 _ _ _ HK2.out
 have p8 := cR _ _ 8 _ _ _ HK2.out
 simp only [gA, gZ, gU] at p4 p5 p6 p7 p8
 have q4 := cR _ _ 4 _ _ _ HL2.out
 have q5 := cR _ _ 5 _ _ _ HL2.out
 have q6 := cR _ _ 6 _ _ _ HL2.out
 have q7 := cR _ _ 7 _ _ _ HL2.out
 have q8 := cR _ _ 8 _ _ _ HL2.out
 simp only [gA, gZ, gU] at q4 q5 q6 q7 q8
 go_wp2_with fail
 refine (eqLinkOut_any r.out a1 a1x c1 c1x w2 (H1.out.o.later HB2.out) (H2.out.o.later HB2.out) HT.out.2.2.1).mono ?_
 rintro e w3 ⟨rfl, b3⟩
 have HK3 := hid (boxSd HK2.out b3)
 have HL3 := hid (boxSd HL2.out b3)
 have HB3 := hid (bC HB2.out b3)
 clear b3 p4 p5 p6 p7 p8 q4 q5 q6 q7 q8
 have p9 := cR _ _ 9 _ _ _ HK3.out
 have p10 := cR _ _ 10 _ _ _ HK3.out
 have p11 := cR _ _ 11 _ _ _ HK3.out
 have p12 := cR _ _ 12 _ _ _ HK3.out
 simp only [gA, gZ, gU] at p9 p10 p11 p12
 have q9 := cR _ _ 9 _ _ _ HL3.out
 have q10 := cR _ _ 10 _ _ _ HL3.out
 have q11 := cR _ _ 11 _ _ _ HL3.out
 have q12 := cR _ _ 12 _ _ _ HL3.out
 simp only [gA, gZ, gU] at q9 q10 q11 q12
 go_wp2_with fail
 refine (eqStream_any r.str a2 b2 a2x b2x c2 d2 c2x d2x w3 (H1.out.s.later HB3.out) (H2.out.s.later HB3.out) HT.out.2.2.2).mono ?_
 rintro e w4 ⟨rfl, b4⟩
 have HK4 := hid (boxSd HK3.out b4)
 have HL4 := hid (boxSd HL3.out b4)
 have HB4 := hid (bC HB3.out b4)
 clear b4 p9 p10 p11 p12 q9 q10 q11 q12
 go_wp2
 go_ret
 exact ⟨rfl, HB4.out⟩
set_option maxRecDepth 100000 in
set_option maxHeartbeats 8000000 in
theorem toSender_any (r : PSnd) (a0 a3 a1 a2 b2 : Option Addr) (c0 c3 c1 c2 d2 : Nat) (w : World) (hr : RdSnd w r a0 c0 a3 c3 a1 c1 a2 c2 b2 d2) (ht : tSnd r ≤ 1048576) :
  Calls Tryz.prog 8 #[.agg #[.slice a0 r.fields.length c0, .int .i64 r.epoch, .int .i64 r.base, .slice a3 r.tables.length c3, .int .i64 r.pushed, .int .i64 r.out.epoch, .int .i64 r.out.next, .int .i64 r.out.now, .slice a1 r.out.wait.length c1, .bool r.str.opened, .slice a2 r.str.fields.length c2, .int .i64 r.str.next, .slice b2 r.str.dicts.length d2]] w fun e w' => ∃ a0x c0x a3x c3x a1x c1x a2x c2x b2x d2x fs ts os bs ds, e = .returned (.agg #[.slice a0x r.fields.length c0x, .int .i64 r.epoch, .int .i64 r.base, .slice a3x r.tables.length c3x, .int .i64 r.pushed, .int .i64 r.out.epoch, .int .i64 r.out.next, .int .i64 r.out.now, .slice a1x r.out.wait.length c1x, .bool r.str.opened, .slice a2x r.str.fields.length c2x, .int .i64 r.str.next, .slice b2x r.str.dicts.length d2x]) ∧ OwnSnd w' r a0x c0x a3x c3x a1x c1x a2x c2x b2x d2x fs ts os bs ds ∧ (∀ x ∈ fs ++ (ts ++ (os ++ (bs ++ ds))), w.heap.size ≤ x) ∧ (fs ++ (ts ++ (os ++ (bs ++ ds)))).Nodup ∧ Below w.heap.size w w' := by
 have HR := hid hr
 clear hr
 have HT : Hid (totL fN r.fields ≤ 1048576 ∧ totL totT r.tables ≤ 1048576 ∧ totL wN r.out.wait ≤ 1048576 ∧ tStr r.str ≤ 1048576) := hid (by unfold tSnd at ht; omega)
 have HK0 : Hid ((((w.alloc (.cells #[.slice a0 r.fields.length c0, .int .i64 r.epoch, .int .i64 r.base, .slice a3 r.tables.length c3, .int .i64 r.pushed, .int .i64 r.out.epoch, .int .i64 r.out.next, .int .i64 r.out.now, .slice a1 r.out.wait.length c1, .bool r.str.opened, .slice a2 r.str.fields.length c2, .int .i64 r.str.next, .slice b2 r.str.dicts.length d2] 31)).alloc (.cells #[.slice none 0 0, .int .i64 0, .int .i64 0, .slice none 0 0, .int .i64 0, .int .i64 0, .int .i64 0, .int .i64 0, .slice none 0 0, .bool false, .slice none 0 0, .int .i64 0, .slice none 0 0] 45)).alloc (.cells #[.slice none 0 0, .int .i64 0, .int .i64 0, .slice none 0 0, .int .i64 0, .int .i64 0, .int .i64 0, .int .i64 0, .slice none 0 0, .bool false, .slice none 0 0, .int .i64 0, .slice none 0 0] 45)).heap[w.heap.size]? = some (.cells #[.slice a0 r.fields.length c0, .int .i64 r.epoch, .int .i64 r.base, .slice a3 r.tables.length c3, .int .i64 r.pushed, .int .i64 r.out.epoch, .int .i64 r.out.next, .int .i64 r.out.now, .slice a1 r.out.wait.length c1, .bool r.str.opened, .slice a2 r.str.fields.length c2, .int .i64 r.str.next, .slice b2 r.str.dicts.length d2] 31 (0, 0))) := hid (heap3 _ _ _ (Below.refl _ _)).1
 have HL0 : Hid ((((w.alloc (.cells #[.slice a0 r.fields.length c0, .int .i64 r.epoch, .int .i64 r.base, .slice a3 r.tables.length c3, .int .i64 r.pushed, .int .i64 r.out.epoch, .int .i64 r.out.next, .int .i64 r.out.now, .slice a1 r.out.wait.length c1, .bool r.str.opened, .slice a2 r.str.fields.length c2, .int .i64 r.str.next, .slice b2 r.str.dicts.length d2] 31)).alloc (.cells #[.slice none 0 0, .int .i64 0, .int .i64 0, .slice none 0 0, .int .i64 0, .int .i64 0, .int .i64 0, .int .i64 0, .slice none 0 0, .bool false, .slice none 0 0, .int .i64 0, .slice none 0 0] 45)).alloc (.cells #[.slice none 0 0, .int .i64 0, .int .i64 0, .slice none 0 0, .int .i64 0, .int .i64 0, .int .i64 0, .int .i64 0, .slice none 0 0, .bool false, .slice none 0 0, .int .i64 0, .slice none 0 0] 45)).heap[w.heap.size + 1]? = some (.cells #[.slice none 0 0, .int .i64 0, .int .i64 0, .slice none 0 0, .int .i64 0, .int .i64 0, .int .i64 0, .int .i64 0, .slice none 0 0, .bool false, .slice none 0 0, .int .i64 0, .slice none 0 0] 45 (0, 0))) := hid (heap3 _ _ _ (Below.refl _ _)).2.1
 have HM0 : Hid ((((w.alloc (.cells #[.slice a0 r.fields.length c0, .int .i64 r.epoch, .int .i64 r.base, .slice a3 r.tables.length c3, .int .i64 r.pushed, .int .i64 r.out.epoch, .int .i64 r.out.next, .int .i64 r.out.now, .slice a1 r.out.wait.length c1, .bool r.str.opened, .slice a2 r.str.fields.length c2, .int .i64 r.str.next, .slice b2 r.str.dicts.length d2] 31)).alloc (.cells #[.slice none 0 0, .int .i64 0, .int .i64 0, .slice none 0 0, .int .i64 0, .int .i64 0, .int .i64 0, .int .i64 0, .slice none 0 0, .bool false, .slice none 0 0, .int .i64 0, .slice none 0 0] 45)).alloc (.cells #[.slice none 0 0, .int .i64 0, .int .i64 0, .slice none 0 0, .int .i64 0, .int .i64 0, .int .i64 0, .int .i64 0, .slice none 0 0, .bool false, .slice none 0 0, .int .i64 0, .slice none 0 0] 45)).heap[w.heap.size + 1 + 1]? = some (.cells #[.slice none 0 0, .int .i64 0, .int .i64 0, .slice none 0 0, .int .i64 0, .int .i64 0, .int .i64 0, .int .i64 0, .slice none 0 0, .bool false, .slice none 0 0, .int .i64 0, .slice none 0 0] 45 (0, 0))) := hid (heap3 _ _ _ (Below.refl _ _)).2.2
 have HB0 := hid (below_new3 w (.cells #[.slice a0 r.fields.length c0, .int .i64 r.epoch, .int .i64 r.base, .slice a3 r.tables.length c3, .int .i64 r.pushed, .int .i64 r.out.epoch, .int .i64 r.out.next, .int .i64 r.out.now, .slice a1 r.out.wait.length c1, .bool r.str.opened, .slice a2 r.str.fields.length c2, .int .i64 r.str.next, .slice b2 r.str.dicts.length d2] 31) (.cells #[.slice none 0 0, .int .i64 0, .int .i64 0, .slice none 0 0, .int .i64 0, .int .i64 0, .int .i64 0, .int .i64 0, .slice none 0 0, .bool false, .slice none 0 0, .int .i64 0, .slice none 0 0] 45) (.cells #[.slice none 0 0, .int .i64 0, .int .i64 0, .slice none 0 0, .int .i64 0, .int .i64 0, .int .i64 0, .int .i64 0, .slice none 0 0, .bool false, .slice none 0 0, .int .i64 0, .slice none 0 0] 45))
 have HSZ := hid (size3 w (.cells #[.slice a0 r.fields.length c0, .int .i64 r.epoch, .int .i64 r.base, .slice a3 r.tables.length c3, .int .i64 r.pushed, .int .i64 r.out.epoch, .int .i64 r.out.next, .int .i64 r.out.now, .slice a1 r.out.wait.length c1, .bool r.str.opened, .slice a2 r.str.fields.length c2, .int .i64 r.str.next, .slice b2 r.str.dicts.length d2] 31) (.cells #[.slice none 0 0, .int .i64 0, .int .i64 0, .slice none 0 0, .int .i64 0, .int .i64 0, .int .i64 0, .int .i64 0, .slice none 0 0, .bool false, .slice none 0 0, .int .i64 0, .slice none 0 0] 45) (.cells #[.slice none 0 0, .int .i64 0, .int .i64 0, .slice none 0 0, .int .i64 0, .int .i64 0, .int .i64 0, .int .i64 0, .slice none 0 0, .bool false, .slice none 0 0, .int .i64 0, .slice none 0 0] 45))
 go_enter Tryz.func8, Tryz.ntmps8
 go_upto_region 2 with fail
 generalize (((w.alloc (.cells #[.slice a0 r.fields.length c0, .int .i64 r.epoch, .int .i64 r.base, .slice a3 r.tables.length c3, .int .i64 r.pushed, .int .i64 r.out.epoch, .int .i64 r.out.next, .int .i64 r.out.now, .slice a1 r.out.wait.length c1, .bool r.str.opened, .slice a2 r.str.fields.length c2, .int .i64 r.str.next, .slice b2 r.str.dicts.length d2] 31)).alloc (.cells #[.slice none 0 0, .int .i64 0, .int .i64 0, .slice none 0 0, .int .i64 0, .int .i64 0, .int .i64 0, .int .i64 0, .slice none 0 0, .bool false, .slice none 0 0, .int .i64 0, .slice none 0 0] 45)).alloc (.cells #[.slice none 0 0, .int .i64 0, .int .i64 0, .slice none 0 0, .int .i64 0, .int .i64 0, .int .i64 0, .int .i64 0, .slice none 0 0, .bool false, .slice none 0 0, .int .i64 0, .slice none 0 0] 45)) = W0 at *
 have hs0 : w.heap.size + 3 ≤ W0.heap.size := by have := HSZ.out; omega
 have p0 := cR _ _ 0 _ _ _ HK0.out
 simp only [gA, gZ] at p0
 go_wp2_with fail
 refine (toFieldS_any a0 c0 r.fields W0 (HR.out.f.later HB0.out) HT.out.1).mono ?_
 rintro e w1 ⟨v0, fs, rfl, oo, ll, nn, bb⟩
 obtain ⟨a0x, c0x, rfl, -⟩ := id oo.rd
 have K0 := hid (boxSd HK0.out bb)
 have L0 := hid (boxSd HL0.out bb)
 have M0 := hid (boxSd HM0.out bb)
 have hsb0 := bb.size
 have HM1 : Hid ((((w1.setCell ⟨w.heap.size + 1 + 1, 0, none⟩ (.slice a0x r.fields.length c0x)).setCell ⟨w.heap.size + 1 + 1, 1, none⟩ (.int .i64 r.epoch)).setCell ⟨w.heap.size + 1 + 1, 2, none⟩ (.int .i64 r.base)).heap[w.heap.size + 1 + 1]? = some (.cells #[.slice a0x r.fields.length c0x, .int .i64 r.epoch, .int .i64 r.base, .slice none 0 0, .int .i64 0, .int .i64 0, .int .i64 0, .int .i64 0, .slice none 0 0, .bool false, .slice none 0 0, .int .i64 0, .slice none 0 0] 45 (0, 0))) := hid (heap_setCell_same _ _ 2 _ _ (.int .i64 r.base) (heap_setCell_same _ _ 1 _ _ (.int .i64 r.epoch) (heap_setCell_same _ _ 0 _ _ (.slice a0x r.fields.length c0x) M0.out)))
 have HO1 : Hid (∀ j, j ≠ w.heap.size + 1 + 1 → (((w1.setCell ⟨w.heap.size + 1 + 1, 0, none⟩ (.slice a0x r.fields.length c0x)).setCell ⟨w.heap.size + 1 + 1, 1, none⟩ (.int .i64 r.epoch)).setCell ⟨w.heap.size + 1 + 1, 2, none⟩ (.int .i64 r.base)).heap[j]? = w1.heap[j]?) := hid (fun j hj => by rw [Below.heap_setCell _ _ _ _ hj, Below.heap_setCell _ _ _ _ hj, Below.heap_setCell _ _ _ _ hj])
 have HB1 : Hid (Below w.heap.size w (((w1.setCell ⟨w.heap.size + 1 + 1, 0, none⟩ (.slice a0x r.fields.length c0x)).setCell ⟨w.heap.size + 1 + 1, 1, none⟩ (.int .i64 r.epoch)).setCell ⟨w.heap.size + 1 + 1, 2, none⟩ (.int .i64 r.base))) := hid ((((bC HB0.out bb).setCell (p := ⟨w.heap.size + 1 + 1, 0, none⟩) (by simp only []; omega) _).setCell (p := ⟨w.heap.size + 1 + 1, 1, none⟩) (by simp only []; omega) _).setCell (p := ⟨w.heap.size + 1 + 1, 2, none⟩) (by simp only []; omega) _)
 have HZ1 : Hid ((((w1.setCell ⟨w.heap.size + 1 + 1, 0, none⟩ (.slice a0x r.fields.length c0x)).setCell ⟨w.heap.size + 1 + 1, 1, none⟩ (.int .i64 r.epoch)).setCell ⟨w.heap.size + 1 + 1, 2, none⟩ (.int .i64 r.base)).heap.size = w1.heap.size) := hid (by simp)
 have OF := hid oo
 have LF := hid ll
 have NF := hid nn
 clear oo ll nn bb p0
 have p1 := cR _ _ 1 _ _ _ K0.out
 have p2 := cR _ _ 2 _ _ _ K0.out
 simp only [gA, gZ, gU] at p1 p2
 have y0 := cR _ _ 0 _ _ _ M0.out
 have zy0 := fR _ _ 0 _ _ M0.out
 have y1 := cR _ _ 1 _ _ _ M0.out
 have zy1 := fR _ _ 1 _ _ M0.out
 have y2 := cR _ _ 2 _ _ _ M0.out
 have zy2 := fR _ _ 2 _ _ M0.out
 simp only [gA, gZ, gU] at y0 y1 y2
 go_upto_region 5 with fail
 generalize (((w1.setCell ⟨w.heap.size + 1 + 1, 0, none⟩ (.slice a0x r.fields.length c0x)).setCell ⟨w.heap.size + 1 + 1, 1, none⟩ (.int .i64 r.epoch)).setCell ⟨w.heap.size + 1 + 1, 2, none⟩ (.int .i64 r.base)) = W1 at *
 clear y0 zy0 y1 zy1 y2 zy2 p1 p2
 have hs1 : w1.heap.size ≤ W1.heap.size := by rw [HZ1.out]; exact Nat.le_refl _
 have hz1 : W1.heap.size ≤ w1.heap.size := by rw [HZ1.out]; exact Nat.le_refl _
 have HK1 := hid ((HO1.out w.heap.size (by omega)).trans K0.out)
 have HL1 := hid ((HO1.out (w.heap.size + 1) (by omega)).trans L0.out)
 have OF := hid (OF.out.kept (w' := W1) (fun x hx => HO1.out x (by have := LF.out x hx; omega)))
 have TF : Hid (∀ x ∈ fs, x < W1.heap.size) := hid (fun x hx => OF.out.lt x hx)
 have p3 := cR _ _ 3 _ _ _ HK1.out
 simp only [gA, gZ, gU] at p3
 go_wp2_with fail
 refine (toTableS_any a3 c3 r.tables W1 (HR.out.t.later HB1.out) HT.out.2.1).mono ?_
 rintro e w2 ⟨v3, ts, rfl, oo, ll, nn, bb⟩
 obtain ⟨a3x, c3x, rfl, -⟩ := id oo.rd
 have K1 := hid (boxSd HK1.out bb)
 have L1 := hid (boxSd HL1.out bb)
 have M1 := hid (boxSd HM1.out bb)
 have hsb1 := bb.size
 have HM2 : Hid (((w2.setCell ⟨w.heap.size + 1 + 1, 3, none⟩ (.slice a3x r.tables.length c3x)).setCell ⟨w.heap.size + 1 + 1, 4, none⟩ (.int .i64 r.pushed)).heap[w.heap.size + 1 + 1]? = some (.cells #[.slice a0x r.fields.length c0x, .int .i64 r.epoch, .int .i64 r.base, .slice a3x r.tables.length c3x, .int .i64 r.pushed, .int .i64 0, .int .i64 0, .int .i64 0, .slice none 0 0, .bool false, .slice none 0 0, .int .i64 0, .slice none 0 0] 45 (0, 0))) := hid (heap_setCell_same _ _ 4 _ _ (.int .i64 r.pushed) (heap_setCell_same _ _ 3 _ _ (.slice a3x r.tables.length c3x) M1.out))
 have HO2 : Hid (∀ j, j ≠ w.heap.size + 1 + 1 → ((w2.setCell ⟨w.heap.size + 1 + 1, 3, none⟩ (.slice a3x r.tables.length c3x)).setCell ⟨w.heap.size + 1 + 1, 4, none⟩ (.int .i64 r.pushed)).heap[j]? = w2.heap[j]?) := hid (fun j hj => by rw [Below.heap_setCell _ _ _ _ hj, Below.heap_setCell _ _ _ _ hj])
 have HB2 : Hid (Below w.heap.size w ((w2.setCell ⟨w.heap.size + 1 + 1, 3, none⟩ (.slice a3x r.tables.length c3x)).setCell ⟨w.heap.size + 1 + 1, 4, none⟩ (.int .i64 r.pushed))) := hid (((bC HB1.out bb).setCell (p := ⟨w.heap.size + 1 + 1, 3, none⟩) (by simp only []; omega) _).setCell (p := ⟨w.heap.size + 1 + 1, 4, none⟩) (by simp only []; omega) _)
 have HZ2 : Hid (((w2.setCell ⟨w.heap.size + 1 + 1, 3, none⟩ (.slice a3x r.tables.length c3x)).setCell ⟨w.heap.size + 1 + 1, 4, none⟩ (.int .i64 r.pushed)).heap.size = w2.heap.size) := hid (by simp)
 have OF := hid (OF.out.kept (w' := w2) (fun x hx => bb.block x (OF.out.lt x hx)))
 have OT := hid oo
 have LT := hid ll
 have NT := hid nn
 clear oo ll nn bb p3
 have p4 := cR _ _ 4 _ _ _ K1.out
 simp only [gA, gZ, gU] at p4
 have y3 := cR _ _ 3 _ _ _ M1.out
 have zy3 := fR _ _ 3 _ _ M1.out
 have y4 := cR _ _ 4 _ _ _ M1.out
 have zy4 := fR _ _ 4 _ _ M1.out
 simp only [gA, gZ, gU] at y3 y4
 go_upto_region 7 with fail
 generalize ((w2.setCell ⟨w.heap.size + 1 + 1, 3, none⟩ (.slice a3x r.tables.length c3x)).setCell ⟨w.heap.size + 1 + 1, 4, none⟩ (.int .i64 r.pushed)) = W2 at *
 clear y3 zy3 y4 zy4 p4
 have hs2 : w2.heap.size ≤ W2.heap.size := by rw [HZ2.out]; exact Nat.le_refl _
 have hz2 : W2.heap.size ≤ w2.heap.size := by rw [HZ2.out]; exact Nat.le_refl _
 have HK2 := hid ((HO2.out w.heap.size (by omega)).trans K1.out)
 have HL2 := hid ((HO2.out (w.heap.size + 1) (by omega)).trans L1.out)
 have OF := hid (OF.out.kept (w' := W2) (fun x hx => HO2.out x (by have := LF.out x hx; omega)))
 have OT := hid (OT.out.kept (w' := W2) (fun x hx => HO2.out x (by have := LT.out x hx; omega)))
 have TT : Hid (∀ x ∈ ts, x < W2.heap.size) := hid (fun x hx => OT.out.lt x hx)
 have p5 := cR _ _ 5 _ _ _ HK2.out
 have p6 := cR _ _ 6 _ _ _ HK2.out
 have p7 := cR _ _ 7 _ _ _ HK2.out
 have p8 := cR _ _ 8 _ _ _ HK2.out
 simp only [gA, gZ, gU] at p5 p6 p7 p8
 go_wp2_with fail
 refine (toLinkOut_any r.out a1 c1 W2 (HR.out.o.later HB2.out) HT.out.2.2.1).mono ?_
 rintro e w3 ⟨a1x, c1x, os, rfl, oo, ll, nn, bb⟩
 have K2 := hid (boxSd HK2.out bb)
 have L2 := hid (boxSd HL2.out bb)
 have M2 := hid (boxSd HM2.out bb)
 have hsb2 := bb.size
 have HM3 : Hid (((((w3.setCell ⟨w.heap.size + 1 + 1, 5, none⟩ (.int .i64 r.out.epoch)).setCell ⟨w.heap.size + 1 + 1, 6, none⟩ (.int .i64 r.out.next)).setCell ⟨w.heap.size + 1 + 1, 7, none⟩ (.int .i64 r.out.now)).setCell ⟨w.heap.size + 1 + 1, 8, none⟩ (.slice a1x r.out.wait.length c1x)).heap[w.heap.size + 1 + 1]? = some (.cells #[.slice a0x r.fields.length c0x, .int .i64 r.epoch, .int .i64 r.base, .slice a3x r.tables.length c3x, .int .i64 r.pushed, .int .i64 r.out.epoch, .int .i64 r.out.next, .int .i64 r.out.now, .slice a1x r.out.wait.length c1x, .bool false, .slice none 0 0, .int .i64 0, .slice none 0 0] 45 (0, 0))) := hid (heap_setCell_same _ _ 8 _ _ (.slice a1x r.out.wait.length c1x) (heap_setCell_same _ _ 7 _ _ (.int .i64 r.out.now) (heap_setCell_same _ _ 6 _ _ (.int .i64 r.out.next) (heap_setCell_same _ _ 5 _ _ (.int .i64 r.out.epoch) M2.out))))
 have HO3 : Hid (∀ j, j ≠ w.heap.size + 1 + 1 → ((((w3.setCell ⟨w.heap.size + 1 + 1, 5, none⟩ (.int .i64 r.out.epoch)).setCell ⟨w.heap.size + 1 + 1, 6, none⟩ (.int .i64 r.out.next)).setCell ⟨w.heap.size + 1 + 1, 7, none⟩ (.int .i64 r.out.now)).setCell ⟨w.heap.size + 1 + 1, 8, none⟩ (.slice a1x r.out.wait.length c1x)).heap[j]? = w3.heap[j]?) := hid (fun j hj => by rw [Below.heap_setCell _ _ _ _ hj, Below.heap_setCell _ _ _ _ hj, Below.heap_setCell _ _ _ _ hj, Below.heap_setCell _ _ _ _ hj])
 have HB3 : Hid (Below w.heap.size w ((((w3.setCell ⟨w.heap.size + 1 + 1, 5, none⟩ (.int .i64 r.out.epoch)).setCell ⟨w.heap.size + 1 + 1, 6, none⟩ (.int .i64 r.out.next)).setCell ⟨w.heap.size + 1 + 1, 7, none⟩ (.int .i64 r.out.now)).setCell ⟨w.heap.size + 1 + 1, 8, none⟩ (.slice a1x r.out.wait.length c1x))) := hid (((((bC HB2.out bb).setCell (p := ⟨w.heap.size + 1 + 1, 5, none⟩) (by simp only []; omega) _).setCell (p := ⟨w.heap.size + 1 + 1, 6, none⟩) (by simp only []; omega) _).setCell (p := ⟨w.heap.size + 1 + 1, 7, none⟩) (by simp only []; omega) _).setCell (p := ⟨w.heap.size + 1 + 1, 8, none⟩) (by simp only []; omega) _)
 have HZ3 : Hid (((((w3.setCell ⟨w.heap.size + 1 + 1, 5, none⟩ (.int .i64 r.out.epoch)).setCell ⟨w.heap.size + 1 + 1, 6, none⟩ (.int .i64 r.out.next)).setCell ⟨w.heap.size + 1 + 1, 7, none⟩ (.int .i64 r.out.now)).setCell ⟨w.heap.size + 1 + 1, 8, none⟩ (.slice a1x r.out.wait.length c1x)).heap.size = w3.heap.size) := hid (by simp)
 have OF := hid (OF.out.kept (w' := w3) (fun x hx => bb.block x (OF.out.lt x hx)))
 have OT := hid (OT.out.kept (w' := w3) (fun x hx => bb.block x (OT.out.lt x hx)))
 have OO := hid oo
 have LO := hid ll
 have NO := hid nn
 clear oo ll nn bb p5 p6 p7 p8
 have y5 := cR _ _ 5 _ _ _ M2.out
 have zy5 := fR _ _ 5 _ _ M2.out
 have y6 := cR _ _ 6 _ _ _ M2.out
 have zy6 := fR _ _ 6 _ _ M2.out
 have y7 := cR _ _ 7 _ _ _ M2.out
 have zy7 := fR _ _ 7 _ _ M2.out
 have y8 := cR _ _ 8 _ _ _ M2.out
 have zy8 := fR _ _ 8 _ _ M2.out
 simp only [gA, gZ, gU] at y5 y6 y7 y8
 go_upto_region 8 with fail
 generalize ((((w3.setCell ⟨w.heap.size + 1 + 1, 5, none⟩ (.int .i64 r.out.epoch)).setCell ⟨w.heap.size + 1 + 1, 6, none⟩ (.int .i64 r.out.next)).setCell ⟨w.heap.size + 1 + 1, 7, none⟩ (.int .i64 r.out.now)).setCell ⟨w.heap.size + 1 + 1, 8, none⟩ (.slice a1x r.out.wait.length c1x)) = W3 at *
 clear y5 zy5 y6 zy6 y7 zy7 y8 zy8 
 have hs3 : w3.heap.size ≤ W3.heap.size := by rw [HZ3.out]; exact Nat.le_refl _
 have hz3 : W3.heap.size ≤ w3.heap.size := by rw [HZ3.out]; exact Nat.le_refl _
 have HK3 := hid ((HO3.out w.heap.size (by omega)).trans K2.out)
 have HL3 := hid ((HO3.out (w.heap.size + 1) (by omega)).trans L2.out)
 have OF := hid (OF.out.kept (w' := W3) (fun x hx => HO3.out x (by have := LF.out x hx; omega)))
 have OT := hid (OT.out.kept (w' := W3) (fun x hx => HO3.out x (by have := LT.out x hx; omega)))
 have OO := hid (OO.out.kept (w' := W3) (fun x hx => HO3.out x (by have := LO.out x hx; omega)))
 have TO : Hid (∀ x ∈ os, x < W3.heap.size) := hid (fun x hx => OO.out.lt x hx)
 have p9 := cR _ _ 9 _ _ _ HK3.out
 have p10 := cR _ _ 10 _ _ _ HK3.out
 have p11 := cR _ _ 11 _ _ _ HK3.out
 have p12 := cR _ _ 12 _ _ _ HK3.out
 simp only [gA, gZ, gU] at p9 p10 p11 p12
 go_wp2_with fail
 refine (toStream_any r.str a2 b2 c2 d2 W3 (HR.out.s.later HB3.out) HT.out.2.2.2).mono ?_
 rintro e w4 ⟨a2x, c2x, b2x, d2x, bs, ds, rfl, oo, ll, nn, bb⟩
 have K3 := hid (boxSd HK3.out bb)
 have L3 := hid (boxSd HL3.out bb)
 have M3 := hid (boxSd HM3.out bb)
 have hsb3 := bb.size
 have HM4 : Hid (((((w4.setCell ⟨w.heap.size + 1 + 1, 9, none⟩ (.bool r.str.opened)).setCell ⟨w.heap.size + 1 + 1, 10, none⟩ (.slice a2x r.str.fields.length c2x)).setCell ⟨w.heap.size + 1 + 1, 11, none⟩ (.int .i64 r.str.next)).setCell ⟨w.heap.size + 1 + 1, 12, none⟩ (.slice b2x r.str.dicts.length d2x)).heap[w.heap.size + 1 + 1]? = some (.cells #[.slice a0x r.fields.length c0x, .int .i64 r.epoch, .int .i64 r.base, .slice a3x r.tables.length c3x, .int .i64 r.pushed, .int .i64 r.out.epoch, .int .i64 r.out.next, .int .i64 r.out.now, .slice a1x r.out.wait.length c1x, .bool r.str.opened, .slice a2x r.str.fields.length c2x, .int .i64 r.str.next, .slice b2x r.str.dicts.length d2x] 45 (0, 0))) := hid (heap_setCell_same _ _ 12 _ _ (.slice b2x r.str.dicts.length d2x) (heap_setCell_same _ _ 11 _ _ (.int .i64 r.str.next) (heap_setCell_same _ _ 10 _ _ (.slice a2x r.str.fields.length c2x) (heap_setCell_same _ _ 9 _ _ (.bool r.str.opened) M3.out))))
 have HO4 : Hid (∀ j, j ≠ w.heap.size + 1 + 1 → ((((w4.setCell ⟨w.heap.size + 1 + 1, 9, none⟩ (.bool r.str.opened)).setCell ⟨w.heap.size + 1 + 1, 10, none⟩ (.slice a2x r.str.fields.length c2x)).setCell ⟨w.heap.size + 1 + 1, 11, none⟩ (.int .i64 r.str.next)).setCell ⟨w.heap.size + 1 + 1, 12, none⟩ (.slice b2x r.str.dicts.length d2x)).heap[j]? = w4.heap[j]?) := hid (fun j hj => by rw [Below.heap_setCell _ _ _ _ hj, Below.heap_setCell _ _ _ _ hj, Below.heap_setCell _ _ _ _ hj, Below.heap_setCell _ _ _ _ hj])
 have HB4 : Hid (Below w.heap.size w ((((w4.setCell ⟨w.heap.size + 1 + 1, 9, none⟩ (.bool r.str.opened)).setCell ⟨w.heap.size + 1 + 1, 10, none⟩ (.slice a2x r.str.fields.length c2x)).setCell ⟨w.heap.size + 1 + 1, 11, none⟩ (.int .i64 r.str.next)).setCell ⟨w.heap.size + 1 + 1, 12, none⟩ (.slice b2x r.str.dicts.length d2x))) := hid (((((bC HB3.out bb).setCell (p := ⟨w.heap.size + 1 + 1, 9, none⟩) (by simp only []; omega) _).setCell (p := ⟨w.heap.size + 1 + 1, 10, none⟩) (by simp only []; omega) _).setCell (p := ⟨w.heap.size + 1 + 1, 11, none⟩) (by simp only []; omega) _).setCell (p := ⟨w.heap.size + 1 + 1, 12, none⟩) (by simp only []; omega) _)
 have HZ4 : Hid (((((w4.setCell ⟨w.heap.size + 1 + 1, 9, none⟩ (.bool r.str.opened)).setCell ⟨w.heap.size + 1 + 1, 10, none⟩ (.slice a2x r.str.fields.length c2x)).setCell ⟨w.heap.size + 1 + 1, 11, none⟩ (.int .i64 r.str.next)).setCell ⟨w.heap.size + 1 + 1, 12, none⟩ (.slice b2x r.str.dicts.length d2x)).heap.size = w4.heap.size) := hid (by simp)
 have OF := hid (OF.out.kept (w' := w4) (fun x hx => bb.block x (OF.out.lt x hx)))
 have OT := hid (OT.out.kept (w' := w4) (fun x hx => bb.block x (OT.out.lt x hx)))
 have OO := hid (OO.out.kept (w' := w4) (fun x hx => bb.block x (OO.out.lt x hx)))
 have OS := hid oo
 have LS := hid ll
 have NS := hid nn
 clear oo ll nn bb p9 p10 p11 p12
 have y9 := cR _ _ 9 _ _ _ M3.out
 have zy9 := fR _ _ 9 _ _ M3.out
 have y10 := cR _ _ 10 _ _ _ M3.out
 have zy10 := fR _ _ 10 _ _ M3.out
 have y11 := cR _ _ 11 _ _ _ M3.out
 have zy11 := fR _ _ 11 _ _ M3.out
 have y12 := cR _ _ 12 _ _ _ M3.out
 have zy12 := fR _ _ 12 _ _ M3.out
 simp only [gA, gZ, gU] at y9 y10 y11 y12
 go_upto_region 9 with fail
 generalize ((((w4.setCell ⟨w.heap.size + 1 + 1, 9, none⟩ (.bool r.str.opened)).setCell ⟨w.heap.size + 1 + 1, 10, none⟩ (.slice a2x r.str.fields.length c2x)).setCell ⟨w.heap.size + 1 + 1, 11, none⟩ (.int .i64 r.str.next)).setCell ⟨w.heap.size + 1 + 1, 12, none⟩ (.slice b2x r.str.dicts.length d2x)) = W4 at *
 clear y9 zy9 y10 zy10 y11 zy11 y12 zy12 
 have hs4 : w4.heap.size ≤ W4.heap.size := by rw [HZ4.out]; exact Nat.le_refl _
 have hz4 : W4.heap.size ≤ w4.heap.size := by rw [HZ4.out]; exact Nat.le_refl _
 have HK4 := hid ((HO4.out w.heap.size (by omega)).trans K3.out)
 have HL4 := hid ((HO4.out (w.heap.size + 1) (by omega)).trans L3.out)
 have OF := hid (OF.out.kept (w' := W4) (fun x hx => HO4.out x (by have := LF.out x hx; omega)))
 have OT := hid (OT.out.kept (w' := W4) (fun x hx => HO4.out x (by have := LT.out x hx; omega)))
 have OO := hid (OO.out.kept (w' := W4) (fun x hx => HO4.out x (by have := LO.out x hx; omega)))
 have OS := hid (keptSt OS.out (w' := W4) (fun x hx => HO4.out x (by have := LS.out x hx; omega)))
 have TS : Hid (∀ x ∈ bs ++ ds, x < W4.heap.size) := hid (fun x hx => by
  rcases List.mem_append.1 hx with h | h
  ·exact OS.out.f.lt x h
  ·exact OS.out.t.lt x h)
 have KF : Hid ((((((((((((((W4.setCell ⟨w.heap.size + 1, 0, none⟩ (.slice a0x r.fields.length c0x)).setCell ⟨w.heap.size + 1, 1, none⟩ (.int .i64 r.epoch)).setCell ⟨w.heap.size + 1, 2, none⟩ (.int .i64 r.base)).setCell ⟨w.heap.size + 1, 3, none⟩ (.slice a3x r.tables.length c3x)).setCell ⟨w.heap.size + 1, 4, none⟩ (.int .i64 r.pushed)).setCell ⟨w.heap.size + 1, 5, none⟩ (.int .i64 r.out.epoch)).setCell ⟨w.heap.size + 1, 6, none⟩ (.int .i64 r.out.next)).setCell ⟨w.heap.size + 1, 7, none⟩ (.int .i64 r.out.now)).setCell ⟨w.heap.size + 1, 8, none⟩ (.slice a1x r.out.wait.length c1x)).setCell ⟨w.heap.size + 1, 9, none⟩ (.bool r.str.opened)).setCell ⟨w.heap.size + 1, 10, none⟩ (.slice a2x r.str.fields.length c2x)).setCell ⟨w.heap.size + 1, 11, none⟩ (.int .i64 r.str.next)).setCell ⟨w.heap.size + 1, 12, none⟩ (.slice b2x r.str.dicts.length d2x)).heap[w.heap.size + 1]? = some (.cells #[.slice a0x r.fields.length c0x, .int .i64 r.epoch, .int .i64 r.base, .slice a3x r.tables.length c3x, .int .i64 r.pushed, .int .i64 r.out.epoch, .int .i64 r.out.next, .int .i64 r.out.now, .slice a1x r.out.wait.length c1x, .bool r.str.opened, .slice a2x r.str.fields.length c2x, .int .i64 r.str.next, .slice b2x r.str.dicts.length d2x] 45 (0, 0))) := hid (set13 HL4.out)
 have HOF : Hid (∀ j, j ≠ w.heap.size + 1 → (((((((((((((W4.setCell ⟨w.heap.size + 1, 0, none⟩ (.slice a0x r.fields.length c0x)).setCell ⟨w.heap.size + 1, 1, none⟩ (.int .i64 r.epoch)).setCell ⟨w.heap.size + 1, 2, none⟩ (.int .i64 r.base)).setCell ⟨w.heap.size + 1, 3, none⟩ (.slice a3x r.tables.length c3x)).setCell ⟨w.heap.size + 1, 4, none⟩ (.int .i64 r.pushed)).setCell ⟨w.heap.size + 1, 5, none⟩ (.int .i64 r.out.epoch)).setCell ⟨w.heap.size + 1, 6, none⟩ (.int .i64 r.out.next)).setCell ⟨w.heap.size + 1, 7, none⟩ (.int .i64 r.out.now)).setCell ⟨w.heap.size + 1, 8, none⟩ (.slice a1x r.out.wait.length c1x)).setCell ⟨w.heap.size + 1, 9, none⟩ (.bool r.str.opened)).setCell ⟨w.heap.size + 1, 10, none⟩ (.slice a2x r.str.fields.length c2x)).setCell ⟨w.heap.size + 1, 11, none⟩ (.int .i64 r.str.next)).setCell ⟨w.heap.size + 1, 12, none⟩ (.slice b2x r.str.dicts.length d2x)).heap[j]? = W4.heap[j]?) := hid (fun j hj => set13o hj)
 have HBF : Hid (Below w.heap.size w (((((((((((((W4.setCell ⟨w.heap.size + 1, 0, none⟩ (.slice a0x r.fields.length c0x)).setCell ⟨w.heap.size + 1, 1, none⟩ (.int .i64 r.epoch)).setCell ⟨w.heap.size + 1, 2, none⟩ (.int .i64 r.base)).setCell ⟨w.heap.size + 1, 3, none⟩ (.slice a3x r.tables.length c3x)).setCell ⟨w.heap.size + 1, 4, none⟩ (.int .i64 r.pushed)).setCell ⟨w.heap.size + 1, 5, none⟩ (.int .i64 r.out.epoch)).setCell ⟨w.heap.size + 1, 6, none⟩ (.int .i64 r.out.next)).setCell ⟨w.heap.size + 1, 7, none⟩ (.int .i64 r.out.now)).setCell ⟨w.heap.size + 1, 8, none⟩ (.slice a1x r.out.wait.length c1x)).setCell ⟨w.heap.size + 1, 9, none⟩ (.bool r.str.opened)).setCell ⟨w.heap.size + 1, 10, none⟩ (.slice a2x r.str.fields.length c2x)).setCell ⟨w.heap.size + 1, 11, none⟩ (.int .i64 r.str.next)).setCell ⟨w.heap.size + 1, 12, none⟩ (.slice b2x r.str.dicts.length d2x))) := hid (set13b HB4.out (by omega))
 have y0 := cR _ _ 0 _ _ _ HM4.out
 have y1 := cR _ _ 1 _ _ _ HM4.out
 have y2 := cR _ _ 2 _ _ _ HM4.out
 have y3 := cR _ _ 3 _ _ _ HM4.out
 have y4 := cR _ _ 4 _ _ _ HM4.out
 have y5 := cR _ _ 5 _ _ _ HM4.out
 have y6 := cR _ _ 6 _ _ _ HM4.out
 have y7 := cR _ _ 7 _ _ _ HM4.out
 have y8 := cR _ _ 8 _ _ _ HM4.out
 have y9 := cR _ _ 9 _ _ _ HM4.out
 have y10 := cR _ _ 10 _ _ _ HM4.out
 have y11 := cR _ _ 11 _ _ _ HM4.out
 have y12 := cR _ _ 12 _ _ _ HM4.out
 simp only [gA, gZ, gU] at y0 y1 y2 y3 y4 y5 y6 y7 y8 y9 y10 y11 y12
 have q0 := cR _ _ 0 _ _ _ HL4.out
 have zq0 := fR _ _ 0 _ _ HL4.out
 have q1 := cR _ _ 1 _ _ _ HL4.out
 have zq1 := fR _ _ 1 _ _ HL4.out
 have q2 := cR _ _ 2 _ _ _ HL4.out
 have zq2 := fR _ _ 2 _ _ HL4.out
 have q3 := cR _ _ 3 _ _ _ HL4.out
 have zq3 := fR _ _ 3 _ _ HL4.out
 have q4 := cR _ _ 4 _ _ _ HL4.out
 have zq4 := fR _ _ 4 _ _ HL4.out
 have q5 := cR _ _ 5 _ _ _ HL4.out
 have zq5 := fR _ _ 5 _ _ HL4.out
 have q6 := cR _ _ 6 _ _ _ HL4.out
 have zq6 := fR _ _ 6 _ _ HL4.out
 have q7 := cR _ _ 7 _ _ _ HL4.out
 have zq7 := fR _ _ 7 _ _ HL4.out
 have q8 := cR _ _ 8 _ _ _ HL4.out
 have zq8 := fR _ _ 8 _ _ HL4.out
 have q9 := cR _ _ 9 _ _ _ HL4.out
 have zq9 := fR _ _ 9 _ _ HL4.out
 have q10 := cR _ _ 10 _ _ _ HL4.out
 have zq10 := fR _ _ 10 _ _ HL4.out
 have q11 := cR _ _ 11 _ _ _ HL4.out
 have zq11 := fR _ _ 11 _ _ HL4.out
 have q12 := cR _ _ 12 _ _ _ HL4.out
 have zq12 := fR _ _ 12 _ _ HL4.out
 simp only [gA, gZ, gU] at q0 q1 q2 q3 q4 q5 q6 q7 q8 q9 q10 q11 q12
 repeat go_step
 refine bodyPost_ret (results_cell_row rfl _ _ (w.heap.size + 1) 45 #[.slice a0x r.fields.length c0x, .int .i64 r.epoch, .int .i64 r.base, .slice a3x r.tables.length c3x, .int .i64 r.pushed, .int .i64 r.out.epoch, .int .i64 r.out.next, .int .i64 r.out.now, .slice a1x r.out.wait.length c1x, .bool r.str.opened, .slice a2x r.str.fields.length c2x, .int .i64 r.str.next, .slice b2x r.str.dicts.length d2x] (0, 0) _ rfl KF.out Tryz.underlying45 rfl (by kernel_rfl)) rfl ?_
 refine ⟨a0x, c0x, a3x, c3x, a1x, c1x, a2x, c2x, b2x, d2x, fs, ts, os, bs, ds, rfl, ⟨OF.out.kept (fun x hx => HOF.out x (by have := LF.out x hx; omega)), OT.out.kept (fun x hx => HOF.out x (by have := LT.out x hx; omega)), OO.out.kept (fun x hx => HOF.out x (by have := LO.out x hx; omega)), keptSt OS.out (fun x hx => HOF.out x (by have := LS.out x hx; omega))⟩, ?_, ?_, HBF.out⟩
 ·intro x hx
  rcases List.mem_append.1 hx with h | h
  ·have := LF.out x h; omega
  rcases List.mem_append.1 h with h | h
  ·have := LT.out x h; omega
  rcases List.mem_append.1 h with h | h
  ·have := LO.out x h; omega
  ·have := LS.out x h; omega
 ·refine List.nodup_append.2 ⟨NF.out, List.nodup_append.2 ⟨NT.out, List.nodup_append.2 ⟨NO.out, NS.out, fun x hx y hy e => ?_⟩, fun x hx y hy e => ?_⟩, fun x hx y hy e => ?_⟩
  ·have := TO.out x hx; have := LS.out y hy; omega
  ·have := TT.out x hx
   rcases List.mem_append.1 hy with h | h
   ·have := LO.out y h; omega
   ·have := LS.out y h; omega
  ·have := TF.out x hx
   rcases List.mem_append.1 hy with h | h
   ·have := LT.out y h; omega
   rcases List.mem_append.1 h with h | h
   ·have := LO.out y h; omega
   ·have := LS.out y h; omega
end Go.Proofs.YtfaehioeepolhabGreat
