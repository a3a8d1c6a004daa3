import Derived.Test.YtfaehioeepolhaaGreatJOpenSender13
import Derived.Test.YtfaehioeepolhaaGreatJOpenSender11
import Derived.Test.YtfaehioeepolhaaGreatJOpenSender17
import Derived.Test.YtfaehioeepolhaaGreatJOpenSender29
import Derived.Deep.DeepCutAuto
namespace Go.Proofs.YtfaehioeepolhaaGreat
open Go.RowKit
structure PSnd where
  fields : List PF
  epoch : Int
  base : Int
  tables : List PT
  pushed : Int
  out : PO
  str : PStr
def tSnd (r : PSnd) : Nat := totL fN r.fields + totL totT r.tables + totL wN r.out.wait + tStr r.str
structure RdSnd (w : World) (r : PSnd) (a0 : Option Addr) (c0 : Nat) (a3 : Option Addr) (c3 : Nat) (a1 : Option Addr) (c1 : Nat) (a2 : Option Addr) (c2 : Nat) (b2 : Option Addr) (d2 : Nat) : Prop where
  f : RdSl cField w r.fields (.slice a0 r.fields.length c0)
  t : RdSl cTable w r.tables (.slice a3 r.tables.length c3)
  o : RdSl cSnt w r.out.wait (.slice a1 r.out.wait.length c1)
  s : RdStr w r.str a2 c2 b2 d2
theorem RdSnd.later {w w' : World} {r : PSnd} {a0 a3 a1 a2 b2 : Option Addr} {c0 c3 c1 c2 d2 : Nat} (h : RdSnd w r a0 c0 a3 c3 a1 c1 a2 c2 b2 d2) (hb : Below w.heap.size w w') : RdSnd w' r a0 c0 a3 c3 a1 c1 a2 c2 b2 d2 := ⟨h.f.later hb, h.t.later hb, h.o.later hb, h.s.later hb⟩
structure OwnSnd (w : World) (r : PSnd) (a0 : Option Addr) (c0 : Nat) (a3 : Option Addr) (c3 : Nat) (a1 : Option Addr) (c1 : Nat) (a2 : Option Addr) (c2 : Nat) (b2 : Option Addr) (d2 : Nat) (fs ts os bs ds : List Nat) : Prop where
  f : OwnSl cField 98 w r.fields (.slice a0 r.fields.length c0) fs
  t : OwnSl cTable 111 w r.tables (.slice a3 r.tables.length c3) ts
  o : OwnSl cSnt 137 w r.out.wait (.slice a1 r.out.wait.length c1) os
  s : OwnStr w r.str a2 c2 b2 d2 bs ds
theorem OwnSnd.rd {w : World} {r : PSnd} {a0 a3 a1 a2 b2 : Option Addr} {c0 c3 c1 c2 d2 : Nat} {fs ts os bs ds : List Nat} (h : OwnSnd w r a0 c0 a3 c3 a1 c1 a2 c2 b2 d2 fs ts os bs ds) : RdSnd w r a0 c0 a3 c3 a1 c1 a2 c2 b2 d2 := ⟨h.f.rd, h.t.rd, h.o.rd, h.s.rd⟩
theorem keptSt {w w' : World} {s : PStr} {a b : Option Addr} {c d : Nat} {bs ds : List Nat} (h : OwnStr w s a c b d bs ds) (hk : ∀ x ∈ bs ++ ds, w'.heap[x]? = w.heap[x]?) : OwnStr w' s a c b d bs ds := ⟨h.f.kept (fun x hx => hk x (List.mem_append_left _ hx)), h.t.kept (fun x hx => hk x (List.mem_append_right _ hx))⟩
theorem boxSd {w w' : World} {g : Nat} {o : Obj} (h : w.heap[g]? = some o) (hb : Below w.heap.size w w') : w'.heap[g]? = some o := (hb.block g (Array.getElem?_eq_some_iff.1 h).1).trans h
set_option maxRecDepth 100000 in
set_option maxHeartbeats 4000000 in
theorem eqSender_any (r : PSnd) (a0 a3 a1 a2 b2 : Option Addr) (c0 c3 c1 c2 d2 : Nat) (a0x a3x a1x a2x b2x : Option Addr) (c0x c3x c1x c2x d2x : Nat) (w : World) (h1 : RdSnd w r a0 c0 a3 c3 a1 c1 a2 c2 b2 d2) (h2 : RdSnd w r a0x c0x a3x c3x a1x c1x a2x c2x b2x d2x) (ht : tSnd r ≤ 1048576) :
    Calls Tryz.prog 17 #[.agg #[.slice a0 r.fields.length c0, .int .i64 r.epoch, .int .i64 r.base, .slice a3 r.tables.length c3, .int .i64 r.pushed, .int .i64 r.out.epoch, .int .i64 r.out.next, .int .i64 r.out.now, .slice a1 r.out.wait.length c1, .bool r.str.opened, .slice a2 r.str.fields.length c2, .int .i64 r.str.next, .slice b2 r.str.dicts.length d2], .agg #[.slice a0x r.fields.length c0x, .int .i64 r.epoch, .int .i64 r.base, .slice a3x r.tables.length c3x, .int .i64 r.pushed, .int .i64 r.out.epoch, .int .i64 r.out.next, .int .i64 r.out.now, .slice a1x r.out.wait.length c1x, .bool r.str.opened, .slice a2x r.str.fields.length c2x, .int .i64 r.str.next, .slice b2x r.str.dicts.length d2x]] w fun e w' => e = .returned (.bool true) ∧ Below w.heap.size w w' := by
  have H1 := hid h1
  have H2 := hid h2
  clear h1 h2
  have HT : Hid (totL fN r.fields ≤ 1048576 ∧ totL totT r.tables ≤ 1048576 ∧ totL wN r.out.wait ≤ 1048576 ∧ tStr r.str ≤ 1048576) := hid (by unfold tSnd at ht; omega)
  have n0 : (r.epoch != r.epoch) = false := by simp
  have n1 : (r.base != r.base) = false := by simp
  have n2 : (r.pushed != r.pushed) = false := by simp
  have HK0 : Hid (((w.alloc (.cells #[.slice a0 r.fields.length c0, .int .i64 r.epoch, .int .i64 r.base, .slice a3 r.tables.length c3, .int .i64 r.pushed, .int .i64 r.out.epoch, .int .i64 r.out.next, .int .i64 r.out.now, .slice a1 r.out.wait.length c1, .bool r.str.opened, .slice a2 r.str.fields.length c2, .int .i64 r.str.next, .slice b2 r.str.dicts.length d2] 58)).alloc (.cells #[.slice a0x r.fields.length c0x, .int .i64 r.epoch, .int .i64 r.base, .slice a3x r.tables.length c3x, .int .i64 r.pushed, .int .i64 r.out.epoch, .int .i64 r.out.next, .int .i64 r.out.now, .slice a1x r.out.wait.length c1x, .bool r.str.opened, .slice a2x r.str.fields.length c2x, .int .i64 r.str.next, .slice b2x r.str.dicts.length d2x] 58)).heap[w.heap.size]? = some (.cells #[.slice a0 r.fields.length c0, .int .i64 r.epoch, .int .i64 r.base, .slice a3 r.tables.length c3, .int .i64 r.pushed, .int .i64 r.out.epoch, .int .i64 r.out.next, .int .i64 r.out.now, .slice a1 r.out.wait.length c1, .bool r.str.opened, .slice a2 r.str.fields.length c2, .int .i64 r.str.next, .slice b2 r.str.dicts.length d2] 58 (0, 0))) := hid (heap2 _ _ (Below.refl _ _)).1
  have HL0 : Hid (((w.alloc (.cells #[.slice a0 r.fields.length c0, .int .i64 r.epoch, .int .i64 r.base, .slice a3 r.tables.length c3, .int .i64 r.pushed, .int .i64 r.out.epoch, .int .i64 r.out.next, .int .i64 r.out.now, .slice a1 r.out.wait.length c1, .bool r.str.opened, .slice a2 r.str.fields.length c2, .int .i64 r.str.next, .slice b2 r.str.dicts.length d2] 58)).alloc (.cells #[.slice a0x r.fields.length c0x, .int .i64 r.epoch, .int .i64 r.base, .slice a3x r.tables.length c3x, .int .i64 r.pushed, .int .i64 r.out.epoch, .int .i64 r.out.next, .int .i64 r.out.now, .slice a1x r.out.wait.length c1x, .bool r.str.opened, .slice a2x r.str.fields.length c2x, .int .i64 r.str.next, .slice b2x r.str.dicts.length d2x] 58)).heap[w.heap.size + 1]? = some (.cells #[.slice a0x r.fields.length c0x, .int .i64 r.epoch, .int .i64 r.base, .slice a3x r.tables.length c3x, .int .i64 r.pushed, .int .i64 r.out.epoch, .int .i64 r.out.next, .int .i64 r.out.now, .slice a1x r.out.wait.length c1x, .bool r.str.opened, .slice a2x r.str.fields.length c2x, .int .i64 r.str.next, .slice b2x r.str.dicts.length d2x] 58 (0, 0))) := hid (heap2 _ _ (Below.refl _ _)).2
  have HB0 := hid (below_new2 w (.cells #[.slice a0 r.fields.length c0, .int .i64 r.epoch, .int .i64 r.base, .slice a3 r.tables.length c3, .int .i64 r.pushed, .int .i64 r.out.epoch, .int .i64 r.out.next, .int .i64 r.out.now, .slice a1 r.out.wait.length c1, .bool r.str.opened, .slice a2 r.str.fields.length c2, .int .i64 r.str.next, .slice b2 r.str.dicts.length d2] 58) (.cells #[.slice a0x r.fields.length c0x, .int .i64 r.epoch, .int .i64 r.base, .slice a3x r.tables.length c3x, .int .i64 r.pushed, .int .i64 r.out.epoch, .int .i64 r.out.next, .int .i64 r.out.now, .slice a1x r.out.wait.length c1x, .bool r.str.opened, .slice a2x r.str.fields.length c2x, .int .i64 r.str.next, .slice b2x r.str.dicts.length d2x] 58))
  go_enter Tryz.func17, Tryz.ntmps17
  go_upto_region 1 with fail
  generalize ((w.alloc (.cells #[.slice a0 r.fields.length c0, .int .i64 r.epoch, .int .i64 r.base, .slice a3 r.tables.length c3, .int .i64 r.pushed, .int .i64 r.out.epoch, .int .i64 r.out.next, .int .i64 r.out.now, .slice a1 r.out.wait.length c1, .bool r.str.opened, .slice a2 r.str.fields.length c2, .int .i64 r.str.next, .slice b2 r.str.dicts.length d2] 58)).alloc (.cells #[.slice a0x r.fields.length c0x, .int .i64 r.epoch, .int .i64 r.base, .slice a3x r.tables.length c3x, .int .i64 r.pushed, .int .i64 r.out.epoch, .int .i64 r.out.next, .int .i64 r.out.now, .slice a1x r.out.wait.length c1x, .bool r.str.opened, .slice a2x r.str.fields.length c2x, .int .i64 r.str.next, .slice b2x r.str.dicts.length d2x] 58)) = w0 at *
  have p0 := cell_of_row _ _ 0 _ _ _ HK0.out
  simp only [List.getElem?_toArray, List.getElem?_cons_zero] at p0
  have q0 := cell_of_row _ _ 0 _ _ _ HL0.out
  simp only [List.getElem?_toArray, List.getElem?_cons_zero] at q0
  go_wp2_with fail
  refine (eqFieldS_any a0 a0x c0 c0x r.fields w0 (H1.out.f.later HB0.out) (H2.out.f.later HB0.out) HT.out.1).mono ?_
  rintro e w1 ⟨rfl, b1⟩
  have HK1 := hid (boxSd HK0.out b1)
  have HL1 := hid (boxSd HL0.out b1)
  have HB1 := hid (below_chain HB0.out b1)
  clear b1 p0 q0
  have p1 := cell_of_row _ _ 1 _ _ _ HK1.out
  have p2 := cell_of_row _ _ 2 _ _ _ HK1.out
  have p3 := cell_of_row _ _ 3 _ _ _ HK1.out
  simp only [List.getElem?_toArray, List.getElem?_cons_zero, List.getElem?_cons_succ] at p1 p2 p3
  have q1 := cell_of_row _ _ 1 _ _ _ HL1.out
  have q2 := cell_of_row _ _ 2 _ _ _ HL1.out
  have q3 := cell_of_row _ _ 3 _ _ _ HL1.out
  simp only [List.getElem?_toArray, List.getElem?_cons_zero, List.getElem?_cons_succ] at q1 q2 q3
  go_wp2_with fail
  refine (eqTableS_any a3 a3x c3 c3x r.tables w1 (H1.out.t.later HB1.out) (H2.out.t.later HB1.out) HT.out.2.1).mono ?_
  rintro e w2 ⟨rfl, b2⟩
  have HK2 := hid (boxSd HK1.out b2)
  have HL2 := hid (boxSd HL1.out b2)
  have HB2 := hid (below_chain HB1.out b2)
  clear b2 p1 p2 p3 q1 q2 q3
  have p4 := cell_of_row _ _ 4 _ _ _ HK2.out
  have p5 := cell_of_row _ _ 5 _ _ _ HK2.out
  have p6 := cell_of_row _ _ 6 _ _ _ HK2.out
  have p7 := cell_of_row _ _ 7 _ _ _ HK2.out
  have p8 := cell_of_row _ _ 8 _ _ _ HK2.out
  simp only [List.getElem?_toArray, List.getElem?_cons_zero, List.getElem?_cons_succ] at p4 p5 p6 p7 p8
  have q4 := cell_of_row _ _ 4 _ _ _ HL2.out
  have q5 := cell_of_row _ _ 5 _ _ _ HL2.out
  have q6 := cell_of_row _ _ 6 _ _ _ HL2.out
  have q7 := cell_of_row _ _ 7 _ _ _ HL2.out
  have q8 := cell_of_row _ _ 8 _ _ _ HL2.out
  simp only [List.getElem?_toArray, List.getElem?_cons_zero, List.getElem?_cons_succ] at q4 q5 q6 q7 q8
  go_wp2_with fail
  refine (eqLinkOut_any r.out a1 a1x c1 c1x w2 (H1.out.o.later HB2.out) (H2.out.o.later HB2.out) HT.out.2.2.1).mono ?_
  rintro e w3 ⟨rfl, b3⟩
  have HK3 := hid (boxSd HK2.out b3)
  have HL3 := hid (boxSd HL2.out b3)
  have HB3 := hid (below_chain HB2.out b3)
  clear b3 p4 p5 p6 p7 p8 q4 q5 q6 q7 q8
  have p9 := cell_of_row _ _ 9 _ _ _ HK3.out
  have p10 := cell_of_row _ _ 10 _ _ _ HK3.out
  have p11 := cell_of_row _ _ 11 _ _ _ HK3.out
  have p12 := cell_of_row _ _ 12 _ _ _ HK3.out
  simp only [List.getElem?_toArray, List.getElem?_cons_zero, List.getElem?_cons_succ] at p9 p10 p11 p12
  have q9 := cell_of_row _ _ 9 _ _ _ HL3.out
  have q10 := cell_of_row _ _ 10 _ _ _ HL3.out
  have q11 := cell_of_row _ _ 11 _ _ _ HL3.out
  have q12 := cell_of_row _ _ 12 _ _ _ HL3.out
  simp only [List.getElem?_toArray, List.getElem?_cons_zero, List.getElem?_cons_succ] at q9 q10 q11 q12
  go_wp2_with fail
  refine (eqStream_any r.str a2 b2 a2x b2x c2 d2 c2x d2x w3 (H1.out.s.later HB3.out) (H2.out.s.later HB3.out) HT.out.2.2.2).mono ?_
  rintro e w4 ⟨rfl, b4⟩
  have HK4 := hid (boxSd HK3.out b4)
  have HL4 := hid (boxSd HL3.out b4)
  have HB4 := hid (below_chain HB3.out b4)
  clear b4 p9 p10 p11 p12 q9 q10 q11 q12
  go_wp2
  go_ret
  exact ⟨rfl, HB4.out⟩
end Go.Proofs.YtfaehioeepolhaaGreat
