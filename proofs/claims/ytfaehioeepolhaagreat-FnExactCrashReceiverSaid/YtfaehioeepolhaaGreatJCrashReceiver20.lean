import Derived.Test.YtfaehioeepolhaaGreatJCrashReceiver18
import Derived.Test.YtfaehioeepolhaaGreatJCrashReceiver13
import Derived.Test.YtfaehioeepolhaaGreatJCrashReceiver17
import Derived.Test.YtfaehioeepolhaaGreatJCrashReceiver19
import Derived.Deep.DeepCutAuto
namespace Go.Proofs.YtfaehioeepolhaaGreat
open Go.RowKit
structure PRcv where
  epoch : Int
  count : Int
  live : Bool
  inn : PI
  str : PStr
  ready : List PT
  errors : Int
def tRcv (r : PRcv) : Nat := tIn r.inn + tStr r.str + totL totT r.ready
structure RdRcv (w : World) (r : PRcv) (a1 : Option Addr) (c1 : Nat) (b1 : Option Addr) (d1 : Nat) (a2 : Option Addr) (c2 : Nat) (b2 : Option Addr) (d2 : Nat) (a3 : Option Addr) (c3 : Nat) : Prop where
  i : RdIn w r.inn a1 c1 b1 d1
  s : RdStr w r.str a2 c2 b2 d2
  t : RdSl cTable w r.ready (.slice a3 r.ready.length c3)
theorem RdRcv.later {w w' : World} {r : PRcv} {a1 b1 a2 b2 a3 : Option Addr} {c1 d1 c2 d2 c3 : Nat} (h : RdRcv w r a1 c1 b1 d1 a2 c2 b2 d2 a3 c3) (hb : Below w.heap.size w w') : RdRcv w' r a1 c1 b1 d1 a2 c2 b2 d2 a3 c3 := ⟨h.i.later hb, h.s.later hb, h.t.later hb⟩
structure OwnRcv (w : World) (r : PRcv) (a1 : Option Addr) (c1 : Nat) (b1 : Option Addr) (d1 : Nat) (a2 : Option Addr) (c2 : Nat) (b2 : Option Addr) (d2 : Nat) (a3 : Option Addr) (c3 : Nat) (bi di bs ds ts : List Nat) : Prop where
  i : OwnIn w r.inn a1 c1 b1 d1 bi di
  s : OwnStr w r.str a2 c2 b2 d2 bs ds
  t : OwnSl cTable 111 w r.ready (.slice a3 r.ready.length c3) ts
theorem OwnRcv.rd {w : World} {r : PRcv} {a1 b1 a2 b2 a3 : Option Addr} {c1 d1 c2 d2 c3 : Nat} {bi di bs ds ts : List Nat} (h : OwnRcv w r a1 c1 b1 d1 a2 c2 b2 d2 a3 c3 bi di bs ds ts) : RdRcv w r a1 c1 b1 d1 a2 c2 b2 d2 a3 c3 := ⟨h.i.rd, h.s.rd, h.t.rd⟩
theorem keptI {w w' : World} {s : PI} {a b : Option Addr} {c d : Nat} {bs ds : List Nat} (h : OwnIn w s a c b d bs ds) (hk : ∀ x ∈ bs ++ ds, w'.heap[x]? = w.heap[x]?) : OwnIn w' s a c b d bs ds := ⟨h.f.kept (fun x hx => hk x (List.mem_append_left _ hx)), h.t.kept (fun x hx => hk x (List.mem_append_right _ hx))⟩
theorem keptS {w w' : World} {s : PStr} {a b : Option Addr} {c d : Nat} {bs ds : List Nat} (h : OwnStr w s a c b d bs ds) (hk : ∀ x ∈ bs ++ ds, w'.heap[x]? = w.heap[x]?) : OwnStr w' s a c b d bs ds := ⟨h.f.kept (fun x hx => hk x (List.mem_append_left _ hx)), h.t.kept (fun x hx => hk x (List.mem_append_right _ hx))⟩
theorem ltI {w : World} {s : PI} {a b : Option Addr} {c d : Nat} {bs ds : List Nat} (h : OwnIn w s a c b d bs ds) : ∀ x ∈ bs ++ ds, x < w.heap.size := fun x hx => by
  rcases List.mem_append.1 hx with h1 | h1
  · exact h.f.lt x h1
  · exact h.t.lt x h1
theorem ltS {w : World} {s : PStr} {a b : Option Addr} {c d : Nat} {bs ds : List Nat} (h : OwnStr w s a c b d bs ds) : ∀ x ∈ bs ++ ds, x < w.heap.size := fun x hx => by
  rcases List.mem_append.1 hx with h1 | h1
  · exact h.f.lt x h1
  · exact h.t.lt x h1
theorem boxR {w w' : World} {g : Nat} {o : Obj} (h : w.heap[g]? = some o) (hb : Below w.heap.size w w') : w'.heap[g]? = some o := (hb.block g (Array.getElem?_eq_some_iff.1 h).1).trans h
set_option maxRecDepth 100000 in
set_option maxHeartbeats 4000000 in
theorem szReceiver_any (r : PRcv) (a1 b1 a2 b2 a3 : Option Addr) (c1 d1 c2 d2 c3 : Nat) (l : Int) (w : World) (hr : RdRcv w r a1 c1 b1 d1 a2 c2 b2 d2 a3 c3) (h0 : 0 ≤ l) (h1 : l ≤ 1048576) :
    Calls Tryz.prog 8 #[.agg #[.int .i64 r.epoch, .int .i64 r.count, .bool r.live, .int .i64 r.inn.epoch, .int .i64 r.inn.expect, .slice a1 r.inn.held.length c1, .slice b1 r.inn.part.length d1, .bool r.str.opened, .slice a2 r.str.fields.length c2, .int .i64 r.str.next, .slice b2 r.str.dicts.length d2, .slice a3 r.ready.length c3, .int .i64 r.errors], .int .i64 l] w fun e w' => e = .returned (.int .i64 (rest l (tRcv r))) ∧ Below w.heap.size w w' := by
  have HR := hid hr
  clear hr
  have HK0 : Hid ((w.alloc (.cells #[.int .i64 r.epoch, .int .i64 r.count, .bool r.live, .int .i64 r.inn.epoch, .int .i64 r.inn.expect, .slice a1 r.inn.held.length c1, .slice b1 r.inn.part.length d1, .bool r.str.opened, .slice a2 r.str.fields.length c2, .int .i64 r.str.next, .slice b2 r.str.dicts.length d2, .slice a3 r.ready.length c3, .int .i64 r.errors] 32)).heap[w.heap.size]? = some (.cells #[.int .i64 r.epoch, .int .i64 r.count, .bool r.live, .int .i64 r.inn.epoch, .int .i64 r.inn.expect, .slice a1 r.inn.held.length c1, .slice b1 r.inn.part.length d1, .bool r.str.opened, .slice a2 r.str.fields.length c2, .int .i64 r.str.next, .slice b2 r.str.dicts.length d2, .slice a3 r.ready.length c3, .int .i64 r.errors] 32 (0, 0))) := hid (heap_alloc_new w _)
  have HB0 := hid (below_new1 w (.cells #[.int .i64 r.epoch, .int .i64 r.count, .bool r.live, .int .i64 r.inn.epoch, .int .i64 r.inn.expect, .slice a1 r.inn.held.length c1, .slice b1 r.inn.part.length d1, .bool r.str.opened, .slice a2 r.str.fields.length c2, .int .i64 r.str.next, .slice b2 r.str.dicts.length d2, .slice a3 r.ready.length c3, .int .i64 r.errors] 32))
  have HT : Hid (tRcv r = tIn r.inn + tStr r.str + totL totT r.ready) := hid rfl
  go_enter Tryz.func8, Tryz.ntmps8
  go_wp2_with fail
  generalize (w.alloc (.cells #[.int .i64 r.epoch, .int .i64 r.count, .bool r.live, .int .i64 r.inn.epoch, .int .i64 r.inn.expect, .slice a1 r.inn.held.length c1, .slice b1 r.inn.part.length d1, .bool r.str.opened, .slice a2 r.str.fields.length c2, .int .i64 r.str.next, .slice b2 r.str.dicts.length d2, .slice a3 r.ready.length c3, .int .i64 r.errors] 32)) = W0 at *
  refine (szLinkIn_any r.inn a1 b1 c1 d1 l W0 (HR.out.i.later HB0.out) h0 h1).mono ?_
  rintro e w2 ⟨rfl, b2⟩
  have HK2 := hid (boxR HK0.out b2)
  have HB2 := hid (below_chain HB0.out b2)
  clear b2
  have hup := rest_le (n := tIn r.inn) h1
  by_cases hn1 : rest l (tIn r.inn) < 0
  · have HM : Hid (rest l (tRcv r) = -1) := hid (by rw [HT.out, Nat.add_assoc]; exact rest_neg hn1)
    generalize rest l (tIn r.inn) = q at *
    go_wp2
    go_ret
    exact ⟨by rw [HM.out]; rfl, HB2.out⟩
  have HE1 : Hid (rest (rest l (tIn r.inn)) (tStr r.str) = rest l (tIn r.inn + tStr r.str)) := hid (rest_two (by omega))
  generalize hq : rest l (tIn r.inn) = q at *
  have HQ := hid hq
  clear hq
  have hq0 : decide (q < 0) = false := decide_eq_false hn1
  have p7 := cell_of_row _ _ 7 _ _ _ HK2.out
  have p8 := cell_of_row _ _ 8 _ _ _ HK2.out
  have p9 := cell_of_row _ _ 9 _ _ _ HK2.out
  have p10 := cell_of_row _ _ 10 _ _ _ HK2.out
  simp only [List.getElem?_toArray, List.getElem?_cons_zero, List.getElem?_cons_succ] at p7 p8 p9 p10
  go_wp2_with fail
  refine (szStream_any r.str a2 b2 c2 d2 q w2 (HR.out.s.later HB2.out) (by omega) hup).mono ?_
  rintro e w3 ⟨rfl, b3⟩
  have HK3 := hid (boxR HK2.out b3)
  have HB3 := hid (below_chain HB2.out b3)
  clear b3 p7 p8 p9 p10 hq0
  rw [HE1.out]
  have hup2 := rest_le (n := tIn r.inn + tStr r.str) h1
  by_cases hn2 : rest l (tIn r.inn + tStr r.str) < 0
  · have HM : Hid (rest l (tRcv r) = -1) := hid (by rw [HT.out]; exact rest_neg hn2)
    generalize rest l (tIn r.inn + tStr r.str) = q2 at *
    go_wp2
    go_ret
    exact ⟨by rw [HM.out]; rfl, HB3.out⟩
  have HE2 : Hid (rest (rest l (tIn r.inn + tStr r.str)) (totL totT r.ready) = rest l (tRcv r)) := hid (by rw [HT.out]; exact rest_two (by omega))
  generalize rest l (tIn r.inn + tStr r.str) = q2 at *
  have hq2 : decide (q2 < 0) = false := decide_eq_false hn2
  have p11 := cell_of_row _ _ 11 _ _ _ HK3.out
  simp only [List.getElem?_toArray, List.getElem?_cons_zero, List.getElem?_cons_succ] at p11
  go_wp2_with fail
  refine (szTableS_any a3 c3 r.ready q2 w3 (HR.out.t.later HB3.out) (by omega) hup2).mono ?_
  rintro e w4 ⟨rfl, b4⟩
  have HB4 := hid (below_chain HB3.out b4)
  clear b4 p11 hq2
  rw [HE2.out]
  have HN : Hid (rest l (tRcv r) < 0 → rest l (tRcv r) = -1) := hid rest_neg1
  generalize hq3e : rest l (tRcv r) = q3 at *
  have HQ3 := hid hq3e
  clear hq3e
  by_cases hn3 : q3 < 0
  · have HM := hid (HN.out hn3)
    have hq3 : decide (q3 < 0) = true := decide_eq_true hn3
    go_wp2
    go_ret
    exact ⟨by rw [HQ3.out, HM.out]; rfl, HB4.out⟩
  · have hq3 : decide (q3 < 0) = false := decide_eq_false hn3
    go_wp2
    go_ret
    exact ⟨by rw [HQ3.out]; rfl, HB4.out⟩
set_option maxRecDepth 100000 in
set_option maxHeartbeats 4000000 in
theorem eqReceiver_any (r : PRcv) (a1 b1 a2 b2 a3 : Option Addr) (c1 d1 c2 d2 c3 : Nat) (a1x b1x a2x b2x a3x : Option Addr) (c1x d1x c2x d2x c3x : Nat) (w : World) (h1 : RdRcv w r a1 c1 b1 d1 a2 c2 b2 d2 a3 c3) (h2 : RdRcv w r a1x c1x b1x d1x a2x c2x b2x d2x a3x c3x) (ht : tRcv r ≤ 1048576) :
    Calls Tryz.prog 12 #[.agg #[.int .i64 r.epoch, .int .i64 r.count, .bool r.live, .int .i64 r.inn.epoch, .int .i64 r.inn.expect, .slice a1 r.inn.held.length c1, .slice b1 r.inn.part.length d1, .bool r.str.opened, .slice a2 r.str.fields.length c2, .int .i64 r.str.next, .slice b2 r.str.dicts.length d2, .slice a3 r.ready.length c3, .int .i64 r.errors], .agg #[.int .i64 r.epoch, .int .i64 r.count, .bool r.live, .int .i64 r.inn.epoch, .int .i64 r.inn.expect, .slice a1x r.inn.held.length c1x, .slice b1x r.inn.part.length d1x, .bool r.str.opened, .slice a2x r.str.fields.length c2x, .int .i64 r.str.next, .slice b2x r.str.dicts.length d2x, .slice a3x r.ready.length c3x, .int .i64 r.errors]] w fun e w' => e = .returned (.bool true) ∧ Below w.heap.size w w' := by
  have H1 := hid h1
  have H2 := hid h2
  clear h1 h2
  have HT : Hid (tIn r.inn ≤ 1048576 ∧ tStr r.str ≤ 1048576 ∧ totL totT r.ready ≤ 1048576) := hid (by unfold tRcv at ht; omega)
  have n0 : (r.epoch != r.epoch) = false := by simp
  have n1 : (r.count != r.count) = false := by simp
  have n2 : (r.live != r.live) = false := by simp
  have n3 : (r.errors != r.errors) = false := by simp
  have HK0 : Hid (((w.alloc (.cells #[.int .i64 r.epoch, .int .i64 r.count, .bool r.live, .int .i64 r.inn.epoch, .int .i64 r.inn.expect, .slice a1 r.inn.held.length c1, .slice b1 r.inn.part.length d1, .bool r.str.opened, .slice a2 r.str.fields.length c2, .int .i64 r.str.next, .slice b2 r.str.dicts.length d2, .slice a3 r.ready.length c3, .int .i64 r.errors] 43)).alloc (.cells #[.int .i64 r.epoch, .int .i64 r.count, .bool r.live, .int .i64 r.inn.epoch, .int .i64 r.inn.expect, .slice a1x r.inn.held.length c1x, .slice b1x r.inn.part.length d1x, .bool r.str.opened, .slice a2x r.str.fields.length c2x, .int .i64 r.str.next, .slice b2x r.str.dicts.length d2x, .slice a3x r.ready.length c3x, .int .i64 r.errors] 43)).heap[w.heap.size]? = some (.cells #[.int .i64 r.epoch, .int .i64 r.count, .bool r.live, .int .i64 r.inn.epoch, .int .i64 r.inn.expect, .slice a1 r.inn.held.length c1, .slice b1 r.inn.part.length d1, .bool r.str.opened, .slice a2 r.str.fields.length c2, .int .i64 r.str.next, .slice b2 r.str.dicts.length d2, .slice a3 r.ready.length c3, .int .i64 r.errors] 43 (0, 0))) := hid (heap2 _ _ (Below.refl _ _)).1
  have HK1 : Hid (((w.alloc (.cells #[.int .i64 r.epoch, .int .i64 r.count, .bool r.live, .int .i64 r.inn.epoch, .int .i64 r.inn.expect, .slice a1 r.inn.held.length c1, .slice b1 r.inn.part.length d1, .bool r.str.opened, .slice a2 r.str.fields.length c2, .int .i64 r.str.next, .slice b2 r.str.dicts.length d2, .slice a3 r.ready.length c3, .int .i64 r.errors] 43)).alloc (.cells #[.int .i64 r.epoch, .int .i64 r.count, .bool r.live, .int .i64 r.inn.epoch, .int .i64 r.inn.expect, .slice a1x r.inn.held.length c1x, .slice b1x r.inn.part.length d1x, .bool r.str.opened, .slice a2x r.str.fields.length c2x, .int .i64 r.str.next, .slice b2x r.str.dicts.length d2x, .slice a3x r.ready.length c3x, .int .i64 r.errors] 43)).heap[w.heap.size + 1]? = some (.cells #[.int .i64 r.epoch, .int .i64 r.count, .bool r.live, .int .i64 r.inn.epoch, .int .i64 r.inn.expect, .slice a1x r.inn.held.length c1x, .slice b1x r.inn.part.length d1x, .bool r.str.opened, .slice a2x r.str.fields.length c2x, .int .i64 r.str.next, .slice b2x r.str.dicts.length d2x, .slice a3x r.ready.length c3x, .int .i64 r.errors] 43 (0, 0))) := hid (heap2 _ _ (Below.refl _ _)).2
  have HB0 := hid (below_new2 w (.cells #[.int .i64 r.epoch, .int .i64 r.count, .bool r.live, .int .i64 r.inn.epoch, .int .i64 r.inn.expect, .slice a1 r.inn.held.length c1, .slice b1 r.inn.part.length d1, .bool r.str.opened, .slice a2 r.str.fields.length c2, .int .i64 r.str.next, .slice b2 r.str.dicts.length d2, .slice a3 r.ready.length c3, .int .i64 r.errors] 43) (.cells #[.int .i64 r.epoch, .int .i64 r.count, .bool r.live, .int .i64 r.inn.epoch, .int .i64 r.inn.expect, .slice a1x r.inn.held.length c1x, .slice b1x r.inn.part.length d1x, .bool r.str.opened, .slice a2x r.str.fields.length c2x, .int .i64 r.str.next, .slice b2x r.str.dicts.length d2x, .slice a3x r.ready.length c3x, .int .i64 r.errors] 43))
  go_enter Tryz.func12, Tryz.ntmps12
  go_upto_region 1 with fail
  generalize ((w.alloc (.cells #[.int .i64 r.epoch, .int .i64 r.count, .bool r.live, .int .i64 r.inn.epoch, .int .i64 r.inn.expect, .slice a1 r.inn.held.length c1, .slice b1 r.inn.part.length d1, .bool r.str.opened, .slice a2 r.str.fields.length c2, .int .i64 r.str.next, .slice b2 r.str.dicts.length d2, .slice a3 r.ready.length c3, .int .i64 r.errors] 43)).alloc (.cells #[.int .i64 r.epoch, .int .i64 r.count, .bool r.live, .int .i64 r.inn.epoch, .int .i64 r.inn.expect, .slice a1x r.inn.held.length c1x, .slice b1x r.inn.part.length d1x, .bool r.str.opened, .slice a2x r.str.fields.length c2x, .int .i64 r.str.next, .slice b2x r.str.dicts.length d2x, .slice a3x r.ready.length c3x, .int .i64 r.errors] 43)) = W0 at *
  have p0 := cell_of_row _ _ 0 _ _ _ HK0.out
  have p1 := cell_of_row _ _ 1 _ _ _ HK0.out
  have p2 := cell_of_row _ _ 2 _ _ _ HK0.out
  have p3 := cell_of_row _ _ 3 _ _ _ HK0.out
  have p4 := cell_of_row _ _ 4 _ _ _ HK0.out
  have p5 := cell_of_row _ _ 5 _ _ _ HK0.out
  have p6 := cell_of_row _ _ 6 _ _ _ HK0.out
  simp only [List.getElem?_toArray, List.getElem?_cons_zero, List.getElem?_cons_succ] at p0 p1 p2 p3 p4 p5 p6
  have q0 := cell_of_row _ _ 0 _ _ _ HK1.out
  have q1 := cell_of_row _ _ 1 _ _ _ HK1.out
  have q2 := cell_of_row _ _ 2 _ _ _ HK1.out
  have q3 := cell_of_row _ _ 3 _ _ _ HK1.out
  have q4 := cell_of_row _ _ 4 _ _ _ HK1.out
  have q5 := cell_of_row _ _ 5 _ _ _ HK1.out
  have q6 := cell_of_row _ _ 6 _ _ _ HK1.out
  simp only [List.getElem?_toArray, List.getElem?_cons_zero, List.getElem?_cons_succ] at q0 q1 q2 q3 q4 q5 q6
  go_wp2_with fail
  refine (eqLinkIn_any r.inn a1 b1 a1x b1x c1 d1 c1x d1x W0 (H1.out.i.later HB0.out) (H2.out.i.later HB0.out) HT.out.1).mono ?_
  rintro e w2 ⟨rfl, b2⟩
  have HK2 := hid (boxR HK0.out b2)
  have HL2 := hid (boxR HK1.out b2)
  have HB2 := hid (below_chain HB0.out b2)
  clear b2 p0 p1 p2 p3 p4 p5 p6 q0 q1 q2 q3 q4 q5 q6
  have p7 := cell_of_row _ _ 7 _ _ _ HK2.out
  have p8 := cell_of_row _ _ 8 _ _ _ HK2.out
  have p9 := cell_of_row _ _ 9 _ _ _ HK2.out
  have p10 := cell_of_row _ _ 10 _ _ _ HK2.out
  simp only [List.getElem?_toArray, List.getElem?_cons_zero, List.getElem?_cons_succ] at p7 p8 p9 p10
  have q7 := cell_of_row _ _ 7 _ _ _ HL2.out
  have q8 := cell_of_row _ _ 8 _ _ _ HL2.out
  have q9 := cell_of_row _ _ 9 _ _ _ HL2.out
  have q10 := cell_of_row _ _ 10 _ _ _ HL2.out
  simp only [List.getElem?_toArray, List.getElem?_cons_zero, List.getElem?_cons_succ] at q7 q8 q9 q10
  go_wp2_with fail
  refine (eqStream_any r.str a2 b2 a2x b2x c2 d2 c2x d2x w2 (H1.out.s.later HB2.out) (H2.out.s.later HB2.out) HT.out.2.1).mono ?_
  rintro e w3 ⟨rfl, b3⟩
  have HK3 := hid (boxR HK2.out b3)
  have HL3 := hid (boxR HL2.out b3)
  have HB3 := hid (below_chain HB2.out b3)
  clear b3 p7 p8 p9 p10 q7 q8 q9 q10
  have p11 := cell_of_row _ _ 11 _ _ _ HK3.out
  simp only [List.getElem?_toArray, List.getElem?_cons_zero, List.getElem?_cons_succ] at p11
  have q11 := cell_of_row _ _ 11 _ _ _ HL3.out
  simp only [List.getElem?_toArray, List.getElem?_cons_zero, List.getElem?_cons_succ] at q11
  go_wp2_with fail
  refine (eqTableS_any a3 a3x c3 c3x r.ready w3 (H1.out.t.later HB3.out) (H2.out.t.later HB3.out) HT.out.2.2).mono ?_
  rintro e w4 ⟨rfl, b4⟩
  have HK4 := hid (boxR HK3.out b4)
  have HL4 := hid (boxR HL3.out b4)
  have HB4 := hid (below_chain HB3.out b4)
  clear b4 p11 q11
  have p12 := cell_of_row _ _ 12 _ _ _ HK4.out
  simp only [List.getElem?_toArray, List.getElem?_cons_zero, List.getElem?_cons_succ] at p12
  have q12 := cell_of_row _ _ 12 _ _ _ HL4.out
  simp only [List.getElem?_toArray, List.getElem?_cons_zero, List.getElem?_cons_succ] at q12
  go_wp2
  go_ret
  exact ⟨rfl, HB4.out⟩
set_option maxRecDepth 100000 in
set_option maxHeartbeats 8000000 in
theorem toReceiver_any (r : PRcv) (a1 b1 a2 b2 a3 : Option Addr) (c1 d1 c2 d2 c3 : Nat) (w : World) (hr : RdRcv w r a1 c1 b1 d1 a2 c2 b2 d2 a3 c3) (ht : tRcv r ≤ 1048576) :
    Calls Tryz.prog 10 #[.agg #[.int .i64 r.epoch, .int .i64 r.count, .bool r.live, .int .i64 r.inn.epoch, .int .i64 r.inn.expect, .slice a1 r.inn.held.length c1, .slice b1 r.inn.part.length d1, .bool r.str.opened, .slice a2 r.str.fields.length c2, .int .i64 r.str.next, .slice b2 r.str.dicts.length d2, .slice a3 r.ready.length c3, .int .i64 r.errors]] w fun e w' => ∃ a1x c1x b1x d1x a2x c2x b2x d2x a3x c3x bi di bs ds ts, e = .returned (.agg #[.int .i64 r.epoch, .int .i64 r.count, .bool r.live, .int .i64 r.inn.epoch, .int .i64 r.inn.expect, .slice a1x r.inn.held.length c1x, .slice b1x r.inn.part.length d1x, .bool r.str.opened, .slice a2x r.str.fields.length c2x, .int .i64 r.str.next, .slice b2x r.str.dicts.length d2x, .slice a3x r.ready.length c3x, .int .i64 r.errors]) ∧ OwnRcv w' r a1x c1x b1x d1x a2x c2x b2x d2x a3x c3x bi di bs ds ts ∧ (∀ x ∈ (bi ++ di) ++ ((bs ++ ds) ++ ts), w.heap.size ≤ x) ∧ ((bi ++ di) ++ ((bs ++ ds) ++ ts)).Nodup ∧ Below w.heap.size w w' := by
  have HR := hid hr
  clear hr
  have HT : Hid (tIn r.inn ≤ 1048576 ∧ tStr r.str ≤ 1048576 ∧ totL totT r.ready ≤ 1048576) := hid (by unfold tRcv at ht; omega)
  have HK0 : Hid ((((w.alloc (.cells #[.int .i64 r.epoch, .int .i64 r.count, .bool r.live, .int .i64 r.inn.epoch, .int .i64 r.inn.expect, .slice a1 r.inn.held.length c1, .slice b1 r.inn.part.length d1, .bool r.str.opened, .slice a2 r.str.fields.length c2, .int .i64 r.str.next, .slice b2 r.str.dicts.length d2, .slice a3 r.ready.length c3, .int .i64 r.errors] 32)).alloc (.cells #[.int .i64 0, .int .i64 0, .bool false, .int .i64 0, .int .i64 0, .slice none 0 0, .slice none 0 0, .bool false, .slice none 0 0, .int .i64 0, .slice none 0 0, .slice none 0 0, .int .i64 0] 43)).alloc (.cells #[.int .i64 r.epoch, .int .i64 r.count, .bool r.live, .int .i64 0, .int .i64 0, .slice none 0 0, .slice none 0 0, .bool false, .slice none 0 0, .int .i64 0, .slice none 0 0, .slice none 0 0, .int .i64 0] 43)).heap[w.heap.size]? = some (.cells #[.int .i64 r.epoch, .int .i64 r.count, .bool r.live, .int .i64 r.inn.epoch, .int .i64 r.inn.expect, .slice a1 r.inn.held.length c1, .slice b1 r.inn.part.length d1, .bool r.str.opened, .slice a2 r.str.fields.length c2, .int .i64 r.str.next, .slice b2 r.str.dicts.length d2, .slice a3 r.ready.length c3, .int .i64 r.errors] 32 (0, 0))) := hid (heap3 _ _ _ (Below.refl _ _)).1
  have HK1 : Hid ((((w.alloc (.cells #[.int .i64 r.epoch, .int .i64 r.count, .bool r.live, .int .i64 r.inn.epoch, .int .i64 r.inn.expect, .slice a1 r.inn.held.length c1, .slice b1 r.inn.part.length d1, .bool r.str.opened, .slice a2 r.str.fields.length c2, .int .i64 r.str.next, .slice b2 r.str.dicts.length d2, .slice a3 r.ready.length c3, .int .i64 r.errors] 32)).alloc (.cells #[.int .i64 0, .int .i64 0, .bool false, .int .i64 0, .int .i64 0, .slice none 0 0, .slice none 0 0, .bool false, .slice none 0 0, .int .i64 0, .slice none 0 0, .slice none 0 0, .int .i64 0] 43)).alloc (.cells #[.int .i64 r.epoch, .int .i64 r.count, .bool r.live, .int .i64 0, .int .i64 0, .slice none 0 0, .slice none 0 0, .bool false, .slice none 0 0, .int .i64 0, .slice none 0 0, .slice none 0 0, .int .i64 0] 43)).heap[w.heap.size + 1]? = some (.cells #[.int .i64 0, .int .i64 0, .bool false, .int .i64 0, .int .i64 0, .slice none 0 0, .slice none 0 0, .bool false, .slice none 0 0, .int .i64 0, .slice none 0 0, .slice none 0 0, .int .i64 0] 43 (0, 0))) := hid (heap3 _ _ _ (Below.refl _ _)).2.1
  have HK2 : Hid ((((w.alloc (.cells #[.int .i64 r.epoch, .int .i64 r.count, .bool r.live, .int .i64 r.inn.epoch, .int .i64 r.inn.expect, .slice a1 r.inn.held.length c1, .slice b1 r.inn.part.length d1, .bool r.str.opened, .slice a2 r.str.fields.length c2, .int .i64 r.str.next, .slice b2 r.str.dicts.length d2, .slice a3 r.ready.length c3, .int .i64 r.errors] 32)).alloc (.cells #[.int .i64 0, .int .i64 0, .bool false, .int .i64 0, .int .i64 0, .slice none 0 0, .slice none 0 0, .bool false, .slice none 0 0, .int .i64 0, .slice none 0 0, .slice none 0 0, .int .i64 0] 43)).alloc (.cells #[.int .i64 r.epoch, .int .i64 r.count, .bool r.live, .int .i64 0, .int .i64 0, .slice none 0 0, .slice none 0 0, .bool false, .slice none 0 0, .int .i64 0, .slice none 0 0, .slice none 0 0, .int .i64 0] 43)).heap[w.heap.size + 1 + 1]? = some (.cells #[.int .i64 r.epoch, .int .i64 r.count, .bool r.live, .int .i64 0, .int .i64 0, .slice none 0 0, .slice none 0 0, .bool false, .slice none 0 0, .int .i64 0, .slice none 0 0, .slice none 0 0, .int .i64 0] 43 (0, 0))) := hid (heap3 _ _ _ (Below.refl _ _)).2.2
  have HB0 := hid (below_new3 w (.cells #[.int .i64 r.epoch, .int .i64 r.count, .bool r.live, .int .i64 r.inn.epoch, .int .i64 r.inn.expect, .slice a1 r.inn.held.length c1, .slice b1 r.inn.part.length d1, .bool r.str.opened, .slice a2 r.str.fields.length c2, .int .i64 r.str.next, .slice b2 r.str.dicts.length d2, .slice a3 r.ready.length c3, .int .i64 r.errors] 32) (.cells #[.int .i64 0, .int .i64 0, .bool false, .int .i64 0, .int .i64 0, .slice none 0 0, .slice none 0 0, .bool false, .slice none 0 0, .int .i64 0, .slice none 0 0, .slice none 0 0, .int .i64 0] 43) (.cells #[.int .i64 r.epoch, .int .i64 r.count, .bool r.live, .int .i64 0, .int .i64 0, .slice none 0 0, .slice none 0 0, .bool false, .slice none 0 0, .int .i64 0, .slice none 0 0, .slice none 0 0, .int .i64 0] 43))
  have HSZ := hid (size3 w (.cells #[.int .i64 r.epoch, .int .i64 r.count, .bool r.live, .int .i64 r.inn.epoch, .int .i64 r.inn.expect, .slice a1 r.inn.held.length c1, .slice b1 r.inn.part.length d1, .bool r.str.opened, .slice a2 r.str.fields.length c2, .int .i64 r.str.next, .slice b2 r.str.dicts.length d2, .slice a3 r.ready.length c3, .int .i64 r.errors] 32) (.cells #[.int .i64 0, .int .i64 0, .bool false, .int .i64 0, .int .i64 0, .slice none 0 0, .slice none 0 0, .bool false, .slice none 0 0, .int .i64 0, .slice none 0 0, .slice none 0 0, .int .i64 0] 43) (.cells #[.int .i64 r.epoch, .int .i64 r.count, .bool r.live, .int .i64 0, .int .i64 0, .slice none 0 0, .slice none 0 0, .bool false, .slice none 0 0, .int .i64 0, .slice none 0 0, .slice none 0 0, .int .i64 0] 43))
  go_enter Tryz.func10, Tryz.ntmps10
  go_upto_region 5 with fail
  generalize (((w.alloc (.cells #[.int .i64 r.epoch, .int .i64 r.count, .bool r.live, .int .i64 r.inn.epoch, .int .i64 r.inn.expect, .slice a1 r.inn.held.length c1, .slice b1 r.inn.part.length d1, .bool r.str.opened, .slice a2 r.str.fields.length c2, .int .i64 r.str.next, .slice b2 r.str.dicts.length d2, .slice a3 r.ready.length c3, .int .i64 r.errors] 32)).alloc (.cells #[.int .i64 0, .int .i64 0, .bool false, .int .i64 0, .int .i64 0, .slice none 0 0, .slice none 0 0, .bool false, .slice none 0 0, .int .i64 0, .slice none 0 0, .slice none 0 0, .int .i64 0] 43)).alloc (.cells #[.int .i64 r.epoch, .int .i64 r.count, .bool r.live, .int .i64 0, .int .i64 0, .slice none 0 0, .slice none 0 0, .bool false, .slice none 0 0, .int .i64 0, .slice none 0 0, .slice none 0 0, .int .i64 0] 43)) = W3 at *
  have hs3 : w.heap.size + 3 ≤ W3.heap.size := by have := HSZ.out; omega
  have p3 := cell_of_row _ _ 3 _ _ _ HK0.out
  have p4 := cell_of_row _ _ 4 _ _ _ HK0.out
  have p5 := cell_of_row _ _ 5 _ _ _ HK0.out
  have p6 := cell_of_row _ _ 6 _ _ _ HK0.out
  simp only [List.getElem?_toArray, List.getElem?_cons_zero, List.getElem?_cons_succ] at p3 p4 p5 p6
  go_wp2_with fail
  refine (toLinkIn_any r.inn a1 b1 c1 d1 W3 (HR.out.i.later HB0.out) HT.out.1).mono ?_
  rintro e w4 ⟨a1x, c1x, b1x, d1x, bi, di, rfl, oi, li, ni, b4⟩
  have K04 := hid (boxR HK0.out b4)
  have K14 := hid (boxR HK1.out b4)
  have K24 := hid (boxR HK2.out b4)
  have hs4 := b4.size
  have K25 : Hid (((((w4.setCell ⟨w.heap.size + 1 + 1, 3, none⟩ (.int .i64 r.inn.epoch)).setCell ⟨w.heap.size + 1 + 1, 4, none⟩ (.int .i64 r.inn.expect)).setCell ⟨w.heap.size + 1 + 1, 5, none⟩ (.slice a1x r.inn.held.length c1x)).setCell ⟨w.heap.size + 1 + 1, 6, none⟩ (.slice b1x r.inn.part.length d1x)).heap[w.heap.size + 1 + 1]? = some (.cells #[.int .i64 r.epoch, .int .i64 r.count, .bool r.live, .int .i64 r.inn.epoch, .int .i64 r.inn.expect, .slice a1x r.inn.held.length c1x, .slice b1x r.inn.part.length d1x, .bool false, .slice none 0 0, .int .i64 0, .slice none 0 0, .slice none 0 0, .int .i64 0] 43 (0, 0))) := hid (heap_setCell_same _ _ 6 _ _ (.slice b1x r.inn.part.length d1x) (heap_setCell_same _ _ 5 _ _ (.slice a1x r.inn.held.length c1x) (heap_setCell_same _ _ 4 _ _ (.int .i64 r.inn.expect) (heap_setCell_same _ _ 3 _ _ (.int .i64 r.inn.epoch) K24.out))))
  have HO5 : Hid (∀ j, j ≠ w.heap.size + 1 + 1 → ((((w4.setCell ⟨w.heap.size + 1 + 1, 3, none⟩ (.int .i64 r.inn.epoch)).setCell ⟨w.heap.size + 1 + 1, 4, none⟩ (.int .i64 r.inn.expect)).setCell ⟨w.heap.size + 1 + 1, 5, none⟩ (.slice a1x r.inn.held.length c1x)).setCell ⟨w.heap.size + 1 + 1, 6, none⟩ (.slice b1x r.inn.part.length d1x)).heap[j]? = w4.heap[j]?) := hid (fun j hj => by rw [Below.heap_setCell _ _ _ _ hj, Below.heap_setCell _ _ _ _ hj, Below.heap_setCell _ _ _ _ hj, Below.heap_setCell _ _ _ _ hj])
  have HB5 : Hid (Below w.heap.size w ((((w4.setCell ⟨w.heap.size + 1 + 1, 3, none⟩ (.int .i64 r.inn.epoch)).setCell ⟨w.heap.size + 1 + 1, 4, none⟩ (.int .i64 r.inn.expect)).setCell ⟨w.heap.size + 1 + 1, 5, none⟩ (.slice a1x r.inn.held.length c1x)).setCell ⟨w.heap.size + 1 + 1, 6, none⟩ (.slice b1x r.inn.part.length d1x))) := hid (((((below_chain HB0.out b4).setCell (p := ⟨w.heap.size + 1 + 1, 3, none⟩) (by simp only []; omega) _).setCell (p := ⟨w.heap.size + 1 + 1, 4, none⟩) (by simp only []; omega) _).setCell (p := ⟨w.heap.size + 1 + 1, 5, none⟩) (by simp only []; omega) _).setCell (p := ⟨w.heap.size + 1 + 1, 6, none⟩) (by simp only []; omega) _)
  have hz5 : ((((w4.setCell ⟨w.heap.size + 1 + 1, 3, none⟩ (.int .i64 r.inn.epoch)).setCell ⟨w.heap.size + 1 + 1, 4, none⟩ (.int .i64 r.inn.expect)).setCell ⟨w.heap.size + 1 + 1, 5, none⟩ (.slice a1x r.inn.held.length c1x)).setCell ⟨w.heap.size + 1 + 1, 6, none⟩ (.slice b1x r.inn.part.length d1x)).heap.size = w4.heap.size := by simp
  have HZ5 := hid hz5
  have HI := hid oi
  have HLI := hid li
  have HNI := hid ni
  clear hz5 b4 oi li ni p3 p4 p5 p6
  have y3 := cell_of_row _ _ 3 _ _ _ K24.out
  have zy3 := frozen_of_row _ _ 3 _ _ K24.out
  have y4 := cell_of_row _ _ 4 _ _ _ K24.out
  have zy4 := frozen_of_row _ _ 4 _ _ K24.out
  have y5 := cell_of_row _ _ 5 _ _ _ K24.out
  have zy5 := frozen_of_row _ _ 5 _ _ K24.out
  have y6 := cell_of_row _ _ 6 _ _ _ K24.out
  have zy6 := frozen_of_row _ _ 6 _ _ K24.out
  simp only [List.getElem?_toArray, List.getElem?_cons_zero, List.getElem?_cons_succ] at y3 y4 y5 y6
  go_upto_region 6 with fail
  generalize ((((w4.setCell ⟨w.heap.size + 1 + 1, 3, none⟩ (.int .i64 r.inn.epoch)).setCell ⟨w.heap.size + 1 + 1, 4, none⟩ (.int .i64 r.inn.expect)).setCell ⟨w.heap.size + 1 + 1, 5, none⟩ (.slice a1x r.inn.held.length c1x)).setCell ⟨w.heap.size + 1 + 1, 6, none⟩ (.slice b1x r.inn.part.length d1x)) = W5 at *
  clear y3 zy3 y4 zy4 y5 zy5 y6 zy6
  have hs5 : w4.heap.size ≤ W5.heap.size := by rw [HZ5.out]; exact Nat.le_refl _
  have K05 := hid ((HO5.out w.heap.size (by omega)).trans K04.out)
  have K15 := hid ((HO5.out (w.heap.size + 1) (by omega)).trans K14.out)
  have HI5 := hid (keptI HI.out (w' := W5) (fun x hx => HO5.out x (by have := HLI.out x hx; omega)))
  have HLI2 : Hid (∀ x ∈ bi ++ di, x < W5.heap.size) := hid (ltI HI5.out)
  have p7 := cell_of_row _ _ 7 _ _ _ K05.out
  have p8 := cell_of_row _ _ 8 _ _ _ K05.out
  have p9 := cell_of_row _ _ 9 _ _ _ K05.out
  have p10 := cell_of_row _ _ 10 _ _ _ K05.out
  simp only [List.getElem?_toArray, List.getElem?_cons_zero, List.getElem?_cons_succ] at p7 p8 p9 p10
  go_wp2_with fail
  refine (toStream_any r.str a2 b2 c2 d2 W5 (HR.out.s.later HB5.out) HT.out.2.1).mono ?_
  rintro e w5 ⟨a2x, c2x, b2x, d2x, bs, ds, rfl, os, ls, ns, b5⟩
  have K06 := hid (boxR K05.out b5)
  have K16 := hid (boxR K15.out b5)
  have K26 := hid (boxR K25.out b5)
  have hs5b := b5.size
  have HI6 := hid (keptI HI5.out (w' := w5) (fun x hx => b5.block x (HLI2.out x hx)))
  have K27 : Hid (((((w5.setCell ⟨w.heap.size + 1 + 1, 7, none⟩ (.bool r.str.opened)).setCell ⟨w.heap.size + 1 + 1, 8, none⟩ (.slice a2x r.str.fields.length c2x)).setCell ⟨w.heap.size + 1 + 1, 9, none⟩ (.int .i64 r.str.next)).setCell ⟨w.heap.size + 1 + 1, 10, none⟩ (.slice b2x r.str.dicts.length d2x)).heap[w.heap.size + 1 + 1]? = some (.cells #[.int .i64 r.epoch, .int .i64 r.count, .bool r.live, .int .i64 r.inn.epoch, .int .i64 r.inn.expect, .slice a1x r.inn.held.length c1x, .slice b1x r.inn.part.length d1x, .bool r.str.opened, .slice a2x r.str.fields.length c2x, .int .i64 r.str.next, .slice b2x r.str.dicts.length d2x, .slice none 0 0, .int .i64 0] 43 (0, 0))) := hid (heap_setCell_same _ _ 10 _ _ (.slice b2x r.str.dicts.length d2x) (heap_setCell_same _ _ 9 _ _ (.int .i64 r.str.next) (heap_setCell_same _ _ 8 _ _ (.slice a2x r.str.fields.length c2x) (heap_setCell_same _ _ 7 _ _ (.bool r.str.opened) K26.out))))
  have HO7 : Hid (∀ j, j ≠ w.heap.size + 1 + 1 → ((((w5.setCell ⟨w.heap.size + 1 + 1, 7, none⟩ (.bool r.str.opened)).setCell ⟨w.heap.size + 1 + 1, 8, none⟩ (.slice a2x r.str.fields.length c2x)).setCell ⟨w.heap.size + 1 + 1, 9, none⟩ (.int .i64 r.str.next)).setCell ⟨w.heap.size + 1 + 1, 10, none⟩ (.slice b2x r.str.dicts.length d2x)).heap[j]? = w5.heap[j]?) := hid (fun j hj => by rw [Below.heap_setCell _ _ _ _ hj, Below.heap_setCell _ _ _ _ hj, Below.heap_setCell _ _ _ _ hj, Below.heap_setCell _ _ _ _ hj])
  have HB7 : Hid (Below w.heap.size w ((((w5.setCell ⟨w.heap.size + 1 + 1, 7, none⟩ (.bool r.str.opened)).setCell ⟨w.heap.size + 1 + 1, 8, none⟩ (.slice a2x r.str.fields.length c2x)).setCell ⟨w.heap.size + 1 + 1, 9, none⟩ (.int .i64 r.str.next)).setCell ⟨w.heap.size + 1 + 1, 10, none⟩ (.slice b2x r.str.dicts.length d2x))) := hid (((((below_chain HB5.out b5).setCell (p := ⟨w.heap.size + 1 + 1, 7, none⟩) (by simp only []; omega) _).setCell (p := ⟨w.heap.size + 1 + 1, 8, none⟩) (by simp only []; omega) _).setCell (p := ⟨w.heap.size + 1 + 1, 9, none⟩) (by simp only []; omega) _).setCell (p := ⟨w.heap.size + 1 + 1, 10, none⟩) (by simp only []; omega) _)
  have hz7 : ((((w5.setCell ⟨w.heap.size + 1 + 1, 7, none⟩ (.bool r.str.opened)).setCell ⟨w.heap.size + 1 + 1, 8, none⟩ (.slice a2x r.str.fields.length c2x)).setCell ⟨w.heap.size + 1 + 1, 9, none⟩ (.int .i64 r.str.next)).setCell ⟨w.heap.size + 1 + 1, 10, none⟩ (.slice b2x r.str.dicts.length d2x)).heap.size = w5.heap.size := by simp
  have HZ7 := hid hz7
  have HS := hid os
  have HLS := hid ls
  have HNS := hid ns
  clear hz7 b5 os ls ns p7 p8 p9 p10
  have y7 := cell_of_row _ _ 7 _ _ _ K26.out
  have zy7 := frozen_of_row _ _ 7 _ _ K26.out
  have y8 := cell_of_row _ _ 8 _ _ _ K26.out
  have zy8 := frozen_of_row _ _ 8 _ _ K26.out
  have y9 := cell_of_row _ _ 9 _ _ _ K26.out
  have zy9 := frozen_of_row _ _ 9 _ _ K26.out
  have y10 := cell_of_row _ _ 10 _ _ _ K26.out
  have zy10 := frozen_of_row _ _ 10 _ _ K26.out
  simp only [List.getElem?_toArray, List.getElem?_cons_zero, List.getElem?_cons_succ] at y7 y8 y9 y10
  go_upto_region 7 with fail
  generalize ((((w5.setCell ⟨w.heap.size + 1 + 1, 7, none⟩ (.bool r.str.opened)).setCell ⟨w.heap.size + 1 + 1, 8, none⟩ (.slice a2x r.str.fields.length c2x)).setCell ⟨w.heap.size + 1 + 1, 9, none⟩ (.int .i64 r.str.next)).setCell ⟨w.heap.size + 1 + 1, 10, none⟩ (.slice b2x r.str.dicts.length d2x)) = W6 at *
  clear y7 zy7 y8 zy8 y9 zy9 y10 zy10
  have hs6 : w5.heap.size ≤ W6.heap.size := by rw [HZ7.out]; exact Nat.le_refl _
  have K07 := hid ((HO7.out w.heap.size (by omega)).trans K06.out)
  have K17 := hid ((HO7.out (w.heap.size + 1) (by omega)).trans K16.out)
  have HI7 := hid (keptI HI6.out (w' := W6) (fun x hx => HO7.out x (by have := HLI.out x hx; omega)))
  have HS7 := hid (keptS HS.out (w' := W6) (fun x hx => HO7.out x (by have := HLS.out x hx; omega)))
  have HLS2 : Hid (∀ x ∈ bs ++ ds, x < W6.heap.size) := hid (ltS HS7.out)
  have p11 := cell_of_row _ _ 11 _ _ _ K07.out
  simp only [List.getElem?_toArray, List.getElem?_cons_zero, List.getElem?_cons_succ] at p11
  go_wp2_with fail
  refine (toTableS_any a3 c3 r.ready W6 (HR.out.t.later HB7.out) HT.out.2.2).mono ?_
  rintro e w6 ⟨v3, ts, rfl, ot, lt, nt, b6⟩
  obtain ⟨a3x, c3x, rfl, -⟩ := id ot.rd
  have K08 := hid (boxR K07.out b6)
  have K18 := hid (boxR K17.out b6)
  have K28 := hid (boxR K27.out b6)
  have hs6b := b6.size
  have HI8 := hid (keptI HI7.out (w' := w6) (fun x hx => b6.block x (by have := HLI2.out x hx; omega)))
  have HS8 := hid (keptS HS7.out (w' := w6) (fun x hx => b6.block x (HLS2.out x hx)))
  have K29 : Hid (((w6.setCell ⟨w.heap.size + 1 + 1, 11, none⟩ (.slice a3x r.ready.length c3x)).setCell ⟨w.heap.size + 1 + 1, 12, none⟩ (.int .i64 r.errors)).heap[w.heap.size + 1 + 1]? = some (.cells #[.int .i64 r.epoch, .int .i64 r.count, .bool r.live, .int .i64 r.inn.epoch, .int .i64 r.inn.expect, .slice a1x r.inn.held.length c1x, .slice b1x r.inn.part.length d1x, .bool r.str.opened, .slice a2x r.str.fields.length c2x, .int .i64 r.str.next, .slice b2x r.str.dicts.length d2x, .slice a3x r.ready.length c3x, .int .i64 r.errors] 43 (0, 0))) := hid (heap_setCell_same _ _ 12 _ _ (.int .i64 r.errors) (heap_setCell_same _ _ 11 _ _ (.slice a3x r.ready.length c3x) K28.out))
  have HO9 : Hid (∀ j, j ≠ w.heap.size + 1 + 1 → ((w6.setCell ⟨w.heap.size + 1 + 1, 11, none⟩ (.slice a3x r.ready.length c3x)).setCell ⟨w.heap.size + 1 + 1, 12, none⟩ (.int .i64 r.errors)).heap[j]? = w6.heap[j]?) := hid (fun j hj => by rw [Below.heap_setCell _ _ _ _ hj, Below.heap_setCell _ _ _ _ hj])
  have HB9 : Hid (Below w.heap.size w ((w6.setCell ⟨w.heap.size + 1 + 1, 11, none⟩ (.slice a3x r.ready.length c3x)).setCell ⟨w.heap.size + 1 + 1, 12, none⟩ (.int .i64 r.errors))) := hid (((below_chain HB7.out b6).setCell (p := ⟨w.heap.size + 1 + 1, 11, none⟩) (by simp only []; omega) _).setCell (p := ⟨w.heap.size + 1 + 1, 12, none⟩) (by simp only []; omega) _)
  have HTS := hid ot
  have HLT := hid lt
  have HNT := hid nt
  clear b6 ot lt nt p11
  have p12 := cell_of_row _ _ 12 _ _ _ K08.out
  simp only [List.getElem?_toArray, List.getElem?_cons_zero, List.getElem?_cons_succ] at p12
  have y11 := cell_of_row _ _ 11 _ _ _ K28.out
  have zy11 := frozen_of_row _ _ 11 _ _ K28.out
  have y12 := cell_of_row _ _ 12 _ _ _ K28.out
  have zy12 := frozen_of_row _ _ 12 _ _ K28.out
  simp only [List.getElem?_toArray, List.getElem?_cons_zero, List.getElem?_cons_succ] at y11 y12
  go_upto_region 9 with fail
  generalize ((w6.setCell ⟨w.heap.size + 1 + 1, 11, none⟩ (.slice a3x r.ready.length c3x)).setCell ⟨w.heap.size + 1 + 1, 12, none⟩ (.int .i64 r.errors)) = W7 at *
  clear y11 zy11 y12 zy12 p12
  have K19 := hid ((HO9.out (w.heap.size + 1) (by omega)).trans K18.out)
  have HI9 := hid (keptI HI8.out (w' := W7) (fun x hx => HO9.out x (by have := HLI.out x hx; omega)))
  have HS9 := hid (keptS HS8.out (w' := W7) (fun x hx => HO9.out x (by have := HLS.out x hx; omega)))
  have HT9 := hid (HTS.out.kept (w' := W7) (fun x hx => HO9.out x (by have := HLT.out x hx; omega)))
  have KF : Hid ((((((((((((((W7.setCell ⟨w.heap.size + 1, 0, none⟩ (.int .i64 r.epoch)).setCell ⟨w.heap.size + 1, 1, none⟩ (.int .i64 r.count)).setCell ⟨w.heap.size + 1, 2, none⟩ (.bool r.live)).setCell ⟨w.heap.size + 1, 3, none⟩ (.int .i64 r.inn.epoch)).setCell ⟨w.heap.size + 1, 4, none⟩ (.int .i64 r.inn.expect)).setCell ⟨w.heap.size + 1, 5, none⟩ (.slice a1x r.inn.held.length c1x)).setCell ⟨w.heap.size + 1, 6, none⟩ (.slice b1x r.inn.part.length d1x)).setCell ⟨w.heap.size + 1, 7, none⟩ (.bool r.str.opened)).setCell ⟨w.heap.size + 1, 8, none⟩ (.slice a2x r.str.fields.length c2x)).setCell ⟨w.heap.size + 1, 9, none⟩ (.int .i64 r.str.next)).setCell ⟨w.heap.size + 1, 10, none⟩ (.slice b2x r.str.dicts.length d2x)).setCell ⟨w.heap.size + 1, 11, none⟩ (.slice a3x r.ready.length c3x)).setCell ⟨w.heap.size + 1, 12, none⟩ (.int .i64 r.errors)).heap[w.heap.size + 1]? = some (.cells #[.int .i64 r.epoch, .int .i64 r.count, .bool r.live, .int .i64 r.inn.epoch, .int .i64 r.inn.expect, .slice a1x r.inn.held.length c1x, .slice b1x r.inn.part.length d1x, .bool r.str.opened, .slice a2x r.str.fields.length c2x, .int .i64 r.str.next, .slice b2x r.str.dicts.length d2x, .slice a3x r.ready.length c3x, .int .i64 r.errors] 43 (0, 0))) := hid (set13 K19.out)
  have HOF : Hid (∀ j, j ≠ w.heap.size + 1 → (((((((((((((W7.setCell ⟨w.heap.size + 1, 0, none⟩ (.int .i64 r.epoch)).setCell ⟨w.heap.size + 1, 1, none⟩ (.int .i64 r.count)).setCell ⟨w.heap.size + 1, 2, none⟩ (.bool r.live)).setCell ⟨w.heap.size + 1, 3, none⟩ (.int .i64 r.inn.epoch)).setCell ⟨w.heap.size + 1, 4, none⟩ (.int .i64 r.inn.expect)).setCell ⟨w.heap.size + 1, 5, none⟩ (.slice a1x r.inn.held.length c1x)).setCell ⟨w.heap.size + 1, 6, none⟩ (.slice b1x r.inn.part.length d1x)).setCell ⟨w.heap.size + 1, 7, none⟩ (.bool r.str.opened)).setCell ⟨w.heap.size + 1, 8, none⟩ (.slice a2x r.str.fields.length c2x)).setCell ⟨w.heap.size + 1, 9, none⟩ (.int .i64 r.str.next)).setCell ⟨w.heap.size + 1, 10, none⟩ (.slice b2x r.str.dicts.length d2x)).setCell ⟨w.heap.size + 1, 11, none⟩ (.slice a3x r.ready.length c3x)).setCell ⟨w.heap.size + 1, 12, none⟩ (.int .i64 r.errors)).heap[j]? = W7.heap[j]?) := hid (fun j hj => set13o hj)
  have HBF : Hid (Below w.heap.size w (((((((((((((W7.setCell ⟨w.heap.size + 1, 0, none⟩ (.int .i64 r.epoch)).setCell ⟨w.heap.size + 1, 1, none⟩ (.int .i64 r.count)).setCell ⟨w.heap.size + 1, 2, none⟩ (.bool r.live)).setCell ⟨w.heap.size + 1, 3, none⟩ (.int .i64 r.inn.epoch)).setCell ⟨w.heap.size + 1, 4, none⟩ (.int .i64 r.inn.expect)).setCell ⟨w.heap.size + 1, 5, none⟩ (.slice a1x r.inn.held.length c1x)).setCell ⟨w.heap.size + 1, 6, none⟩ (.slice b1x r.inn.part.length d1x)).setCell ⟨w.heap.size + 1, 7, none⟩ (.bool r.str.opened)).setCell ⟨w.heap.size + 1, 8, none⟩ (.slice a2x r.str.fields.length c2x)).setCell ⟨w.heap.size + 1, 9, none⟩ (.int .i64 r.str.next)).setCell ⟨w.heap.size + 1, 10, none⟩ (.slice b2x r.str.dicts.length d2x)).setCell ⟨w.heap.size + 1, 11, none⟩ (.slice a3x r.ready.length c3x)).setCell ⟨w.heap.size + 1, 12, none⟩ (.int .i64 r.errors))) := hid (set13b HB9.out (by omega))
  have y0 := cell_of_row _ _ 0 _ _ _ K29.out
  have y1 := cell_of_row _ _ 1 _ _ _ K29.out
  have y2 := cell_of_row _ _ 2 _ _ _ K29.out
  have y3 := cell_of_row _ _ 3 _ _ _ K29.out
  have y4 := cell_of_row _ _ 4 _ _ _ K29.out
  have y5 := cell_of_row _ _ 5 _ _ _ K29.out
  have y6 := cell_of_row _ _ 6 _ _ _ K29.out
  have y7 := cell_of_row _ _ 7 _ _ _ K29.out
  have y8 := cell_of_row _ _ 8 _ _ _ K29.out
  have y9 := cell_of_row _ _ 9 _ _ _ K29.out
  have y10 := cell_of_row _ _ 10 _ _ _ K29.out
  have y11 := cell_of_row _ _ 11 _ _ _ K29.out
  have y12 := cell_of_row _ _ 12 _ _ _ K29.out
  simp only [List.getElem?_toArray, List.getElem?_cons_zero, List.getElem?_cons_succ] at y0 y1 y2 y3 y4 y5 y6 y7 y8 y9 y10 y11 y12
  have q0 := cell_of_row _ _ 0 _ _ _ K19.out
  have zq0 := frozen_of_row _ _ 0 _ _ K19.out
  have q1 := cell_of_row _ _ 1 _ _ _ K19.out
  have zq1 := frozen_of_row _ _ 1 _ _ K19.out
  have q2 := cell_of_row _ _ 2 _ _ _ K19.out
  have zq2 := frozen_of_row _ _ 2 _ _ K19.out
  have q3 := cell_of_row _ _ 3 _ _ _ K19.out
  have zq3 := frozen_of_row _ _ 3 _ _ K19.out
  have q4 := cell_of_row _ _ 4 _ _ _ K19.out
  have zq4 := frozen_of_row _ _ 4 _ _ K19.out
  have q5 := cell_of_row _ _ 5 _ _ _ K19.out
  have zq5 := frozen_of_row _ _ 5 _ _ K19.out
  have q6 := cell_of_row _ _ 6 _ _ _ K19.out
  have zq6 := frozen_of_row _ _ 6 _ _ K19.out
  have q7 := cell_of_row _ _ 7 _ _ _ K19.out
  have zq7 := frozen_of_row _ _ 7 _ _ K19.out
  have q8 := cell_of_row _ _ 8 _ _ _ K19.out
  have zq8 := frozen_of_row _ _ 8 _ _ K19.out
  have q9 := cell_of_row _ _ 9 _ _ _ K19.out
  have zq9 := frozen_of_row _ _ 9 _ _ K19.out
  have q10 := cell_of_row _ _ 10 _ _ _ K19.out
  have zq10 := frozen_of_row _ _ 10 _ _ K19.out
  have q11 := cell_of_row _ _ 11 _ _ _ K19.out
  have zq11 := frozen_of_row _ _ 11 _ _ K19.out
  have q12 := cell_of_row _ _ 12 _ _ _ K19.out
  have zq12 := frozen_of_row _ _ 12 _ _ K19.out
  simp only [List.getElem?_toArray, List.getElem?_cons_zero, List.getElem?_cons_succ] at q0 q1 q2 q3 q4 q5 q6 q7 q8 q9 q10 q11 q12
  repeat go_step
  refine bodyPost_ret (results_cell_row rfl _ _ (w.heap.size + 1) 43 #[.int .i64 r.epoch, .int .i64 r.count, .bool r.live, .int .i64 r.inn.epoch, .int .i64 r.inn.expect, .slice a1x r.inn.held.length c1x, .slice b1x r.inn.part.length d1x, .bool r.str.opened, .slice a2x r.str.fields.length c2x, .int .i64 r.str.next, .slice b2x r.str.dicts.length d2x, .slice a3x r.ready.length c3x, .int .i64 r.errors] (0, 0) _ rfl KF.out Tryz.underlying43 rfl (by kernel_rfl)) rfl ?_
  refine ⟨a1x, c1x, b1x, d1x, a2x, c2x, b2x, d2x, a3x, c3x, bi, di, bs, ds, ts, rfl, ⟨keptI HI9.out (fun x hx => HOF.out x (by have := HLI.out x hx; omega)), keptS HS9.out (fun x hx => HOF.out x (by have := HLS.out x hx; omega)), HT9.out.kept (fun x hx => HOF.out x (by have := HLT.out x hx; omega))⟩, ?_, ?_, HBF.out⟩
  · intro x hx
    rcases List.mem_append.1 hx with h | h
    · have := HLI.out x h; omega
    · rcases List.mem_append.1 h with h | h
      · have := HLS.out x h; omega
      · have := HLT.out x h; omega
  · refine List.nodup_append.2 ⟨HNI.out, List.nodup_append.2 ⟨HNS.out, HNT.out, fun x hx y hy e => by have := HLS2.out x hx; have := HLT.out y hy; omega⟩, fun x hx y hy e => ?_⟩
    have h1 := HLI2.out x hx
    rcases List.mem_append.1 hy with h | h
    · have := HLS.out y h; omega
    · have := HLT.out y h; omega
end Go.Proofs.YtfaehioeepolhaaGreat
