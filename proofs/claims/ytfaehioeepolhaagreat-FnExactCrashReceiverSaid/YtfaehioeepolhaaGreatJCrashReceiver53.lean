import Derived.Test.YtfaehioeepolhaaGreatJCrashReceiver21
import Derived.Test.YtfaehioeepolhaaGreatJCrashReceiver44
import Derived.Test.YtfaehioeepolhaaGreatJCrashReceiver52
import Derived.Test.YtfaehioeepolhaaGreatJCrashReceiver0
import Derived.Deep.RegionHeld3
namespace Go.Proofs.YtfaehioeepolhaaGreat
open Go.RowKit
abbrev BoxC (w' : World) (g : Nat) (r : PRcv) (a1 b1 a2 b2 a3 : Option Addr) (c1 d1 c2 d2 c3 : Nat) : Prop :=
  w'.cell? ⟨g, 0, none⟩ = some (.int .i64 r.epoch) ∧ w'.cell? ⟨g, 1, none⟩ = some (.int .i64 r.count) ∧ w'.cell? ⟨g, 2, none⟩ = some (.bool r.live) ∧ w'.cell? ⟨g, 3, none⟩ = some (.int .i64 r.inn.epoch) ∧ w'.cell? ⟨g, 4, none⟩ = some (.int .i64 r.inn.expect) ∧ w'.cell? ⟨g, 5, none⟩ = some (.slice a1 r.inn.held.length c1) ∧ w'.cell? ⟨g, 6, none⟩ = some (.slice b1 r.inn.part.length d1) ∧ w'.cell? ⟨g, 7, none⟩ = some (.bool r.str.opened) ∧ w'.cell? ⟨g, 8, none⟩ = some (.slice a2 r.str.fields.length c2) ∧ w'.cell? ⟨g, 9, none⟩ = some (.int .i64 r.str.next) ∧ w'.cell? ⟨g, 10, none⟩ = some (.slice b2 r.str.dicts.length d2) ∧ w'.cell? ⟨g, 11, none⟩ = some (.slice a3 r.ready.length c3) ∧ w'.cell? ⟨g, 12, none⟩ = some (.int .i64 r.errors)
theorem boxC_of {w : World} {g : Nat} {e : TypeId} {r : PRcv} {a1 b1 a2 b2 a3 : Option Addr} {c1 d1 c2 d2 c3 : Nat} (hh : w.heap[g]? = some (.cells #[.int .i64 r.epoch, .int .i64 r.count, .bool r.live, .int .i64 r.inn.epoch, .int .i64 r.inn.expect, .slice a1 r.inn.held.length c1, .slice b1 r.inn.part.length d1, .bool r.str.opened, .slice a2 r.str.fields.length c2, .int .i64 r.str.next, .slice b2 r.str.dicts.length d2, .slice a3 r.ready.length c3, .int .i64 r.errors] e (0, 0))) : BoxC w g r a1 b1 a2 b2 a3 c1 d1 c2 d2 c3 := by
  have p0 := cell_of_row _ _ 0 _ _ _ hh
  have p1 := cell_of_row _ _ 1 _ _ _ hh
  have p2 := cell_of_row _ _ 2 _ _ _ hh
  have p3 := cell_of_row _ _ 3 _ _ _ hh
  have p4 := cell_of_row _ _ 4 _ _ _ hh
  have p5 := cell_of_row _ _ 5 _ _ _ hh
  have p6 := cell_of_row _ _ 6 _ _ _ hh
  have p7 := cell_of_row _ _ 7 _ _ _ hh
  have p8 := cell_of_row _ _ 8 _ _ _ hh
  have p9 := cell_of_row _ _ 9 _ _ _ hh
  have p10 := cell_of_row _ _ 10 _ _ _ hh
  have p11 := cell_of_row _ _ 11 _ _ _ hh
  have p12 := cell_of_row _ _ 12 _ _ _ hh
  simp only [List.getElem?_toArray, List.getElem?_cons_zero, List.getElem?_cons_succ] at p0 p1 p2 p3 p4 p5 p6 p7 p8 p9 p10 p11 p12
  exact ⟨p0, p1, p2, p3, p4, p5, p6, p7, p8, p9, p10, p11, p12⟩
theorem OwnRcv.lt {w : World} {r : PRcv} {a1 b1 a2 b2 a3 : Option Addr} {c1 d1 c2 d2 c3 : Nat} {bi di bs ds ts : List Nat} (h : OwnRcv w r a1 c1 b1 d1 a2 c2 b2 d2 a3 c3 bi di bs ds ts) : ∀ y ∈ (bi ++ di) ++ ((bs ++ ds) ++ ts), y < w.heap.size := fun y hy => by
  rcases List.mem_append.1 hy with k | k
  · exact ltI h.i y k
  · rcases List.mem_append.1 k with k | k
    · exact ltS h.s y k
    · exact h.t.lt y k
theorem OwnRcv.later {w w' : World} {r : PRcv} {a1 b1 a2 b2 a3 : Option Addr} {c1 d1 c2 d2 c3 : Nat} {bi di bs ds ts : List Nat} (h : OwnRcv w r a1 c1 b1 d1 a2 c2 b2 d2 a3 c3 bi di bs ds ts) (hb : Below w.heap.size w w') : OwnRcv w' r a1 c1 b1 d1 a2 c2 b2 d2 a3 c3 bi di bs ds ts := ⟨keptI h.i (fun x hx => hb.block x (ltI h.i x hx)), keptS h.s (fun x hx => hb.block x (ltS h.s x hx)), h.t.kept (fun x hx => hb.block x (h.t.lt x hx))⟩
set_option maxRecDepth 100000 in
set_option maxHeartbeats 16000000 in
theorem crashReceiver_walk (v : Value) (w : World) (h : ReceiverIn w v) :
    Calls Tryz.prog 6 #[v] w fun e w' => e = .returned (.bool true) ∧ Below w.heap.size w w' := by
  obtain ⟨r, a1, b1, a2, b2, a3, c1, d1, c2, d2, c3, rfl, hr, -⟩ := h
  have HR := hid hr
  clear hr
  have hb0 := below_new1 w (.cells #[.int .i64 r.epoch, .int .i64 r.count, .bool r.live, .int .i64 r.inn.epoch, .int .i64 r.inn.expect, .slice a1 r.inn.held.length c1, .slice b1 r.inn.part.length d1, .bool r.str.opened, .slice a2 r.str.fields.length c2, .int .i64 r.str.next, .slice b2 r.str.dicts.length d2, .slice a3 r.ready.length c3, .int .i64 r.errors] 32)
  have HX0 : Hid ((w.alloc (.cells #[.int .i64 r.epoch, .int .i64 r.count, .bool r.live, .int .i64 r.inn.epoch, .int .i64 r.inn.expect, .slice a1 r.inn.held.length c1, .slice b1 r.inn.part.length d1, .bool r.str.opened, .slice a2 r.str.fields.length c2, .int .i64 r.str.next, .slice b2 r.str.dicts.length d2, .slice a3 r.ready.length c3, .int .i64 r.errors] 32)).heap[w.heap.size]? = some (.cells #[.int .i64 r.epoch, .int .i64 r.count, .bool r.live, .int .i64 r.inn.epoch, .int .i64 r.inn.expect, .slice a1 r.inn.held.length c1, .slice b1 r.inn.part.length d1, .bool r.str.opened, .slice a2 r.str.fields.length c2, .int .i64 r.str.next, .slice b2 r.str.dicts.length d2, .slice a3 r.ready.length c3, .int .i64 r.errors] 32 (0, 0))) := hid (heap_alloc_new w _)
  go_enter Tryz.func6, Tryz.ntmps6
  go_wp2_with fail
  generalize (w.alloc (.cells #[.int .i64 r.epoch, .int .i64 r.count, .bool r.live, .int .i64 r.inn.epoch, .int .i64 r.inn.expect, .slice a1 r.inn.held.length c1, .slice b1 r.inn.part.length d1, .bool r.str.opened, .slice a2 r.str.fields.length c2, .int .i64 r.str.next, .slice b2 r.str.dicts.length d2, .slice a3 r.ready.length c3, .int .i64 r.errors] 32)) = w0 at *
  refine (szReceiver_any r a1 b1 a2 b2 a3 c1 d1 c2 d2 c3 1048576 w0 (HR.out.later hb0) (by omega) (by omega)).mono ?_
  rintro e w1 ⟨rfl, bl1⟩
  have B1 := below_chain hb0 bl1
  have HX1 := hid (boxR HX0.out bl1)
  by_cases hneg : rest 1048576 (tRcv r) < 0
  · generalize rest 1048576 (tRcv r) = q at *
    go_wp2
    go_ret
    exact ⟨rfl, B1⟩
  have ht : tRcv r ≤ 1048576 := by have := rest_fits (l := 1048576) (n := tRcv r) (by omega); omega
  generalize rest 1048576 (tRcv r) = q at *
  obtain ⟨E, hE⟩ : ∃ E : Int, E = crE r := ⟨_, rfl⟩
  obtain ⟨C, hC⟩ : ∃ C : Int, C = crC r := ⟨_, rfl⟩
  obtain ⟨K, hK⟩ : ∃ K : Int, K = crK r := ⟨_, rfl⟩
  have HSP := hid (fun a1 b1 a2 b2 a3 c1 d1 c2 d2 c3 w' h => specCrR_any r a1 b1 a2 b2 a3 c1 d1 c2 d2 c3 w' h ht)
  have HIM := hid (fun a1 b1 a2 b2 a3 c1 d1 c2 d2 c3 w' h => implCrR_any r a1 b1 a2 b2 a3 c1 d1 c2 d2 c3 w' h ht)
  rw [← hE, ← hC, ← hK] at HSP HIM
  clear hE hC hK
  have hKK : (K != K) = false := by simp
  have p0 := cell_of_row _ _ 0 _ _ _ HX1.out
  have p1 := cell_of_row _ _ 1 _ _ _ HX1.out
  have p2 := cell_of_row _ _ 2 _ _ _ HX1.out
  have p3 := cell_of_row _ _ 3 _ _ _ HX1.out
  have p4 := cell_of_row _ _ 4 _ _ _ HX1.out
  have p5 := cell_of_row _ _ 5 _ _ _ HX1.out
  have p6 := cell_of_row _ _ 6 _ _ _ HX1.out
  have p7 := cell_of_row _ _ 7 _ _ _ HX1.out
  have p8 := cell_of_row _ _ 8 _ _ _ HX1.out
  have p9 := cell_of_row _ _ 9 _ _ _ HX1.out
  have p10 := cell_of_row _ _ 10 _ _ _ HX1.out
  have p11 := cell_of_row _ _ 11 _ _ _ HX1.out
  have p12 := cell_of_row _ _ 12 _ _ _ HX1.out
  simp only [List.getElem?_toArray, List.getElem?_cons_zero, List.getElem?_cons_succ] at p0 p1 p2 p3 p4 p5 p6 p7 p8 p9 p10 p11 p12
  go_wp2_with fail
  refine (toReceiver_any r a1 b1 a2 b2 a3 c1 d1 c2 d2 c3 w1 (HR.out.later B1) ht).mono ?_
  rintro e w2 ⟨a1y, c1y, b1y, d1y, a2y, c2y, b2y, d2y, a3y, c3y, bi2, di2, bs2, ds2, ts2, rfl, o2, -, -, bl2⟩
  have B2 := below_chain B1 bl2
  clear p0 p1 p2 p3 p4 p5 p6 p7 p8 p9 p10 p11 p12
  go_wp2_with fail
  refine (HSP.out a1y b1y a2y b2y a3y c1y d1y c2y d2y c3y w2 o2.rd).mono ?_
  rintro e w3 ⟨rfl, bl3⟩
  have B3 := below_chain B2 bl3
  have HX3 := hid (boxR HX1.out (below_chain bl2 bl3))
  have hb3 := below_new1 w3 (.cells #[.int .i64 E, .int .i64 C, .bool false, .int .i64 0, .int .i64 0, .slice none 0 0, .slice none 0 0, .bool false, .slice none 0 0, .int .i64 0, .slice none 0 0, .slice none 0 0, .int .i64 0] 43)
  have HW4 : Hid ((w3.alloc (.cells #[.int .i64 E, .int .i64 C, .bool false, .int .i64 0, .int .i64 0, .slice none 0 0, .slice none 0 0, .bool false, .slice none 0 0, .int .i64 0, .slice none 0 0, .slice none 0 0, .int .i64 0] 43)).heap[w3.heap.size]? = some (.cells #[.int .i64 E, .int .i64 C, .bool false, .int .i64 0, .int .i64 0, .slice none 0 0, .slice none 0 0, .bool false, .slice none 0 0, .int .i64 0, .slice none 0 0, .slice none 0 0, .int .i64 0] 43 (0, 0))) := hid (heap_alloc_new w3 _)
  have B4 := below_chain B3 hb3
  have HX4 := hid (boxR HX3.out hb3)
  clear o2
  have p0 := cell_of_row _ _ 0 _ _ _ HX4.out
  have p1 := cell_of_row _ _ 1 _ _ _ HX4.out
  have p2 := cell_of_row _ _ 2 _ _ _ HX4.out
  have p3 := cell_of_row _ _ 3 _ _ _ HX4.out
  have p4 := cell_of_row _ _ 4 _ _ _ HX4.out
  have p5 := cell_of_row _ _ 5 _ _ _ HX4.out
  have p6 := cell_of_row _ _ 6 _ _ _ HX4.out
  have p7 := cell_of_row _ _ 7 _ _ _ HX4.out
  have p8 := cell_of_row _ _ 8 _ _ _ HX4.out
  have p9 := cell_of_row _ _ 9 _ _ _ HX4.out
  have p10 := cell_of_row _ _ 10 _ _ _ HX4.out
  have p11 := cell_of_row _ _ 11 _ _ _ HX4.out
  have p12 := cell_of_row _ _ 12 _ _ _ HX4.out
  simp only [List.getElem?_toArray, List.getElem?_cons_zero, List.getElem?_cons_succ] at p0 p1 p2 p3 p4 p5 p6 p7 p8 p9 p10 p11 p12
  go_wp2_with fail
  generalize (w3.alloc (.cells #[.int .i64 E, .int .i64 C, .bool false, .int .i64 0, .int .i64 0, .slice none 0 0, .slice none 0 0, .bool false, .slice none 0 0, .int .i64 0, .slice none 0 0, .slice none 0 0, .int .i64 0] 43)) = w4 at *
  refine (toReceiver_any r a1 b1 a2 b2 a3 c1 d1 c2 d2 c3 w4 (HR.out.later B4) ht).mono ?_
  rintro e w5 ⟨a1x, c1x, b1x, d1x, a2x, c2x, b2x, d2x, a3x, c3x, biX, diX, bsX, dsX, tsX, rfl, oX, lX, nX, bl5⟩
  have B5 := below_chain B4 bl5
  have hb5 := below_new1 w5 (.cells #[.int .i64 r.epoch, .int .i64 r.count, .bool r.live, .int .i64 r.inn.epoch, .int .i64 r.inn.expect, .slice a1x r.inn.held.length c1x, .slice b1x r.inn.part.length d1x, .bool r.str.opened, .slice a2x r.str.fields.length c2x, .int .i64 r.str.next, .slice b2x r.str.dicts.length d2x, .slice a3x r.ready.length c3x, .int .i64 r.errors] 43)
  have HY6 : Hid ((w5.alloc (.cells #[.int .i64 r.epoch, .int .i64 r.count, .bool r.live, .int .i64 r.inn.epoch, .int .i64 r.inn.expect, .slice a1x r.inn.held.length c1x, .slice b1x r.inn.part.length d1x, .bool r.str.opened, .slice a2x r.str.fields.length c2x, .int .i64 r.str.next, .slice b2x r.str.dicts.length d2x, .slice a3x r.ready.length c3x, .int .i64 r.errors] 43)).heap[w5.heap.size]? = some (.cells #[.int .i64 r.epoch, .int .i64 r.count, .bool r.live, .int .i64 r.inn.epoch, .int .i64 r.inn.expect, .slice a1x r.inn.held.length c1x, .slice b1x r.inn.part.length d1x, .bool r.str.opened, .slice a2x r.str.fields.length c2x, .int .i64 r.str.next, .slice b2x r.str.dicts.length d2x, .slice a3x r.ready.length c3x, .int .i64 r.errors] 43 (0, 0))) := hid (heap_alloc_new w5 _)
  have F46 := below_chain bl5 hb5
  have B6 := below_chain B4 F46
  have HX6 := hid (boxR HX4.out F46)
  have HW6 := hid (boxR HW4.out F46)
  have hXlt : ∀ b ∈ (biX ++ diX) ++ ((bsX ++ dsX) ++ tsX), b < w5.heap.size := oX.lt
  have oX6 := oX.later hb5
  have HOX6 := hid oX6
  clear p0 p1 p2 p3 p4 p5 p6 p7 p8 p9 p10 p11 p12 oX oX6
  have hs45 := bl5.size
  have p0 := cell_of_row _ _ 0 _ _ _ HY6.out
  have p1 := cell_of_row _ _ 1 _ _ _ HY6.out
  have p2 := cell_of_row _ _ 2 _ _ _ HY6.out
  have p3 := cell_of_row _ _ 3 _ _ _ HY6.out
  have p4 := cell_of_row _ _ 4 _ _ _ HY6.out
  have p5 := cell_of_row _ _ 5 _ _ _ HY6.out
  have p6 := cell_of_row _ _ 6 _ _ _ HY6.out
  have p7 := cell_of_row _ _ 7 _ _ _ HY6.out
  have p8 := cell_of_row _ _ 8 _ _ _ HY6.out
  have p9 := cell_of_row _ _ 9 _ _ _ HY6.out
  have p10 := cell_of_row _ _ 10 _ _ _ HY6.out
  have p11 := cell_of_row _ _ 11 _ _ _ HY6.out
  have p12 := cell_of_row _ _ 12 _ _ _ HY6.out
  simp only [List.getElem?_toArray, List.getElem?_cons_zero, List.getElem?_cons_succ] at p0 p1 p2 p3 p4 p5 p6 p7 p8 p9 p10 p11 p12
  go_wp2_with fail
  generalize (w5.alloc (.cells #[.int .i64 r.epoch, .int .i64 r.count, .bool r.live, .int .i64 r.inn.epoch, .int .i64 r.inn.expect, .slice a1x r.inn.held.length c1x, .slice b1x r.inn.part.length d1x, .bool r.str.opened, .slice a2x r.str.fields.length c2x, .int .i64 r.str.next, .slice b2x r.str.dicts.length d2x, .slice a3x r.ready.length c3x, .int .i64 r.errors] 43)) = w6 at *
  refine (HIM.out a1x b1x a2x b2x a3x c1x d1x c2x d2x c3x w6 HOX6.out.rd).mono ?_
  rintro e w7 ⟨rfl, bl7⟩
  have hb7 := below_new1 w7 (.cells #[.int .i64 E, .int .i64 C, .bool false, .int .i64 0, .int .i64 0, .slice none 0 0, .slice none 0 0, .bool false, .slice none 0 0, .int .i64 0, .slice none 0 0, .slice none 0 0, .int .i64 0] 43)
  have HG8 : Hid ((w7.alloc (.cells #[.int .i64 E, .int .i64 C, .bool false, .int .i64 0, .int .i64 0, .slice none 0 0, .slice none 0 0, .bool false, .slice none 0 0, .int .i64 0, .slice none 0 0, .slice none 0 0, .int .i64 0] 43)).heap[w7.heap.size]? = some (.cells #[.int .i64 E, .int .i64 C, .bool false, .int .i64 0, .int .i64 0, .slice none 0 0, .slice none 0 0, .bool false, .slice none 0 0, .int .i64 0, .slice none 0 0, .slice none 0 0, .int .i64 0] 43 (0, 0))) := hid (heap_alloc_new w7 _)
  have F68 := below_chain bl7 hb7
  have B8 := below_chain B6 F68
  have HX8 := hid (boxR HX6.out F68)
  have HW8 := hid (boxR HW6.out F68)
  have HY8 := hid (boxR HY6.out F68)
  have HOX8 := hid (HOX6.out.later F68)
  have hs67 := bl7.size
  have hs56 := (Array.getElem?_eq_some_iff.1 HY6.out).1
  clear p0 p1 p2 p3 p4 p5 p6 p7 p8 p9 p10 p11 p12 HX6 HW6 HY6 HOX6
  have p0 := cell_of_row _ _ 0 _ _ _ HW8.out
  have p1 := cell_of_row _ _ 1 _ _ _ HW8.out
  have p2 := cell_of_row _ _ 2 _ _ _ HW8.out
  have p3 := cell_of_row _ _ 3 _ _ _ HW8.out
  have p4 := cell_of_row _ _ 4 _ _ _ HW8.out
  have p5 := cell_of_row _ _ 5 _ _ _ HW8.out
  have p6 := cell_of_row _ _ 6 _ _ _ HW8.out
  have p7 := cell_of_row _ _ 7 _ _ _ HW8.out
  have p8 := cell_of_row _ _ 8 _ _ _ HW8.out
  have p9 := cell_of_row _ _ 9 _ _ _ HW8.out
  have p10 := cell_of_row _ _ 10 _ _ _ HW8.out
  have p11 := cell_of_row _ _ 11 _ _ _ HW8.out
  have p12 := cell_of_row _ _ 12 _ _ _ HW8.out
  simp only [List.getElem?_toArray, List.getElem?_cons_zero, List.getElem?_cons_succ] at p0 p1 p2 p3 p4 p5 p6 p7 p8 p9 p10 p11 p12
  have q0 := cell_of_row _ _ 0 _ _ _ HG8.out
  have q1 := cell_of_row _ _ 1 _ _ _ HG8.out
  have q2 := cell_of_row _ _ 2 _ _ _ HG8.out
  have q3 := cell_of_row _ _ 3 _ _ _ HG8.out
  have q4 := cell_of_row _ _ 4 _ _ _ HG8.out
  have q5 := cell_of_row _ _ 5 _ _ _ HG8.out
  have q6 := cell_of_row _ _ 6 _ _ _ HG8.out
  have q7 := cell_of_row _ _ 7 _ _ _ HG8.out
  have q8 := cell_of_row _ _ 8 _ _ _ HG8.out
  have q9 := cell_of_row _ _ 9 _ _ _ HG8.out
  have q10 := cell_of_row _ _ 10 _ _ _ HG8.out
  have q11 := cell_of_row _ _ 11 _ _ _ HG8.out
  have q12 := cell_of_row _ _ 12 _ _ _ HG8.out
  simp only [List.getElem?_toArray, List.getElem?_cons_zero, List.getElem?_cons_succ] at q0 q1 q2 q3 q4 q5 q6 q7 q8 q9 q10 q11 q12
  go_wp2_with fail
  generalize (w7.alloc (.cells #[.int .i64 E, .int .i64 C, .bool false, .int .i64 0, .int .i64 0, .slice none 0 0, .slice none 0 0, .bool false, .slice none 0 0, .int .i64 0, .slice none 0 0, .slice none 0 0, .int .i64 0] 43)) = w8 at *
  refine (eqReceiver_any ⟨E, C, false, ⟨0, 0, [], []⟩, ⟨false, [], 0, []⟩, [], 0⟩ none none none none none 0 0 0 0 0 none none none none none 0 0 0 0 0 w8 (ownRcv_none E C w8).rd (ownRcv_none E C w8).rd (show (0 : Nat) ≤ 1048576 from by decide)).mono ?_
  rintro e w9 ⟨rfl, bl9⟩
  have B9 := below_chain B8 bl9
  have HX9 := hid (boxR HX8.out bl9)
  have HW9 := hid (boxR HW8.out bl9)
  have HY9 := hid (boxR HY8.out bl9)
  have HG9 := hid (boxR HG8.out bl9)
  have HOX9 := hid (HOX8.out.later bl9)
  have F49 := below_chain F46 (below_chain F68 bl9)
  clear p0 p1 p2 p3 p4 p5 p6 p7 p8 p9 p10 p11 p12 q0 q1 q2 q3 q4 q5 q6 q7 q8 q9 q10 q11 q12 HX8 HW8 HY8 HG8 HOX8
  have p0 := cell_of_row _ _ 0 _ _ _ HX9.out
  have p1 := cell_of_row _ _ 1 _ _ _ HX9.out
  have p2 := cell_of_row _ _ 2 _ _ _ HX9.out
  have p3 := cell_of_row _ _ 3 _ _ _ HX9.out
  have p4 := cell_of_row _ _ 4 _ _ _ HX9.out
  have p5 := cell_of_row _ _ 5 _ _ _ HX9.out
  have p6 := cell_of_row _ _ 6 _ _ _ HX9.out
  have p7 := cell_of_row _ _ 7 _ _ _ HX9.out
  have p8 := cell_of_row _ _ 8 _ _ _ HX9.out
  have p9 := cell_of_row _ _ 9 _ _ _ HX9.out
  have p10 := cell_of_row _ _ 10 _ _ _ HX9.out
  have p11 := cell_of_row _ _ 11 _ _ _ HX9.out
  have p12 := cell_of_row _ _ 12 _ _ _ HX9.out
  simp only [List.getElem?_toArray, List.getElem?_cons_zero, List.getElem?_cons_succ] at p0 p1 p2 p3 p4 p5 p6 p7 p8 p9 p10 p11 p12
  have q0 := cell_of_row _ _ 0 _ _ _ HY9.out
  have q1 := cell_of_row _ _ 1 _ _ _ HY9.out
  have q2 := cell_of_row _ _ 2 _ _ _ HY9.out
  have q3 := cell_of_row _ _ 3 _ _ _ HY9.out
  have q4 := cell_of_row _ _ 4 _ _ _ HY9.out
  have q5 := cell_of_row _ _ 5 _ _ _ HY9.out
  have q6 := cell_of_row _ _ 6 _ _ _ HY9.out
  have q7 := cell_of_row _ _ 7 _ _ _ HY9.out
  have q8 := cell_of_row _ _ 8 _ _ _ HY9.out
  have q9 := cell_of_row _ _ 9 _ _ _ HY9.out
  have q10 := cell_of_row _ _ 10 _ _ _ HY9.out
  have q11 := cell_of_row _ _ 11 _ _ _ HY9.out
  have q12 := cell_of_row _ _ 12 _ _ _ HY9.out
  simp only [List.getElem?_toArray, List.getElem?_cons_zero, List.getElem?_cons_succ] at q0 q1 q2 q3 q4 q5 q6 q7 q8 q9 q10 q11 q12
  have HT7 : Hid (Calls Tryz.prog 10 #[.agg #[.int .i64 r.epoch, .int .i64 r.count, .bool r.live, .int .i64 r.inn.epoch, .int .i64 r.inn.expect, .slice a1 r.inn.held.length c1, .slice b1 r.inn.part.length d1, .bool r.str.opened, .slice a2 r.str.fields.length c2, .int .i64 r.str.next, .slice b2 r.str.dicts.length d2, .slice a3 r.ready.length c3, .int .i64 r.errors]] w9.drew fun e w8 => ∃ a1z c1z b1z d1z a2z c2z b2z d2z a3z c3z, e = .returned (.agg #[.int .i64 r.epoch, .int .i64 r.count, .bool r.live, .int .i64 r.inn.epoch, .int .i64 r.inn.expect, .slice a1z r.inn.held.length c1z, .slice b1z r.inn.part.length d1z, .bool r.str.opened, .slice a2z r.str.fields.length c2z, .int .i64 r.str.next, .slice b2z r.str.dicts.length d2z, .slice a3z r.ready.length c3z, .int .i64 r.errors]) ∧ Hid (RdRcv w8 r a1z c1z b1z d1z a2z c2z b2z d2z a3z c3z) ∧ Hid (Below w9.heap.size w9 w8) ∧ BoxC w8 w.heap.size r a1 b1 a2 b2 a3 c1 d1 c2 d2 c3 ∧ BoxC w8 w5.heap.size r a1x b1x a2x b2x a3x c1x d1x c2x d2x c3x) := hid (by
    refine (toReceiver_any r a1 b1 a2 b2 a3 c1 d1 c2 d2 c3 w9.drew (HR.out.later B9.drew) ht).mono ?_
    rintro e w8 ⟨a1z, c1z, b1z, d1z, a2z, c2z, b2z, d2z, a3z, c3z, bi8, di8, bs8, ds8, ts8, rfl, o8, -, -, bl8⟩
    have bl := (Below.refl _ w9).drew.trans bl8
    exact ⟨a1z, c1z, b1z, d1z, a2z, c2z, b2z, d2z, a3z, c3z, rfl, hid o8.rd, hid bl, boxC_of (boxR HX9.out bl), boxC_of (boxR HY9.out bl)⟩)
  have HE7 : Hid (∀ w8 a1z c1z b1z d1z a2z c2z b2z d2z a3z c3z, Hid (RdRcv w8 r a1z c1z b1z d1z a2z c2z b2z d2z a3z c3z) → Hid (Below w9.heap.size w9 w8) → Calls Tryz.prog 12 #[.agg #[.int .i64 r.epoch, .int .i64 r.count, .bool r.live, .int .i64 r.inn.epoch, .int .i64 r.inn.expect, .slice a1x r.inn.held.length c1x, .slice b1x r.inn.part.length d1x, .bool r.str.opened, .slice a2x r.str.fields.length c2x, .int .i64 r.str.next, .slice b2x r.str.dicts.length d2x, .slice a3x r.ready.length c3x, .int .i64 r.errors], .agg #[.int .i64 r.epoch, .int .i64 r.count, .bool r.live, .int .i64 r.inn.epoch, .int .i64 r.inn.expect, .slice a1z r.inn.held.length c1z, .slice b1z r.inn.part.length d1z, .bool r.str.opened, .slice a2z r.str.fields.length c2z, .int .i64 r.str.next, .slice b2z r.str.dicts.length d2z, .slice a3z r.ready.length c3z, .int .i64 r.errors]] w8 fun e wx => e = .returned (.bool true) ∧ Hid (Below w9.heap.size w9 wx) ∧ BoxC wx w.heap.size r a1 b1 a2 b2 a3 c1 d1 c2 d2 c3 ∧ BoxC wx w5.heap.size r a1x b1x a2x b2x a3x c1x d1x c2x d2x c3x) := hid (fun w8 a1z c1z b1z d1z a2z c2z b2z d2z a3z c3z h8 hb => by
    refine (eqReceiver_any r a1x b1x a2x b2x a3x c1x d1x c2x d2x c3x a1z b1z a2z b2z a3z c1z d1z c2z d2z c3z w8 (HOX9.out.rd.later hb.out) h8.out ht).mono ?_
    rintro e wx ⟨rfl, bl9⟩
    have bl := below_chain hb.out bl9
    exact ⟨rfl, hid bl, boxC_of (boxR HX9.out bl), boxC_of (boxR HY9.out bl)⟩)
  go_wp2
  (go_region_held3 (fun w' => w'.cell? ⟨w.heap.size, 0, none⟩ = some (.int .i64 r.epoch) ∧ w'.cell? ⟨w.heap.size, 1, none⟩ = some (.int .i64 r.count) ∧ w'.cell? ⟨w.heap.size, 2, none⟩ = some (.bool r.live) ∧ w'.cell? ⟨w.heap.size, 3, none⟩ = some (.int .i64 r.inn.epoch) ∧ w'.cell? ⟨w.heap.size, 4, none⟩ = some (.int .i64 r.inn.expect) ∧ w'.cell? ⟨w.heap.size, 5, none⟩ = some (.slice a1 r.inn.held.length c1) ∧ w'.cell? ⟨w.heap.size, 6, none⟩ = some (.slice b1 r.inn.part.length d1) ∧ w'.cell? ⟨w.heap.size, 7, none⟩ = some (.bool r.str.opened) ∧ w'.cell? ⟨w.heap.size, 8, none⟩ = some (.slice a2 r.str.fields.length c2) ∧ w'.cell? ⟨w.heap.size, 9, none⟩ = some (.int .i64 r.str.next) ∧ w'.cell? ⟨w.heap.size, 10, none⟩ = some (.slice b2 r.str.dicts.length d2) ∧ w'.cell? ⟨w.heap.size, 11, none⟩ = some (.slice a3 r.ready.length c3) ∧ w'.cell? ⟨w.heap.size, 12, none⟩ = some (.int .i64 r.errors) ∧ w'.cell? ⟨w5.heap.size, 0, none⟩ = some (.int .i64 r.epoch) ∧ w'.cell? ⟨w5.heap.size, 1, none⟩ = some (.int .i64 r.count) ∧ w'.cell? ⟨w5.heap.size, 2, none⟩ = some (.bool r.live) ∧ w'.cell? ⟨w5.heap.size, 3, none⟩ = some (.int .i64 r.inn.epoch) ∧ w'.cell? ⟨w5.heap.size, 4, none⟩ = some (.int .i64 r.inn.expect) ∧ w'.cell? ⟨w5.heap.size, 5, none⟩ = some (.slice a1x r.inn.held.length c1x) ∧ w'.cell? ⟨w5.heap.size, 6, none⟩ = some (.slice b1x r.inn.part.length d1x) ∧ w'.cell? ⟨w5.heap.size, 7, none⟩ = some (.bool r.str.opened) ∧ w'.cell? ⟨w5.heap.size, 8, none⟩ = some (.slice a2x r.str.fields.length c2x) ∧ w'.cell? ⟨w5.heap.size, 9, none⟩ = some (.int .i64 r.str.next) ∧ w'.cell? ⟨w5.heap.size, 10, none⟩ = some (.slice b2x r.str.dicts.length d2x) ∧ w'.cell? ⟨w5.heap.size, 11, none⟩ = some (.slice a3x r.ready.length c3x) ∧ w'.cell? ⟨w5.heap.size, 12, none⟩ = some (.int .i64 r.errors)) (go_keep) (first
    | (go_at_call 10; refine HT7.out.mono ?_; rintro e w10 ⟨a1z, c1z, b1z, d1z, a2z, c2z, b2z, d2z, a3z, c3z, rfl, hr8, hb8, ⟨xx0, xx1, xx2, xx3, xx4, xx5, xx6, xx7, xx8, xx9, xx10, xx11, xx12⟩, ⟨yy0, yy1, yy2, yy3, yy4, yy5, yy6, yy7, yy8, yy9, yy10, yy11, yy12⟩⟩)
    | (go_at_call 12; refine (HE7.out _ a1z c1z b1z d1z a2z c2z b2z d2z a3z c3z hr8 hb8).mono ?_; rintro e w11 ⟨rfl, hb9, ⟨zz0, zz1, zz2, zz3, zz4, zz5, zz6, zz7, zz8, zz9, zz10, zz11, zz12⟩, ⟨uu0, uu1, uu2, uu3, uu4, uu5, uu6, uu7, uu8, uu9, uu10, uu11, uu12⟩⟩)))
  clear p0 p1 p2 p3 p4 p5 p6 p7 p8 p9 p10 p11 p12 q0 q1 q2 q3 q4 q5 q6 q7 q8 q9 q10 q11 q12 zz0 zz1 zz2 zz3 zz4 zz5 zz6 zz7 zz8 zz9 zz10 zz11 zz12 uu0 uu1 uu2 uu3 uu4 uu5 uu6 uu7 uu8 uu9 uu10 uu11 uu12 HT7 HE7
  have b11 := hb9.out
  clear hb9
  have B11 := below_chain B9 b11
  have HX11 := hid (boxR HX9.out b11)
  have HW11 := hid (boxR HW9.out b11)
  have HY11 := hid (boxR HY9.out b11)
  have HG11 := hid (boxR HG9.out b11)
  have HOX11 := hid (HOX9.out.later b11)
  have F411 := below_chain F49 b11
  clear HX9 HW9 HY9 HG9 HOX9 b11
  have q0 := cell_of_row _ _ 0 _ _ _ HY11.out
  have q1 := cell_of_row _ _ 1 _ _ _ HY11.out
  have q2 := cell_of_row _ _ 2 _ _ _ HY11.out
  have q3 := cell_of_row _ _ 3 _ _ _ HY11.out
  have q4 := cell_of_row _ _ 4 _ _ _ HY11.out
  have q5 := cell_of_row _ _ 5 _ _ _ HY11.out
  have q6 := cell_of_row _ _ 6 _ _ _ HY11.out
  have q7 := cell_of_row _ _ 7 _ _ _ HY11.out
  have q8 := cell_of_row _ _ 8 _ _ _ HY11.out
  have q9 := cell_of_row _ _ 9 _ _ _ HY11.out
  have q10 := cell_of_row _ _ 10 _ _ _ HY11.out
  have q11 := cell_of_row _ _ 11 _ _ _ HY11.out
  have q12 := cell_of_row _ _ 12 _ _ _ HY11.out
  simp only [List.getElem?_toArray, List.getElem?_cons_zero, List.getElem?_cons_succ] at q0 q1 q2 q3 q4 q5 q6 q7 q8 q9 q10 q11 q12
  go_wp2_with fail
  refine (markRcv_only r a1x b1x a2x b2x a3x c1x d1x c2x d2x c3x biX diX bsX dsX tsX 1 _ HOX11.out nX ht (by omega)).mono ?_
  rintro e w12 ⟨kq, rfl, hkq, on12⟩
  have F412 : Below w4.heap.size w4 w12 := Only.chain F411 on12 lX (Nat.le_refl _)
  have B12 : Below w.heap.size w w12 := Only.chain B11 on12 (fun b hb => by have := lX b hb; have := B4.size; omega) (Nat.le_refl _)
  have HX12 := hid (boxR HX4.out F412)
  have HW12 := hid (boxR HW4.out F412)
  have HG12 : Hid (w12.heap[w7.heap.size]? = _) := hid ((on12.block _ (Array.getElem?_eq_some_iff.1 HG11.out).1 (fun h => by have := hXlt _ h; omega)).trans HG11.out)
  clear on12 q0 q1 q2 q3 q4 q5 q6 q7 q8 q9 q10 q11 q12 HX11 HW11 HY11 HG11 HOX11
  have hk0 : decide ((kq : Int) < 0) = false := decide_eq_false (by omega)
  have p0 := cell_of_row _ _ 0 _ _ _ HW12.out
  have p1 := cell_of_row _ _ 1 _ _ _ HW12.out
  have p2 := cell_of_row _ _ 2 _ _ _ HW12.out
  have p3 := cell_of_row _ _ 3 _ _ _ HW12.out
  have p4 := cell_of_row _ _ 4 _ _ _ HW12.out
  have p5 := cell_of_row _ _ 5 _ _ _ HW12.out
  have p6 := cell_of_row _ _ 6 _ _ _ HW12.out
  have p7 := cell_of_row _ _ 7 _ _ _ HW12.out
  have p8 := cell_of_row _ _ 8 _ _ _ HW12.out
  have p9 := cell_of_row _ _ 9 _ _ _ HW12.out
  have p10 := cell_of_row _ _ 10 _ _ _ HW12.out
  have p11 := cell_of_row _ _ 11 _ _ _ HW12.out
  have p12 := cell_of_row _ _ 12 _ _ _ HW12.out
  simp only [List.getElem?_toArray, List.getElem?_cons_zero, List.getElem?_cons_succ] at p0 p1 p2 p3 p4 p5 p6 p7 p8 p9 p10 p11 p12
  have q0 := cell_of_row _ _ 0 _ _ _ HG12.out
  have q1 := cell_of_row _ _ 1 _ _ _ HG12.out
  have q2 := cell_of_row _ _ 2 _ _ _ HG12.out
  have q3 := cell_of_row _ _ 3 _ _ _ HG12.out
  have q4 := cell_of_row _ _ 4 _ _ _ HG12.out
  have q5 := cell_of_row _ _ 5 _ _ _ HG12.out
  have q6 := cell_of_row _ _ 6 _ _ _ HG12.out
  have q7 := cell_of_row _ _ 7 _ _ _ HG12.out
  have q8 := cell_of_row _ _ 8 _ _ _ HG12.out
  have q9 := cell_of_row _ _ 9 _ _ _ HG12.out
  have q10 := cell_of_row _ _ 10 _ _ _ HG12.out
  have q11 := cell_of_row _ _ 11 _ _ _ HG12.out
  have q12 := cell_of_row _ _ 12 _ _ _ HG12.out
  simp only [List.getElem?_toArray, List.getElem?_cons_zero, List.getElem?_cons_succ] at q0 q1 q2 q3 q4 q5 q6 q7 q8 q9 q10 q11 q12
  go_wp2_with fail
  refine (eqReceiver_any ⟨E, C, false, ⟨0, 0, [], []⟩, ⟨false, [], 0, []⟩, [], 0⟩ none none none none none 0 0 0 0 0 none none none none none 0 0 0 0 0 w12 (ownRcv_none E C w12).rd (ownRcv_none E C w12).rd (show (0 : Nat) ≤ 1048576 from by decide)).mono ?_
  rintro e w13 ⟨rfl, bl13⟩
  have B13 := below_chain B12 bl13
  have F413 := below_chain F412 bl13
  have HG13 := hid (boxR HG12.out bl13)
  clear p0 p1 p2 p3 p4 p5 p6 p7 p8 p9 p10 p11 p12 q0 q1 q2 q3 q4 q5 q6 q7 q8 q9 q10 q11 q12 HG12
  have q0 := cell_of_row _ _ 0 _ _ _ HG13.out
  have q1 := cell_of_row _ _ 1 _ _ _ HG13.out
  have q2 := cell_of_row _ _ 2 _ _ _ HG13.out
  have q3 := cell_of_row _ _ 3 _ _ _ HG13.out
  have q4 := cell_of_row _ _ 4 _ _ _ HG13.out
  have q5 := cell_of_row _ _ 5 _ _ _ HG13.out
  have q6 := cell_of_row _ _ 6 _ _ _ HG13.out
  have q7 := cell_of_row _ _ 7 _ _ _ HG13.out
  have q8 := cell_of_row _ _ 8 _ _ _ HG13.out
  have q9 := cell_of_row _ _ 9 _ _ _ HG13.out
  have q10 := cell_of_row _ _ 10 _ _ _ HG13.out
  have q11 := cell_of_row _ _ 11 _ _ _ HG13.out
  have q12 := cell_of_row _ _ 12 _ _ _ HG13.out
  simp only [List.getElem?_toArray, List.getElem?_cons_zero, List.getElem?_cons_succ] at q0 q1 q2 q3 q4 q5 q6 q7 q8 q9 q10 q11 q12
  go_wp2_with fail
  refine (markRcv_none E C w13).mono ?_
  rintro e w14 ⟨rfl, on14⟩
  have B14 : Below w.heap.size w w14 := Only.chain B13 on14 (fun b hb => (List.not_mem_nil hb).elim) (Nat.le_refl _)
  have F414 : Below w4.heap.size w4 w14 := Only.chain F413 on14 (fun b hb => (List.not_mem_nil hb).elim) (Nat.le_refl _)
  have HG14 : Hid (w14.heap[w7.heap.size]? = _) := hid ((on14.block _ (Array.getElem?_eq_some_iff.1 HG13.out).1 List.not_mem_nil).trans HG13.out)
  clear on14 q0 q1 q2 q3 q4 q5 q6 q7 q8 q9 q10 q11 q12 HG13
  have q0 := cell_of_row _ _ 0 _ _ _ HG14.out
  have q1 := cell_of_row _ _ 1 _ _ _ HG14.out
  have q2 := cell_of_row _ _ 2 _ _ _ HG14.out
  have q3 := cell_of_row _ _ 3 _ _ _ HG14.out
  have q4 := cell_of_row _ _ 4 _ _ _ HG14.out
  have q5 := cell_of_row _ _ 5 _ _ _ HG14.out
  have q6 := cell_of_row _ _ 6 _ _ _ HG14.out
  have q7 := cell_of_row _ _ 7 _ _ _ HG14.out
  have q8 := cell_of_row _ _ 8 _ _ _ HG14.out
  have q9 := cell_of_row _ _ 9 _ _ _ HG14.out
  have q10 := cell_of_row _ _ 10 _ _ _ HG14.out
  have q11 := cell_of_row _ _ 11 _ _ _ HG14.out
  have q12 := cell_of_row _ _ 12 _ _ _ HG14.out
  simp only [List.getElem?_toArray, List.getElem?_cons_zero, List.getElem?_cons_succ] at q0 q1 q2 q3 q4 q5 q6 q7 q8 q9 q10 q11 q12
  go_wp2_with fail
  refine (heldRcv_none E C w14).mono ?_
  rintro e w15 ⟨rfl, bl15⟩
  have B15 := below_chain B14 bl15
  have F415 := below_chain F414 bl15
  have HX15 := hid (boxR HX4.out F415)
  clear q0 q1 q2 q3 q4 q5 q6 q7 q8 q9 q10 q11 q12 HG14
  have p0 := cell_of_row _ _ 0 _ _ _ HX15.out
  have p1 := cell_of_row _ _ 1 _ _ _ HX15.out
  have p2 := cell_of_row _ _ 2 _ _ _ HX15.out
  have p3 := cell_of_row _ _ 3 _ _ _ HX15.out
  have p4 := cell_of_row _ _ 4 _ _ _ HX15.out
  have p5 := cell_of_row _ _ 5 _ _ _ HX15.out
  have p6 := cell_of_row _ _ 6 _ _ _ HX15.out
  have p7 := cell_of_row _ _ 7 _ _ _ HX15.out
  have p8 := cell_of_row _ _ 8 _ _ _ HX15.out
  have p9 := cell_of_row _ _ 9 _ _ _ HX15.out
  have p10 := cell_of_row _ _ 10 _ _ _ HX15.out
  have p11 := cell_of_row _ _ 11 _ _ _ HX15.out
  have p12 := cell_of_row _ _ 12 _ _ _ HX15.out
  simp only [List.getElem?_toArray, List.getElem?_cons_zero, List.getElem?_cons_succ] at p0 p1 p2 p3 p4 p5 p6 p7 p8 p9 p10 p11 p12
  go_wp2_with fail
  refine (toReceiver_any r a1 b1 a2 b2 a3 c1 d1 c2 d2 c3 w15 (HR.out.later B15) ht).mono ?_
  rintro e w16 ⟨a1u, c1u, b1u, d1u, a2u, c2u, b2u, d2u, a3u, c3u, bi6, di6, bs6, ds6, ts6, rfl, o16, -, -, bl16⟩
  have B16 := below_chain B15 bl16
  have F416 := below_chain F415 bl16
  clear p0 p1 p2 p3 p4 p5 p6 p7 p8 p9 p10 p11 p12
  go_wp2_with fail
  refine (HIM.out a1u b1u a2u b2u a3u c1u d1u c2u d2u c3u w16 o16.rd).mono ?_
  rintro e w17 ⟨rfl, bl17⟩
  have hb17 := below_new1 w17 (.cells #[.int .i64 E, .int .i64 C, .bool false, .int .i64 0, .int .i64 0, .slice none 0 0, .slice none 0 0, .bool false, .slice none 0 0, .int .i64 0, .slice none 0 0, .slice none 0 0, .int .i64 0] 43)
  have HH18 : Hid ((w17.alloc (.cells #[.int .i64 E, .int .i64 C, .bool false, .int .i64 0, .int .i64 0, .slice none 0 0, .slice none 0 0, .bool false, .slice none 0 0, .int .i64 0, .slice none 0 0, .slice none 0 0, .int .i64 0] 43)).heap[w17.heap.size]? = some (.cells #[.int .i64 E, .int .i64 C, .bool false, .int .i64 0, .int .i64 0, .slice none 0 0, .slice none 0 0, .bool false, .slice none 0 0, .int .i64 0, .slice none 0 0, .slice none 0 0, .int .i64 0] 43 (0, 0))) := hid (heap_alloc_new w17 _)
  have B18 := below_chain B16 (below_chain bl17 hb17)
  have HW18 := hid (boxR HW4.out (below_chain F416 (below_chain bl17 hb17)))
  have p0 := cell_of_row _ _ 0 _ _ _ HW18.out
  have p1 := cell_of_row _ _ 1 _ _ _ HW18.out
  have p2 := cell_of_row _ _ 2 _ _ _ HW18.out
  have p3 := cell_of_row _ _ 3 _ _ _ HW18.out
  have p4 := cell_of_row _ _ 4 _ _ _ HW18.out
  have p5 := cell_of_row _ _ 5 _ _ _ HW18.out
  have p6 := cell_of_row _ _ 6 _ _ _ HW18.out
  have p7 := cell_of_row _ _ 7 _ _ _ HW18.out
  have p8 := cell_of_row _ _ 8 _ _ _ HW18.out
  have p9 := cell_of_row _ _ 9 _ _ _ HW18.out
  have p10 := cell_of_row _ _ 10 _ _ _ HW18.out
  have p11 := cell_of_row _ _ 11 _ _ _ HW18.out
  have p12 := cell_of_row _ _ 12 _ _ _ HW18.out
  simp only [List.getElem?_toArray, List.getElem?_cons_zero, List.getElem?_cons_succ] at p0 p1 p2 p3 p4 p5 p6 p7 p8 p9 p10 p11 p12
  have q0 := cell_of_row _ _ 0 _ _ _ HH18.out
  have q1 := cell_of_row _ _ 1 _ _ _ HH18.out
  have q2 := cell_of_row _ _ 2 _ _ _ HH18.out
  have q3 := cell_of_row _ _ 3 _ _ _ HH18.out
  have q4 := cell_of_row _ _ 4 _ _ _ HH18.out
  have q5 := cell_of_row _ _ 5 _ _ _ HH18.out
  have q6 := cell_of_row _ _ 6 _ _ _ HH18.out
  have q7 := cell_of_row _ _ 7 _ _ _ HH18.out
  have q8 := cell_of_row _ _ 8 _ _ _ HH18.out
  have q9 := cell_of_row _ _ 9 _ _ _ HH18.out
  have q10 := cell_of_row _ _ 10 _ _ _ HH18.out
  have q11 := cell_of_row _ _ 11 _ _ _ HH18.out
  have q12 := cell_of_row _ _ 12 _ _ _ HH18.out
  simp only [List.getElem?_toArray, List.getElem?_cons_zero, List.getElem?_cons_succ] at q0 q1 q2 q3 q4 q5 q6 q7 q8 q9 q10 q11 q12
  go_wp2_with fail
  generalize (w17.alloc (.cells #[.int .i64 E, .int .i64 C, .bool false, .int .i64 0, .int .i64 0, .slice none 0 0, .slice none 0 0, .bool false, .slice none 0 0, .int .i64 0, .slice none 0 0, .slice none 0 0, .int .i64 0] 43)) = w18 at *
  refine (eqReceiver_any ⟨E, C, false, ⟨0, 0, [], []⟩, ⟨false, [], 0, []⟩, [], 0⟩ none none none none none 0 0 0 0 0 none none none none none 0 0 0 0 0 w18 (ownRcv_none E C w18).rd (ownRcv_none E C w18).rd (show (0 : Nat) ≤ 1048576 from by decide)).mono ?_
  rintro e w19 ⟨rfl, bl19⟩
  have B19 := below_chain B18 bl19
  clear p0 p1 p2 p3 p4 p5 p6 p7 p8 p9 p10 p11 p12 q0 q1 q2 q3 q4 q5 q6 q7 q8 q9 q10 q11 q12
  go_wp2
  go_ret
  exact ⟨rfl, B19⟩
end Go.Proofs.YtfaehioeepolhaaGreat
