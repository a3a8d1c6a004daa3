import Derived.Test.YtfaehioeepolhaaGreatJPoll13
import Derived.Test.YtfaehioeepolhaaGreatJPoll36
import Derived.Test.YtfaehioeepolhaaGreatJPoll47
import Derived.Test.YtfaehioeepolhaaGreatJPoll52
import Derived.Test.YtfaehioeepolhaaGreatJPoll0
import Derived.Deep.RegionHeld3
namespace Go.Proofs.YtfaehioeepolhaaGreat
open Go.RowKit
abbrev BoxP (w' : World) (g : Nat) (r : PRcv) (a1 b1 a2 b2 a3 : Option Addr) (c1 d1 c2 d2 c3 : Nat) : Prop :=
  w'.cell? ⟨g, 0, none⟩ = some (.int .i64 r.epoch) ∧ w'.cell? ⟨g, 1, none⟩ = some (.int .i64 r.count) ∧ w'.cell? ⟨g, 2, none⟩ = some (.bool r.live) ∧ w'.cell? ⟨g, 3, none⟩ = some (.int .i64 r.inn.epoch) ∧ w'.cell? ⟨g, 4, none⟩ = some (.int .i64 r.inn.expect) ∧ w'.cell? ⟨g, 5, none⟩ = some (.slice a1 r.inn.held.length c1) ∧ w'.cell? ⟨g, 6, none⟩ = some (.slice b1 r.inn.part.length d1) ∧ w'.cell? ⟨g, 7, none⟩ = some (.bool r.str.opened) ∧ w'.cell? ⟨g, 8, none⟩ = some (.slice a2 r.str.fields.length c2) ∧ w'.cell? ⟨g, 9, none⟩ = some (.int .i64 r.str.next) ∧ w'.cell? ⟨g, 10, none⟩ = some (.slice b2 r.str.dicts.length d2) ∧ w'.cell? ⟨g, 11, none⟩ = some (.slice a3 r.ready.length c3) ∧ w'.cell? ⟨g, 12, none⟩ = some (.int .i64 r.errors)
theorem boxP_of {w : World} {g : Nat} {e : TypeId} {r : PRcv} {a1 b1 a2 b2 a3 : Option Addr} {c1 d1 c2 d2 c3 : Nat} (hh : w.heap[g]? = some (.cells #[.int .i64 r.epoch, .int .i64 r.count, .bool r.live, .int .i64 r.inn.epoch, .int .i64 r.inn.expect, .slice a1 r.inn.held.length c1, .slice b1 r.inn.part.length d1, .bool r.str.opened, .slice a2 r.str.fields.length c2, .int .i64 r.str.next, .slice b2 r.str.dicts.length d2, .slice a3 r.ready.length c3, .int .i64 r.errors] e (0, 0))) : BoxP w g r a1 b1 a2 b2 a3 c1 d1 c2 d2 c3 := by
  have p0 := cell_of_row _ _ 0 _ _ _ hh
  have p1 := cell_of_row _ _ 1 _ _ _ hh
  have p2 := cell_of_row _ _ 2 _ _ _ hh
  have p3 := cell_of_row _ _ 3 _ _ _ hh
  have p4 := cell_of_row _ _ 4 _ _ _ hh
  have p5 := cell_of_row _ _ 5 _ _ _ hh
  have p6 := cell_of_row _ _ 6 _ _ _ hh
  have p7 := cell_of_row _ _ 7 _ _ _ hh
  have p8 := cell_of_row _ _ 8 _ _ _ hh
  have p9 := cell_of_row _ _ 9 _ _ _ hh
  have p10 := cell_of_row _ _ 10 _ _ _ hh
  have p11 := cell_of_row _ _ 11 _ _ _ hh
  have p12 := cell_of_row _ _ 12 _ _ _ hh
  simp only [List.getElem?_toArray, List.getElem?_cons_zero, List.getElem?_cons_succ] at p0 p1 p2 p3 p4 p5 p6 p7 p8 p9 p10 p11 p12
  exact ⟨p0, p1, p2, p3, p4, p5, p6, p7, p8, p9, p10, p11, p12⟩
theorem OwnRcv.ltP {w : World} {r : PRcv} {a1 b1 a2 b2 a3 : Option Addr} {c1 d1 c2 d2 c3 : Nat} {bi di bs ds ts : List Nat} (h : OwnRcv w r a1 c1 b1 d1 a2 c2 b2 d2 a3 c3 bi di bs ds ts) : ∀ y ∈ (bi ++ di) ++ ((bs ++ ds) ++ ts), y < w.heap.size := fun y hy => by
  rcases List.mem_append.1 hy with k | k
  · exact ltI h.i y k
  · rcases List.mem_append.1 k with k | k
    · exact ltS h.s y k
    · exact h.t.lt y k
theorem OwnRcv.keptP {w w' : World} {r : PRcv} {a1 b1 a2 b2 a3 : Option Addr} {c1 d1 c2 d2 c3 : Nat} {bi di bs ds ts : List Nat} (h : OwnRcv w r a1 c1 b1 d1 a2 c2 b2 d2 a3 c3 bi di bs ds ts) (hk : ∀ y ∈ (bi ++ di) ++ ((bs ++ ds) ++ ts), w'.heap[y]? = w.heap[y]?) : OwnRcv w' r a1 c1 b1 d1 a2 c2 b2 d2 a3 c3 bi di bs ds ts := ⟨keptI h.i (fun x hx => hk x (List.mem_append_left _ hx)), keptS h.s (fun x hx => hk x (List.mem_append_right _ (List.mem_append_left _ hx))), h.t.kept (fun x hx => hk x (List.mem_append_right _ (List.mem_append_right _ hx)))⟩
theorem OwnRcv.laterP {w w' : World} {r : PRcv} {a1 b1 a2 b2 a3 : Option Addr} {c1 d1 c2 d2 c3 : Nat} {bi di bs ds ts : List Nat} (h : OwnRcv w r a1 c1 b1 d1 a2 c2 b2 d2 a3 c3 bi di bs ds ts) (hb : Below w.heap.size w w') : OwnRcv w' r a1 c1 b1 d1 a2 c2 b2 d2 a3 c3 bi di bs ds ts := h.keptP (fun x hx => hb.block x (h.ltP x hx))
theorem ownT_later {w w' : World} {ts : List PT} {v : Value} {bs : List Nat} (h : OwnSl cTable 111 w ts v bs) (hb : Below w.heap.size w w') : OwnSl cTable 111 w' ts v bs := h.kept (fun x hx => hb.block x (h.lt x hx))
theorem nRcv_le (r : PRcv) (ht : tRcv r ≤ 1048576) : nRcv r ≤ 67108864 := by
  have hT : totL pN r.inn.held ≤ 1048576 ∧ r.inn.part.length ≤ 1048576 ∧ totL fN r.str.fields ≤ 1048576 ∧ totL tS r.str.dicts ≤ 1048576 ∧ totL totT r.ready ≤ 1048576 := by unfold tRcv tIn tStr at ht; omega
  have hS1 : sumL kT r.inn.held ≤ 8388608 := by have h1 := kT_le r.inn.held; have h2 := hT.1; unfold totL at h2; omega
  have hS2 : fT r.str.fields ≤ 4194304 := by have h1 := fT_le r.str.fields; have h2 := hT.2.2.1; unfold totL fN at h2; omega
  have hS3 := sumT_le _ hT.2.2.2.1
  have hS4 : sumL hT_ r.ready ≤ 8388608 := by have h1 := hT_le r.ready; have h2 := hT.2.2.2.2; unfold totL at h1 h2; omega
  unfold nRcv
  omega
set_option maxRecDepth 100000 in
set_option maxHeartbeats 32000000 in
theorem poll_walk (v : Value) (w : World) (h : ReceiverIn w v) :
    Calls Tryz.prog 7 #[v] w fun e w' => e = .returned (.bool true) ∧ Below w.heap.size w w' := by
  obtain ⟨r, a1, b1, a2, b2, a3, c1, d1, c2, d2, c3, rfl, hr, -⟩ := h
  have HR := hid hr
  clear hr
  have hb0 := below_new1 w (.cells #[.int .i64 r.epoch, .int .i64 r.count, .bool r.live, .int .i64 r.inn.epoch, .int .i64 r.inn.expect, .slice a1 r.inn.held.length c1, .slice b1 r.inn.part.length d1, .bool r.str.opened, .slice a2 r.str.fields.length c2, .int .i64 r.str.next, .slice b2 r.str.dicts.length d2, .slice a3 r.ready.length c3, .int .i64 r.errors] 32)
  have HX0 : Hid ((w.alloc (.cells #[.int .i64 r.epoch, .int .i64 r.count, .bool r.live, .int .i64 r.inn.epoch, .int .i64 r.inn.expect, .slice a1 r.inn.held.length c1, .slice b1 r.inn.part.length d1, .bool r.str.opened, .slice a2 r.str.fields.length c2, .int .i64 r.str.next, .slice b2 r.str.dicts.length d2, .slice a3 r.ready.length c3, .int .i64 r.errors] 32)).heap[w.heap.size]? = some (.cells #[.int .i64 r.epoch, .int .i64 r.count, .bool r.live, .int .i64 r.inn.epoch, .int .i64 r.inn.expect, .slice a1 r.inn.held.length c1, .slice b1 r.inn.part.length d1, .bool r.str.opened, .slice a2 r.str.fields.length c2, .int .i64 r.str.next, .slice b2 r.str.dicts.length d2, .slice a3 r.ready.length c3, .int .i64 r.errors] 32 (0, 0))) := hid (heap_alloc_new w _)
  go_enter Tryz.func7, Tryz.ntmps7
  go_wp2_with fail
  generalize (w.alloc (.cells #[.int .i64 r.epoch, .int .i64 r.count, .bool r.live, .int .i64 r.inn.epoch, .int .i64 r.inn.expect, .slice a1 r.inn.held.length c1, .slice b1 r.inn.part.length d1, .bool r.str.opened, .slice a2 r.str.fields.length c2, .int .i64 r.str.next, .slice b2 r.str.dicts.length d2, .slice a3 r.ready.length c3, .int .i64 r.errors] 32)) = w0 at *
  refine (szReceiver_any r a1 b1 a2 b2 a3 c1 d1 c2 d2 c3 1048576 w0 (HR.out.later hb0) (by omega) (by omega)).mono ?_
  rintro e w1 ⟨rfl, bl1⟩
  have B1 := below_chain hb0 bl1
  have HX1 := hid (boxR HX0.out bl1)
  by_cases hneg : rest 1048576 (tRcv r) < 0
  · generalize rest 1048576 (tRcv r) = q at *
    go_wp2
    go_ret
    exact ⟨rfl, B1⟩
  have ht : tRcv r ≤ 1048576 := by have := rest_fits (l := 1048576) (n := tRcv r) (by omega); omega
  generalize rest 1048576 (tRcv r) = q at *
  have hPG := pl_tot r ht
  obtain ⟨P, hP⟩ : ∃ P : PRcv, P = plR r := ⟨_, rfl⟩
  obtain ⟨G, hG⟩ : ∃ G : List PT, G = plT r := ⟨_, rfl⟩
  obtain ⟨K, hK⟩ : ∃ K : Int, K = plK r := ⟨_, rfl⟩
  have HSP := hid (fun a1 b1 a2 b2 a3 c1 d1 c2 d2 c3 w' h => specPoll_any r a1 b1 a2 b2 a3 c1 d1 c2 d2 c3 w' h ht)
  have HIM := hid (fun a1 b1 a2 b2 a3 c1 d1 c2 d2 c3 w' h => implPoll_any r a1 b1 a2 b2 a3 c1 d1 c2 d2 c3 w' h ht)
  rw [← hP, ← hG, ← hK] at HSP HIM
  rw [← hP, ← hG] at hPG
  obtain ⟨htP, htG⟩ := hPG
  have hnP := nRcv_le P htP
  have hsG : sumL hT_ G ≤ 8388608 := by have h1 := hT_le G; unfold totL at h1 htG; omega
  clear hP hG hK
  have hKK : (K != K) = false := by simp
  have p0 := cell_of_row _ _ 0 _ _ _ HX1.out
  have p1 := cell_of_row _ _ 1 _ _ _ HX1.out
  have p2 := cell_of_row _ _ 2 _ _ _ HX1.out
  have p3 := cell_of_row _ _ 3 _ _ _ HX1.out
  have p4 := cell_of_row _ _ 4 _ _ _ HX1.out
  have p5 := cell_of_row _ _ 5 _ _ _ HX1.out
  have p6 := cell_of_row _ _ 6 _ _ _ HX1.out
  have p7 := cell_of_row _ _ 7 _ _ _ HX1.out
  have p8 := cell_of_row _ _ 8 _ _ _ HX1.out
  have p9 := cell_of_row _ _ 9 _ _ _ HX1.out
  have p10 := cell_of_row _ _ 10 _ _ _ HX1.out
  have p11 := cell_of_row _ _ 11 _ _ _ HX1.out
  have p12 := cell_of_row _ _ 12 _ _ _ HX1.out
  simp only [List.getElem?_toArray, List.getElem?_cons_zero, List.getElem?_cons_succ] at p0 p1 p2 p3 p4 p5 p6 p7 p8 p9 p10 p11 p12
  go_wp2_with fail
  refine (toReceiver_any r a1 b1 a2 b2 a3 c1 d1 c2 d2 c3 w1 (HR.out.later B1) ht).mono ?_
  rintro e w2 ⟨a1y, c1y, b1y, d1y, a2y, c2y, b2y, d2y, a3y, c3y, bi2, di2, bs2, ds2, ts2, rfl, o2, -, -, bl2⟩
  have B2 := below_chain B1 bl2
  clear p0 p1 p2 p3 p4 p5 p6 p7 p8 p9 p10 p11 p12
  go_wp2_with fail
  refine (HSP.out a1y b1y a2y b2y a3y c1y d1y c2y d2y c3y w2 o2.rd).mono ?_
  rintro e w3 ⟨a1s, c1s, b1s, d1s, a2s, c2s, b2s, d2s, a3s, c3s, a4s, c4s, rfl, rs, rts, bl3⟩
  have B3 := below_chain B2 bl3
  have HX3 := hid (boxR HX1.out (below_chain bl2 bl3))
  have hb3 := below_new1 w3 (.cells #[.int .i64 P.epoch, .int .i64 P.count, .bool P.live, .int .i64 P.inn.epoch, .int .i64 P.inn.expect, .slice a1s P.inn.held.length c1s, .slice b1s P.inn.part.length d1s, .bool P.str.opened, .slice a2s P.str.fields.length c2s, .int .i64 P.str.next, .slice b2s P.str.dicts.length d2s, .slice a3s P.ready.length c3s, .int .i64 P.errors] 43)
  have HW4 : Hid ((w3.alloc (.cells #[.int .i64 P.epoch, .int .i64 P.count, .bool P.live, .int .i64 P.inn.epoch, .int .i64 P.inn.expect, .slice a1s P.inn.held.length c1s, .slice b1s P.inn.part.length d1s, .bool P.str.opened, .slice a2s P.str.fields.length c2s, .int .i64 P.str.next, .slice b2s P.str.dicts.length d2s, .slice a3s P.ready.length c3s, .int .i64 P.errors] 43)).heap[w3.heap.size]? = some (.cells #[.int .i64 P.epoch, .int .i64 P.count, .bool P.live, .int .i64 P.inn.epoch, .int .i64 P.inn.expect, .slice a1s P.inn.held.length c1s, .slice b1s P.inn.part.length d1s, .bool P.str.opened, .slice a2s P.str.fields.length c2s, .int .i64 P.str.next, .slice b2s P.str.dicts.length d2s, .slice a3s P.ready.length c3s, .int .i64 P.errors] 43 (0, 0))) := hid (heap_alloc_new w3 _)
  have B4 := below_chain B3 hb3
  have HX4 := hid (boxR HX3.out hb3)
  have HRS := hid (rs.later hb3)
  have HRT := hid (rts.later hb3)
  clear o2 rs rts
  have p0 := cell_of_row _ _ 0 _ _ _ HX4.out
  have p1 := cell_of_row _ _ 1 _ _ _ HX4.out
  have p2 := cell_of_row _ _ 2 _ _ _ HX4.out
  have p3 := cell_of_row _ _ 3 _ _ _ HX4.out
  have p4 := cell_of_row _ _ 4 _ _ _ HX4.out
  have p5 := cell_of_row _ _ 5 _ _ _ HX4.out
  have p6 := cell_of_row _ _ 6 _ _ _ HX4.out
  have p7 := cell_of_row _ _ 7 _ _ _ HX4.out
  have p8 := cell_of_row _ _ 8 _ _ _ HX4.out
  have p9 := cell_of_row _ _ 9 _ _ _ HX4.out
  have p10 := cell_of_row _ _ 10 _ _ _ HX4.out
  have p11 := cell_of_row _ _ 11 _ _ _ HX4.out
  have p12 := cell_of_row _ _ 12 _ _ _ HX4.out
  simp only [List.getElem?_toArray, List.getElem?_cons_zero, List.getElem?_cons_succ] at p0 p1 p2 p3 p4 p5 p6 p7 p8 p9 p10 p11 p12
  go_wp2_with fail
  generalize (w3.alloc (.cells #[.int .i64 P.epoch, .int .i64 P.count, .bool P.live, .int .i64 P.inn.epoch, .int .i64 P.inn.expect, .slice a1s P.inn.held.length c1s, .slice b1s P.inn.part.length d1s, .bool P.str.opened, .slice a2s P.str.fields.length c2s, .int .i64 P.str.next, .slice b2s P.str.dicts.length d2s, .slice a3s P.ready.length c3s, .int .i64 P.errors] 43)) = w4 at *
  refine (toReceiver_any r a1 b1 a2 b2 a3 c1 d1 c2 d2 c3 w4 (HR.out.later B4) ht).mono ?_
  rintro e w5 ⟨a1x, c1x, b1x, d1x, a2x, c2x, b2x, d2x, a3x, c3x, biX, diX, bsX, dsX, tsX, rfl, oX, lX, nX, bl5⟩
  have B5 := below_chain B4 bl5
  have hb5 := below_new1 w5 (.cells #[.int .i64 r.epoch, .int .i64 r.count, .bool r.live, .int .i64 r.inn.epoch, .int .i64 r.inn.expect, .slice a1x r.inn.held.length c1x, .slice b1x r.inn.part.length d1x, .bool r.str.opened, .slice a2x r.str.fields.length c2x, .int .i64 r.str.next, .slice b2x r.str.dicts.length d2x, .slice a3x r.ready.length c3x, .int .i64 r.errors] 43)
  have HY6 : Hid ((w5.alloc (.cells #[.int .i64 r.epoch, .int .i64 r.count, .bool r.live, .int .i64 r.inn.epoch, .int .i64 r.inn.expect, .slice a1x r.inn.held.length c1x, .slice b1x r.inn.part.length d1x, .bool r.str.opened, .slice a2x r.str.fields.length c2x, .int .i64 r.str.next, .slice b2x r.str.dicts.length d2x, .slice a3x r.ready.length c3x, .int .i64 r.errors] 43)).heap[w5.heap.size]? = some (.cells #[.int .i64 r.epoch, .int .i64 r.count, .bool r.live, .int .i64 r.inn.epoch, .int .i64 r.inn.expect, .slice a1x r.inn.held.length c1x, .slice b1x r.inn.part.length d1x, .bool r.str.opened, .slice a2x r.str.fields.length c2x, .int .i64 r.str.next, .slice b2x r.str.dicts.length d2x, .slice a3x r.ready.length c3x, .int .i64 r.errors] 43 (0, 0))) := hid (heap_alloc_new w5 _)
  have F46 := below_chain bl5 hb5
  have B6 := below_chain B4 F46
  have HX6 := hid (boxR HX4.out F46)
  have HW6 := hid (boxR HW4.out F46)
  have hXlt : ∀ b ∈ (biX ++ diX) ++ ((bsX ++ dsX) ++ tsX), b < w5.heap.size := oX.ltP
  have oX6 := oX.laterP hb5
  have HOX6 := hid oX6
  clear p0 p1 p2 p3 p4 p5 p6 p7 p8 p9 p10 p11 p12 oX oX6
  have hs45 := bl5.size
  have p0 := cell_of_row _ _ 0 _ _ _ HY6.out
  have p1 := cell_of_row _ _ 1 _ _ _ HY6.out
  have p2 := cell_of_row _ _ 2 _ _ _ HY6.out
  have p3 := cell_of_row _ _ 3 _ _ _ HY6.out
  have p4 := cell_of_row _ _ 4 _ _ _ HY6.out
  have p5 := cell_of_row _ _ 5 _ _ _ HY6.out
  have p6 := cell_of_row _ _ 6 _ _ _ HY6.out
  have p7 := cell_of_row _ _ 7 _ _ _ HY6.out
  have p8 := cell_of_row _ _ 8 _ _ _ HY6.out
  have p9 := cell_of_row _ _ 9 _ _ _ HY6.out
  have p10 := cell_of_row _ _ 10 _ _ _ HY6.out
  have p11 := cell_of_row _ _ 11 _ _ _ HY6.out
  have p12 := cell_of_row _ _ 12 _ _ _ HY6.out
  simp only [List.getElem?_toArray, List.getElem?_cons_zero, List.getElem?_cons_succ] at p0 p1 p2 p3 p4 p5 p6 p7 p8 p9 p10 p11 p12
  go_wp2_with fail
  generalize (w5.alloc (.cells #[.int .i64 r.epoch, .int .i64 r.count, .bool r.live, .int .i64 r.inn.epoch, .int .i64 r.inn.expect, .slice a1x r.inn.held.length c1x, .slice b1x r.inn.part.length d1x, .bool r.str.opened, .slice a2x r.str.fields.length c2x, .int .i64 r.str.next, .slice b2x r.str.dicts.length d2x, .slice a3x r.ready.length c3x, .int .i64 r.errors] 43)) = w6 at *
  refine (HIM.out a1x b1x a2x b2x a3x c1x d1x c2x d2x c3x w6 HOX6.out.rd).mono ?_
  rintro e w7 ⟨a1g, c1g, b1g, d1g, a2g, c2g, b2g, d2g, a3g, c3g, a4g, c4g, biG, diG, bsG, dsG, tsG, t4G, rfl, oG, oT, lG, nG, bl7⟩
  have hb7 := below_new1 w7 (.cells #[.int .i64 P.epoch, .int .i64 P.count, .bool P.live, .int .i64 P.inn.epoch, .int .i64 P.inn.expect, .slice a1g P.inn.held.length c1g, .slice b1g P.inn.part.length d1g, .bool P.str.opened, .slice a2g P.str.fields.length c2g, .int .i64 P.str.next, .slice b2g P.str.dicts.length d2g, .slice a3g P.ready.length c3g, .int .i64 P.errors] 43)
  have HG8 : Hid ((w7.alloc (.cells #[.int .i64 P.epoch, .int .i64 P.count, .bool P.live, .int .i64 P.inn.epoch, .int .i64 P.inn.expect, .slice a1g P.inn.held.length c1g, .slice b1g P.inn.part.length d1g, .bool P.str.opened, .slice a2g P.str.fields.length c2g, .int .i64 P.str.next, .slice b2g P.str.dicts.length d2g, .slice a3g P.ready.length c3g, .int .i64 P.errors] 43)).heap[w7.heap.size]? = some (.cells #[.int .i64 P.epoch, .int .i64 P.count, .bool P.live, .int .i64 P.inn.epoch, .int .i64 P.inn.expect, .slice a1g P.inn.held.length c1g, .slice b1g P.inn.part.length d1g, .bool P.str.opened, .slice a2g P.str.fields.length c2g, .int .i64 P.str.next, .slice b2g P.str.dicts.length d2g, .slice a3g P.ready.length c3g, .int .i64 P.errors] 43 (0, 0))) := hid (heap_alloc_new w7 _)
  have F68 := below_chain bl7 hb7
  have F48 := below_chain F46 F68
  have B8 := below_chain B6 F68
  have HX8 := hid (boxR HX6.out F68)
  have HW8 := hid (boxR HW6.out F68)
  have HY8 := hid (boxR HY6.out F68)
  have HOX8 := hid (HOX6.out.laterP F68)
  have HOG8 := hid (oG.laterP hb7)
  have HOT8 := hid (ownT_later oT hb7)
  obtain ⟨nR, nT4, xRT⟩ := List.nodup_append.1 nG
  have HNR := hid nR
  have HNT := hid nT4
  have HXRT := hid xRT
  have HLG := hid lG
  have hGlt : ∀ b ∈ ((biG ++ diG) ++ ((bsG ++ dsG) ++ tsG)) ++ t4G, b < w7.heap.size := fun b hb => by
    rcases List.mem_append.1 hb with h | h
    · exact oG.ltP b h
    · exact oT.lt b h
  have hs67 := bl7.size
  have hs56 := (Array.getElem?_eq_some_iff.1 HY6.out).1
  clear p0 p1 p2 p3 p4 p5 p6 p7 p8 p9 p10 p11 p12 HX6 HW6 HY6 HOX6 oG oT nR nT4 xRT nG lG
  have p0 := cell_of_row _ _ 0 _ _ _ HW8.out
  have p1 := cell_of_row _ _ 1 _ _ _ HW8.out
  have p2 := cell_of_row _ _ 2 _ _ _ HW8.out
  have p3 := cell_of_row _ _ 3 _ _ _ HW8.out
  have p4 := cell_of_row _ _ 4 _ _ _ HW8.out
  have p5 := cell_of_row _ _ 5 _ _ _ HW8.out
  have p6 := cell_of_row _ _ 6 _ _ _ HW8.out
  have p7 := cell_of_row _ _ 7 _ _ _ HW8.out
  have p8 := cell_of_row _ _ 8 _ _ _ HW8.out
  have p9 := cell_of_row _ _ 9 _ _ _ HW8.out
  have p10 := cell_of_row _ _ 10 _ _ _ HW8.out
  have p11 := cell_of_row _ _ 11 _ _ _ HW8.out
  have p12 := cell_of_row _ _ 12 _ _ _ HW8.out
  simp only [List.getElem?_toArray, List.getElem?_cons_zero, List.getElem?_cons_succ] at p0 p1 p2 p3 p4 p5 p6 p7 p8 p9 p10 p11 p12
  have q0 := cell_of_row _ _ 0 _ _ _ HG8.out
  have q1 := cell_of_row _ _ 1 _ _ _ HG8.out
  have q2 := cell_of_row _ _ 2 _ _ _ HG8.out
  have q3 := cell_of_row _ _ 3 _ _ _ HG8.out
  have q4 := cell_of_row _ _ 4 _ _ _ HG8.out
  have q5 := cell_of_row _ _ 5 _ _ _ HG8.out
  have q6 := cell_of_row _ _ 6 _ _ _ HG8.out
  have q7 := cell_of_row _ _ 7 _ _ _ HG8.out
  have q8 := cell_of_row _ _ 8 _ _ _ HG8.out
  have q9 := cell_of_row _ _ 9 _ _ _ HG8.out
  have q10 := cell_of_row _ _ 10 _ _ _ HG8.out
  have q11 := cell_of_row _ _ 11 _ _ _ HG8.out
  have q12 := cell_of_row _ _ 12 _ _ _ HG8.out
  simp only [List.getElem?_toArray, List.getElem?_cons_zero, List.getElem?_cons_succ] at q0 q1 q2 q3 q4 q5 q6 q7 q8 q9 q10 q11 q12
  go_wp2_with fail
  generalize (w7.alloc (.cells #[.int .i64 P.epoch, .int .i64 P.count, .bool P.live, .int .i64 P.inn.epoch, .int .i64 P.inn.expect, .slice a1g P.inn.held.length c1g, .slice b1g P.inn.part.length d1g, .bool P.str.opened, .slice a2g P.str.fields.length c2g, .int .i64 P.str.next, .slice b2g P.str.dicts.length d2g, .slice a3g P.ready.length c3g, .int .i64 P.errors] 43)) = w8 at *
  refine (eqReceiver_any P a1g b1g a2g b2g a3g c1g d1g c2g d2g c3g a1s b1s a2s b2s a3s c1s d1s c2s d2s c3s w8 HOG8.out.rd (HRS.out.later F48) htP).mono ?_
  rintro e w8b ⟨rfl, bl8b⟩
  have F48b := below_chain F48 bl8b
  have HOT8b := hid (ownT_later HOT8.out bl8b)
  clear p0 p1 p2 p3 p4 p5 p6 p7 p8 p9 p10 p11 p12 q0 q1 q2 q3 q4 q5 q6 q7 q8 q9 q10 q11 q12
  go_wp2_with fail
  refine (eqTableS_any a4g a4s c4g c4s G w8b HOT8b.out.rd (HRT.out.later F48b) htG).mono ?_
  rintro e w9 ⟨rfl, bl9b⟩
  have bl9 := below_chain bl8b bl9b
  have B9 := below_chain B8 bl9
  have HX9 := hid (boxR HX8.out bl9)
  have HW9 := hid (boxR HW8.out bl9)
  have HY9 := hid (boxR HY8.out bl9)
  have HG9 := hid (boxR HG8.out bl9)
  have HOX9 := hid (HOX8.out.laterP bl9)
  have HOG9 := hid (HOG8.out.laterP bl9)
  have HOT9 := hid (ownT_later HOT8.out bl9)
  have F49 := below_chain F48 bl9
  clear HX8 HW8 HY8 HG8 HOX8 HOG8 HOT8 HOT8b bl8b bl9b F48b
  have p0 := cell_of_row _ _ 0 _ _ _ HX9.out
  have p1 := cell_of_row _ _ 1 _ _ _ HX9.out
  have p2 := cell_of_row _ _ 2 _ _ _ HX9.out
  have p3 := cell_of_row _ _ 3 _ _ _ HX9.out
  have p4 := cell_of_row _ _ 4 _ _ _ HX9.out
  have p5 := cell_of_row _ _ 5 _ _ _ HX9.out
  have p6 := cell_of_row _ _ 6 _ _ _ HX9.out
  have p7 := cell_of_row _ _ 7 _ _ _ HX9.out
  have p8 := cell_of_row _ _ 8 _ _ _ HX9.out
  have p9 := cell_of_row _ _ 9 _ _ _ HX9.out
  have p10 := cell_of_row _ _ 10 _ _ _ HX9.out
  have p11 := cell_of_row _ _ 11 _ _ _ HX9.out
  have p12 := cell_of_row _ _ 12 _ _ _ HX9.out
  simp only [List.getElem?_toArray, List.getElem?_cons_zero, List.getElem?_cons_succ] at p0 p1 p2 p3 p4 p5 p6 p7 p8 p9 p10 p11 p12
  have q0 := cell_of_row _ _ 0 _ _ _ HY9.out
  have q1 := cell_of_row _ _ 1 _ _ _ HY9.out
  have q2 := cell_of_row _ _ 2 _ _ _ HY9.out
  have q3 := cell_of_row _ _ 3 _ _ _ HY9.out
  have q4 := cell_of_row _ _ 4 _ _ _ HY9.out
  have q5 := cell_of_row _ _ 5 _ _ _ HY9.out
  have q6 := cell_of_row _ _ 6 _ _ _ HY9.out
  have q7 := cell_of_row _ _ 7 _ _ _ HY9.out
  have q8 := cell_of_row _ _ 8 _ _ _ HY9.out
  have q9 := cell_of_row _ _ 9 _ _ _ HY9.out
  have q10 := cell_of_row _ _ 10 _ _ _ HY9.out
  have q11 := cell_of_row _ _ 11 _ _ _ HY9.out
  have q12 := cell_of_row _ _ 12 _ _ _ HY9.out
  simp only [List.getElem?_toArray, List.getElem?_cons_zero, List.getElem?_cons_succ] at q0 q1 q2 q3 q4 q5 q6 q7 q8 q9 q10 q11 q12
  have HT7 : Hid (Calls Tryz.prog 10 #[.agg #[.int .i64 r.epoch, .int .i64 r.count, .bool r.live, .int .i64 r.inn.epoch, .int .i64 r.inn.expect, .slice a1 r.inn.held.length c1, .slice b1 r.inn.part.length d1, .bool r.str.opened, .slice a2 r.str.fields.length c2, .int .i64 r.str.next, .slice b2 r.str.dicts.length d2, .slice a3 r.ready.length c3, .int .i64 r.errors]] w9.drew fun e w8 => ∃ a1z c1z b1z d1z a2z c2z b2z d2z a3z c3z, e = .returned (.agg #[.int .i64 r.epoch, .int .i64 r.count, .bool r.live, .int .i64 r.inn.epoch, .int .i64 r.inn.expect, .slice a1z r.inn.held.length c1z, .slice b1z r.inn.part.length d1z, .bool r.str.opened, .slice a2z r.str.fields.length c2z, .int .i64 r.str.next, .slice b2z r.str.dicts.length d2z, .slice a3z r.ready.length c3z, .int .i64 r.errors]) ∧ Hid (RdRcv w8 r a1z c1z b1z d1z a2z c2z b2z d2z a3z c3z) ∧ Hid (Below w9.heap.size w9 w8) ∧ BoxP w8 w.heap.size r a1 b1 a2 b2 a3 c1 d1 c2 d2 c3 ∧ BoxP w8 w5.heap.size r a1x b1x a2x b2x a3x c1x d1x c2x d2x c3x) := hid (by
    refine (toReceiver_any r a1 b1 a2 b2 a3 c1 d1 c2 d2 c3 w9.drew (HR.out.later B9.drew) ht).mono ?_
    rintro e w8 ⟨a1z, c1z, b1z, d1z, a2z, c2z, b2z, d2z, a3z, c3z, bi8, di8, bs8, ds8, ts8, rfl, o8, -, -, bl8⟩
    have bl := (Below.refl _ w9).drew.trans bl8
    exact ⟨a1z, c1z, b1z, d1z, a2z, c2z, b2z, d2z, a3z, c3z, rfl, hid o8.rd, hid bl, boxP_of (boxR HX9.out bl), boxP_of (boxR HY9.out bl)⟩)
  have HE7 : Hid (∀ w8 a1z c1z b1z d1z a2z c2z b2z d2z a3z c3z, Hid (RdRcv w8 r a1z c1z b1z d1z a2z c2z b2z d2z a3z c3z) → Hid (Below w9.heap.size w9 w8) → Calls Tryz.prog 12 #[.agg #[.int .i64 r.epoch, .int .i64 r.count, .bool r.live, .int .i64 r.inn.epoch, .int .i64 r.inn.expect, .slice a1x r.inn.held.length c1x, .slice b1x r.inn.part.length d1x, .bool r.str.opened, .slice a2x r.str.fields.length c2x, .int .i64 r.str.next, .slice b2x r.str.dicts.length d2x, .slice a3x r.ready.length c3x, .int .i64 r.errors], .agg #[.int .i64 r.epoch, .int .i64 r.count, .bool r.live, .int .i64 r.inn.epoch, .int .i64 r.inn.expect, .slice a1z r.inn.held.length c1z, .slice b1z r.inn.part.length d1z, .bool r.str.opened, .slice a2z r.str.fields.length c2z, .int .i64 r.str.next, .slice b2z r.str.dicts.length d2z, .slice a3z r.ready.length c3z, .int .i64 r.errors]] w8 fun e wx => e = .returned (.bool true) ∧ Hid (Below w9.heap.size w9 wx) ∧ BoxP wx w.heap.size r a1 b1 a2 b2 a3 c1 d1 c2 d2 c3 ∧ BoxP wx w5.heap.size r a1x b1x a2x b2x a3x c1x d1x c2x d2x c3x) := hid (fun w8 a1z c1z b1z d1z a2z c2z b2z d2z a3z c3z h8 hb => by
    refine (eqReceiver_any r a1x b1x a2x b2x a3x c1x d1x c2x d2x c3x a1z b1z a2z b2z a3z c1z d1z c2z d2z c3z w8 (HOX9.out.rd.later hb.out) h8.out ht).mono ?_
    rintro e wx ⟨rfl, bl9⟩
    have bl := below_chain hb.out bl9
    exact ⟨rfl, hid bl, boxP_of (boxR HX9.out bl), boxP_of (boxR HY9.out bl)⟩)
  go_wp2
  (go_region_held3 (fun w' => w'.cell? ⟨w.heap.size, 0, none⟩ = some (.int .i64 r.epoch) ∧ w'.cell? ⟨w.heap.size, 1, none⟩ = some (.int .i64 r.count) ∧ w'.cell? ⟨w.heap.size, 2, none⟩ = some (.bool r.live) ∧ w'.cell? ⟨w.heap.size, 3, none⟩ = some (.int .i64 r.inn.epoch) ∧ w'.cell? ⟨w.heap.size, 4, none⟩ = some (.int .i64 r.inn.expect) ∧ w'.cell? ⟨w.heap.size, 5, none⟩ = some (.slice a1 r.inn.held.length c1) ∧ w'.cell? ⟨w.heap.size, 6, none⟩ = some (.slice b1 r.inn.part.length d1) ∧ w'.cell? ⟨w.heap.size, 7, none⟩ = some (.bool r.str.opened) ∧ w'.cell? ⟨w.heap.size, 8, none⟩ = some (.slice a2 r.str.fields.length c2) ∧ w'.cell? ⟨w.heap.size, 9, none⟩ = some (.int .i64 r.str.next) ∧ w'.cell? ⟨w.heap.size, 10, none⟩ = some (.slice b2 r.str.dicts.length d2) ∧ w'.cell? ⟨w.heap.size, 11, none⟩ = some (.slice a3 r.ready.length c3) ∧ w'.cell? ⟨w.heap.size, 12, none⟩ = some (.int .i64 r.errors) ∧ w'.cell? ⟨w5.heap.size, 0, none⟩ = some (.int .i64 r.epoch) ∧ w'.cell? ⟨w5.heap.size, 1, none⟩ = some (.int .i64 r.count) ∧ w'.cell? ⟨w5.heap.size, 2, none⟩ = some (.bool r.live) ∧ w'.cell? ⟨w5.heap.size, 3, none⟩ = some (.int .i64 r.inn.epoch) ∧ w'.cell? ⟨w5.heap.size, 4, none⟩ = some (.int .i64 r.inn.expect) ∧ w'.cell? ⟨w5.heap.size, 5, none⟩ = some (.slice a1x r.inn.held.length c1x) ∧ w'.cell? ⟨w5.heap.size, 6, none⟩ = some (.slice b1x r.inn.part.length d1x) ∧ w'.cell? ⟨w5.heap.size, 7, none⟩ = some (.bool r.str.opened) ∧ w'.cell? ⟨w5.heap.size, 8, none⟩ = some (.slice a2x r.str.fields.length c2x) ∧ w'.cell? ⟨w5.heap.size, 9, none⟩ = some (.int .i64 r.str.next) ∧ w'.cell? ⟨w5.heap.size, 10, none⟩ = some (.slice b2x r.str.dicts.length d2x) ∧ w'.cell? ⟨w5.heap.size, 11, none⟩ = some (.slice a3x r.ready.length c3x) ∧ w'.cell? ⟨w5.heap.size, 12, none⟩ = some (.int .i64 r.errors)) (go_keep) (first
    | (go_at_call 10; refine HT7.out.mono ?_; rintro e w10 ⟨a1z, c1z, b1z, d1z, a2z, c2z, b2z, d2z, a3z, c3z, rfl, hr8, hb8, ⟨xx0, xx1, xx2, xx3, xx4, xx5, xx6, xx7, xx8, xx9, xx10, xx11, xx12⟩, ⟨yy0, yy1, yy2, yy3, yy4, yy5, yy6, yy7, yy8, yy9, yy10, yy11, yy12⟩⟩)
    | (go_at_call 12; refine (HE7.out _ a1z c1z b1z d1z a2z c2z b2z d2z a3z c3z hr8 hb8).mono ?_; rintro e w11 ⟨rfl, hb9, ⟨zz0, zz1, zz2, zz3, zz4, zz5, zz6, zz7, zz8, zz9, zz10, zz11, zz12⟩, ⟨uu0, uu1, uu2, uu3, uu4, uu5, uu6, uu7, uu8, uu9, uu10, uu11, uu12⟩⟩)))
  clear p0 p1 p2 p3 p4 p5 p6 p7 p8 p9 p10 p11 p12 q0 q1 q2 q3 q4 q5 q6 q7 q8 q9 q10 q11 q12 zz0 zz1 zz2 zz3 zz4 zz5 zz6 zz7 zz8 zz9 zz10 zz11 zz12 uu0 uu1 uu2 uu3 uu4 uu5 uu6 uu7 uu8 uu9 uu10 uu11 uu12 HT7 HE7
  have b11 := hb9.out
  clear hb9
  have B11 := below_chain B9 b11
  have HW11 := hid (boxR HW9.out b11)
  have HY11 := hid (boxR HY9.out b11)
  have HG11 := hid (boxR HG9.out b11)
  have HOX11 := hid (HOX9.out.laterP b11)
  have HOG11 := hid (HOG9.out.laterP b11)
  have HOT11 := hid (ownT_later HOT9.out b11)
  have F411 := below_chain F49 b11
  clear HX9 HW9 HY9 HG9 HOX9 HOG9 HOT9 b11
  have q0 := cell_of_row _ _ 0 _ _ _ HY11.out
  have q1 := cell_of_row _ _ 1 _ _ _ HY11.out
  have q2 := cell_of_row _ _ 2 _ _ _ HY11.out
  have q3 := cell_of_row _ _ 3 _ _ _ HY11.out
  have q4 := cell_of_row _ _ 4 _ _ _ HY11.out
  have q5 := cell_of_row _ _ 5 _ _ _ HY11.out
  have q6 := cell_of_row _ _ 6 _ _ _ HY11.out
  have q7 := cell_of_row _ _ 7 _ _ _ HY11.out
  have q8 := cell_of_row _ _ 8 _ _ _ HY11.out
  have q9 := cell_of_row _ _ 9 _ _ _ HY11.out
  have q10 := cell_of_row _ _ 10 _ _ _ HY11.out
  have q11 := cell_of_row _ _ 11 _ _ _ HY11.out
  have q12 := cell_of_row _ _ 12 _ _ _ HY11.out
  simp only [List.getElem?_toArray, List.getElem?_cons_zero, List.getElem?_cons_succ] at q0 q1 q2 q3 q4 q5 q6 q7 q8 q9 q10 q11 q12
  go_wp2_with fail
  refine (markRcv_only r a1x b1x a2x b2x a3x c1x d1x c2x d2x c3x biX diX bsX dsX tsX 1 _ HOX11.out nX ht (by omega)).mono ?_
  rintro e w12 ⟨kq, rfl, hkq, on12⟩
  have F412 : Below w4.heap.size w4 w12 := Only.chain F411 on12 lX (Nat.le_refl _)
  have B12 : Below w.heap.size w w12 := Only.chain B11 on12 (fun b hb => by have := lX b hb; have := B4.size; omega) (Nat.le_refl _)
  have HX12 := hid (boxR HX4.out F412)
  have HW12 := hid (boxR HW4.out F412)
  have hfar : ∀ b, w6.heap.size ≤ b → b ∉ (biX ++ diX) ++ ((bsX ++ dsX) ++ tsX) := fun b hb h => by have := hXlt b h; omega
  have HG12 : Hid (w12.heap[w7.heap.size]? = _) := hid ((on12.block _ (Array.getElem?_eq_some_iff.1 HG11.out).1 (hfar _ (by omega))).trans HG11.out)
  have HOG12 := hid (HOG11.out.keptP (w' := w12) (fun y hy => on12.block y (HOG11.out.ltP y hy) (hfar y (HLG.out y (List.mem_append_left _ hy)))))
  have HOT12 := hid (HOT11.out.kept (w' := w12) (fun y hy => on12.block y (HOT11.out.lt y hy) (hfar y (HLG.out y (List.mem_append_right _ hy)))))
  clear on12 q0 q1 q2 q3 q4 q5 q6 q7 q8 q9 q10 q11 q12 HW11 HY11 HG11 HOX11 HOG11 HOT11 hfar
  have hk0 : decide ((kq : Int) < 0) = false := decide_eq_false (by omega)
  have p0 := cell_of_row _ _ 0 _ _ _ HW12.out
  have p1 := cell_of_row _ _ 1 _ _ _ HW12.out
  have p2 := cell_of_row _ _ 2 _ _ _ HW12.out
  have p3 := cell_of_row _ _ 3 _ _ _ HW12.out
  have p4 := cell_of_row _ _ 4 _ _ _ HW12.out
  have p5 := cell_of_row _ _ 5 _ _ _ HW12.out
  have p6 := cell_of_row _ _ 6 _ _ _ HW12.out
  have p7 := cell_of_row _ _ 7 _ _ _ HW12.out
  have p8 := cell_of_row _ _ 8 _ _ _ HW12.out
  have p9 := cell_of_row _ _ 9 _ _ _ HW12.out
  have p10 := cell_of_row _ _ 10 _ _ _ HW12.out
  have p11 := cell_of_row _ _ 11 _ _ _ HW12.out
  have p12 := cell_of_row _ _ 12 _ _ _ HW12.out
  simp only [List.getElem?_toArray, List.getElem?_cons_zero, List.getElem?_cons_succ] at p0 p1 p2 p3 p4 p5 p6 p7 p8 p9 p10 p11 p12
  have q0 := cell_of_row _ _ 0 _ _ _ HG12.out
  have q1 := cell_of_row _ _ 1 _ _ _ HG12.out
  have q2 := cell_of_row _ _ 2 _ _ _ HG12.out
  have q3 := cell_of_row _ _ 3 _ _ _ HG12.out
  have q4 := cell_of_row _ _ 4 _ _ _ HG12.out
  have q5 := cell_of_row _ _ 5 _ _ _ HG12.out
  have q6 := cell_of_row _ _ 6 _ _ _ HG12.out
  have q7 := cell_of_row _ _ 7 _ _ _ HG12.out
  have q8 := cell_of_row _ _ 8 _ _ _ HG12.out
  have q9 := cell_of_row _ _ 9 _ _ _ HG12.out
  have q10 := cell_of_row _ _ 10 _ _ _ HG12.out
  have q11 := cell_of_row _ _ 11 _ _ _ HG12.out
  have q12 := cell_of_row _ _ 12 _ _ _ HG12.out
  simp only [List.getElem?_toArray, List.getElem?_cons_zero, List.getElem?_cons_succ] at q0 q1 q2 q3 q4 q5 q6 q7 q8 q9 q10 q11 q12
  go_wp2_with fail
  refine (eqReceiver_any P a1g b1g a2g b2g a3g c1g d1g c2g d2g c3g a1s b1s a2s b2s a3s c1s d1s c2s d2s c3s w12 HOG12.out.rd (HRS.out.later F412) htP).mono ?_
  rintro e w13 ⟨rfl, bl13⟩
  have F413 := below_chain F412 bl13
  have HOT13 := hid (ownT_later HOT12.out bl13)
  clear p0 p1 p2 p3 p4 p5 p6 p7 p8 p9 p10 p11 p12 q0 q1 q2 q3 q4 q5 q6 q7 q8 q9 q10 q11 q12
  go_wp2_with fail
  refine (eqTableS_any a4g a4s c4g c4s G w13 HOT13.out.rd (HRT.out.later F413) htG).mono ?_
  rintro e w13b ⟨rfl, bl13b⟩
  have bl13c := below_chain bl13 bl13b
  have B13 := below_chain B12 bl13c
  have F413b := below_chain F412 bl13c
  have HG13 := hid (boxR HG12.out bl13c)
  have HOG13 := hid (HOG12.out.laterP bl13c)
  have HOT13b := hid (ownT_later HOT12.out bl13c)
  clear HG12 HOG12 HOT12 HOT13 bl13 bl13b bl13c F413
  have q0 := cell_of_row _ _ 0 _ _ _ HG13.out
  have q1 := cell_of_row _ _ 1 _ _ _ HG13.out
  have q2 := cell_of_row _ _ 2 _ _ _ HG13.out
  have q3 := cell_of_row _ _ 3 _ _ _ HG13.out
  have q4 := cell_of_row _ _ 4 _ _ _ HG13.out
  have q5 := cell_of_row _ _ 5 _ _ _ HG13.out
  have q6 := cell_of_row _ _ 6 _ _ _ HG13.out
  have q7 := cell_of_row _ _ 7 _ _ _ HG13.out
  have q8 := cell_of_row _ _ 8 _ _ _ HG13.out
  have q9 := cell_of_row _ _ 9 _ _ _ HG13.out
  have q10 := cell_of_row _ _ 10 _ _ _ HG13.out
  have q11 := cell_of_row _ _ 11 _ _ _ HG13.out
  have q12 := cell_of_row _ _ 12 _ _ _ HG13.out
  simp only [List.getElem?_toArray, List.getElem?_cons_zero, List.getElem?_cons_succ] at q0 q1 q2 q3 q4 q5 q6 q7 q8 q9 q10 q11 q12
  go_wp2_with fail
  refine (markRcX_any P a1g b1g a2g b2g a3g c1g d1g c2g d2g c3g biG diG bsG dsG tsG 1 w13b HOG13.out HNR.out htP (by omega)).mono ?_
  rintro e w14 ⟨rfl, mk14, on14⟩
  have hlG : ∀ b ∈ ((biG ++ diG) ++ ((bsG ++ dsG) ++ tsG)), w6.heap.size ≤ b := fun b hb => HLG.out b (List.mem_append_left _ hb)
  have hlT : ∀ b ∈ t4G, w6.heap.size ≤ b := fun b hb => HLG.out b (List.mem_append_right _ hb)
  have h46 : w4.heap.size ≤ w6.heap.size := F46.size
  have hw6 : w.heap.size ≤ w6.heap.size := B6.size
  have B14 : Below w.heap.size w w14 := Only.chain B13 on14 (fun b hb => by have := hlG b hb; omega) (Nat.le_refl _)
  have F414 : Below w4.heap.size w4 w14 := Only.chain F413b on14 (fun b hb => by have := hlG b hb; omega) (Nat.le_refl _)
  have HG14 : Hid (w14.heap[w7.heap.size]? = _) := hid ((on14.block _ (Array.getElem?_eq_some_iff.1 HG13.out).1 (fun h => by have := hGlt _ (List.mem_append_left _ h); omega)).trans HG13.out)
  have HOT14 := hid (HOT13b.out.kept (w' := w14) (fun y hy => on14.block y (HOT13b.out.lt y hy) (fun h => HXRT.out y h y hy rfl)))
  have HMK14 := hid mk14
  clear on14 mk14 q0 q1 q2 q3 q4 q5 q6 q7 q8 q9 q10 q11 q12 HG13 HOG13 HOT13b
  generalize hM1 : 1 + nRcv P = M1 at *
  have hM1b : M1 ≤ 134217728 := by omega
  have HM1 := hid hM1
  clear hM1
  go_wp2_with fail
  refine (markTableS_any _ G t4G M1 w14 HOT14.out HNT.out htG (by omega)).mono ?_
  rintro e w15 ⟨rfl, ot15, on15⟩
  have B15 : Below w.heap.size w w15 := Only.chain B14 on15 (fun b hb => by have := hlT b hb; omega) (Nat.le_refl _)
  have F415 : Below w4.heap.size w4 w15 := Only.chain F414 on15 (fun b hb => by have := hlT b hb; omega) (Nat.le_refl _)
  have HG15 : Hid (w15.heap[w7.heap.size]? = _) := hid ((on15.block _ (Array.getElem?_eq_some_iff.1 HG14.out).1 (fun h => by have := hGlt _ (List.mem_append_right _ h); omega)).trans HG14.out)
  have HMK15 := hid (HMK14.out.kept (w' := w15) (fun y hy => on15.block y (HMK14.out.lt y hy) (fun h => HXRT.out y hy y h rfl)))
  have HOT15 := hid ot15.rd
  clear on15 ot15 HG14 HMK14 HOT14
  obtain ⟨M2, hM2⟩ : ∃ M2 : Nat, M2 = M1 + sumL hT_ G := ⟨_, rfl⟩
  rw [← hM2]
  have hM2b : M2 ≤ 268435456 := by omega
  have HM2 := hid hM2
  clear hM2
  have q0 := cell_of_row _ _ 0 _ _ _ HG15.out
  have q1 := cell_of_row _ _ 1 _ _ _ HG15.out
  have q2 := cell_of_row _ _ 2 _ _ _ HG15.out
  have q3 := cell_of_row _ _ 3 _ _ _ HG15.out
  have q4 := cell_of_row _ _ 4 _ _ _ HG15.out
  have q5 := cell_of_row _ _ 5 _ _ _ HG15.out
  have q6 := cell_of_row _ _ 6 _ _ _ HG15.out
  have q7 := cell_of_row _ _ 7 _ _ _ HG15.out
  have q8 := cell_of_row _ _ 8 _ _ _ HG15.out
  have q9 := cell_of_row _ _ 9 _ _ _ HG15.out
  have q10 := cell_of_row _ _ 10 _ _ _ HG15.out
  have q11 := cell_of_row _ _ 11 _ _ _ HG15.out
  have q12 := cell_of_row _ _ 12 _ _ _ HG15.out
  simp only [List.getElem?_toArray, List.getElem?_cons_zero, List.getElem?_cons_succ] at q0 q1 q2 q3 q4 q5 q6 q7 q8 q9 q10 q11 q12
  go_wp2_with fail
  refine (heldRcX_any P a1g b1g a2g b2g a3g c1g d1g c2g d2g c3g biG diG bsG dsG tsG 1 w15 HMK15.out htP (by omega)).mono ?_
  rintro e w16 ⟨rfl, bl16⟩
  rw [HM1.out]
  have B16 := below_chain B15 bl16
  have F416 := below_chain F415 bl16
  have HOT16 := hid (HOT15.out.later bl16)
  clear q0 q1 q2 q3 q4 q5 q6 q7 q8 q9 q10 q11 q12 HG15 bl16
  have hq0 : decide ((M1 : Int) < 0) = false := decide_eq_false (by omega)
  go_wp2_with fail
  refine (heldTableS_any a4g c4g G M1 w16 HOT16.out htG (by omega)).mono ?_
  rintro e w17 ⟨rfl, bl17⟩
  rw [← HM2.out]
  have B17 := below_chain B16 bl17
  have F417 := below_chain F416 bl17
  have HX17 := hid (boxR HX4.out F417)
  clear bl17 hq0
  have hq2 : decide ((M2 : Int) < 0) = false := decide_eq_false (by omega)
  have hMM : ((M2 : Int) != (M2 : Int)) = false := by simp
  have p0 := cell_of_row _ _ 0 _ _ _ HX17.out
  have p1 := cell_of_row _ _ 1 _ _ _ HX17.out
  have p2 := cell_of_row _ _ 2 _ _ _ HX17.out
  have p3 := cell_of_row _ _ 3 _ _ _ HX17.out
  have p4 := cell_of_row _ _ 4 _ _ _ HX17.out
  have p5 := cell_of_row _ _ 5 _ _ _ HX17.out
  have p6 := cell_of_row _ _ 6 _ _ _ HX17.out
  have p7 := cell_of_row _ _ 7 _ _ _ HX17.out
  have p8 := cell_of_row _ _ 8 _ _ _ HX17.out
  have p9 := cell_of_row _ _ 9 _ _ _ HX17.out
  have p10 := cell_of_row _ _ 10 _ _ _ HX17.out
  have p11 := cell_of_row _ _ 11 _ _ _ HX17.out
  have p12 := cell_of_row _ _ 12 _ _ _ HX17.out
  simp only [List.getElem?_toArray, List.getElem?_cons_zero, List.getElem?_cons_succ] at p0 p1 p2 p3 p4 p5 p6 p7 p8 p9 p10 p11 p12
  go_wp2_with fail
  refine (toReceiver_any r a1 b1 a2 b2 a3 c1 d1 c2 d2 c3 w17 (HR.out.later B17) ht).mono ?_
  rintro e w18 ⟨a1u, c1u, b1u, d1u, a2u, c2u, b2u, d2u, a3u, c3u, bi6, di6, bs6, ds6, ts6, rfl, o18, -, -, bl18⟩
  have B18 := below_chain B17 bl18
  have F418 := below_chain F417 bl18
  clear p0 p1 p2 p3 p4 p5 p6 p7 p8 p9 p10 p11 p12
  go_wp2_with fail
  refine (HIM.out a1u b1u a2u b2u a3u c1u d1u c2u d2u c3u w18 o18.rd).mono ?_
  rintro e w19 ⟨a1h, c1h, b1h, d1h, a2h, c2h, b2h, d2h, a3h, c3h, a4h, c4h, biH, diH, bsH, dsH, tsH, t4H, rfl, oH, oTH, -, -, bl19⟩
  have hb19 := below_new1 w19 (.cells #[.int .i64 P.epoch, .int .i64 P.count, .bool P.live, .int .i64 P.inn.epoch, .int .i64 P.inn.expect, .slice a1h P.inn.held.length c1h, .slice b1h P.inn.part.length d1h, .bool P.str.opened, .slice a2h P.str.fields.length c2h, .int .i64 P.str.next, .slice b2h P.str.dicts.length d2h, .slice a3h P.ready.length c3h, .int .i64 P.errors] 43)
  have HH20 : Hid ((w19.alloc (.cells #[.int .i64 P.epoch, .int .i64 P.count, .bool P.live, .int .i64 P.inn.epoch, .int .i64 P.inn.expect, .slice a1h P.inn.held.length c1h, .slice b1h P.inn.part.length d1h, .bool P.str.opened, .slice a2h P.str.fields.length c2h, .int .i64 P.str.next, .slice b2h P.str.dicts.length d2h, .slice a3h P.ready.length c3h, .int .i64 P.errors] 43)).heap[w19.heap.size]? = some (.cells #[.int .i64 P.epoch, .int .i64 P.count, .bool P.live, .int .i64 P.inn.epoch, .int .i64 P.inn.expect, .slice a1h P.inn.held.length c1h, .slice b1h P.inn.part.length d1h, .bool P.str.opened, .slice a2h P.str.fields.length c2h, .int .i64 P.str.next, .slice b2h P.str.dicts.length d2h, .slice a3h P.ready.length c3h, .int .i64 P.errors] 43 (0, 0))) := hid (heap_alloc_new w19 _)
  have F420 := below_chain F418 (below_chain bl19 hb19)
  have B20 := below_chain B18 (below_chain bl19 hb19)
  have HW20 := hid (boxR HW4.out F420)
  have HOH := hid (oH.laterP hb19)
  have HTH := hid (ownT_later oTH hb19)
  clear oH oTH o18
  have p0 := cell_of_row _ _ 0 _ _ _ HW20.out
  have p1 := cell_of_row _ _ 1 _ _ _ HW20.out
  have p2 := cell_of_row _ _ 2 _ _ _ HW20.out
  have p3 := cell_of_row _ _ 3 _ _ _ HW20.out
  have p4 := cell_of_row _ _ 4 _ _ _ HW20.out
  have p5 := cell_of_row _ _ 5 _ _ _ HW20.out
  have p6 := cell_of_row _ _ 6 _ _ _ HW20.out
  have p7 := cell_of_row _ _ 7 _ _ _ HW20.out
  have p8 := cell_of_row _ _ 8 _ _ _ HW20.out
  have p9 := cell_of_row _ _ 9 _ _ _ HW20.out
  have p10 := cell_of_row _ _ 10 _ _ _ HW20.out
  have p11 := cell_of_row _ _ 11 _ _ _ HW20.out
  have p12 := cell_of_row _ _ 12 _ _ _ HW20.out
  simp only [List.getElem?_toArray, List.getElem?_cons_zero, List.getElem?_cons_succ] at p0 p1 p2 p3 p4 p5 p6 p7 p8 p9 p10 p11 p12
  have q0 := cell_of_row _ _ 0 _ _ _ HH20.out
  have q1 := cell_of_row _ _ 1 _ _ _ HH20.out
  have q2 := cell_of_row _ _ 2 _ _ _ HH20.out
  have q3 := cell_of_row _ _ 3 _ _ _ HH20.out
  have q4 := cell_of_row _ _ 4 _ _ _ HH20.out
  have q5 := cell_of_row _ _ 5 _ _ _ HH20.out
  have q6 := cell_of_row _ _ 6 _ _ _ HH20.out
  have q7 := cell_of_row _ _ 7 _ _ _ HH20.out
  have q8 := cell_of_row _ _ 8 _ _ _ HH20.out
  have q9 := cell_of_row _ _ 9 _ _ _ HH20.out
  have q10 := cell_of_row _ _ 10 _ _ _ HH20.out
  have q11 := cell_of_row _ _ 11 _ _ _ HH20.out
  have q12 := cell_of_row _ _ 12 _ _ _ HH20.out
  simp only [List.getElem?_toArray, List.getElem?_cons_zero, List.getElem?_cons_succ] at q0 q1 q2 q3 q4 q5 q6 q7 q8 q9 q10 q11 q12
  go_wp2_with fail
  generalize (w19.alloc (.cells #[.int .i64 P.epoch, .int .i64 P.count, .bool P.live, .int .i64 P.inn.epoch, .int .i64 P.inn.expect, .slice a1h P.inn.held.length c1h, .slice b1h P.inn.part.length d1h, .bool P.str.opened, .slice a2h P.str.fields.length c2h, .int .i64 P.str.next, .slice b2h P.str.dicts.length d2h, .slice a3h P.ready.length c3h, .int .i64 P.errors] 43)) = w20 at *
  refine (eqReceiver_any P a1h b1h a2h b2h a3h c1h d1h c2h d2h c3h a1s b1s a2s b2s a3s c1s d1s c2s d2s c3s w20 HOH.out.rd (HRS.out.later F420) htP).mono ?_
  rintro e w21 ⟨rfl, bl21⟩
  have B21 := below_chain B20 bl21
  have F421 := below_chain F420 bl21
  have HTH21 := hid (ownT_later HTH.out bl21)
  clear p0 p1 p2 p3 p4 p5 p6 p7 p8 p9 p10 p11 p12 q0 q1 q2 q3 q4 q5 q6 q7 q8 q9 q10 q11 q12
  go_wp2_with fail
  refine (eqTableS_any a4h a4s c4h c4s G w21 HTH21.out.rd (HRT.out.later F421) htG).mono ?_
  rintro e w22 ⟨rfl, bl22⟩
  have B22 := below_chain B21 bl22
  go_wp2
  go_ret
  exact ⟨rfl, B22⟩
end Go.Proofs.YtfaehioeepolhaaGreat
