import Derived.Test.YtcljakdcejhfiacJLinkAcked18
import Derived.Test.YtcljakdcejhfiacJLinkAcked25
import Derived.Test.YtcljakdcejhfiacJLinkAcked45
import Derived.Test.YtcljakdcejhfiacJLinkAcked52
import Derived.Test.YtcljakdcejhfiacJLinkAcked1
import Derived.Deep.RegionHeld3
namespace Go.Proofs.Ytcljakdcejhfiac
open Go.RowKit
theorem ackO_tot {o : PO} {q : Int} (h : totL wN o.wait ≤ 1048576) : totL wN (ackO o q).wait ≤ 1048576 := by
  unfold ackO
  split
  · have h1 : ((o.wait.drop (ackD o q)).map wN).sum ≤ (o.wait.map wN).sum := by
      conv => rhs; rw [← List.take_append_drop (ackD o q) o.wait]
      rw [List.map_append, List.sum_append]; omega
    unfold totL at *
    simp only [List.length_drop]
    omega
  · simp [noOut, totL]
set_option maxRecDepth 100000 in
set_option maxHeartbeats 16000000 in
theorem linkAcked_walk (v : Value) (q : Int) (w : World) (h : LinkOutIn w v) (_hq : IntIn q) :
    Calls Try.prog 8 #[v, .int .i64 q] w fun e w' => e = .returned (.bool true) ∧ Below w.heap.size w w' := by
  obtain ⟨s, a, c, rfl, hr, -⟩ := h
  have HR := hid hr
  clear hr
  have hb0 := below_new1 w (.cells #[.int .i64 s.epoch, .int .i64 s.next, .int .i64 s.now, .slice a s.wait.length c] 24)
  have HX0 : Hid ((w.alloc (.cells #[.int .i64 s.epoch, .int .i64 s.next, .int .i64 s.now, .slice a s.wait.length c] 24)).heap[w.heap.size]? = some (.cells #[.int .i64 s.epoch, .int .i64 s.next, .int .i64 s.now, .slice a s.wait.length c] 24 (0, 0))) := hid (heap_alloc_new w _)
  go_enter Try.func8, Try.ntmps8
  go_wp2_with fail
  generalize (w.alloc (.cells #[.int .i64 s.epoch, .int .i64 s.next, .int .i64 s.now, .slice a s.wait.length c] 24)) = w0 at *
  refine (szLinkOut_any s a c 1048576 w0 (HR.out.later hb0) (by omega) (by omega)).mono ?_
  rintro e w1 ⟨rfl, b1⟩
  have B1 := below_chain hb0 b1
  have HX1 := hid (box_laterP2 HX0.out b1)
  by_cases hneg : rest 1048576 (totL wN s.wait) < 0
  · generalize rest 1048576 (totL wN s.wait) = r at *
    go_wp2
    go_ret
    exact ⟨rfl, B1⟩
  have ht : totL wN s.wait ≤ 1048576 := by have := rest_fits (l := 1048576) (n := totL wN s.wait) (by omega); omega
  generalize rest 1048576 (totL wN s.wait) = r at *
  obtain ⟨R, hR⟩ : ∃ R : PO, R = ackO s q := ⟨_, rfl⟩
  obtain ⟨C, hC⟩ : ∃ C : Int, C = ackC s q := ⟨_, rfl⟩
  have HSP := hid (fun a c w' h  => specAck_any s a c q w' h  ht)
  have HIM := hid (fun a c w' h  => implAck_any s a c q w' h  ht)
  rw [← hR, ← hC] at HSP HIM
  have HRT : Hid (totL wN R.wait ≤ 1048576) := hid (by rw [hR]; exact ackO_tot ht)
  clear hR hC
  have hCC : (C != C) = false := by simp
  have p0 := cell_of_row _ _ 0 _ _ _ HX1.out
  have p1 := cell_of_row _ _ 1 _ _ _ HX1.out
  have p2 := cell_of_row _ _ 2 _ _ _ HX1.out
  have p3 := cell_of_row _ _ 3 _ _ _ HX1.out
  simp only [List.getElem?_toArray, List.getElem?_cons_zero, List.getElem?_cons_succ] at p0 p1 p2 p3
  go_wp2_with fail
  refine (toLinkOut_any s a c w1 (HR.out.later B1) ht).mono ?_
  rintro e w2 ⟨a2, c2, bs2, rfl, o2, -, -, bl2⟩
  have B2 := below_chain B1 bl2
  clear p0 p1 p2 p3
  go_wp2_with fail
  refine (HSP.out a2 c2 w2 o2.rd).mono ?_
  rintro e w3 ⟨aW, cW, rfl, rW, bl3⟩
  clear o2
  have B3 := below_chain B2 bl3
  have HX3 := hid (box_laterP2 HX1.out (below_chain bl2 bl3))
  have b3 := below_new1 w3 (.cells #[.int .i64 R.epoch, .int .i64 R.next, .int .i64 R.now, .slice aW R.wait.length cW] 29)
  have HKW : Hid ((w3.alloc (.cells #[.int .i64 R.epoch, .int .i64 R.next, .int .i64 R.now, .slice aW R.wait.length cW] 29)).heap[w3.heap.size]? = some (.cells #[.int .i64 R.epoch, .int .i64 R.next, .int .i64 R.now, .slice aW R.wait.length cW] 29 (0, 0))) := hid (heap_alloc_new w3 _)
  have hs3 : (w3.alloc (.cells #[.int .i64 R.epoch, .int .i64 R.next, .int .i64 R.now, .slice aW R.wait.length cW] 29)).heap.size = w3.heap.size + 1 := by simp
  have B4 := below_chain B3 b3
  have HRW := hid (rW.later b3)
  have HX4 := hid (box_laterP2 HX3.out b3)
  clear rW b3
  have p0 := cell_of_row _ _ 0 _ _ _ HX4.out
  have p1 := cell_of_row _ _ 1 _ _ _ HX4.out
  have p2 := cell_of_row _ _ 2 _ _ _ HX4.out
  have p3 := cell_of_row _ _ 3 _ _ _ HX4.out
  simp only [List.getElem?_toArray, List.getElem?_cons_zero, List.getElem?_cons_succ] at p0 p1 p2 p3
  go_wp2_with fail
  generalize (w3.alloc (.cells #[.int .i64 R.epoch, .int .i64 R.next, .int .i64 R.now, .slice aW R.wait.length cW] 29)) = w4 at *
  refine (toLinkOut_any s a c w4 (HR.out.later B4) ht).mono ?_
  rintro e w5 ⟨aX, cX, bX, rfl, oX, lX, nX, bl5⟩
  clear p0 p1 p2 p3
  have B5 := below_chain B4 bl5
  have b5 := below_new1 w5 (.cells #[.int .i64 s.epoch, .int .i64 s.next, .int .i64 s.now, .slice aX s.wait.length cX] 29)
  have HKX : Hid ((w5.alloc (.cells #[.int .i64 s.epoch, .int .i64 s.next, .int .i64 s.now, .slice aX s.wait.length cX] 29)).heap[w5.heap.size]? = some (.cells #[.int .i64 s.epoch, .int .i64 s.next, .int .i64 s.now, .slice aX s.wait.length cX] 29 (0, 0))) := hid (heap_alloc_new w5 _)
  have hXlt : ∀ b ∈ bX, b < w5.heap.size := oX.lt
  have hs56 : w5.heap.size < (w5.alloc (.cells #[.int .i64 s.epoch, .int .i64 s.next, .int .i64 s.now, .slice aX s.wait.length cX] 29)).heap.size := by simp
  have B6 := below_chain B5 b5
  have F46 := below_chain bl5 b5
  have oX6 := oX.kept (fun b hm => b5.block b (oX.lt b hm))
  have HX6 := hid (box_laterP2 HX4.out F46)
  have hs45 := bl5.size
  clear b5 oX
  go_wp2_with fail
  generalize (w5.alloc (.cells #[.int .i64 s.epoch, .int .i64 s.next, .int .i64 s.now, .slice aX s.wait.length cX] 29)) = w6 at *
  refine (HIM.out aX cX w6 oX6.rd).mono ?_
  rintro e w7 ⟨aG, cG, ys, d, bG, rfl, hRy, oG, lG, nG, tG, bl7⟩
  have B7 := below_chain B6 bl7
  have b7 := below_new1 w7 (.cells #[.int .i64 R.epoch, .int .i64 R.next, .int .i64 R.now, .slice aG R.wait.length cG] 29)
  have HKG : Hid ((w7.alloc (.cells #[.int .i64 R.epoch, .int .i64 R.next, .int .i64 R.now, .slice aG R.wait.length cG] 29)).heap[w7.heap.size]? = some (.cells #[.int .i64 R.epoch, .int .i64 R.next, .int .i64 R.now, .slice aG R.wait.length cG] 29 (0, 0))) := hid (heap_alloc_new w7 _)
  have hs78 : w7.heap.size < (w7.alloc (.cells #[.int .i64 R.epoch, .int .i64 R.next, .int .i64 R.now, .slice aG R.wait.length cG] 29)).heap.size := by simp
  have hGlt : ∀ b ∈ bG, b < w7.heap.size := oG.lt
  have hRl : R.wait.length = ys.length - d := by rw [hRy]; simp
  have HRY := hid hRy
  have HRL := hid hRl
  clear hRy hRl
  have F68 := below_chain bl7 b7
  have B8 := below_chain B7 b7
  have oG8 := oG.later b7
  have oX8 := oX6.kept (fun b hm => F68.block b (oX6.lt b hm))
  have HX8 := hid (box_laterP2 HX6.out F68)
  have HKX8 := hid (box_laterP2 HKX.out F68)
  have hs67 := bl7.size
  
  have F48 := below_chain F46 F68
  have HKW8 := hid (box_laterP2 HKW.out F48)
  have HRW8 := hid (HRW.out.later F48)
  clear b7 oG oX6 HX6 HKX
  have p0 := cell_of_row _ _ 0 _ _ _ HKW8.out
  have p1 := cell_of_row _ _ 1 _ _ _ HKW8.out
  have p2 := cell_of_row _ _ 2 _ _ _ HKW8.out
  have p3 := cell_of_row _ _ 3 _ _ _ HKW8.out
  simp only [List.getElem?_toArray, List.getElem?_cons_zero, List.getElem?_cons_succ] at p0 p1 p2 p3
  have q0 := cell_of_row _ _ 0 _ _ _ HKG.out
  have q1 := cell_of_row _ _ 1 _ _ _ HKG.out
  have q2 := cell_of_row _ _ 2 _ _ _ HKG.out
  have q3 := cell_of_row _ _ 3 _ _ _ HKG.out
  simp only [List.getElem?_toArray, List.getElem?_cons_zero, List.getElem?_cons_succ] at q0 q1 q2 q3
  go_wp2_with fail
  generalize (w7.alloc (.cells #[.int .i64 R.epoch, .int .i64 R.next, .int .i64 R.now, .slice aG R.wait.length cG] 29)) = w8 at *
  refine (eqLinkOut_any R aG aW cG cW w8 (by have h := oG8.rd; rw [← HRY.out, ← HRL.out] at h; exact h) HRW8.out HRT.out).mono ?_
  rintro e w9 ⟨rfl, bl9⟩
  clear p0 p1 p2 p3 q0 q1 q2 q3
  have B9 := below_chain B8 bl9
  have oG9 := oG8.later bl9
  have oX9 := oX8.kept (fun b hm => bl9.block b (oX8.lt b hm))
  have HX9 := hid (box_laterP2 HX8.out bl9)
  have HKX9 := hid (box_laterP2 HKX8.out bl9)
  have HKG9 := hid (box_laterP2 HKG.out bl9)
  have F49 := below_chain F48 bl9
  have HRX9 := hid oX9.rd
  clear oG8 oX8 HX8 HKX8 HKG HKW8 HRW8
  have p0 := cell_of_row _ _ 0 _ _ _ HX9.out
  have p1 := cell_of_row _ _ 1 _ _ _ HX9.out
  have p2 := cell_of_row _ _ 2 _ _ _ HX9.out
  have p3 := cell_of_row _ _ 3 _ _ _ HX9.out
  simp only [List.getElem?_toArray, List.getElem?_cons_zero, List.getElem?_cons_succ] at p0 p1 p2 p3
  have q0 := cell_of_row _ _ 0 _ _ _ HKX9.out
  have q1 := cell_of_row _ _ 1 _ _ _ HKX9.out
  have q2 := cell_of_row _ _ 2 _ _ _ HKX9.out
  have q3 := cell_of_row _ _ 3 _ _ _ HKX9.out
  simp only [List.getElem?_toArray, List.getElem?_cons_zero, List.getElem?_cons_succ] at q0 q1 q2 q3
  have HT7 : Hid (Calls Try.prog 11 #[.agg #[.int .i64 s.epoch, .int .i64 s.next, .int .i64 s.now, .slice a s.wait.length c]] w9.drew fun e w8 => ∃ a8 c8, e = .returned (.agg #[.int .i64 s.epoch, .int .i64 s.next, .int .i64 s.now, .slice a8 s.wait.length c8]) ∧ Hid (RdSl cSnt w8 s.wait (.slice a8 s.wait.length c8)) ∧ Hid (Below w9.heap.size w9 w8) ∧ BoxO w8 w.heap.size s a c ∧ BoxO w8 w5.heap.size s aX cX) := hid (by
    refine (toLinkOut_any s a c w9.drew (HR.out.later B9.drew) ht).mono ?_
    rintro e w8 ⟨a8, c8, bs8, rfl, o8, -, -, bl8⟩
    have bl := (Below.refl _ w9).drew.trans bl8
    exact ⟨a8, c8, rfl, hid o8.rd, hid bl, boxO_later (boxO_of HX9.out) bl, boxO_later (boxO_of HKX9.out) bl⟩)
  have HE7 : Hid (∀ w8 a8 c8, Hid (RdSl cSnt w8 s.wait (.slice a8 s.wait.length c8)) → Hid (Below w9.heap.size w9 w8) → Calls Try.prog 13 #[.agg #[.int .i64 s.epoch, .int .i64 s.next, .int .i64 s.now, .slice aX s.wait.length cX], .agg #[.int .i64 s.epoch, .int .i64 s.next, .int .i64 s.now, .slice a8 s.wait.length c8]] w8 fun e wx => e = .returned (.bool true) ∧ Hid (Below w9.heap.size w9 wx) ∧ BoxO wx w.heap.size s a c ∧ BoxO wx w5.heap.size s aX cX) := hid (fun w8 a8 c8 h8 hb => by
    refine (eqLinkOut_any s aX a8 cX c8 w8 (HRX9.out.later hb.out) h8.out ht).mono ?_
    rintro e wx ⟨rfl, bl9⟩
    have bl := below_chain hb.out bl9
    exact ⟨rfl, hid bl, boxO_later (boxO_of HX9.out) bl, boxO_later (boxO_of HKX9.out) bl⟩)
  go_wp2
  (go_region_held3 (fun w' => w'.cell? ⟨w.heap.size, 0, none⟩ = some (.int .i64 s.epoch) ∧ w'.cell? ⟨w.heap.size, 1, none⟩ = some (.int .i64 s.next) ∧ w'.cell? ⟨w.heap.size, 2, none⟩ = some (.int .i64 s.now) ∧ w'.cell? ⟨w.heap.size, 3, none⟩ = some (.slice a s.wait.length c) ∧ w'.cell? ⟨w5.heap.size, 0, none⟩ = some (.int .i64 s.epoch) ∧ w'.cell? ⟨w5.heap.size, 1, none⟩ = some (.int .i64 s.next) ∧ w'.cell? ⟨w5.heap.size, 2, none⟩ = some (.int .i64 s.now) ∧ w'.cell? ⟨w5.heap.size, 3, none⟩ = some (.slice aX s.wait.length cX)) (go_keep) (first
    | (go_at_call 11; refine HT7.out.mono ?_; rintro e w10 ⟨a8, c8, rfl, hr8, hb8, ⟨x0, x1, x2, x3⟩, ⟨y0, y1, y2, y3⟩⟩)
    | (go_at_call 13; refine (HE7.out _ a8 c8 hr8 hb8).mono ?_; rintro e w11 ⟨rfl, hb9, ⟨z0, z1, z2, z3⟩, ⟨u0, u1, u2, u3⟩⟩)))
  clear p0 p1 p2 p3 q0 q1 q2 q3 z0 z1 z2 z3 u0 u1 u2 u3 HT7 HE7
  have b11 := hb9.out
  clear hb9
  have B11 := below_chain B9 b11
  have oG11 := oG9.later b11
  have oX11 := oX9.kept (fun b hm => b11.block b (oX9.lt b hm))
  have HX11 := hid (box_laterP2 HX9.out b11)
  have HKX11 := hid (box_laterP2 HKX9.out b11)
  have HKG11 := hid (box_laterP2 HKG9.out b11)
  have F411 := below_chain F49 b11
  have hs911 := b11.size
  have hs89 := bl9.size
  clear oG9 oX9 HX9 HKX9 HKG9 HRX9 b11
  have q0 := cell_of_row _ _ 0 _ _ _ HKX11.out
  have q1 := cell_of_row _ _ 1 _ _ _ HKX11.out
  have q2 := cell_of_row _ _ 2 _ _ _ HKX11.out
  have q3 := cell_of_row _ _ 3 _ _ _ HKX11.out
  simp only [List.getElem?_toArray, List.getElem?_cons_zero, List.getElem?_cons_succ] at q0 q1 q2 q3
  go_wp2_with fail
  refine (markLinkOut_any s.epoch s.next s.now aX cX s.wait 0 bX 1 s.wait.length w11 (by omega) oX11.cut0 nX ht (by omega)).mono ?_
  rintro e w12 ⟨rfl, -, on12⟩
  clear q0 q1 q2 q3 oX11
  have hXin : ∀ b ∈ bX, w4.heap.size ≤ b ∧ b < w5.heap.size := fun b hb => ⟨lX b hb, hXlt b hb⟩
  have hGin : ∀ b ∈ bG, w6.heap.size ≤ b ∧ b < w7.heap.size := fun b hb => ⟨lG b hb, hGlt b hb⟩
  have F412 : Below w4.heap.size w4 w12 := Only.chain F411 on12 (fun b hb => (hXin b hb).1) (Nat.le_refl _)
  have oG12 := oG11.only on12 (fun b hb h => by have := hGin b hb; have := hXin b h; omega)
  have HX12 : Hid (w12.heap[w.heap.size]? = _) := hid ((on12.block _ (Array.getElem?_eq_some_iff.1 HX11.out).1 (fun h => by have := hXin _ h; have := (Array.getElem?_eq_some_iff.1 HX4.out).1; omega)).trans HX11.out)
  have HKG12 : Hid (w12.heap[w7.heap.size]? = _) := hid ((on12.block _ (Array.getElem?_eq_some_iff.1 HKG11.out).1 (fun h => by have := hXin _ h; omega)).trans HKG11.out)
  have B12 : Below w.heap.size w w12 := Only.chain B11 on12 (fun b hb => by have := (hXin b hb).1; have := B4.size; omega) (Nat.le_refl _)
  clear oG11 HX11 HKX11 HKG11 on12
  have hsx : sumL sT (s.wait.drop 0) ≤ 8388608 := by have h1 := sT_le (s.wait.drop 0); unfold totL at ht; simp only [List.drop_zero] at h1 ⊢; omega
  generalize sumL sT (s.wait.drop 0) = sx at *
  have HKW12 := hid (box_laterP2 HKW.out F412)
  have HRW12 := hid (HRW.out.later F412)
  have p0 := cell_of_row _ _ 0 _ _ _ HKW12.out
  have p1 := cell_of_row _ _ 1 _ _ _ HKW12.out
  have p2 := cell_of_row _ _ 2 _ _ _ HKW12.out
  have p3 := cell_of_row _ _ 3 _ _ _ HKW12.out
  simp only [List.getElem?_toArray, List.getElem?_cons_zero, List.getElem?_cons_succ] at p0 p1 p2 p3
  have q0 := cell_of_row _ _ 0 _ _ _ HKG12.out
  have q1 := cell_of_row _ _ 1 _ _ _ HKG12.out
  have q2 := cell_of_row _ _ 2 _ _ _ HKG12.out
  have q3 := cell_of_row _ _ 3 _ _ _ HKG12.out
  simp only [List.getElem?_toArray, List.getElem?_cons_zero, List.getElem?_cons_succ] at q0 q1 q2 q3
  go_wp2_with fail
  refine (eqLinkOut_any R aG aW cG cW _ (by have h := oG12.rd; rw [← HRY.out, ← HRL.out] at h; exact h) HRW12.out HRT.out).mono ?_
  rintro e w13 ⟨rfl, bl13⟩
  clear p0 p1 p2 p3 q0 q1 q2 q3
  have B13 := below_chain B12 bl13
  have oG13 := oG12.later bl13
  have HX13 := hid (box_laterP2 HX12.out bl13)
  have HKG13 := hid (box_laterP2 HKG12.out bl13)
  have F413 := below_chain F412 bl13
  clear oG12 HX12 HKG12 HKW12 HRW12
  have q0 := cell_of_row _ _ 0 _ _ _ HKG13.out
  have q1 := cell_of_row _ _ 1 _ _ _ HKG13.out
  have q2 := cell_of_row _ _ 2 _ _ _ HKG13.out
  have q3 := cell_of_row _ _ 3 _ _ _ HKG13.out
  simp only [List.getElem?_toArray, List.getElem?_cons_zero, List.getElem?_cons_succ] at q0 q1 q2 q3
  go_wp2_with fail
  refine (markLinkOut_any R.epoch R.next R.now aG cG ys d bG 1 R.wait.length w13 HRL.out oG13 nG tG (by omega)).mono ?_
  rintro e w14 ⟨rfl, oG14, on14⟩
  clear q0 q1 q2 q3 oG13
  have F414 : Below w4.heap.size w4 w14 := Only.chain F413 on14 (fun b hb => by have := (hGin b hb).1; omega) (Nat.le_refl _)
  have HX14 : Hid (w14.heap[w.heap.size]? = _) := hid ((on14.block _ (Array.getElem?_eq_some_iff.1 HX13.out).1 (fun h => by have := hGin _ h; have := (Array.getElem?_eq_some_iff.1 HX4.out).1; omega)).trans HX13.out)
  have HKG14 : Hid (w14.heap[w7.heap.size]? = _) := hid ((on14.block _ (Array.getElem?_eq_some_iff.1 HKG13.out).1 (fun h => by have := hGin _ h; omega)).trans HKG13.out)
  have B14 : Below w.heap.size w w14 := Only.chain B13 on14 (fun b hb => by have := (hGin b hb).1; have := B6.size; omega) (Nat.le_refl _)
  clear HX13 HKG13 on14
  have hrd14 : RdSl cSnt w14 (mkL sT mkS 1 R.wait) (.slice aG R.wait.length cG) := by
    have h := oG14.rd
    have hle : d ≤ ys.length := by
      by_cases hd : d ≤ ys.length
      · exact hd
      · have := oG14.le; simp [mkL_len] at this; omega
    have hl : (ys.take d ++ mkL sT mkS 1 (ys.drop d)).length = ys.length := by simp [mkL_len]; omega
    have hdr : (ys.take d ++ mkL sT mkS 1 (ys.drop d)).drop d = mkL sT mkS 1 (ys.drop d) := by
      rw [List.drop_append_of_le_length (by simp; omega), List.drop_eq_nil_of_le (by simp; omega), List.nil_append]
    rw [hl, hdr, ← HRY.out, ← HRL.out] at h
    exact h
  have HRD14 := hid hrd14
  clear hrd14 oG14
  have q0 := cell_of_row _ _ 0 _ _ _ HKG14.out
  have q1 := cell_of_row _ _ 1 _ _ _ HKG14.out
  have q2 := cell_of_row _ _ 2 _ _ _ HKG14.out
  have q3 := cell_of_row _ _ 3 _ _ _ HKG14.out
  simp only [List.getElem?_toArray, List.getElem?_cons_zero, List.getElem?_cons_succ] at q0 q1 q2 q3
  rw [← HRY.out]
  have hsr : sumL sT R.wait ≤ 8388608 := by have h1 := sT_le R.wait; have := HRT.out; unfold totL at this; omega
  go_wp2_with fail
  refine (heldLinkOut_any R.epoch R.next R.now aG cG R.wait 1 w14 HRD14.out HRT.out (by omega)).mono ?_
  rintro e w15 ⟨rfl, bl15⟩
  clear q0 q1 q2 q3
  have B15 := below_chain B14 bl15
  have HX15 := hid (box_laterP2 HX14.out bl15)
  have F415 := below_chain F414 bl15
  generalize sumL sT R.wait = sr at *
  have p0 := cell_of_row _ _ 0 _ _ _ HX15.out
  have p1 := cell_of_row _ _ 1 _ _ _ HX15.out
  have p2 := cell_of_row _ _ 2 _ _ _ HX15.out
  have p3 := cell_of_row _ _ 3 _ _ _ HX15.out
  simp only [List.getElem?_toArray, List.getElem?_cons_zero, List.getElem?_cons_succ] at p0 p1 p2 p3
  have hsrr : (((1 + sr : Nat) : Int) != ((1 + sr : Nat) : Int)) = false := by simp
  go_wp2_with fail
  refine (toLinkOut_any s a c w15 (HR.out.later B15) ht).mono ?_
  rintro e w16 ⟨a16, c16, bs16, rfl, o16, -, -, bl16⟩
  clear p0 p1 p2 p3
  go_wp2_with fail
  refine (HIM.out a16 c16 w16 o16.rd).mono ?_
  rintro e w17 ⟨aH, cH, zs, dz, bH, rfl, hRz, oH, -, -, -, bl17⟩
  have b17 := below_new1 w17 (.cells #[.int .i64 R.epoch, .int .i64 R.next, .int .i64 R.now, .slice aH R.wait.length cH] 29)
  have HKH : Hid ((w17.alloc (.cells #[.int .i64 R.epoch, .int .i64 R.next, .int .i64 R.now, .slice aH R.wait.length cH] 29)).heap[w17.heap.size]? = some (.cells #[.int .i64 R.epoch, .int .i64 R.next, .int .i64 R.now, .slice aH R.wait.length cH] 29 (0, 0))) := hid (heap_alloc_new w17 _)
  have F1518 := below_chain (below_chain bl16 bl17) b17
  have B18 := below_chain B15 F1518
  have F418 := below_chain F415 F1518
  have HRH : Hid (RdSl cSnt (w17.alloc (.cells #[.int .i64 R.epoch, .int .i64 R.next, .int .i64 R.now, .slice aH R.wait.length cH] 29)) R.wait (.slice aH R.wait.length cH)) := hid (by
    have h := (oH.later b17).rd
    have hl : R.wait.length = zs.length - dz := by rw [hRz]; simp
    rw [← hRz, ← hl] at h
    exact h)
  have HKW18 := hid (box_laterP2 HKW.out F418)
  have HRW18 := hid (HRW.out.later F418)
  clear oH hRz o16 b17
  have p0 := cell_of_row _ _ 0 _ _ _ HKW18.out
  have p1 := cell_of_row _ _ 1 _ _ _ HKW18.out
  have p2 := cell_of_row _ _ 2 _ _ _ HKW18.out
  have p3 := cell_of_row _ _ 3 _ _ _ HKW18.out
  simp only [List.getElem?_toArray, List.getElem?_cons_zero, List.getElem?_cons_succ] at p0 p1 p2 p3
  have q0 := cell_of_row _ _ 0 _ _ _ HKH.out
  have q1 := cell_of_row _ _ 1 _ _ _ HKH.out
  have q2 := cell_of_row _ _ 2 _ _ _ HKH.out
  have q3 := cell_of_row _ _ 3 _ _ _ HKH.out
  simp only [List.getElem?_toArray, List.getElem?_cons_zero, List.getElem?_cons_succ] at q0 q1 q2 q3
  go_wp2_with fail
  generalize (w17.alloc (.cells #[.int .i64 R.epoch, .int .i64 R.next, .int .i64 R.now, .slice aH R.wait.length cH] 29)) = w18 at *
  refine (eqLinkOut_any R aH aW cH cW w18 HRH.out HRW18.out HRT.out).mono ?_
  rintro e w19 ⟨rfl, bl19⟩
  clear p0 p1 p2 p3 q0 q1 q2 q3
  have B19 := below_chain B18 bl19
  go_wp2
  go_ret
  exact ⟨rfl, B19⟩
end Go.Proofs.Ytcljakdcejhfiac
