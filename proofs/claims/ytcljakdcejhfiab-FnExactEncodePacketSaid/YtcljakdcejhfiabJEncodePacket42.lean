import Derived.Test.YtcljakdcejhfiabJEncodePacket15
import Derived.Test.YtcljakdcejhfiabJEncodePacket16
import Derived.Test.YtcljakdcejhfiabJEncodePacket19
import Derived.Test.YtcljakdcejhfiabJEncodePacket28
import Derived.Test.YtcljakdcejhfiabJEncodePacket41
import Derived.Deep.RegionHeld
namespace Go.Proofs.Ytcljakdcejhfiab
open Go.RowKit
theorem box4_later {w w' : World} {g : Nat} {o : Obj} (h : w.heap[g]? = some o) (hb : Below w.heap.size w w') : w'.heap[g]? = some o := (hb.block g (Array.getElem?_eq_some_iff.1 h).1).trans h
theorem box4_only {w w' : World} {g : Nat} {o : Obj} {us : List Nat} (h : w.heap[g]? = some o) (ho : Only us w w') (hg : g ∉ us) : w'.heap[g]? = some o := (ho.block g (Array.getElem?_eq_some_iff.1 h).1 hg).trans h
theorem ownB_later {w w' : World} {xs : List Nat} {v : Value} {bs : List Nat} (h : OwnSl cByte 5 w xs v bs) (hb : Below w.heap.size w w') : OwnSl cByte 5 w' xs v bs := h.kept (fun b hm => hb.block b (h.lt b hm))
set_option maxRecDepth 100000 in
set_option maxHeartbeats 8000000 in
theorem encodePacket_walk (v : Value) (w : World) (h : PacketIn w v) :
    Calls Try.prog 4 #[v] w fun e w' => e = .returned (.bool true) ∧ Below w.heap.size w w' := by
  obtain ⟨m, a, cap, rfl, hr, hin⟩ := h
  have HR := hid hr
  have HI := hid hin
  clear hr hin
  have hb0 := below_new1 w (.cells #[.int .i64 m.kind, .int .i64 m.epoch, .int .i64 m.seq, .int .i64 m.count, .bool m.last, .slice a m.data.length cap] 32)
  have HKA0 : Hid ((w.alloc (.cells #[.int .i64 m.kind, .int .i64 m.epoch, .int .i64 m.seq, .int .i64 m.count, .bool m.last, .slice a m.data.length cap] 32)).heap[w.heap.size]? = some (.cells #[.int .i64 m.kind, .int .i64 m.epoch, .int .i64 m.seq, .int .i64 m.count, .bool m.last, .slice a m.data.length cap] 32 (0, 0))) := hid (heap_alloc_new w _)
  have hsz0 : (w.alloc (.cells #[.int .i64 m.kind, .int .i64 m.epoch, .int .i64 m.seq, .int .i64 m.count, .bool m.last, .slice a m.data.length cap] 32)).heap.size = w.heap.size + 1 := by simp
  go_enter Try.func4, Try.ntmps4
  go_wp2_with fail
  generalize (w.alloc (.cells #[.int .i64 m.kind, .int .i64 m.epoch, .int .i64 m.seq, .int .i64 m.count, .bool m.last, .slice a m.data.length cap] 32)) = w0 at *
  refine (szPacket_any m a cap 1048576 w0 (HR.out.later hb0) HI.out (by omega) (by omega)).mono ?_
  rintro e w1 ⟨rfl, b1⟩
  have B1 := below_chain hb0 b1
  have HKA1 := hid (box4_later HKA0.out b1)
  by_cases hneg : rest 1048576 (m.data.length) < 0
  · generalize rest 1048576 (m.data.length) = r at *
    go_wp2
    go_ret
    exact ⟨rfl, B1⟩
  have ht : m.data.length ≤ 1048576 := by have := rest_fits (l := 1048576) (n := m.data.length) (by omega); omega
  generalize rest 1048576 (m.data.length) = r at *
  have hRL := pktR_len m
  have p0 := cell_of_row _ _ 0 _ _ _ HKA1.out
  have p1 := cell_of_row _ _ 1 _ _ _ HKA1.out
  have p2 := cell_of_row _ _ 2 _ _ _ HKA1.out
  have p3 := cell_of_row _ _ 3 _ _ _ HKA1.out
  have p4 := cell_of_row _ _ 4 _ _ _ HKA1.out
  have p5 := cell_of_row _ _ 5 _ _ _ HKA1.out
  simp only [List.getElem?_toArray, List.getElem?_cons_zero, List.getElem?_cons_succ] at p0 p1 p2 p3 p4 p5
  go_wp2_with fail
  refine (toPacket_any m a cap w1 (HR.out.later B1) HI.out ht).mono ?_
  rintro e w2 ⟨a2, c2, bs2, rfl, o2, -, -, b2⟩
  clear p0 p1 p2 p3 p4 p5
  have B2 := below_chain B1 b2
  go_wp2_with fail
  refine (specPkt_any m a2 c2 w2 o2.rd).mono ?_
  rintro e w3 ⟨aW, cW, rfl, oW, b3⟩
  generalize hRE : pktR m = R at *
  have HRE := hid hRE
  clear hRE o2
  have hWL := fun g h => (own_in (g := g) oW h).2
  have B3 := below_chain B2 b3
  have HKA3 := hid (box4_later HKA1.out (below_chain b2 b3))
  have p0 := cell_of_row _ _ 0 _ _ _ HKA3.out
  have p1 := cell_of_row _ _ 1 _ _ _ HKA3.out
  have p2 := cell_of_row _ _ 2 _ _ _ HKA3.out
  have p3 := cell_of_row _ _ 3 _ _ _ HKA3.out
  have p4 := cell_of_row _ _ 4 _ _ _ HKA3.out
  have p5 := cell_of_row _ _ 5 _ _ _ HKA3.out
  simp only [List.getElem?_toArray, List.getElem?_cons_zero, List.getElem?_cons_succ] at p0 p1 p2 p3 p4 p5
  go_wp2_with fail
  refine (toPacket_any m a cap w3 (HR.out.later B3) HI.out ht).mono ?_
  rintro e w4 ⟨a4, c4, bs4, rfl, o4, l4, n4, b4⟩
  clear p0 p1 p2 p3 p4 p5
  have B4 := below_chain B3 b4
  have lt4 := o4.lt
  have b5 := below_new1 w4 (.cells #[.int .i64 m.kind, .int .i64 m.epoch, .int .i64 m.seq, .int .i64 m.count, .bool m.last, .slice a4 m.data.length c4] 35)
  have HKX5 : Hid ((w4.alloc (.cells #[.int .i64 m.kind, .int .i64 m.epoch, .int .i64 m.seq, .int .i64 m.count, .bool m.last, .slice a4 m.data.length c4] 35)).heap[w4.heap.size]? = some (.cells #[.int .i64 m.kind, .int .i64 m.epoch, .int .i64 m.seq, .int .i64 m.count, .bool m.last, .slice a4 m.data.length c4] 35 (0, 0))) := hid (heap_alloc_new w4 _)
  have hsz5 : (w4.alloc (.cells #[.int .i64 m.kind, .int .i64 m.epoch, .int .i64 m.seq, .int .i64 m.count, .bool m.last, .slice a4 m.data.length c4] 35)).heap.size = w4.heap.size + 1 := by simp
  have B5 := below_chain B4 b5
  have O5 := ownB_later o4 b5
  have HKA5 := hid (box4_later HKA3.out (below_chain b4 b5))
  have oW5 := own_later oW (below_chain b4 b5)
  clear o4
  go_wp2_with fail
  generalize (w4.alloc (.cells #[.int .i64 m.kind, .int .i64 m.epoch, .int .i64 m.seq, .int .i64 m.count, .bool m.last, .slice a4 m.data.length c4] 35)) = w5 at *
  refine (implPkt_any m a4 c4 w5 O5.rd).mono ?_
  rintro e w6 ⟨aG, cG, he, oG, b6⟩
  rw [HRE.out] at he oG
  subst he
  have B6 := below_chain B5 b6
  have oW6 := own_later oW5 b6
  go_wp2_with fail
  refine (eqByteS_any _ _ _ _ _ R w6 (rd_at oG) (rd_at oW6) rfl (by omega)).mono ?_
  rintro e w7 ⟨rfl, b7⟩
  have b57 := below_chain b6 b7
  have B7 := below_chain B6 b7
  have O7 := ownB_later O5 b57
  have HKA7 := hid (box4_later HKA5.out b57)
  have HKX7 := hid (box4_later HKX5.out b57)
  have oW7 := own_later oW6 b7
  have oG7 := own_later oG b7
  clear O5 oW5 oW6 oW
  have p0 := cell_of_row _ _ 0 _ _ _ HKA7.out
  have p1 := cell_of_row _ _ 1 _ _ _ HKA7.out
  have p2 := cell_of_row _ _ 2 _ _ _ HKA7.out
  have p3 := cell_of_row _ _ 3 _ _ _ HKA7.out
  have p4 := cell_of_row _ _ 4 _ _ _ HKA7.out
  have p5 := cell_of_row _ _ 5 _ _ _ HKA7.out
  simp only [List.getElem?_toArray, List.getElem?_cons_zero, List.getElem?_cons_succ] at p0 p1 p2 p3 p4 p5
  have q0 := cell_of_row _ _ 0 _ _ _ HKX7.out
  have q1 := cell_of_row _ _ 1 _ _ _ HKX7.out
  have q2 := cell_of_row _ _ 2 _ _ _ HKX7.out
  have q3 := cell_of_row _ _ 3 _ _ _ HKX7.out
  have q4 := cell_of_row _ _ 4 _ _ _ HKX7.out
  have q5 := cell_of_row _ _ 5 _ _ _ HKX7.out
  simp only [List.getElem?_toArray, List.getElem?_cons_zero, List.getElem?_cons_succ] at q0 q1 q2 q3 q4 q5
  have HT7 : Hid (Calls Try.prog 20 #[.agg #[.int .i64 m.kind, .int .i64 m.epoch, .int .i64 m.seq, .int .i64 m.count, .bool m.last, .slice a m.data.length cap]] w7.drew fun e w8 => ∃ a8 c8, e = .returned (.agg #[.int .i64 m.kind, .int .i64 m.epoch, .int .i64 m.seq, .int .i64 m.count, .bool m.last, .slice a8 m.data.length c8]) ∧ Hid (RdSl cByte w8 m.data (.slice a8 m.data.length c8)) ∧ Hid (Below w7.heap.size w7 w8) ∧ w8.cell? ⟨w.heap.size, 0, none⟩ = some (.int .i64 m.kind) ∧ w8.cell? ⟨w.heap.size, 1, none⟩ = some (.int .i64 m.epoch) ∧ w8.cell? ⟨w.heap.size, 2, none⟩ = some (.int .i64 m.seq) ∧ w8.cell? ⟨w.heap.size, 3, none⟩ = some (.int .i64 m.count) ∧ w8.cell? ⟨w.heap.size, 4, none⟩ = some (.bool m.last) ∧ w8.cell? ⟨w.heap.size, 5, none⟩ = some (.slice a m.data.length cap) ∧ w8.cell? ⟨w4.heap.size, 0, none⟩ = some (.int .i64 m.kind) ∧ w8.cell? ⟨w4.heap.size, 1, none⟩ = some (.int .i64 m.epoch) ∧ w8.cell? ⟨w4.heap.size, 2, none⟩ = some (.int .i64 m.seq) ∧ w8.cell? ⟨w4.heap.size, 3, none⟩ = some (.int .i64 m.count) ∧ w8.cell? ⟨w4.heap.size, 4, none⟩ = some (.bool m.last) ∧ w8.cell? ⟨w4.heap.size, 5, none⟩ = some (.slice a4 m.data.length c4)) := hid (by
    refine (toPacket_any m a cap w7.drew (HR.out.later B7.drew) HI.out ht).mono ?_
    rintro e w8 ⟨a8, c8, bs8, rfl, o8, -, -, b8⟩
    have kp : ∀ p v, w7.cell? p = some v → w8.cell? p = some v := fun p v h => (b8.cell (World.block_lt_of_cell? w7.drew _ h)).trans h
    exact ⟨a8, c8, rfl, hid o8.rd, hid ((Below.refl _ w7).drew.trans b8), kp _ _ p0, kp _ _ p1, kp _ _ p2, kp _ _ p3, kp _ _ p4, kp _ _ p5, kp _ _ q0, kp _ _ q1, kp _ _ q2, kp _ _ q3, kp _ _ q4, kp _ _ q5⟩)
  have HE7 : Hid (∀ w8 a8 c8, Hid (RdSl cByte w8 m.data (.slice a8 m.data.length c8)) → Hid (Below w7.heap.size w7 w8) → Calls Try.prog 22 #[.agg #[.int .i64 m.kind, .int .i64 m.epoch, .int .i64 m.seq, .int .i64 m.count, .bool m.last, .slice a4 m.data.length c4], .agg #[.int .i64 m.kind, .int .i64 m.epoch, .int .i64 m.seq, .int .i64 m.count, .bool m.last, .slice a8 m.data.length c8]] w8 fun e w9 => e = .returned (.bool true) ∧ Hid (Below w7.heap.size w7 w9) ∧ w9.cell? ⟨w.heap.size, 0, none⟩ = some (.int .i64 m.kind) ∧ w9.cell? ⟨w.heap.size, 1, none⟩ = some (.int .i64 m.epoch) ∧ w9.cell? ⟨w.heap.size, 2, none⟩ = some (.int .i64 m.seq) ∧ w9.cell? ⟨w.heap.size, 3, none⟩ = some (.int .i64 m.count) ∧ w9.cell? ⟨w.heap.size, 4, none⟩ = some (.bool m.last) ∧ w9.cell? ⟨w.heap.size, 5, none⟩ = some (.slice a m.data.length cap) ∧ w9.cell? ⟨w4.heap.size, 0, none⟩ = some (.int .i64 m.kind) ∧ w9.cell? ⟨w4.heap.size, 1, none⟩ = some (.int .i64 m.epoch) ∧ w9.cell? ⟨w4.heap.size, 2, none⟩ = some (.int .i64 m.seq) ∧ w9.cell? ⟨w4.heap.size, 3, none⟩ = some (.int .i64 m.count) ∧ w9.cell? ⟨w4.heap.size, 4, none⟩ = some (.bool m.last) ∧ w9.cell? ⟨w4.heap.size, 5, none⟩ = some (.slice a4 m.data.length c4)) := hid (fun w8 a8 c8 h8 hb => by
    refine (eqPacket_any m a4 a8 c4 c8 w8 (O7.rd.later hb.out) h8.out HI.out ht).mono ?_
    rintro e w9 ⟨rfl, b9⟩
    have hb9 := below_chain hb.out b9
    have kp : ∀ p v, w7.cell? p = some v → w9.cell? p = some v := fun p v h => (hb9.cell (World.block_lt_of_cell? w7 _ h)).trans h
    exact ⟨rfl, hid hb9, kp _ _ p0, kp _ _ p1, kp _ _ p2, kp _ _ p3, kp _ _ p4, kp _ _ p5, kp _ _ q0, kp _ _ q1, kp _ _ q2, kp _ _ q3, kp _ _ q4, kp _ _ q5⟩)
  go_wp2
  first | (go_region_held (fun w' => w'.cell? ⟨w.heap.size, 0, none⟩ = some (.int .i64 m.kind) ∧ w'.cell? ⟨w.heap.size, 1, none⟩ = some (.int .i64 m.epoch) ∧ w'.cell? ⟨w.heap.size, 2, none⟩ = some (.int .i64 m.seq) ∧ w'.cell? ⟨w.heap.size, 3, none⟩ = some (.int .i64 m.count) ∧ w'.cell? ⟨w.heap.size, 4, none⟩ = some (.bool m.last) ∧ w'.cell? ⟨w.heap.size, 5, none⟩ = some (.slice a m.data.length cap) ∧ w'.cell? ⟨w4.heap.size, 0, none⟩ = some (.int .i64 m.kind) ∧ w'.cell? ⟨w4.heap.size, 1, none⟩ = some (.int .i64 m.epoch) ∧ w'.cell? ⟨w4.heap.size, 2, none⟩ = some (.int .i64 m.seq) ∧ w'.cell? ⟨w4.heap.size, 3, none⟩ = some (.int .i64 m.count) ∧ w'.cell? ⟨w4.heap.size, 4, none⟩ = some (.bool m.last) ∧ w'.cell? ⟨w4.heap.size, 5, none⟩ = some (.slice a4 m.data.length c4)) (go_keep) (first
    | (go_at_call 20; refine HT7.out.mono ?_; rintro e w8 ⟨a8, c8, rfl, hr8, hb8, x0, x1, x2, x3, x4, x5, y0, y1, y2, y3, y4, y5⟩)
    | (go_at_call 22; refine (HE7.out _ a8 c8 hr8 hb8).mono ?_; rintro e w9 ⟨rfl, hb9, z0, z1, z2, z3, z4, z5, u0, u1, u2, u3, u4, u5⟩))) | fail
  have B9 := below_chain B7 hb9.out
  have O9 := ownB_later O7 hb9.out
  have HKA9 := hid (box4_later HKA7.out hb9.out)
  have HKX9 := hid (box4_later HKX7.out hb9.out)
  have oW9 := own_later oW7 hb9.out
  have oG9 := own_later oG7 hb9.out
  clear p0 p1 p2 p3 p4 p5 q0 q1 q2 q3 q4 q5 z0 z1 z2 z3 z4 z5 u0 u1 u2 u3 u4 u5
  clear O7 oW7 oG7 HT7 HE7
  have hW := fun g h => own_in (g := g) oW9 h
  have hG := fun g h => own_in (g := g) oG9 h
  have hs23 : w2.heap.size ≤ w3.heap.size := b3.size
  have hs34 : w3.heap.size ≤ w4.heap.size := b4.size
  have hWlt : ∀ g, (Value.slice aW R.length cW).ownBlock = some g → g < w3.heap.size := hWL
  have hsw2 : w.heap.size ≤ w2.heap.size := B2.size
  have hsw : w.heap.size < w3.heap.size := by have := B3.size; have := (Array.getElem?_eq_some_iff.1 HKA3.out).1; omega
  have q0 := cell_of_row _ _ 0 _ _ _ HKX9.out
  have q1 := cell_of_row _ _ 1 _ _ _ HKX9.out
  have q2 := cell_of_row _ _ 2 _ _ _ HKX9.out
  have q3 := cell_of_row _ _ 3 _ _ _ HKX9.out
  have q4 := cell_of_row _ _ 4 _ _ _ HKX9.out
  have q5 := cell_of_row _ _ 5 _ _ _ HKX9.out
  simp only [List.getElem?_toArray, List.getElem?_cons_zero, List.getElem?_cons_succ] at q0 q1 q2 q3 q4 q5
  go_wp2_with fail
  have hbs4 := O9.bytes.2.1
  refine (markPacket_any m a4 c4 0 1 _ w9 O9.bytes.1 (by omega) (by omega)).mono ?_
  rintro e w10 ⟨rfl, -, on10⟩
  rw [← hbs4] at on10
  clear hbs4
  clear q0 q1 q2 q3 q4 q5
  have oW10 := ownsRow_kept oW9 (w' := w10) (fun b hb => on10.block b (hW b hb).2 (fun h => by have := l4 b h; have := hWlt b hb; omega))
  have oG10 := ownsRow_kept oG9 (w' := w10) (fun b hb => on10.block b (hG b hb).2 (fun h => by have := lt4 b h; have := hG b hb; omega))
  have HKA10 := hid (box4_only HKA9.out on10 (fun h => by have := l4 _ h; omega))
  have B10 : Below w.heap.size w w10 := Only.chain B9 on10 (fun x hx => by have := l4 x hx; omega) (Nat.le_refl _)
  clear O9 oW9 oG9 on10
  go_wp2_with fail
  refine (eqByteS_any _ _ _ _ _ R w10 (rd_at oG10) (rd_at oW10) rfl (by omega)).mono ?_
  rintro e w11 ⟨rfl, b11⟩
  have oW11 := own_later oW10 b11
  have oG11 := own_later oG10 b11
  have HKA11 := hid (box4_later HKA10.out b11)
  have B11 := below_chain B10 b11
  go_wp2_with fail
  refine (markByteS_any _ _ 1 _ _ w11 oG11 (by omega) (by omega)).mono ?_
  rintro e w12 ⟨rfl, oG12, gr12⟩
  have oW12 := own_marked oW11 gr12 (fun k g e f => by have := hWlt k e; have := hG g f; omega)
  have HKA12 : Hid (w12.heap[w.heap.size]? = _) := hid ((gr12.block _ (Array.getElem?_eq_some_iff.1 HKA11.out).1 (fun e => by have := hG _ e.symm; omega)).trans HKA11.out)
  have B12 := below_marked B11 gr12 (fun g f => by have := hG g f; omega)
  go_wp2_with fail
  refine (heldByteS_any _ _ _ 1 w12 (rd_at oG12) (by omega) (by omega)).mono ?_
  rintro e w13 ⟨rfl, b13⟩
  have oW13 := own_later oW12 b13
  have HKA13 := hid (box4_later HKA12.out b13)
  have B13 := below_chain B12 b13
  have p0 := cell_of_row _ _ 0 _ _ _ HKA13.out
  have p1 := cell_of_row _ _ 1 _ _ _ HKA13.out
  have p2 := cell_of_row _ _ 2 _ _ _ HKA13.out
  have p3 := cell_of_row _ _ 3 _ _ _ HKA13.out
  have p4 := cell_of_row _ _ 4 _ _ _ HKA13.out
  have p5 := cell_of_row _ _ 5 _ _ _ HKA13.out
  simp only [List.getElem?_toArray, List.getElem?_cons_zero, List.getElem?_cons_succ] at p0 p1 p2 p3 p4 p5
  go_wp2_with fail
  refine (toPacket_any m a cap w13 (HR.out.later B13) HI.out ht).mono ?_
  rintro e w14 ⟨a14, c14, bs14, rfl, o14, -, -, b14⟩
  clear p0 p1 p2 p3 p4 p5
  have B14 := below_chain B13 b14
  go_wp2_with fail
  refine (implPkt_any m a14 c14 w14 o14.rd).mono ?_
  rintro e w15 ⟨aH, cH, he, oH, b15⟩
  rw [HRE.out] at he oH
  subst he
  have B15 := below_chain B14 b15
  go_wp2_with fail
  refine (eqByteS_any _ _ _ _ _ R w15 (rd_at oH) (rd_at (own_later oW13 (below_chain b14 b15))) rfl (by omega)).mono ?_
  rintro e w16 ⟨rfl, b16⟩
  go_wp2
  go_ret
  exact ⟨rfl, below_chain B15 b16⟩
end Go.Proofs.Ytcljakdcejhfiab
