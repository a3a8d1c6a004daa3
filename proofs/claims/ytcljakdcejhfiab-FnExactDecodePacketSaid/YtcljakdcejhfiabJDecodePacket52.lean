import Derived.Test.YtcljakdcejhfiabJDecodePacket30
import Derived.Test.YtcljakdcejhfiabJDecodePacket47
import Derived.Test.YtcljakdcejhfiabJDecodePacket48
import Derived.Test.YtcljakdcejhfiabJDecodePacket51
import Derived.Test.YtcljakdcejhfiabJDecodePacket1
import Derived.Deep.RegionHeld
namespace Go.Proofs.Ytcljakdcejhfiab
open Go.RowKit
theorem getD_lt {xs : List Nat} (h : ∀ x ∈ xs, x < 256) (k : Nat) : xs[k]?.getD 0 < 256 := by
  cases hx : xs[k]? with
  | none => simp
  | some x => simpa using h x (List.mem_of_getElem? hx)
theorem pkP_in {xs : List Nat} (h : ∀ x ∈ xs, x < 256) : PPIn (pkP xs) := by
  unfold pkP
  split
  · have hlt : ∀ lo n, ∀ x ∈ (xs.drop lo).take n, x < 256 := fun lo n x hx => h x (List.mem_of_mem_drop (List.mem_of_mem_take hx))
    have hK := getD_lt h 1
    have hE := num_below (n := 4) (hlt 2 4) (by simp; omega)
    have hC := num_below (n := 4) (hlt 14 4) (by simp; omega)
    simp only [Nat.reducePow] at hE hC
    refine ⟨?_, ?_, ?_, ?_⟩
    · unfold pktG IntIn; dsimp only; omega
    · unfold pktG IntIn; dsimp only; omega
    · unfold pktG IntIn; dsimp only; rw [← wr64]; unfold wrap64; omega
    · unfold pktG IntIn; dsimp only; omega
  · refine ⟨?_, ?_, ?_, ?_⟩ <;> unfold noPkt IntIn <;> simp
theorem pkP_len (xs : List Nat) : (pkP xs).data.length ≤ xs.length := by
  unfold pkP
  split
  · unfold pktG; simp; omega
  · simp [noPkt]
theorem pkP_lt {xs : List Nat} (h : ∀ x ∈ xs, x < 256) : ∀ x ∈ (pkP xs).data, x < 256 := by
  unfold pkP
  split
  · exact fun x hx => h x (List.mem_of_mem_drop (List.mem_of_mem_take hx))
  · simp [noPkt]
set_option maxRecDepth 100000 in
set_option maxHeartbeats 8000000 in
theorem decodePacket_walk (a : Option Addr) (n cap : Nat) (w : World) (h : BytesIn w a n cap) :
    Calls Try.prog 6 #[.slice a n cap] w fun e w' => e = .returned (.bool true) ∧ Below w.heap.size w w' := by
  obtain ⟨hml, -, xs, hn, hby, hrd⟩ := h
  subst hn
  unfold maxLen at hml
  by_cases hbig : 1048576 < xs.length
  · have hbi : (1048576 : Int) < (xs.length : Int) := by omega
    go_enter Try.func6, Try.ntmps6
    go_wp2
    go_ret
    exact ⟨rfl, Below.refl _ _⟩
  have hbi : decide (1048576 < (xs.length : Int)) = false := decide_eq_false (by omega)
  have HR := hid hrd
  have HBY := hid hby
  have HIN := hid (pkP_in hby)
  have HDB := hid (pkP_lt hby)
  have hPL := pkP_len xs
  have hdl : (pkP xs).data.length ≤ 1048576 := by omega
  have HSP := hid (fun b c w' h => specPd_any b c xs w' h (by omega))
  have HIM := hid (fun b c w' h => implPd_any b c xs w' h (by omega))
  generalize hp : pkP xs = p at *
  generalize hC : pkC xs = C at *
  clear hrd hby hp hC
  have hCC : (C != C) = false := by simp
  go_enter Try.func6, Try.ntmps6
  go_wp2_with fail
  refine (toByteS_any a cap xs w HR.out (by omega)).mono ?_
  rintro e w1 ⟨g1, rfl, o1, b1⟩
  go_wp2_with fail
  refine (HSP.out _ _ w1 (own_rdSl o1 HBY.out)).mono ?_
  rintro e w2 ⟨aW, cW, rfl, oW, b2⟩
  have B2 := below_chain b1 b2
  have hWlt : ∀ g, (Value.slice aW p.data.length cW).ownBlock = some g → g < w2.heap.size := fun g h => (own_in oW h).2
  have hs12 : w.heap.size ≤ w1.heap.size := b1.size
  clear o1 b1
  
  have b3 := below_new1 w2 (.cells #[.int .i64 p.kind, .int .i64 p.epoch, .int .i64 p.seq, .int .i64 p.count, .bool p.last, .slice aW p.data.length cW] 35)
  have HKW : Hid ((w2.alloc (.cells #[.int .i64 p.kind, .int .i64 p.epoch, .int .i64 p.seq, .int .i64 p.count, .bool p.last, .slice aW p.data.length cW] 35)).heap[w2.heap.size]? = some (.cells #[.int .i64 p.kind, .int .i64 p.epoch, .int .i64 p.seq, .int .i64 p.count, .bool p.last, .slice aW p.data.length cW] 35 (0, 0))) := hid (heap_alloc_new w2 _)
  have hs3 : w2.heap.size + 1 ≤ (w2.alloc (.cells #[.int .i64 p.kind, .int .i64 p.epoch, .int .i64 p.seq, .int .i64 p.count, .bool p.last, .slice aW p.data.length cW] 35)).heap.size := by simp
  have B3 := below_chain B2 b3
  have oW3 := own_later oW b3
  clear oW b2
  go_wp2_with fail
  generalize (w2.alloc (.cells #[.int .i64 p.kind, .int .i64 p.epoch, .int .i64 p.seq, .int .i64 p.count, .bool p.last, .slice aW p.data.length cW] 35)) = w3 at *
  refine (toByteS_any a cap xs w3 (HR.out.later B3) (by omega)).mono ?_
  rintro e w4 ⟨gX, rfl, oX, b4⟩
  have B4 := below_chain B3 b4
  have oW4 := own_later oW3 b4
  have HKW4 := hid (box_laterP HKW.out b4)
  have hXi := own_in (g := gX) oX rfl
  clear oW3 HKW
  go_wp2_with fail
  refine (HIM.out _ _ w4 (own_rdSl oX HBY.out)).mono ?_
  rintro e w5 ⟨aG, cG, rfl, oG, b5⟩
  have B5 := below_chain B4 b5
  have oW5 := own_later oW4 b5
  have oX5 := own_later oX b5
  have HKW5 := hid (box_laterP HKW4.out b5)
  have hGi := fun g h => own_in (g := g) oG h
  clear oW4 oX HKW4
  have b6 := below_new1 w5 (.cells #[.int .i64 p.kind, .int .i64 p.epoch, .int .i64 p.seq, .int .i64 p.count, .bool p.last, .slice aG p.data.length cG] 35)
  have HKG : Hid ((w5.alloc (.cells #[.int .i64 p.kind, .int .i64 p.epoch, .int .i64 p.seq, .int .i64 p.count, .bool p.last, .slice aG p.data.length cG] 35)).heap[w5.heap.size]? = some (.cells #[.int .i64 p.kind, .int .i64 p.epoch, .int .i64 p.seq, .int .i64 p.count, .bool p.last, .slice aG p.data.length cG] 35 (0, 0))) := hid (heap_alloc_new w5 _)
  have B6 := below_chain B5 b6
  have oW6 := own_later oW5 b6
  have oX6 := own_later oX5 b6
  have oG6 := own_later oG b6
  have HKW6 := hid (box_laterP HKW5.out b6)
  have hs45 := b5.size
  clear oW5 oX5 oG HKW5
  have kw := HKW6.out
  have kg := HKG.out
  have p0 := cell_of_row _ _ 0 _ _ _ kw
  have p1 := cell_of_row _ _ 1 _ _ _ kw
  have p2 := cell_of_row _ _ 2 _ _ _ kw
  have p3 := cell_of_row _ _ 3 _ _ _ kw
  have p4 := cell_of_row _ _ 4 _ _ _ kw
  have p5 := cell_of_row _ _ 5 _ _ _ kw
  simp only [List.getElem?_toArray, List.getElem?_cons_zero, List.getElem?_cons_succ] at p0 p1 p2 p3 p4 p5
  have q0 := cell_of_row _ _ 0 _ _ _ kg
  have q1 := cell_of_row _ _ 1 _ _ _ kg
  have q2 := cell_of_row _ _ 2 _ _ _ kg
  have q3 := cell_of_row _ _ 3 _ _ _ kg
  have q4 := cell_of_row _ _ 4 _ _ _ kg
  have q5 := cell_of_row _ _ 5 _ _ _ kg
  simp only [List.getElem?_toArray, List.getElem?_cons_zero, List.getElem?_cons_succ] at q0 q1 q2 q3 q4 q5
  clear kw kg
  go_wp2_with fail
  generalize (w5.alloc (.cells #[.int .i64 p.kind, .int .i64 p.epoch, .int .i64 p.seq, .int .i64 p.count, .bool p.last, .slice aG p.data.length cG] 35)) = w6 at *
  refine (eqPacket_any p aG aW cG cW w6 (own_rdSl oG6 HDB.out) (own_rdSl oW6 HDB.out) HIN.out hdl).mono ?_
  rintro e w7 ⟨rfl, b7⟩
  clear p0 p1 p2 p3 p4 p5 q0 q1 q2 q3 q4 q5
  have B7 := below_chain B6 b7
  have oW7 := own_later oW6 b7
  have oX7 := own_later oX6 b7
  have oG7 := own_later oG6 b7
  have HKW7 := hid (box_laterP HKW6.out b7)
  have HKG7 := hid (box_laterP HKG.out b7)
  clear oW6 oX6 oG6 HKW6 HKG
  go_wp2_with fail
  refine (toByteS_any a cap xs w7 (HR.out.later B7) (by omega)).mono ?_
  rintro e w8 ⟨g8, rfl, o8, b8⟩
  have oX8 := own_later oX7 b8
  go_wp2_with fail
  refine (eqByteS_any _ _ _ _ _ xs w8 (rd_at oX8) (rd_at o8) rfl (by omega)).mono ?_
  rintro e w9 ⟨rfl, b9⟩
  have b79 := below_chain b8 b9
  have B9 := below_chain B7 b79
  have oW9 := own_later oW7 b79
  have oX9 := own_later oX7 b79
  have oG9 := own_later oG7 b79
  have HKW9 := hid (box_laterP HKW7.out b79)
  have HKG9 := hid (box_laterP HKG7.out b79)
  clear oW7 oX7 oG7 HKW7 HKG7 oX8 o8
  have hsB3 := B3.size
  go_wp2_with fail
  refine (markByteS_any _ _ 1 _ _ w9 oX9 (by omega) (by omega)).mono ?_
  rintro e w10 ⟨rfl, -, gr10⟩
  have hG9 := fun g h => own_in (g := g) oG9 h
  have oW10 := own_marked oW9 gr10 (fun k g e f => by simp [Value.ownBlock] at f; subst f; have := hWlt k e; omega)
  have oG10 := own_marked oG9 gr10 (fun k g e f => by simp [Value.ownBlock] at f; subst f; have := hG9 k e; omega)
  have HKW10 : Hid (w10.heap[w2.heap.size]? = _) := hid ((gr10.block _ (Array.getElem?_eq_some_iff.1 HKW9.out).1 (fun e => by simp [Value.ownBlock] at e; omega)).trans HKW9.out)
  have HKG10 : Hid (w10.heap[w5.heap.size]? = _) := hid ((gr10.block _ (Array.getElem?_eq_some_iff.1 HKG9.out).1 (fun e => by simp [Value.ownBlock] at e; omega)).trans HKG9.out)
  have B10 := below_marked B9 gr10 (fun g f => by simp [Value.ownBlock] at f; subst f; omega)
  clear oW9 oX9 oG9 HKW9 HKG9 gr10 hG9
  have kw := HKW10.out
  have kg := HKG10.out
  have p0 := cell_of_row _ _ 0 _ _ _ kw
  have p1 := cell_of_row _ _ 1 _ _ _ kw
  have p2 := cell_of_row _ _ 2 _ _ _ kw
  have p3 := cell_of_row _ _ 3 _ _ _ kw
  have p4 := cell_of_row _ _ 4 _ _ _ kw
  have p5 := cell_of_row _ _ 5 _ _ _ kw
  simp only [List.getElem?_toArray, List.getElem?_cons_zero, List.getElem?_cons_succ] at p0 p1 p2 p3 p4 p5
  have q0 := cell_of_row _ _ 0 _ _ _ kg
  have q1 := cell_of_row _ _ 1 _ _ _ kg
  have q2 := cell_of_row _ _ 2 _ _ _ kg
  have q3 := cell_of_row _ _ 3 _ _ _ kg
  have q4 := cell_of_row _ _ 4 _ _ _ kg
  have q5 := cell_of_row _ _ 5 _ _ _ kg
  simp only [List.getElem?_toArray, List.getElem?_cons_zero, List.getElem?_cons_succ] at q0 q1 q2 q3 q4 q5
  clear kw kg
  go_wp2_with fail
  refine (eqPacket_any p aG aW cG cW w10 (own_rdSl oG10 HDB.out) (own_rdSl oW10 HDB.out) HIN.out hdl).mono ?_
  rintro e w11 ⟨rfl, b11⟩
  clear p0 p1 p2 p3 p4 p5 q0 q1 q2 q3 q4 q5
  have B11 := below_chain B10 b11
  have oW11 := own_later oW10 b11
  have oG11 := own_later oG10 b11
  have HKW11 := hid (box_laterP HKW10.out b11)
  have HKG11 := hid (box_laterP HKG10.out b11)
  clear oW10 oG10 HKW10 HKG10
  have kg := HKG11.out
  have q0 := cell_of_row _ _ 0 _ _ _ kg
  have q1 := cell_of_row _ _ 1 _ _ _ kg
  have q2 := cell_of_row _ _ 2 _ _ _ kg
  have q3 := cell_of_row _ _ 3 _ _ _ kg
  have q4 := cell_of_row _ _ 4 _ _ _ kg
  have q5 := cell_of_row _ _ 5 _ _ _ kg
  simp only [List.getElem?_toArray, List.getElem?_cons_zero, List.getElem?_cons_succ] at q0 q1 q2 q3 q4 q5
  clear kg
  go_wp2_with fail
  refine (markPacket_any p aG cG _ 1 _ w11 oG11 (by omega) (by omega)).mono ?_
  rintro e w12 ⟨rfl, oG12, on12⟩
  clear q0 q1 q2 q3 q4 q5
  have hG11 := fun g h => own_in (g := g) oG11 h
  have hW11 := fun g h => own_in (g := g) oW11 h
  have hin : ∀ x ∈ (Value.slice aG p.data.length cG).ownBlock.toList, w4.heap.size ≤ x ∧ x < w5.heap.size := fun x hx => by
    simp only [Option.mem_toList] at hx
    exact hGi x hx
  have oW12 := ownsRow_kept oW11 (w' := w12) (fun b hb => on12.block b (hW11 b hb).2 (fun h => by have := (hin b h).1; have := hWlt b hb; omega))
  have HKW12 : Hid (w12.heap[w2.heap.size]? = _) := hid ((on12.block _ (Array.getElem?_eq_some_iff.1 HKW11.out).1 (fun h => by have := (hin _ h).1; omega)).trans HKW11.out)
  have HKG12 : Hid (w12.heap[w5.heap.size]? = _) := hid ((on12.block _ (Array.getElem?_eq_some_iff.1 HKG11.out).1 (fun h => by have := (hin _ h).2; omega)).trans HKG11.out)
  have B12 : Below w.heap.size w w12 := Only.chain B11 on12 (fun x hx => by have := (hin x hx).1; omega) (Nat.le_refl _)
  clear oW11 oG11 HKW11 HKG11 hG11 hW11
  have kg := HKG12.out
  have q0 := cell_of_row _ _ 0 _ _ _ kg
  have q1 := cell_of_row _ _ 1 _ _ _ kg
  have q2 := cell_of_row _ _ 2 _ _ _ kg
  have q3 := cell_of_row _ _ 3 _ _ _ kg
  have q4 := cell_of_row _ _ 4 _ _ _ kg
  have q5 := cell_of_row _ _ 5 _ _ _ kg
  simp only [List.getElem?_toArray, List.getElem?_cons_zero, List.getElem?_cons_succ] at q0 q1 q2 q3 q4 q5
  clear kg
  go_wp2_with fail
  refine (heldPacket_any p aG cG 1 w12 (rd_at oG12) (by omega) (by omega)).mono ?_
  rintro e w13 ⟨rfl, b13⟩
  clear q0 q1 q2 q3 q4 q5
  have B13 := below_chain B12 b13
  have oW13 := own_later oW12 b13
  have HKW13 := hid (box_laterP HKW12.out b13)
  clear oW12 HKW12 HKG12 oG12 on12
  go_wp2_with fail
  refine (toByteS_any a cap xs w13 (HR.out.later B13) (by omega)).mono ?_
  rintro e w14 ⟨g14, rfl, o14, b14⟩
  go_wp2_with fail
  refine (HIM.out _ _ w14 (own_rdSl o14 HBY.out)).mono ?_
  rintro e w15 ⟨aH, cH, rfl, oH, b15⟩
  have b16 := below_new1 w15 (.cells #[.int .i64 p.kind, .int .i64 p.epoch, .int .i64 p.seq, .int .i64 p.count, .bool p.last, .slice aH p.data.length cH] 35)
  have HKH : Hid ((w15.alloc (.cells #[.int .i64 p.kind, .int .i64 p.epoch, .int .i64 p.seq, .int .i64 p.count, .bool p.last, .slice aH p.data.length cH] 35)).heap[w15.heap.size]? = some (.cells #[.int .i64 p.kind, .int .i64 p.epoch, .int .i64 p.seq, .int .i64 p.count, .bool p.last, .slice aH p.data.length cH] 35 (0, 0))) := hid (heap_alloc_new w15 _)
  have b136 := below_chain (below_chain b14 b15) b16
  have B16 := below_chain B13 b136
  have oW16 := own_later oW13 b136
  have oH16 := own_later oH b16
  have HKW16 := hid (box_laterP HKW13.out b136)
  clear oW13 oH HKW13 o14
  have kw := HKW16.out
  have kh := HKH.out
  have p0 := cell_of_row _ _ 0 _ _ _ kw
  have p1 := cell_of_row _ _ 1 _ _ _ kw
  have p2 := cell_of_row _ _ 2 _ _ _ kw
  have p3 := cell_of_row _ _ 3 _ _ _ kw
  have p4 := cell_of_row _ _ 4 _ _ _ kw
  have p5 := cell_of_row _ _ 5 _ _ _ kw
  simp only [List.getElem?_toArray, List.getElem?_cons_zero, List.getElem?_cons_succ] at p0 p1 p2 p3 p4 p5
  have q0 := cell_of_row _ _ 0 _ _ _ kh
  have q1 := cell_of_row _ _ 1 _ _ _ kh
  have q2 := cell_of_row _ _ 2 _ _ _ kh
  have q3 := cell_of_row _ _ 3 _ _ _ kh
  have q4 := cell_of_row _ _ 4 _ _ _ kh
  have q5 := cell_of_row _ _ 5 _ _ _ kh
  simp only [List.getElem?_toArray, List.getElem?_cons_zero, List.getElem?_cons_succ] at q0 q1 q2 q3 q4 q5
  clear kw kh
  go_wp2_with fail
  generalize (w15.alloc (.cells #[.int .i64 p.kind, .int .i64 p.epoch, .int .i64 p.seq, .int .i64 p.count, .bool p.last, .slice aH p.data.length cH] 35)) = w16 at *
  refine (eqPacket_any p aH aW cH cW w16 (own_rdSl oH16 HDB.out) (own_rdSl oW16 HDB.out) HIN.out hdl).mono ?_
  rintro e w17 ⟨rfl, b17⟩
  clear p0 p1 p2 p3 p4 p5 q0 q1 q2 q3 q4 q5
  have B17 := below_chain B16 b17
  go_wp2
  go_ret
  exact ⟨rfl, B17⟩
end Go.Proofs.Ytcljakdcejhfiab
