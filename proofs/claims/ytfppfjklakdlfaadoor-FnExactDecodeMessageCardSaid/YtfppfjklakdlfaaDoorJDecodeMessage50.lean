import Derived.Test.YtfppfjklakdlfaaDoorJDecodeMessage30
import Derived.Test.YtfppfjklakdlfaaDoorJDecodeMessage49
import Derived.Test.YtfppfjklakdlfaaDoorJDecodeMessage17
import Derived.Test.YtfppfjklakdlfaaDoorJDecodeMessage1
import Derived.Test.YtfppfjklakdlfaaDoorJDecodeMessage14
import Derived.Test.YtfppfjklakdlfaaDoorJDecodeMessage12
import Derived.Test.YtfppfjklakdlfaaDoorJDecodeMessage11
import Derived.Deep.RegionHeld
namespace Go.Proofs.YtfppfjklakdlfaaDoor
open Go.RowKit
theorem boxM {w w' : World} {g : Nat} {o : Obj} (h : w.heap[g]? = some o) (hb : Below w.heap.size w w') : w'.heap[g]? = some o := (hb.block g (Array.getElem?_eq_some_iff.1 h).1).trans h
theorem ownM {w w' : World} {xs : List (List Nat)} {v : Value} {bs : List Nat} (h : OwnSl cSS 22 w xs v bs) (hb : Below w.heap.size w w') : OwnSl cSS 22 w' xs v bs := h.kept (fun b hm => hb.block b (h.lt b hm))
theorem sum_evn (bs : List (List Nat)) : tot bs ≤ (bs.map fun b => evn b.length).sum := by
  induction bs with
  | nil => simp [tot]
  | cons b bs ih =>
    have := (evn_le b.length).1
    simp only [tot, List.map_cons, List.sum_cons] at ih ⊢
    omega
theorem decP_fits (xs : List Nat) : (decP xs).bufs.length ≤ 40 ∧ tot (decP xs).bufs ≤ 20000 := by
  cases h : decR xs with
  | none => rw [(dec_none h).1]; simp [noMsg, tot]
  | some m =>
    rw [(dec_some h).1]
    obtain ⟨he, hne⟩ := decR_enc h
    obtain ⟨h1, h2, h3⟩ := encR_some he hne
    rw [sizeM_len] at h2
    have h4 := sum_evn m.bufs
    unfold sizeM at h2
    simp only [msgOK, decide_eq_true_eq] at h1
    exact ⟨h1.2.2.2.2.2.2.1, by omega⟩
set_option maxRecDepth 100000 in
set_option maxHeartbeats 8000000 in
theorem decodeMessage_walk (a : Option Addr) (n cap : Nat) (w : World) (h : BytesIn w a n cap) (ad : Addr) (hE : w.cell? ⟨0, 0, none⟩ = some (.iface 105 (.pointer (some ad)))) :
    Calls Tryd.prog 3 #[.slice a n cap] w fun e w' => e = .returned (.bool true) ∧ Below w.heap.size w w' := by
  obtain ⟨hml, -, xs, hn, hby, hrd⟩ := h
  subst hn
  unfold maxLen at hml
  by_cases hbig : 1048576 < xs.length
  · have hbi : (1048576 : Int) < (xs.length : Int) := by omega
    go_enter Tryd.func3, Tryd.ntmps3
    go_wp2
    go_ret
    exact ⟨rfl, Below.refl _ _⟩
  have hbi : decide (1048576 < (xs.length : Int)) = false := decide_eq_false (by omega)
  have HR := hid hrd
  have HBY := hid hby
  have HE := hid hE
  have hfit := decP_fits xs
  have HSP := hid (fun b c w' h => specDec_any b c xs w' h (by omega))
  have HIM := hid (fun b c w' h (hb : Below w.heap.size w w') => implDec_any b c xs ad w' h (by omega) (cell_later hb HE.out))
  generalize hp : decP xs = m at *
  generalize hC : decC xs = C at *
  clear hrd hby hp hC hE
  have htt : totL List.length m.bufs ≤ 1048576 := by rw [totL_tot]; omega
  have hCC : (C != C) = false := by simp
  go_enter Tryd.func3, Tryd.ntmps3
  go_wp2_with fail
  refine (toByteS_any a cap xs w HR.out (by omega)).mono ?_
  rintro e w1 ⟨g1, rfl, o1, b1⟩
  go_wp2_with fail
  refine (HSP.out _ _ w1 (own_rdSl o1 HBY.out)).mono ?_
  rintro e w2 ⟨aW, cW, rfl, oW, b2⟩
  have B2 := below_chain b1 b2
  have hs12 : w.heap.size ≤ w2.heap.size := B2.size
  have HWR := hid oW
  clear o1 b1 oW
  have b3 := below_new1 w2 (.cells #[.int .i64 m.kind, .int .i64 m.field, .int .i64 m.count, .slice aW m.bufs.length cW] 25)
  have HKW : Hid ((w2.alloc (.cells #[.int .i64 m.kind, .int .i64 m.field, .int .i64 m.count, .slice aW m.bufs.length cW] 25)).heap[w2.heap.size]? = some (.cells #[.int .i64 m.kind, .int .i64 m.field, .int .i64 m.count, .slice aW m.bufs.length cW] 25 (0, 0))) := hid (heap_alloc_new w2 _)
  have hs3 : w2.heap.size + 1 ≤ (w2.alloc (.cells #[.int .i64 m.kind, .int .i64 m.field, .int .i64 m.count, .slice aW m.bufs.length cW] 25)).heap.size := by simp
  have B3 := below_chain B2 b3
  clear b2
  go_wp2_with fail
  generalize (w2.alloc (.cells #[.int .i64 m.kind, .int .i64 m.field, .int .i64 m.count, .slice aW m.bufs.length cW] 25)) = w3 at *
  refine (toByteS_any a cap xs w3 (HR.out.later B3) (by omega)).mono ?_
  rintro e w4 ⟨gX, rfl, oX, b4⟩
  have B4 := below_chain B3 b4
  have W4 := below_chain b3 b4
  have HKW4 := hid (boxM HKW.out b4)
  have hXi := own_in (g := gX) oX rfl
  clear HKW
  go_wp2_with fail
  refine (HIM.out _ _ w4 (own_rdSl oX HBY.out) B4).mono ?_
  rintro e w5 ⟨aG, cG, zG, rfl, oG, lG, nG, b5⟩
  have B5 := below_chain B4 b5
  have W5 := below_chain W4 b5
  have oX5 := own_later oX b5
  have HKW5 := hid (boxM HKW4.out b5)
  have ltG := oG.lt
  clear oX HKW4
  have b6 := below_new1 w5 (.cells #[.int .i64 m.kind, .int .i64 m.field, .int .i64 m.count, .slice aG m.bufs.length cG] 25)
  have HKG : Hid ((w5.alloc (.cells #[.int .i64 m.kind, .int .i64 m.field, .int .i64 m.count, .slice aG m.bufs.length cG] 25)).heap[w5.heap.size]? = some (.cells #[.int .i64 m.kind, .int .i64 m.field, .int .i64 m.count, .slice aG m.bufs.length cG] 25 (0, 0))) := hid (heap_alloc_new w5 _)
  have B6 := below_chain B5 b6
  have W6 := below_chain W5 b6
  have oX6 := own_later oX5 b6
  have oG6 := ownM oG b6
  have HKW6 := hid (boxM HKW5.out b6)
  have hs45 := b5.size
  clear oX5 oG HKW5
  have p0 := cell_of_row _ _ 0 _ _ _ HKW6.out
  have p1 := cell_of_row _ _ 1 _ _ _ HKW6.out
  have p2 := cell_of_row _ _ 2 _ _ _ HKW6.out
  have p3 := cell_of_row _ _ 3 _ _ _ HKW6.out
  simp only [List.getElem?_toArray, List.getElem?_cons_zero, List.getElem?_cons_succ] at p0 p1 p2 p3
  have q0 := cell_of_row _ _ 0 _ _ _ HKG.out
  have q1 := cell_of_row _ _ 1 _ _ _ HKG.out
  have q2 := cell_of_row _ _ 2 _ _ _ HKG.out
  have q3 := cell_of_row _ _ 3 _ _ _ HKG.out
  simp only [List.getElem?_toArray, List.getElem?_cons_zero, List.getElem?_cons_succ] at q0 q1 q2 q3
  go_wp2_with fail
  generalize (w5.alloc (.cells #[.int .i64 m.kind, .int .i64 m.field, .int .i64 m.count, .slice aG m.bufs.length cG] 25)) = w6 at *
  refine (eqMessage_any m aG aW cG cW w6 oG6.rd (HWR.out.later W6) htt).mono ?_
  rintro e w7 ⟨rfl, b7⟩
  clear p0 p1 p2 p3 q0 q1 q2 q3
  have B7 := below_chain B6 b7
  have W7 := below_chain W6 b7
  have oX7 := own_later oX6 b7
  have oG7 := ownM oG6 b7
  have HKW7 := hid (boxM HKW6.out b7)
  have HKG7 := hid (boxM HKG.out b7)
  clear oX6 oG6 HKW6 HKG
  go_wp2_with fail
  refine (toByteS_any a cap xs w7 (HR.out.later B7) (by omega)).mono ?_
  rintro e w8 ⟨g8, rfl, o8, b8⟩
  have oX8 := own_later oX7 b8
  go_wp2_with fail
  refine (eqByteS_any _ _ _ _ _ xs w8 (rd_at oX8) (rd_at o8) rfl (by omega)).mono ?_
  rintro e w9 ⟨rfl, b9⟩
  have b79 := below_chain b8 b9
  have B9 := below_chain B7 b79
  have W9 := below_chain W7 b79
  have oX9 := own_later oX7 b79
  have oG9 := ownM oG7 b79
  have HKW9 := hid (boxM HKW7.out b79)
  have HKG9 := hid (boxM HKG7.out b79)
  clear oX7 oG7 HKW7 HKG7 oX8 o8
  have hsB3 := B3.size
  go_wp2_with fail
  refine (markByteS_any _ _ 1 _ _ w9 oX9 (by omega) (by omega)).mono ?_
  rintro e w10 ⟨rfl, -, gr10⟩
  have oG10 := oG9.kept (w' := w10) (fun b hb => gr10.block b (oG9.lt b hb) (fun e => by simp [Value.ownBlock] at e; have := lG b hb; omega))
  have HKW10 : Hid (w10.heap[w2.heap.size]? = _) := hid ((gr10.block _ (Array.getElem?_eq_some_iff.1 HKW9.out).1 (fun e => by simp [Value.ownBlock] at e; omega)).trans HKW9.out)
  have HKG10 : Hid (w10.heap[w5.heap.size]? = _) := hid ((gr10.block _ (Array.getElem?_eq_some_iff.1 HKG9.out).1 (fun e => by simp [Value.ownBlock] at e; omega)).trans HKG9.out)
  have B10 := below_marked B9 gr10 (fun g f => by simp [Value.ownBlock] at f; subst f; omega)
  have W10 := below_marked W9 gr10 (fun g f => by simp [Value.ownBlock] at f; subst f; omega)
  clear oX9 oG9 HKW9 HKG9 gr10
  have p0 := cell_of_row _ _ 0 _ _ _ HKW10.out
  have p1 := cell_of_row _ _ 1 _ _ _ HKW10.out
  have p2 := cell_of_row _ _ 2 _ _ _ HKW10.out
  have p3 := cell_of_row _ _ 3 _ _ _ HKW10.out
  simp only [List.getElem?_toArray, List.getElem?_cons_zero, List.getElem?_cons_succ] at p0 p1 p2 p3
  have q0 := cell_of_row _ _ 0 _ _ _ HKG10.out
  have q1 := cell_of_row _ _ 1 _ _ _ HKG10.out
  have q2 := cell_of_row _ _ 2 _ _ _ HKG10.out
  have q3 := cell_of_row _ _ 3 _ _ _ HKG10.out
  simp only [List.getElem?_toArray, List.getElem?_cons_zero, List.getElem?_cons_succ] at q0 q1 q2 q3
  go_wp2_with fail
  refine (eqMessage_any m aG aW cG cW w10 oG10.rd (HWR.out.later W10) htt).mono ?_
  rintro e w11 ⟨rfl, b11⟩
  clear p0 p1 p2 p3 q0 q1 q2 q3
  have B11 := below_chain B10 b11
  have W11 := below_chain W10 b11
  have oG11 := ownM oG10 b11
  have HKW11 := hid (boxM HKW10.out b11)
  have HKG11 := hid (boxM HKG10.out b11)
  clear oG10 HKW10 HKG10
  have q0 := cell_of_row _ _ 0 _ _ _ HKG11.out
  have q1 := cell_of_row _ _ 1 _ _ _ HKG11.out
  have q2 := cell_of_row _ _ 2 _ _ _ HKG11.out
  have q3 := cell_of_row _ _ 3 _ _ _ HKG11.out
  simp only [List.getElem?_toArray, List.getElem?_cons_zero, List.getElem?_cons_succ] at q0 q1 q2 q3
  go_wp2_with fail
  refine (markMessage_any m _ zG 1 w11 oG11 nG (by omega) (by omega) (by omega)).mono ?_
  rintro e w12 ⟨rfl, oG12, on12⟩
  clear q0 q1 q2 q3
  have HKW12 : Hid (w12.heap[w2.heap.size]? = _) := hid ((on12.block _ (Array.getElem?_eq_some_iff.1 HKW11.out).1 (fun h => by have := lG _ h; omega)).trans HKW11.out)
  have HKG12 : Hid (w12.heap[w5.heap.size]? = _) := hid ((on12.block _ (Array.getElem?_eq_some_iff.1 HKG11.out).1 (fun h => by have := ltG _ h; omega)).trans HKG11.out)
  have B12 : Below w.heap.size w w12 := Only.chain B11 on12 (fun x hx => by have := lG x hx; omega) (Nat.le_refl _)
  have W12 : Below w2.heap.size w2 w12 := Only.chain W11 on12 (fun x hx => by have := lG x hx; omega) (Nat.le_refl _)
  clear oG11 HKW11 HKG11 on12
  have q0 := cell_of_row _ _ 0 _ _ _ HKG12.out
  have q1 := cell_of_row _ _ 1 _ _ _ HKG12.out
  have q2 := cell_of_row _ _ 2 _ _ _ HKG12.out
  have q3 := cell_of_row _ _ 3 _ _ _ HKG12.out
  simp only [List.getElem?_toArray, List.getElem?_cons_zero, List.getElem?_cons_succ] at q0 q1 q2 q3
  go_wp2_with fail
  refine (heldMessage_any m aG cG 1 w12 oG12.rd (by omega) (by omega) (by omega)).mono ?_
  rintro e w13 ⟨rfl, b13⟩
  clear q0 q1 q2 q3
  have B13 := below_chain B12 b13
  have W13 := below_chain W12 b13
  have HKW13 := hid (boxM HKW12.out b13)
  clear HKW12 HKG12 oG12
  go_wp2_with fail
  refine (toByteS_any a cap xs w13 (HR.out.later B13) (by omega)).mono ?_
  rintro e w14 ⟨g14, rfl, o14, b14⟩
  go_wp2_with fail
  refine (HIM.out _ _ w14 (own_rdSl o14 HBY.out) (below_chain B13 b14)).mono ?_
  rintro e w15 ⟨aH, cH, zH, rfl, oH, -, -, b15⟩
  have b16 := below_new1 w15 (.cells #[.int .i64 m.kind, .int .i64 m.field, .int .i64 m.count, .slice aH m.bufs.length cH] 25)
  have HKH : Hid ((w15.alloc (.cells #[.int .i64 m.kind, .int .i64 m.field, .int .i64 m.count, .slice aH m.bufs.length cH] 25)).heap[w15.heap.size]? = some (.cells #[.int .i64 m.kind, .int .i64 m.field, .int .i64 m.count, .slice aH m.bufs.length cH] 25 (0, 0))) := hid (heap_alloc_new w15 _)
  have b136 := below_chain (below_chain b14 b15) b16
  have B16 := below_chain B13 b136
  have W16 := below_chain W13 b136
  have oH16 := ownM oH b16
  have HKW16 := hid (boxM HKW13.out b136)
  clear oH HKW13 o14
  have p0 := cell_of_row _ _ 0 _ _ _ HKW16.out
  have p1 := cell_of_row _ _ 1 _ _ _ HKW16.out
  have p2 := cell_of_row _ _ 2 _ _ _ HKW16.out
  have p3 := cell_of_row _ _ 3 _ _ _ HKW16.out
  simp only [List.getElem?_toArray, List.getElem?_cons_zero, List.getElem?_cons_succ] at p0 p1 p2 p3
  have q0 := cell_of_row _ _ 0 _ _ _ HKH.out
  have q1 := cell_of_row _ _ 1 _ _ _ HKH.out
  have q2 := cell_of_row _ _ 2 _ _ _ HKH.out
  have q3 := cell_of_row _ _ 3 _ _ _ HKH.out
  simp only [List.getElem?_toArray, List.getElem?_cons_zero, List.getElem?_cons_succ] at q0 q1 q2 q3
  go_wp2_with fail
  generalize (w15.alloc (.cells #[.int .i64 m.kind, .int .i64 m.field, .int .i64 m.count, .slice aH m.bufs.length cH] 25)) = w16 at *
  refine (eqMessage_any m aH aW cH cW w16 oH16.rd (HWR.out.later W16) htt).mono ?_
  rintro e w17 ⟨rfl, b17⟩
  have B17 := below_chain B16 b17
  go_wp2
  go_ret
  exact ⟨rfl, B17⟩
end Go.Proofs.YtfppfjklakdlfaaDoor
