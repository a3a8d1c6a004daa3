import Derived.Test.YtcljakdcejhfiacJLinkAcked46
import Derived.Test.YtcljakdcejhfiacJLinkAcked48
import Derived.Test.YtcljakdcejhfiacJLinkAcked51
import Derived.Test.YtcljakdcejhfiacJLinkAcked44
namespace Go.Proofs.Ytcljakdcejhfiac
open Go.RowKit
set_option maxRecDepth 100000 in
set_option maxHeartbeats 8000000 in
theorem implAck_any (o : PO) (a : Option Addr) (c : Nat) (q : Int) (w : World) (hr : RdSl cSnt w o.wait (.slice a o.wait.length c)) (ht : totL wN o.wait ≤ 1048576) :
    Calls Try.prog 47 #[.agg #[.int .i64 o.epoch, .int .i64 o.next, .int .i64 o.now, .slice a o.wait.length c], .int .i64 q] w (IoPost w (ackO o q) (ackC o q)) := by
  have HR := hid hr
  clear hr
  have hlen : o.wait.length ≤ 1048576 := by unfold totL at ht; omega
  have HK0 : Hid (((w.alloc (.cells #[.int .i64 o.epoch, .int .i64 o.next, .int .i64 o.now, .slice a o.wait.length c] 29)).alloc (.cells #[.int .i64 0, .int .i64 0, .int .i64 0, .slice none 0 0] 29)).heap[w.heap.size]? = some (.cells #[.int .i64 o.epoch, .int .i64 o.next, .int .i64 o.now, .slice a o.wait.length c] 29 (0, 0))) := hid (heap2 _ _ (Below.refl _ _)).1
  have HK1 : Hid (((w.alloc (.cells #[.int .i64 o.epoch, .int .i64 o.next, .int .i64 o.now, .slice a o.wait.length c] 29)).alloc (.cells #[.int .i64 0, .int .i64 0, .int .i64 0, .slice none 0 0] 29)).heap[w.heap.size + 1]? = some (.cells #[.int .i64 0, .int .i64 0, .int .i64 0, .slice none 0 0] 29 (0, 0))) := hid (heap2 _ _ (Below.refl _ _)).2
  have HB0 := hid (below_new2 w (.cells #[.int .i64 o.epoch, .int .i64 o.next, .int .i64 o.now, .slice a o.wait.length c] 29) (.cells #[.int .i64 0, .int .i64 0, .int .i64 0, .slice none 0 0] 29))
  have HSZ := hid (size2 w (.cells #[.int .i64 o.epoch, .int .i64 o.next, .int .i64 o.now, .slice a o.wait.length c] 29) (.cells #[.int .i64 0, .int .i64 0, .int .i64 0, .slice none 0 0] 29))
  go_enter Try.func47, Try.ntmps47
  go_wp2_with fail
  generalize ((w.alloc (.cells #[.int .i64 o.epoch, .int .i64 o.next, .int .i64 o.now, .slice a o.wait.length c] 29)).alloc (.cells #[.int .i64 0, .int .i64 0, .int .i64 0, .slice none 0 0] 29)) = V0 at *
  have HR0 := hid (HR.out.later HB0.out)
  refine (implVO_any o a c V0 HR0.out).mono ?_
  rintro e V1 ⟨rfl, b2⟩
  have K0 := hid (box_laterP2 HK0.out b2)
  have K1 := hid (box_laterP2 HK1.out b2)
  have HB2 := hid (below_chain HB0.out b2)
  have hsz2 : w.heap.size + 2 ≤ V1.heap.size := by have := b2.size; have := HSZ.out; omega
  clear b2 HK0 HK1 HB0 HSZ
  have c00 := cell_of_row _ _ 0 _ _ _ K0.out
  have c01 := cell_of_row _ _ 1 _ _ _ K0.out
  have c02 := cell_of_row _ _ 2 _ _ _ K0.out
  have c03 := cell_of_row _ _ 3 _ _ _ K0.out
  have c10 := cell_of_row _ _ 0 _ _ _ K1.out
  have c11 := cell_of_row _ _ 1 _ _ _ K1.out
  have c12 := cell_of_row _ _ 2 _ _ _ K1.out
  have c13 := cell_of_row _ _ 3 _ _ _ K1.out
  have f10 := frozen_of_row _ _ 0 _ _ K1.out
  have f11 := frozen_of_row _ _ 1 _ _ K1.out
  have f12 := frozen_of_row _ _ 2 _ _ K1.out
  have f13 := frozen_of_row _ _ 3 _ _ K1.out
  simp only [List.getElem?_toArray, List.getElem?_cons_zero, List.getElem?_cons_succ] at c00 c01 c02 c03 c10 c11 c12 c13
  have HWI := hid (within_any q 0 o.next V1)
  cases hok : outOK o with
  | false =>
    have HD := hid (ack_no (o := o) (q := q) (fun h => by rw [h.1] at hok; cases hok))
    clear hok
    go_wp2
    refine bodyPost_ret (results_cell_row_tmpD rfl _ _ (w.heap.size + 1) 29 #[.int .i64 0, .int .i64 0, .int .i64 0, .slice none 0 0] (0, 0) _ rfl (set4 K1.out) Try.underlying29 rfl (by kernel_rfl)) rfl ?_
    exact ioPost_nil (set4b HB2.out (by omega)) HD.out.1 HD.out.2
  | true =>
  by_cases hq : ¬ (0 ≤ q ∧ q ≤ o.next)
  · have HD := hid (ack_no (o := o) (q := q) (fun h => hq h.2))
    rw [decide_eq_false hq] at HWI
    clear hok hq
    go_wp2_with fail
    refine HWI.out.mono ?_
    rintro e V2 ⟨rfl, rfl⟩
    go_wp2
    refine bodyPost_ret (results_cell_row_tmpD rfl _ _ (w.heap.size + 1) 29 #[.int .i64 0, .int .i64 0, .int .i64 0, .slice none 0 0] (0, 0) _ rfl (set4 K1.out) Try.underlying29 rfl (by kernel_rfl)) rfl ?_
    exact ioPost_nil (set4b HB2.out (by omega)) HD.out.1 HD.out.2
  have hqq := Decidable.not_not.1 hq
  rw [decide_eq_true hqq] at HWI
  have HAK : Hid (AckOK o q) := hid ⟨hok, hqq⟩
  have HOH := (outOK_of hok).1
  have hw300 : o.wait.length ≤ 300 := HOH.2.2.2.2.2.2
  have hnx0 : 0 ≤ o.next := HOH.2.2.1
  have hnx1 : o.next ≤ 1000000000000 := HOH.2.2.2.1
  have hq0 : 0 ≤ q := hqq.1
  have hq1 : q ≤ o.next := hqq.2
  clear hok hq hqq HOH
  go_wp2_with fail
  refine HWI.out.mono ?_
  rintro e V2 ⟨rfl, rfl⟩
  go_wp2_with fail
  refine (copyOut_any o a c _ (HR.out.later HB2.out) ht).mono ?_
  rintro e W0 ⟨a2, c2, bs2, rfl, o2, l2, n2, b3⟩
  have HK0 := hid (box_laterP2 K0.out b3)
  have HK1 := hid (box_laterP2 K1.out b3)
  have HB0 := hid (below_chain HB2.out b3)
  have hb3s := b3.size
  have HO2 := hid o2
  have HL2 := hid l2
  have HN2 := hid n2
  clear b3 K0 K1 HB2 c00 c01 c02 c03 c10 c11 c12 c13 f10 f11 f12 f13 o2 l2 n2
  have d00 := cell_of_row _ _ 0 _ _ _ HK0.out
  have d01 := cell_of_row _ _ 1 _ _ _ HK0.out
  have d02 := cell_of_row _ _ 2 _ _ _ HK0.out
  have d03 := cell_of_row _ _ 3 _ _ _ HK0.out
  simp only [List.getElem?_toArray, List.getElem?_cons_zero, List.getElem?_cons_succ] at d00 d01 d02 d03
  have hw0 : w.heap.size < W0.heap.size := by omega
  have hka := heap2 (w := W0) (.cells #[.int .i64 o.epoch, .int .i64 o.next, .int .i64 o.now, .slice a2 o.wait.length c2] 29) (.cells #[.slice a2 o.wait.length c2] 126) (Below.refl _ _)
  have HBA := hid (below_new2 W0 (.cells #[.int .i64 o.epoch, .int .i64 o.next, .int .i64 o.now, .slice a2 o.wait.length c2] 29) (.cells #[.slice a2 o.wait.length c2] 126))
  have hsa := size2 W0 (.cells #[.int .i64 o.epoch, .int .i64 o.next, .int .i64 o.now, .slice a2 o.wait.length c2] 29) (.cells #[.slice a2 o.wait.length c2] 126)
  go_wp2_with fail
  generalize ((W0.alloc (.cells #[.int .i64 o.epoch, .int .i64 o.next, .int .i64 o.now, .slice a2 o.wait.length c2] 29)).alloc (.cells #[.slice a2 o.wait.length c2] 126)) = W2 at *
  clear d00 d01 d02 d03
  refine (firstWaiting_any o a c W2 (by omega) hnx0 hnx1).mono ?_
  rintro e W3 ⟨rfl, b4⟩
  have HA3 := hid (box_laterP2 hka.1 b4)
  have HQ3 := hid (box_laterP2 hka.2 b4)
  have HB3 := hid (below_chain HBA.out b4)
  have hs3 : W0.heap.size + 2 ≤ W3.heap.size := by have := b4.size; omega
  clear hka b4 HBA hsa
  have hdl : ackD o q ≤ o.wait.length := by unfold ackD; omega
  have HDE : Hid (max 0 (q - (o.next - (o.wait.length : Int))) = ((ackD o q : Nat) : Int)) := hid (by unfold ackD; omega)
  obtain ⟨a2', c2', e2', hlc, hcm, hnil, -⟩ := id HO2.out.rd
  simp only [Value.slice.injEq, true_and] at e2'
  obtain ⟨rfl, rfl⟩ := e2'
  have HNIL := hid hnil
  have HCM := hid hcm
  clear hnil hcm
  generalize hDD : ackD o q = D at *
  have HDD := hid hDD
  clear hDD
  have hde := HDE.out
  clear HDE
  have HDE := hid hde
  clear hde
  go_wp2_with fail
  · have hDq : q - (o.next - (o.wait.length : Int)) = ((D : Nat) : Int) := by have := HDE.out; omega
    rw [hDq]
    clear hDq
    refine (drop_any (W0.heap.size + 1) a2 o.wait.length c2 D W3 _ HQ3.out hdl hlc HNIL.out).mono ?_
    rintro e W4 ⟨rfl, a3, rfl, ha3, hn3⟩
    have HQ4 := hid (heap_setCell_same W3 (W0.heap.size + 1) 0 _ _ (.slice a3 (o.wait.length - D) (c2 - D)) HQ3.out)
    have hne1 : W0.heap.size ≠ W0.heap.size + 1 := by omega
    have HA4 := hid ((Below.heap_setCell W3 ⟨W0.heap.size + 1, 0, none⟩ (.slice a3 (o.wait.length - D) (c2 - D)) _ hne1).trans HA3.out)
    have HB4 : Hid (Below W0.heap.size W0 (W3.setCell ⟨W0.heap.size + 1, 0, none⟩ (.slice a3 (o.wait.length - D) (c2 - D)))) := hid (HB3.out.setCell (p := ⟨W0.heap.size + 1, 0, none⟩) (by simp only []; omega) _)
    have HA3' := hid ha3
    have HN3 := hid hn3
    clear ha3 hn3 HA3 HQ3 HB3
    generalize (W3.setCell ⟨W0.heap.size + 1, 0, none⟩ (.slice a3 (o.wait.length - D) (c2 - D))) = W4 at *
    have k1 := (HB4.out.block _ (show w.heap.size + 1 < W0.heap.size by omega)).trans HK1.out
    have K1 := hid k1
    have q0 := cell_of_row _ _ 0 _ _ _ HQ4.out
    have g0 := cell_of_row _ _ 0 _ _ _ HA4.out
    have g1 := cell_of_row _ _ 1 _ _ _ HA4.out
    have g2 := cell_of_row _ _ 2 _ _ _ HA4.out
    have g3 := cell_of_row _ _ 3 _ _ _ HA4.out
    have z3 := frozen_of_row _ _ 3 _ _ HA4.out
    have c10 := cell_of_row _ _ 0 _ _ _ k1
    have c11 := cell_of_row _ _ 1 _ _ _ k1
    have c12 := cell_of_row _ _ 2 _ _ _ k1
    have c13 := cell_of_row _ _ 3 _ _ _ k1
    have f10 := frozen_of_row _ _ 0 _ _ k1
    have f11 := frozen_of_row _ _ 1 _ _ k1
    have f12 := frozen_of_row _ _ 2 _ _ k1
    have f13 := frozen_of_row _ _ 3 _ _ k1
    simp only [List.getElem?_toArray, List.getElem?_cons_zero, List.getElem?_cons_succ] at g0 g1 g2 g3 c10 c11 c12 c13
    simp at q0
    have hne2 : w.heap.size + 1 ≠ W0.heap.size := by omega
    clear k1
    go_wp2
    refine bodyPost_ret (results_cell_row_tmpD rfl _ _ (w.heap.size + 1) 29 #[.int .i64 o.epoch, .int .i64 o.next, .int .i64 o.now, .slice a3 (o.wait.length - D) (c2 - D)] (0, 0) _ rfl (set4 ((Below.heap_setCell _ ⟨W0.heap.size, 3, none⟩ _ _ hne2).trans K1.out)) Try.underlying29 rfl (by kernel_rfl)) rfl ?_
    rw [(ack_yes HAK.out).1, (ack_yes HAK.out).2, HDD.out]
    have hk : ∀ b ∈ bs2, b < W0.heap.size ∧ w.heap.size + 2 ≤ b := fun b hb => ⟨HO2.out.lt b hb, by have := HL2.out b hb; omega⟩
    refine ⟨a3, c2 - D, o.wait, D, bs2, by simp, rfl, ⟨hdl, by omega, by have := HCM.out; omega, HN3.out, _, HO2.out.kept (fun b hb => ?_), fun hd => ?_⟩, fun b hb => by have := (hk b hb).2; omega, HN2.out, ht, set4b ((below_chain HB0.out HB4.out).setCell (p := ⟨W0.heap.size, 3, none⟩) (by simp only []; omega) _) (by omega)⟩
    · have h1 := hk b hb
      exact (set4o (by omega)).trans ((Below.heap_setCell _ ⟨W0.heap.size, 3, none⟩ _ _ (by simp only []; omega)).trans (HB4.out.block b h1.1))
    · have h3 := HA3'.out hd
      rcases HO2.out with ⟨_, h0, _⟩ | ⟨g, cp, vs, bss, ev, _⟩
      · rw [h0] at hd; simp at hd
      · refine ⟨g, cp, ev, ?_⟩
        simp only [Value.slice.injEq] at ev
        rw [h3, ev.1]
        simp [addr_add0]
        rfl
  · obtain rfl : D = 0 := by have := HDE.out; omega
    refine (drop_any (W0.heap.size + 1) a2 o.wait.length c2 0 W3 _ HQ3.out hdl hlc HNIL.out).mono ?_
    rintro e W4 ⟨rfl, a3, rfl, ha3, hn3⟩
    have HQ4 := hid (heap_setCell_same W3 (W0.heap.size + 1) 0 _ _ (.slice a3 (o.wait.length - 0) (c2 - 0)) HQ3.out)
    have hne1 : W0.heap.size ≠ W0.heap.size + 1 := by omega
    have HA4 := hid ((Below.heap_setCell W3 ⟨W0.heap.size + 1, 0, none⟩ (.slice a3 (o.wait.length - 0) (c2 - 0)) _ hne1).trans HA3.out)
    have HB4 : Hid (Below W0.heap.size W0 (W3.setCell ⟨W0.heap.size + 1, 0, none⟩ (.slice a3 (o.wait.length - 0) (c2 - 0)))) := hid (HB3.out.setCell (p := ⟨W0.heap.size + 1, 0, none⟩) (by simp only []; omega) _)
    have HA3' := hid ha3
    have HN3 := hid hn3
    clear ha3 hn3 HA3 HQ3 HB3
    generalize (W3.setCell ⟨W0.heap.size + 1, 0, none⟩ (.slice a3 (o.wait.length - 0) (c2 - 0))) = W4 at *
    have k1 := (HB4.out.block _ (show w.heap.size + 1 < W0.heap.size by omega)).trans HK1.out
    have K1 := hid k1
    have q0 := cell_of_row _ _ 0 _ _ _ HQ4.out
    have g0 := cell_of_row _ _ 0 _ _ _ HA4.out
    have g1 := cell_of_row _ _ 1 _ _ _ HA4.out
    have g2 := cell_of_row _ _ 2 _ _ _ HA4.out
    have g3 := cell_of_row _ _ 3 _ _ _ HA4.out
    have z3 := frozen_of_row _ _ 3 _ _ HA4.out
    have c10 := cell_of_row _ _ 0 _ _ _ k1
    have c11 := cell_of_row _ _ 1 _ _ _ k1
    have c12 := cell_of_row _ _ 2 _ _ _ k1
    have c13 := cell_of_row _ _ 3 _ _ _ k1
    have f10 := frozen_of_row _ _ 0 _ _ k1
    have f11 := frozen_of_row _ _ 1 _ _ k1
    have f12 := frozen_of_row _ _ 2 _ _ k1
    have f13 := frozen_of_row _ _ 3 _ _ k1
    simp only [List.getElem?_toArray, List.getElem?_cons_zero, List.getElem?_cons_succ] at g0 g1 g2 g3 c10 c11 c12 c13
    simp at q0
    have hne2 : w.heap.size + 1 ≠ W0.heap.size := by omega
    clear k1
    go_wp2
    refine bodyPost_ret (results_cell_row_tmpD rfl _ _ (w.heap.size + 1) 29 #[.int .i64 o.epoch, .int .i64 o.next, .int .i64 o.now, .slice a3 (o.wait.length - 0) (c2 - 0)] (0, 0) _ rfl (set4 ((Below.heap_setCell _ ⟨W0.heap.size, 3, none⟩ _ _ hne2).trans K1.out)) Try.underlying29 rfl (by kernel_rfl)) rfl ?_
    rw [(ack_yes HAK.out).1, (ack_yes HAK.out).2, HDD.out]
    have hk : ∀ b ∈ bs2, b < W0.heap.size ∧ w.heap.size + 2 ≤ b := fun b hb => ⟨HO2.out.lt b hb, by have := HL2.out b hb; omega⟩
    refine ⟨a3, c2 - 0, o.wait, 0, bs2, by simp, rfl, ⟨hdl, by omega, by have := HCM.out; omega, HN3.out, _, HO2.out.kept (fun b hb => ?_), fun hd => ?_⟩, fun b hb => by have := (hk b hb).2; omega, HN2.out, ht, set4b ((below_chain HB0.out HB4.out).setCell (p := ⟨W0.heap.size, 3, none⟩) (by simp only []; omega) _) (by omega)⟩
    · have h1 := hk b hb
      exact (set4o (by omega)).trans ((Below.heap_setCell _ ⟨W0.heap.size, 3, none⟩ _ _ (by simp only []; omega)).trans (HB4.out.block b h1.1))
    · have h3 := HA3'.out hd
      rcases HO2.out with ⟨_, h0, _⟩ | ⟨g, cp, vs, bss, ev, _⟩
      · rw [h0] at hd; simp at hd
      · refine ⟨g, cp, ev, ?_⟩
        simp only [Value.slice.injEq] at ev
        rw [h3, ev.1]
        simp [addr_add0]
end Go.Proofs.Ytcljakdcejhfiac
