import Derived.Test.YtmaccmgmcahopaaJWindow16
import Derived.Test.YtmaccmgmcahopaaJWindow22
import Derived.Test.YtmaccmgmcahopaaJWindow8
import Derived.Deep.DeepCutAuto
import Derived.RegionTactic
namespace Go.Proofs.Ytmaccmgmcahopaa
open Go.RowKit
def SpPost (w : World) (gR : Nat) (bs : List Nat) (R : PO) (e : Ending) (w' : World) : Prop :=
  ∃ a c bs', e = .returned (.agg #[.int .i64 R.epoch, .int .i64 R.next, .int .i64 R.now, .slice a R.wait.length c]) ∧ OwnSl cSnt 63 w' R.wait (.slice a R.wait.length c) bs' ∧ (∀ b ∈ bs', b ∈ bs) ∧ Only (gR :: bs) w w'
theorem set4_only {w : World} {g : Nat} {x y z u : Value} (bs : List Nat) (hg : w.heap.size ≤ g) {w' : World} (h : Only bs w w') : Only bs w ((((w'.setCell ⟨g, 0, none⟩ x).setCell ⟨g, 1, none⟩ y).setCell ⟨g, 2, none⟩ z).setCell ⟨g, 3, none⟩ u) :=
  ⟨h.os, h.tape, h.output, by simpa using h.size, fun k hk hn => (set4o (by omega)).trans (h.block k hk hn)⟩
theorem set1_only {w : World} {g i : Nat} {x : Value} (bs : List Nat) (hg : w.heap.size ≤ g) {w' : World} (h : Only bs w w') : Only bs w (w'.setCell ⟨g, i, none⟩ x) :=
  ⟨h.os, h.tape, h.output, by simpa using h.size, fun k hk hn => (Below.heap_setCell w' ⟨g, i, none⟩ x k (by simp only []; omega)).trans (h.block k hk hn)⟩
set_option maxRecDepth 100000 in
set_option maxHeartbeats 16000000 in
theorem spoilOut_any (gR c j : Nat) (a : Option Addr) (xs : List Nat) (o : PO) (ao : Option Addr) (co : Nat) (bs : List Nat) (w : World) (h : Rdr w gR a c xs j) (hl : xs.length ≤ 1048576) (hx : ∀ x ∈ xs, x < 256) (ho : OwnSl cSnt 63 w o.wait (.slice ao o.wait.length co) bs) (hnd : bs.Nodup) (hgb : gR ∉ bs) (hN : NxOK o) (ht : totL wN o.wait ≤ 1048576) :
    Calls Try.prog 74 #[.agg #[.int .i64 o.epoch, .int .i64 o.next, .int .i64 o.now, .slice ao o.wait.length co], .pointer (some ⟨gR, 0, none⟩)] w (SpPost w gR bs (spoilO o (nxt xs j % 8) (nxt xs (j + 1)))) := by
  have HR := hid h
  have HBY := hid hx
  have HO := hid ho
  have HND := hid hnd
  have HGB := hid hgb
  have hgR : gR < w.heap.size := lt_of_block h.cells
  obtain ⟨hn1, hn2, hn3, hn4, hn5, hn6⟩ := hN
  have hwl : o.wait.length ≤ 1048576 := by unfold totL at ht; omega
  clear h hx ho hnd hgb ht
  have HB0 := hid (below_new2 w (.cells #[.int .i64 o.epoch, .int .i64 o.next, .int .i64 o.now, .slice ao o.wait.length co] 30) (.cells #[.int .i64 0, .int .i64 0, .int .i64 0, .slice none 0 0] 30))
  have HK0 := hid (heap2 (w := w) (.cells #[.int .i64 o.epoch, .int .i64 o.next, .int .i64 o.now, .slice ao o.wait.length co] 30) (.cells #[.int .i64 0, .int .i64 0, .int .i64 0, .slice none 0 0] 30) (Below.refl _ _)).1
  have HK1 := hid (heap2 (w := w) (.cells #[.int .i64 o.epoch, .int .i64 o.next, .int .i64 o.now, .slice ao o.wait.length co] 30) (.cells #[.int .i64 0, .int .i64 0, .int .i64 0, .slice none 0 0] 30) (Below.refl _ _)).2
  go_enter Try.func74, Try.ntmps74
  go_wp2_with fail
  generalize ((w.alloc (.cells #[.int .i64 o.epoch, .int .i64 o.next, .int .i64 o.now, .slice ao o.wait.length co] 30)).alloc (.cells #[.int .i64 0, .int .i64 0, .int .i64 0, .slice none 0 0] 30)) = w0 at *
  refine (next_any gR c j a xs w0 (rdr_later HR.out HB0.out) hl HBY.out).mono ?_
  rintro e w1 ⟨rfl, r1, g1⟩
  have HR1 := hid r1
  obtain ⟨k, hk⟩ : ∃ k : Nat, k = nxt xs j % 8 := ⟨_, rfl⟩
  have hk8 : k < 8 := by omega
  have ik : ((nxt xs j : Nat) : Int) % 8 = (k : Int) := by omega
  have tk : ((nxt xs j : Nat) : Int).tmod 8 = (k : Int) := by rw [hk]; rfl
  rw [← hk]
  have HG1 := hid g1
  have HKQ : Hid (nxt xs j % 8 = k) := hid hk.symm
  clear hk r1 g1
  go_wp2_with fail
  refine (next_any gR c (j + 1) a xs w1 HR1.out hl HBY.out).mono ?_
  rintro e w2 ⟨rfl, r2, g2⟩
  obtain ⟨v, hv⟩ : ∃ v : Nat, v = nxt xs (j + 1) := ⟨_, rfl⟩
  have hvb : v < 256 := by rw [hv]; exact nxt_lt HBY.out _
  rw [← hv]
  have HVQ : Hid (nxt xs (j + 1) = v) := hid hv.symm
  have HS0 : Hid (w.heap.size + 2 ≤ w2.heap.size) := hid (by have h1 := (Array.getElem?_eq_some_iff.1 HK1.out).1; have h2 := HG1.out.size; have h3 := g2.size; omega)
  have HG2 := hid (HG1.out.trans g2)
  have HJ0 : Hid (w2.heap[w.heap.size]? = some (.cells #[.int .i64 o.epoch, .int .i64 o.next, .int .i64 o.now, .slice ao o.wait.length co] 30 (0, 0))) := hid ((HG2.out.block _ (Array.getElem?_eq_some_iff.1 HK0.out).1 (fun e => by simp at e; omega)).trans HK0.out)
  have HJ1 : Hid (w2.heap[w.heap.size + 1]? = some (.cells #[.int .i64 0, .int .i64 0, .int .i64 0, .slice none 0 0] 30 (0, 0))) := hid ((HG2.out.block _ (Array.getElem?_eq_some_iff.1 HK1.out).1 (fun e => by simp at e; omega)).trans HK1.out)
  have HO2 : Hid (OwnSl cSnt 63 w2 o.wait (.slice ao o.wait.length co) bs) := hid (HO.out.kept (fun b hb => (HG2.out.block b (Nat.lt_of_lt_of_le (HO.out.lt b hb) HB0.out.size) (fun e => by simp at e; exact HGB.out (e ▸ hb))).trans (HB0.out.block b (HO.out.lt b hb))))
  have HY : Hid (Only (gR :: bs) w w2) := hid ⟨HG2.out.os.trans HB0.out.os, HG2.out.tape.trans HB0.out.tape, HG2.out.output.trans HB0.out.output, Nat.le_trans HB0.out.size HG2.out.size, fun q hq hn => (HG2.out.block q (Nat.lt_of_lt_of_le hq HB0.out.size) (fun e => hn (by simp at e; simp [e]))).trans (HB0.out.block q hq)⟩
  have HLB := hid HO.out.lt
  clear hv r2 g2 HR HR1 HG1 HG2 HK0 HK1 HB0 HO ik tk
  have c0 := cell_of_row _ _ 0 _ _ _ HJ0.out
  have c1 := cell_of_row _ _ 1 _ _ _ HJ0.out
  have c2 := cell_of_row _ _ 2 _ _ _ HJ0.out
  have c3 := cell_of_row _ _ 3 _ _ _ HJ0.out
  have zc0 := frozen_of_row _ _ 0 _ _ HJ0.out
  have zc1 := frozen_of_row _ _ 1 _ _ HJ0.out
  have zc2 := frozen_of_row _ _ 2 _ _ HJ0.out
  have zc3 := frozen_of_row _ _ 3 _ _ HJ0.out
  simp only [List.getElem?_toArray, List.getElem?_cons_zero, List.getElem?_cons_succ] at c0 c1 c2 c3
  have r0 := cell_of_row _ _ 0 _ _ _ HJ1.out
  have r1 := cell_of_row _ _ 1 _ _ _ HJ1.out
  have r2 := cell_of_row _ _ 2 _ _ _ HJ1.out
  have r3 := cell_of_row _ _ 3 _ _ _ HJ1.out
  have zr0 := frozen_of_row _ _ 0 _ _ HJ1.out
  have zr1 := frozen_of_row _ _ 1 _ _ HJ1.out
  have zr2 := frozen_of_row _ _ 2 _ _ HJ1.out
  have zr3 := frozen_of_row _ _ 3 _ _ HJ1.out
  simp only [List.getElem?_toArray, List.getElem?_cons_zero, List.getElem?_cons_succ] at r0 r1 r2 r3

  have hcase : k = 0 ∨ k = 1 ∨ k = 2 ∨ k = 3 ∨ k = 4 ∨ k = 5 ∨ k = 6 ∨ k = 7 := by omega
  rcases hcase with hk | hk | hk | hk | hk | hk | hk | hk
  · have hk0 : ((k : Int) == 0) = true := by rw [hk]; rfl
    have HKE := hid hk
    clear hk
    have HJ0w3 : Hid ((w2.setCell ⟨w.heap.size, 1, none⟩ (.int .i64 (o.next + 1))).heap[w.heap.size]? = some (.cells #[.int .i64 (o.epoch), .int .i64 (o.next + 1), .int .i64 (o.now), .slice ao o.wait.length co] 30 (0, 0))) := hid (by have h := heap_setCell_same w2 w.heap.size 1 _ _ (.int .i64 (o.next + 1)) HJ0.out; exact h)
    have HJ1w3 : Hid ((w2.setCell ⟨w.heap.size, 1, none⟩ (.int .i64 (o.next + 1))).heap[w.heap.size + 1]? = some (.cells #[.int .i64 0, .int .i64 0, .int .i64 0, .slice none 0 0] 30 (0, 0))) := hid ((Below.heap_setCell w2 ⟨w.heap.size, 1, none⟩ (.int .i64 (o.next + 1)) (w.heap.size + 1) (by simp only []; omega)).trans HJ1.out)
    have HOw3 : Hid (OwnSl cSnt 63 (w2.setCell ⟨w.heap.size, 1, none⟩ (.int .i64 (o.next + 1))) o.wait (.slice ao o.wait.length co) bs) := hid (HO2.out.kept (fun b hb => Below.heap_setCell w2 ⟨w.heap.size, 1, none⟩ (.int .i64 (o.next + 1)) b (by have := HLB.out b hb; simp only []; omega)))
    have HYw3 := hid (set1_only (g := w.heap.size) (i := 1) (x := .int .i64 (o.next + 1)) _ (Nat.le_refl _) HY.out)
    go_upto_region 5 with fail
    generalize (w2.setCell ⟨w.heap.size, 1, none⟩ (.int .i64 (o.next + 1))) = w3 at *
    clear c0 zc0 c1 zc1 c2 zc2 c3 zc3
    clear r0 zr0 r1 zr1 r2 zr2 r3 zr3
    have c0 := cell_of_row _ _ 0 _ _ _ HJ0w3.out
    have c1 := cell_of_row _ _ 1 _ _ _ HJ0w3.out
    have c2 := cell_of_row _ _ 2 _ _ _ HJ0w3.out
    have c3 := cell_of_row _ _ 3 _ _ _ HJ0w3.out
    have zc0 := frozen_of_row _ _ 0 _ _ HJ0w3.out
    have zc1 := frozen_of_row _ _ 1 _ _ HJ0w3.out
    have zc2 := frozen_of_row _ _ 2 _ _ HJ0w3.out
    have zc3 := frozen_of_row _ _ 3 _ _ HJ0w3.out
    simp only [List.getElem?_toArray, List.getElem?_cons_zero, List.getElem?_cons_succ] at c0 c1 c2 c3
    have r0 := cell_of_row _ _ 0 _ _ _ HJ1w3.out
    have r1 := cell_of_row _ _ 1 _ _ _ HJ1w3.out
    have r2 := cell_of_row _ _ 2 _ _ _ HJ1w3.out
    have r3 := cell_of_row _ _ 3 _ _ _ HJ1w3.out
    have zr0 := frozen_of_row _ _ 0 _ _ HJ1w3.out
    have zr1 := frozen_of_row _ _ 1 _ _ HJ1w3.out
    have zr2 := frozen_of_row _ _ 2 _ _ HJ1w3.out
    have zr3 := frozen_of_row _ _ 3 _ _ HJ1w3.out
    simp only [List.getElem?_toArray, List.getElem?_cons_zero, List.getElem?_cons_succ] at r0 r1 r2 r3
    by_cases hz : o.wait.length = 0
    · have hz1 : ((o.wait.length : Int) == 0) = true := by rw [hz]; rfl
      have HZ := hid hz
      clear hz
      have HJ0w4 : Hid ((w3.setCell ⟨w.heap.size, 1, none⟩ (.int .i64 (-1))).heap[w.heap.size]? = some (.cells #[.int .i64 (o.epoch), .int .i64 (-1), .int .i64 (o.now), .slice ao o.wait.length co] 30 (0, 0))) := hid (by have h := heap_setCell_same w3 w.heap.size 1 _ _ (.int .i64 (-1)) HJ0w3.out; exact h)
      have HJ1w4 : Hid ((w3.setCell ⟨w.heap.size, 1, none⟩ (.int .i64 (-1))).heap[w.heap.size + 1]? = some (.cells #[.int .i64 0, .int .i64 0, .int .i64 0, .slice none 0 0] 30 (0, 0))) := hid ((Below.heap_setCell w3 ⟨w.heap.size, 1, none⟩ (.int .i64 (-1)) (w.heap.size + 1) (by simp only []; omega)).trans HJ1w3.out)
      have HOw4 : Hid (OwnSl cSnt 63 (w3.setCell ⟨w.heap.size, 1, none⟩ (.int .i64 (-1))) o.wait (.slice ao o.wait.length co) bs) := hid (HOw3.out.kept (fun b hb => Below.heap_setCell w3 ⟨w.heap.size, 1, none⟩ (.int .i64 (-1)) b (by have := HLB.out b hb; simp only []; omega)))
      have HYw4 := hid (set1_only (g := w.heap.size) (i := 1) (x := .int .i64 (-1)) _ (Nat.le_refl _) HYw3.out)
      go_upto_region 24 with fail
      generalize (w3.setCell ⟨w.heap.size, 1, none⟩ (.int .i64 (-1))) = w4 at *
      clear c0 zc0 c1 zc1 c2 zc2 c3 zc3
      clear r0 zr0 r1 zr1 r2 zr2 r3 zr3
      have c0 := cell_of_row _ _ 0 _ _ _ HJ0w4.out
      have c1 := cell_of_row _ _ 1 _ _ _ HJ0w4.out
      have c2 := cell_of_row _ _ 2 _ _ _ HJ0w4.out
      have c3 := cell_of_row _ _ 3 _ _ _ HJ0w4.out
      have zc0 := frozen_of_row _ _ 0 _ _ HJ0w4.out
      have zc1 := frozen_of_row _ _ 1 _ _ HJ0w4.out
      have zc2 := frozen_of_row _ _ 2 _ _ HJ0w4.out
      have zc3 := frozen_of_row _ _ 3 _ _ HJ0w4.out
      simp only [List.getElem?_toArray, List.getElem?_cons_zero, List.getElem?_cons_succ] at c0 c1 c2 c3
      have r0 := cell_of_row _ _ 0 _ _ _ HJ1w4.out
      have r1 := cell_of_row _ _ 1 _ _ _ HJ1w4.out
      have r2 := cell_of_row _ _ 2 _ _ _ HJ1w4.out
      have r3 := cell_of_row _ _ 3 _ _ _ HJ1w4.out
      have zr0 := frozen_of_row _ _ 0 _ _ HJ1w4.out
      have zr1 := frozen_of_row _ _ 1 _ _ HJ1w4.out
      have zr2 := frozen_of_row _ _ 2 _ _ HJ1w4.out
      have zr3 := frozen_of_row _ _ 3 _ _ HJ1w4.out
      simp only [List.getElem?_toArray, List.getElem?_cons_zero, List.getElem?_cons_succ] at r0 r1 r2 r3
      go_wp2_with fail
      refine bodyPost_ret (results_cell_row rfl _ _ (w.heap.size + 1) 30 #[.int .i64 (o.epoch), .int .i64 (-1), .int .i64 (o.now), .slice ao o.wait.length co] (0, 0) _ rfl (set4 HJ1w4.out) Try.underlying30 rfl (by kernel_rfl)) rfl ?_
      have he : spoilO o k v = ⟨o.epoch, -1, o.now, o.wait⟩ := by unfold spoilO; simp [HKE.out, HZ.out]
      rw [HKQ.out, HVQ.out, he]
      exact ⟨ao, co, bs, rfl, HOw4.out.kept (fun b hb => set4o (by have := HLB.out b hb; omega)), fun _ h => h, set4_only _ (by omega) HYw4.out⟩
    · have hz1 : ((o.wait.length : Int) == 0) = false := beq_eq_false_iff_ne.2 (by omega)
      have HZ := hid hz
      clear hz
      go_wp2_with fail
      refine bodyPost_ret (results_cell_row rfl _ _ (w.heap.size + 1) 30 #[.int .i64 (o.epoch), .int .i64 (o.next + 1), .int .i64 (o.now), .slice ao o.wait.length co] (0, 0) _ rfl (set4 HJ1w3.out) Try.underlying30 rfl (by kernel_rfl)) rfl ?_
      have he : spoilO o k v = ⟨o.epoch, o.next + 1, o.now, o.wait⟩ := by unfold spoilO; simp [HKE.out, HZ.out]
      rw [HKQ.out, HVQ.out, he]
      exact ⟨ao, co, bs, rfl, HOw3.out.kept (fun b hb => set4o (by have := HLB.out b hb; omega)), fun _ h => h, set4_only _ (by omega) HYw3.out⟩
  · have hk0 : ((k : Int) == 0) = false := by rw [hk]; rfl
    have hk1 : ((k : Int) == 1) = true := by rw [hk]; rfl
    have HKE := hid hk
    clear hk
    have HJ0w3 : Hid ((w2.setCell ⟨w.heap.size, 0, none⟩ (.int .i64 (o.epoch + 1))).heap[w.heap.size]? = some (.cells #[.int .i64 (o.epoch + 1), .int .i64 (o.next), .int .i64 (o.now), .slice ao o.wait.length co] 30 (0, 0))) := hid (by have h := heap_setCell_same w2 w.heap.size 0 _ _ (.int .i64 (o.epoch + 1)) HJ0.out; exact h)
    have HJ1w3 : Hid ((w2.setCell ⟨w.heap.size, 0, none⟩ (.int .i64 (o.epoch + 1))).heap[w.heap.size + 1]? = some (.cells #[.int .i64 0, .int .i64 0, .int .i64 0, .slice none 0 0] 30 (0, 0))) := hid ((Below.heap_setCell w2 ⟨w.heap.size, 0, none⟩ (.int .i64 (o.epoch + 1)) (w.heap.size + 1) (by simp only []; omega)).trans HJ1.out)
    have HOw3 : Hid (OwnSl cSnt 63 (w2.setCell ⟨w.heap.size, 0, none⟩ (.int .i64 (o.epoch + 1))) o.wait (.slice ao o.wait.length co) bs) := hid (HO2.out.kept (fun b hb => Below.heap_setCell w2 ⟨w.heap.size, 0, none⟩ (.int .i64 (o.epoch + 1)) b (by have := HLB.out b hb; simp only []; omega)))
    have HYw3 := hid (set1_only (g := w.heap.size) (i := 0) (x := .int .i64 (o.epoch + 1)) _ (Nat.le_refl _) HY.out)
    go_upto_region 9 with fail
    generalize (w2.setCell ⟨w.heap.size, 0, none⟩ (.int .i64 (o.epoch + 1))) = w3 at *
    clear c0 zc0 c1 zc1 c2 zc2 c3 zc3
    clear r0 zr0 r1 zr1 r2 zr2 r3 zr3
    have c0 := cell_of_row _ _ 0 _ _ _ HJ0w3.out
    have c1 := cell_of_row _ _ 1 _ _ _ HJ0w3.out
    have c2 := cell_of_row _ _ 2 _ _ _ HJ0w3.out
    have c3 := cell_of_row _ _ 3 _ _ _ HJ0w3.out
    have zc0 := frozen_of_row _ _ 0 _ _ HJ0w3.out
    have zc1 := frozen_of_row _ _ 1 _ _ HJ0w3.out
    have zc2 := frozen_of_row _ _ 2 _ _ HJ0w3.out
    have zc3 := frozen_of_row _ _ 3 _ _ HJ0w3.out
    simp only [List.getElem?_toArray, List.getElem?_cons_zero, List.getElem?_cons_succ] at c0 c1 c2 c3
    have r0 := cell_of_row _ _ 0 _ _ _ HJ1w3.out
    have r1 := cell_of_row _ _ 1 _ _ _ HJ1w3.out
    have r2 := cell_of_row _ _ 2 _ _ _ HJ1w3.out
    have r3 := cell_of_row _ _ 3 _ _ _ HJ1w3.out
    have zr0 := frozen_of_row _ _ 0 _ _ HJ1w3.out
    have zr1 := frozen_of_row _ _ 1 _ _ HJ1w3.out
    have zr2 := frozen_of_row _ _ 2 _ _ HJ1w3.out
    have zr3 := frozen_of_row _ _ 3 _ _ HJ1w3.out
    simp only [List.getElem?_toArray, List.getElem?_cons_zero, List.getElem?_cons_succ] at r0 r1 r2 r3
    by_cases hz : o.wait.length = 0
    · have hz1 : ((o.wait.length : Int) == 0) = true := by rw [hz]; rfl
      have HZ := hid hz
      clear hz
      have HJ0w4 : Hid ((w3.setCell ⟨w.heap.size, 0, none⟩ (.int .i64 (0))).heap[w.heap.size]? = some (.cells #[.int .i64 (0), .int .i64 (o.next), .int .i64 (o.now), .slice ao o.wait.length co] 30 (0, 0))) := hid (by have h := heap_setCell_same w3 w.heap.size 0 _ _ (.int .i64 (0)) HJ0w3.out; exact h)
      have HJ1w4 : Hid ((w3.setCell ⟨w.heap.size, 0, none⟩ (.int .i64 (0))).heap[w.heap.size + 1]? = some (.cells #[.int .i64 0, .int .i64 0, .int .i64 0, .slice none 0 0] 30 (0, 0))) := hid ((Below.heap_setCell w3 ⟨w.heap.size, 0, none⟩ (.int .i64 (0)) (w.heap.size + 1) (by simp only []; omega)).trans HJ1w3.out)
      have HOw4 : Hid (OwnSl cSnt 63 (w3.setCell ⟨w.heap.size, 0, none⟩ (.int .i64 (0))) o.wait (.slice ao o.wait.length co) bs) := hid (HOw3.out.kept (fun b hb => Below.heap_setCell w3 ⟨w.heap.size, 0, none⟩ (.int .i64 (0)) b (by have := HLB.out b hb; simp only []; omega)))
      have HYw4 := hid (set1_only (g := w.heap.size) (i := 0) (x := .int .i64 (0)) _ (Nat.le_refl _) HYw3.out)
      go_upto_region 24 with fail
      generalize (w3.setCell ⟨w.heap.size, 0, none⟩ (.int .i64 (0))) = w4 at *
      clear c0 zc0 c1 zc1 c2 zc2 c3 zc3
      clear r0 zr0 r1 zr1 r2 zr2 r3 zr3
      have c0 := cell_of_row _ _ 0 _ _ _ HJ0w4.out
      have c1 := cell_of_row _ _ 1 _ _ _ HJ0w4.out
      have c2 := cell_of_row _ _ 2 _ _ _ HJ0w4.out
      have c3 := cell_of_row _ _ 3 _ _ _ HJ0w4.out
      have zc0 := frozen_of_row _ _ 0 _ _ HJ0w4.out
      have zc1 := frozen_of_row _ _ 1 _ _ HJ0w4.out
      have zc2 := frozen_of_row _ _ 2 _ _ HJ0w4.out
      have zc3 := frozen_of_row _ _ 3 _ _ HJ0w4.out
      simp only [List.getElem?_toArray, List.getElem?_cons_zero, List.getElem?_cons_succ] at c0 c1 c2 c3
      have r0 := cell_of_row _ _ 0 _ _ _ HJ1w4.out
      have r1 := cell_of_row _ _ 1 _ _ _ HJ1w4.out
      have r2 := cell_of_row _ _ 2 _ _ _ HJ1w4.out
      have r3 := cell_of_row _ _ 3 _ _ _ HJ1w4.out
      have zr0 := frozen_of_row _ _ 0 _ _ HJ1w4.out
      have zr1 := frozen_of_row _ _ 1 _ _ HJ1w4.out
      have zr2 := frozen_of_row _ _ 2 _ _ HJ1w4.out
      have zr3 := frozen_of_row _ _ 3 _ _ HJ1w4.out
      simp only [List.getElem?_toArray, List.getElem?_cons_zero, List.getElem?_cons_succ] at r0 r1 r2 r3
      go_wp2_with fail
      refine bodyPost_ret (results_cell_row rfl _ _ (w.heap.size + 1) 30 #[.int .i64 (0), .int .i64 (o.next), .int .i64 (o.now), .slice ao o.wait.length co] (0, 0) _ rfl (set4 HJ1w4.out) Try.underlying30 rfl (by kernel_rfl)) rfl ?_
      have he : spoilO o k v = ⟨0, o.next, o.now, o.wait⟩ := by unfold spoilO; simp [HKE.out, HZ.out]
      rw [HKQ.out, HVQ.out, he]
      exact ⟨ao, co, bs, rfl, HOw4.out.kept (fun b hb => set4o (by have := HLB.out b hb; omega)), fun _ h => h, set4_only _ (by omega) HYw4.out⟩
    · have hz1 : ((o.wait.length : Int) == 0) = false := beq_eq_false_iff_ne.2 (by omega)
      have HZ := hid hz
      clear hz
      go_wp2_with fail
      refine bodyPost_ret (results_cell_row rfl _ _ (w.heap.size + 1) 30 #[.int .i64 (o.epoch + 1), .int .i64 (o.next), .int .i64 (o.now), .slice ao o.wait.length co] (0, 0) _ rfl (set4 HJ1w3.out) Try.underlying30 rfl (by kernel_rfl)) rfl ?_
      have he : spoilO o k v = ⟨o.epoch + 1, o.next, o.now, o.wait⟩ := by unfold spoilO; simp [HKE.out, HZ.out]
      rw [HKQ.out, HVQ.out, he]
      exact ⟨ao, co, bs, rfl, HOw3.out.kept (fun b hb => set4o (by have := HLB.out b hb; omega)), fun _ h => h, set4_only _ (by omega) HYw3.out⟩
  · have hk0 : ((k : Int) == 0) = false := by rw [hk]; rfl
    have hk1 : ((k : Int) == 1) = false := by rw [hk]; rfl
    have hk2 : ((k : Int) == 2) = true := by rw [hk]; rfl
    have HKE := hid hk
    clear hk
    have HJ0w3 : Hid ((w2.setCell ⟨w.heap.size, 2, none⟩ (.int .i64 1000000001)).heap[w.heap.size]? = some (.cells #[.int .i64 (o.epoch), .int .i64 (o.next), .int .i64 (1000000001), .slice ao o.wait.length co] 30 (0, 0))) := hid (by have h := heap_setCell_same w2 w.heap.size 2 _ _ (.int .i64 1000000001) HJ0.out; exact h)
    have HJ1w3 : Hid ((w2.setCell ⟨w.heap.size, 2, none⟩ (.int .i64 1000000001)).heap[w.heap.size + 1]? = some (.cells #[.int .i64 0, .int .i64 0, .int .i64 0, .slice none 0 0] 30 (0, 0))) := hid ((Below.heap_setCell w2 ⟨w.heap.size, 2, none⟩ (.int .i64 1000000001) (w.heap.size + 1) (by simp only []; omega)).trans HJ1.out)
    have HOw3 : Hid (OwnSl cSnt 63 (w2.setCell ⟨w.heap.size, 2, none⟩ (.int .i64 1000000001)) o.wait (.slice ao o.wait.length co) bs) := hid (HO2.out.kept (fun b hb => Below.heap_setCell w2 ⟨w.heap.size, 2, none⟩ (.int .i64 1000000001) b (by have := HLB.out b hb; simp only []; omega)))
    have HYw3 := hid (set1_only (g := w.heap.size) (i := 2) (x := .int .i64 1000000001) _ (Nat.le_refl _) HY.out)
    go_upto_region 24 with fail
    generalize (w2.setCell ⟨w.heap.size, 2, none⟩ (.int .i64 1000000001)) = w3 at *
    clear c0 zc0 c1 zc1 c2 zc2 c3 zc3
    clear r0 zr0 r1 zr1 r2 zr2 r3 zr3
    have c0 := cell_of_row _ _ 0 _ _ _ HJ0w3.out
    have c1 := cell_of_row _ _ 1 _ _ _ HJ0w3.out
    have c2 := cell_of_row _ _ 2 _ _ _ HJ0w3.out
    have c3 := cell_of_row _ _ 3 _ _ _ HJ0w3.out
    have zc0 := frozen_of_row _ _ 0 _ _ HJ0w3.out
    have zc1 := frozen_of_row _ _ 1 _ _ HJ0w3.out
    have zc2 := frozen_of_row _ _ 2 _ _ HJ0w3.out
    have zc3 := frozen_of_row _ _ 3 _ _ HJ0w3.out
    simp only [List.getElem?_toArray, List.getElem?_cons_zero, List.getElem?_cons_succ] at c0 c1 c2 c3
    have r0 := cell_of_row _ _ 0 _ _ _ HJ1w3.out
    have r1 := cell_of_row _ _ 1 _ _ _ HJ1w3.out
    have r2 := cell_of_row _ _ 2 _ _ _ HJ1w3.out
    have r3 := cell_of_row _ _ 3 _ _ _ HJ1w3.out
    have zr0 := frozen_of_row _ _ 0 _ _ HJ1w3.out
    have zr1 := frozen_of_row _ _ 1 _ _ HJ1w3.out
    have zr2 := frozen_of_row _ _ 2 _ _ HJ1w3.out
    have zr3 := frozen_of_row _ _ 3 _ _ HJ1w3.out
    simp only [List.getElem?_toArray, List.getElem?_cons_zero, List.getElem?_cons_succ] at r0 r1 r2 r3
    go_wp2_with fail
    refine bodyPost_ret (results_cell_row rfl _ _ (w.heap.size + 1) 30 #[.int .i64 (o.epoch), .int .i64 (o.next), .int .i64 (1000000001), .slice ao o.wait.length co] (0, 0) _ rfl (set4 HJ1w3.out) Try.underlying30 rfl (by kernel_rfl)) rfl ?_
    have he : spoilO o k v = ⟨o.epoch, o.next, 1000000001, o.wait⟩ := by unfold spoilO; simp [HKE.out]
    rw [HKQ.out, HVQ.out, he]
    exact ⟨ao, co, bs, rfl, HOw3.out.kept (fun b hb => set4o (by have := HLB.out b hb; omega)), fun _ h => h, set4_only _ (by omega) HYw3.out⟩
  · have hk0 : ((k : Int) == 0) = false := by rw [hk]; rfl
    have hk1 : ((k : Int) == 1) = false := by rw [hk]; rfl
    have hk2 : ((k : Int) == 2) = false := by rw [hk]; rfl
    have hk3 : ((k : Int) == 3) = true := by rw [hk]; rfl
    have HKE := hid hk
    clear hk
    by_cases hz : o.wait.length = 0
    · have hz1 : ((o.wait.length : Int) == 0) = true := by rw [hz]; rfl
      have HZ := hid hz
      clear hz
      have HJ0w3 : Hid ((w2.setCell ⟨w.heap.size, 2, none⟩ (.int .i64 (-1))).heap[w.heap.size]? = some (.cells #[.int .i64 (o.epoch), .int .i64 (o.next), .int .i64 (-1), .slice ao o.wait.length co] 30 (0, 0))) := hid (by have h := heap_setCell_same w2 w.heap.size 2 _ _ (.int .i64 (-1)) HJ0.out; exact h)
      have HJ1w3 : Hid ((w2.setCell ⟨w.heap.size, 2, none⟩ (.int .i64 (-1))).heap[w.heap.size + 1]? = some (.cells #[.int .i64 0, .int .i64 0, .int .i64 0, .slice none 0 0] 30 (0, 0))) := hid ((Below.heap_setCell w2 ⟨w.heap.size, 2, none⟩ (.int .i64 (-1)) (w.heap.size + 1) (by simp only []; omega)).trans HJ1.out)
      have HOw3 : Hid (OwnSl cSnt 63 (w2.setCell ⟨w.heap.size, 2, none⟩ (.int .i64 (-1))) o.wait (.slice ao o.wait.length co) bs) := hid (HO2.out.kept (fun b hb => Below.heap_setCell w2 ⟨w.heap.size, 2, none⟩ (.int .i64 (-1)) b (by have := HLB.out b hb; simp only []; omega)))
      have HYw3 := hid (set1_only (g := w.heap.size) (i := 2) (x := .int .i64 (-1)) _ (Nat.le_refl _) HY.out)
      go_upto_region 24 with fail
      generalize (w2.setCell ⟨w.heap.size, 2, none⟩ (.int .i64 (-1))) = w3 at *
      clear c0 zc0 c1 zc1 c2 zc2 c3 zc3
      clear r0 zr0 r1 zr1 r2 zr2 r3 zr3
      have c0 := cell_of_row _ _ 0 _ _ _ HJ0w3.out
      have c1 := cell_of_row _ _ 1 _ _ _ HJ0w3.out
      have c2 := cell_of_row _ _ 2 _ _ _ HJ0w3.out
      have c3 := cell_of_row _ _ 3 _ _ _ HJ0w3.out
      have zc0 := frozen_of_row _ _ 0 _ _ HJ0w3.out
      have zc1 := frozen_of_row _ _ 1 _ _ HJ0w3.out
      have zc2 := frozen_of_row _ _ 2 _ _ HJ0w3.out
      have zc3 := frozen_of_row _ _ 3 _ _ HJ0w3.out
      simp only [List.getElem?_toArray, List.getElem?_cons_zero, List.getElem?_cons_succ] at c0 c1 c2 c3
      have r0 := cell_of_row _ _ 0 _ _ _ HJ1w3.out
      have r1 := cell_of_row _ _ 1 _ _ _ HJ1w3.out
      have r2 := cell_of_row _ _ 2 _ _ _ HJ1w3.out
      have r3 := cell_of_row _ _ 3 _ _ _ HJ1w3.out
      have zr0 := frozen_of_row _ _ 0 _ _ HJ1w3.out
      have zr1 := frozen_of_row _ _ 1 _ _ HJ1w3.out
      have zr2 := frozen_of_row _ _ 2 _ _ HJ1w3.out
      have zr3 := frozen_of_row _ _ 3 _ _ HJ1w3.out
      simp only [List.getElem?_toArray, List.getElem?_cons_zero, List.getElem?_cons_succ] at r0 r1 r2 r3
      go_wp2_with fail
      refine bodyPost_ret (results_cell_row rfl _ _ (w.heap.size + 1) 30 #[.int .i64 (o.epoch), .int .i64 (o.next), .int .i64 (-1), .slice ao o.wait.length co] (0, 0) _ rfl (set4 HJ1w3.out) Try.underlying30 rfl (by kernel_rfl)) rfl ?_
      have he : spoilO o k v = ⟨o.epoch, o.next, -1, o.wait⟩ := by unfold spoilO; simp [HKE.out, HZ.out]
      rw [HKQ.out, HVQ.out, he]
      exact ⟨ao, co, bs, rfl, HOw3.out.kept (fun b hb => set4o (by have := HLB.out b hb; omega)), fun _ h => h, set4_only _ (by omega) HYw3.out⟩
    · have hz1 : ((o.wait.length : Int) == 0) = false := beq_eq_false_iff_ne.2 (by omega)
      have HZ := hid hz
      clear hz
      obtain ⟨r, hr⟩ : ∃ r : Nat, r = v % o.wait.length := ⟨_, rfl⟩
      have hrl : r < o.wait.length := by rw [hr]; exact Nat.mod_lt _ (by have := HZ.out; omega)
      have hr1 : (v : Int).tmod (o.wait.length : Int) = (r : Int) := by rw [hr]; rfl
      have hr2 : (v : Int) % (o.wait.length : Int) = (r : Int) := by rw [hr]; rfl
      have hri : (r : Int) < (o.wait.length : Int) := by omega
      have HRV := hid hr
      obtain ⟨g, hag⟩ : ∃ g, ao = some ⟨g, 0, none⟩ := by
        rcases HO2.out with ⟨e, _⟩ | ⟨g, cap, vs, bss, e, _⟩
        · simp only [Value.slice.injEq] at e; omega
        · simp only [Value.slice.injEq] at e; exact ⟨g, e.1⟩
      subst hag
      have HGM : Hid (g ∈ bs) := hid (own_block_mem HO2.out rfl)
      have hgw : g < w.heap.size := HLB.out g HGM.out
      obtain ⟨y, hy⟩ := HO2.out.cellAt (j := r * 7 + 6) (by show r * 7 + 6 < o.wait.length * 7; omega)
      have hyz := HO2.out.frozenAt (r * 7 + 6)
      clear hr
      obtain ⟨bs3, hst1, hst2, hst3⟩ := (HO2.out.storeE HND.out hrl (r * 7 + 6) 6 [.int .i64 (o.now + 1)] rfl (by show 6 + 1 ≤ 7; omega) (spS o k o.wait[r]) (fun cs bk w' ho hk' => by
        obtain ⟨a1, c1, rfl, hd1, hin1, hat1⟩ := cSnt_owned ho
        have he : spS o k o.wait[r] = spS o 3 o.wait[r] := by rw [HKE.out]
        rw [he]
        exact ⟨bk, fun _ h => h, cSnt_own (s := ⟨o.wait[r].pkt, o.now + 1⟩) (hd1.kept hk') hin1 (by dsimp only [IntIn]; omega)⟩))
      have HSU := hid hst2
      have HST := hid hst3
      have HRD3 : Hid (OwnSl cSnt 63 ((w2.setCell ⟨g, r * 7 + 6, none⟩ (.int .i64 (o.now + 1))).drew) (o.wait.set r (spS o k o.wait[r])) (.slice (some ⟨g, 0, none⟩) o.wait.length co) bs3) := hid (hst1.kept (fun b _ => rfl))
      clear hst1 hst2 hst3
      have HY3 : Hid (Only (gR :: bs) w ((w2.setCell ⟨g, r * 7 + 6, none⟩ (.int .i64 (o.now + 1))).drew)) := hid (by
        have h1 := HY.out
        have h2 := HST.out
        exact ⟨h2.os.trans h1.os, h2.tape.trans h1.tape, h2.output.trans h1.output, Nat.le_trans h1.size h2.size, fun q hq hn => (h2.block q (Nat.lt_of_lt_of_le hq h1.size) (fun hm => hn (List.mem_cons_of_mem _ hm))).trans (h1.block q hq hn)⟩)
      have HJ03 : Hid (((w2.setCell ⟨g, r * 7 + 6, none⟩ (.int .i64 (o.now + 1))).drew).heap[w.heap.size]? = some (.cells #[.int .i64 o.epoch, .int .i64 o.next, .int .i64 o.now, .slice (some ⟨g, 0, none⟩) o.wait.length co] 30 (0, 0))) := hid ((Below.heap_setCell w2 ⟨g, r * 7 + 6, none⟩ (.int .i64 (o.now + 1)) w.heap.size (by simp only []; omega)).trans HJ0.out)
      have HJ13 : Hid (((w2.setCell ⟨g, r * 7 + 6, none⟩ (.int .i64 (o.now + 1))).drew).heap[w.heap.size + 1]? = some (.cells #[.int .i64 0, .int .i64 0, .int .i64 0, .slice none 0 0] 30 (0, 0))) := hid ((Below.heap_setCell w2 ⟨g, r * 7 + 6, none⟩ (.int .i64 (o.now + 1)) (w.heap.size + 1) (by simp only []; omega)).trans HJ1.out)
      go_upto_region 16 with fail
      go_region
      generalize ((w2.setCell ⟨g, r * 7 + 6, none⟩ (.int .i64 (o.now + 1))).drew) = w3 at *
      clear c0 zc0 c1 zc1 c2 zc2 c3 zc3
      clear r0 zr0 r1 zr1 r2 zr2 r3 zr3
      clear hy hyz hr1 hr2
      have c0 := cell_of_row _ _ 0 _ _ _ HJ03.out
      have c1 := cell_of_row _ _ 1 _ _ _ HJ03.out
      have c2 := cell_of_row _ _ 2 _ _ _ HJ03.out
      have c3 := cell_of_row _ _ 3 _ _ _ HJ03.out
      have zc0 := frozen_of_row _ _ 0 _ _ HJ03.out
      have zc1 := frozen_of_row _ _ 1 _ _ HJ03.out
      have zc2 := frozen_of_row _ _ 2 _ _ HJ03.out
      have zc3 := frozen_of_row _ _ 3 _ _ HJ03.out
      simp only [List.getElem?_toArray, List.getElem?_cons_zero, List.getElem?_cons_succ] at c0 c1 c2 c3
      have r0 := cell_of_row _ _ 0 _ _ _ HJ13.out
      have r1 := cell_of_row _ _ 1 _ _ _ HJ13.out
      have r2 := cell_of_row _ _ 2 _ _ _ HJ13.out
      have r3 := cell_of_row _ _ 3 _ _ _ HJ13.out
      have zr0 := frozen_of_row _ _ 0 _ _ HJ13.out
      have zr1 := frozen_of_row _ _ 1 _ _ HJ13.out
      have zr2 := frozen_of_row _ _ 2 _ _ HJ13.out
      have zr3 := frozen_of_row _ _ 3 _ _ HJ13.out
      simp only [List.getElem?_toArray, List.getElem?_cons_zero, List.getElem?_cons_succ] at r0 r1 r2 r3
      go_wp2_with fail
      refine bodyPost_ret (results_cell_row rfl _ _ (w.heap.size + 1) 30 #[.int .i64 o.epoch, .int .i64 o.next, .int .i64 o.now, .slice (some ⟨g, 0, none⟩) o.wait.length co] (0, 0) _ rfl (set4 HJ13.out) Try.underlying30 rfl (by kernel_rfl)) rfl ?_
      have he : spoilO o k v = ⟨o.epoch, o.next, o.now, o.wait.set r (spS o k o.wait[r])⟩ := by
        unfold spoilO
        rw [if_neg (by have := HKE.out; omega), if_neg (by have := HKE.out; omega), if_neg (by have := HKE.out; omega), if_neg HZ.out, ← HRV.out, modify_set _ _ _ hrl]
      rw [HKQ.out, HVQ.out, he]
      refine ⟨some ⟨g, 0, none⟩, co, bs3, by rw [List.length_set], by rw [List.length_set]; exact HRD3.out.kept (fun b hb => set4o (by have := HLB.out b (HSU.out b hb); omega)), HSU.out, set4_only _ (by omega) HY3.out⟩
  · have hk0 : ((k : Int) == 0) = false := by rw [hk]; rfl
    have hk1 : ((k : Int) == 1) = false := by rw [hk]; rfl
    have hk2 : ((k : Int) == 2) = false := by rw [hk]; rfl
    have hk3 : ((k : Int) == 3) = false := by rw [hk]; rfl
    have hk4 : ((k : Int) == 4) = true := by rw [hk]; rfl
    have HKE := hid hk
    clear hk
    by_cases hz : o.wait.length = 0
    · have hz1 : ((o.wait.length : Int) == 0) = true := by rw [hz]; rfl
      have HZ := hid hz
      clear hz
      have HJ0w3 : Hid ((w2.setCell ⟨w.heap.size, 2, none⟩ (.int .i64 (-1))).heap[w.heap.size]? = some (.cells #[.int .i64 (o.epoch), .int .i64 (o.next), .int .i64 (-1), .slice ao o.wait.length co] 30 (0, 0))) := hid (by have h := heap_setCell_same w2 w.heap.size 2 _ _ (.int .i64 (-1)) HJ0.out; exact h)
      have HJ1w3 : Hid ((w2.setCell ⟨w.heap.size, 2, none⟩ (.int .i64 (-1))).heap[w.heap.size + 1]? = some (.cells #[.int .i64 0, .int .i64 0, .int .i64 0, .slice none 0 0] 30 (0, 0))) := hid ((Below.heap_setCell w2 ⟨w.heap.size, 2, none⟩ (.int .i64 (-1)) (w.heap.size + 1) (by simp only []; omega)).trans HJ1.out)
      have HOw3 : Hid (OwnSl cSnt 63 (w2.setCell ⟨w.heap.size, 2, none⟩ (.int .i64 (-1))) o.wait (.slice ao o.wait.length co) bs) := hid (HO2.out.kept (fun b hb => Below.heap_setCell w2 ⟨w.heap.size, 2, none⟩ (.int .i64 (-1)) b (by have := HLB.out b hb; simp only []; omega)))
      have HYw3 := hid (set1_only (g := w.heap.size) (i := 2) (x := .int .i64 (-1)) _ (Nat.le_refl _) HY.out)
      go_upto_region 24 with fail
      generalize (w2.setCell ⟨w.heap.size, 2, none⟩ (.int .i64 (-1))) = w3 at *
      clear c0 zc0 c1 zc1 c2 zc2 c3 zc3
      clear r0 zr0 r1 zr1 r2 zr2 r3 zr3
      have c0 := cell_of_row _ _ 0 _ _ _ HJ0w3.out
      have c1 := cell_of_row _ _ 1 _ _ _ HJ0w3.out
      have c2 := cell_of_row _ _ 2 _ _ _ HJ0w3.out
      have c3 := cell_of_row _ _ 3 _ _ _ HJ0w3.out
      have zc0 := frozen_of_row _ _ 0 _ _ HJ0w3.out
      have zc1 := frozen_of_row _ _ 1 _ _ HJ0w3.out
      have zc2 := frozen_of_row _ _ 2 _ _ HJ0w3.out
      have zc3 := frozen_of_row _ _ 3 _ _ HJ0w3.out
      simp only [List.getElem?_toArray, List.getElem?_cons_zero, List.getElem?_cons_succ] at c0 c1 c2 c3
      have r0 := cell_of_row _ _ 0 _ _ _ HJ1w3.out
      have r1 := cell_of_row _ _ 1 _ _ _ HJ1w3.out
      have r2 := cell_of_row _ _ 2 _ _ _ HJ1w3.out
      have r3 := cell_of_row _ _ 3 _ _ _ HJ1w3.out
      have zr0 := frozen_of_row _ _ 0 _ _ HJ1w3.out
      have zr1 := frozen_of_row _ _ 1 _ _ HJ1w3.out
      have zr2 := frozen_of_row _ _ 2 _ _ HJ1w3.out
      have zr3 := frozen_of_row _ _ 3 _ _ HJ1w3.out
      simp only [List.getElem?_toArray, List.getElem?_cons_zero, List.getElem?_cons_succ] at r0 r1 r2 r3
      go_wp2_with fail
      refine bodyPost_ret (results_cell_row rfl _ _ (w.heap.size + 1) 30 #[.int .i64 (o.epoch), .int .i64 (o.next), .int .i64 (-1), .slice ao o.wait.length co] (0, 0) _ rfl (set4 HJ1w3.out) Try.underlying30 rfl (by kernel_rfl)) rfl ?_
      have he : spoilO o k v = ⟨o.epoch, o.next, -1, o.wait⟩ := by unfold spoilO; simp [HKE.out, HZ.out]
      rw [HKQ.out, HVQ.out, he]
      exact ⟨ao, co, bs, rfl, HOw3.out.kept (fun b hb => set4o (by have := HLB.out b hb; omega)), fun _ h => h, set4_only _ (by omega) HYw3.out⟩
    · have hz1 : ((o.wait.length : Int) == 0) = false := beq_eq_false_iff_ne.2 (by omega)
      have HZ := hid hz
      clear hz
      obtain ⟨r, hr⟩ : ∃ r : Nat, r = v % o.wait.length := ⟨_, rfl⟩
      have hrl : r < o.wait.length := by rw [hr]; exact Nat.mod_lt _ (by have := HZ.out; omega)
      have hr1 : (v : Int).tmod (o.wait.length : Int) = (r : Int) := by rw [hr]; rfl
      have hr2 : (v : Int) % (o.wait.length : Int) = (r : Int) := by rw [hr]; rfl
      have hri : (r : Int) < (o.wait.length : Int) := by omega
      have HRV := hid hr
      obtain ⟨g, hag⟩ : ∃ g, ao = some ⟨g, 0, none⟩ := by
        rcases HO2.out with ⟨e, _⟩ | ⟨g, cap, vs, bss, e, _⟩
        · simp only [Value.slice.injEq] at e; omega
        · simp only [Value.slice.injEq] at e; exact ⟨g, e.1⟩
      subst hag
      have HGM : Hid (g ∈ bs) := hid (own_block_mem HO2.out rfl)
      have hgw : g < w.heap.size := HLB.out g HGM.out
      obtain ⟨y, hy⟩ := HO2.out.cellAt (j := r * 7 + 6) (by show r * 7 + 6 < o.wait.length * 7; omega)
      have hyz := HO2.out.frozenAt (r * 7 + 6)
      clear hr
      obtain ⟨bs3, hst1, hst2, hst3⟩ := (HO2.out.storeE HND.out hrl (r * 7 + 6) 6 [.int .i64 (-2)] rfl (by show 6 + 1 ≤ 7; omega) (spS o k o.wait[r]) (fun cs bk w' ho hk' => by
        obtain ⟨a1, c1, rfl, hd1, hin1, hat1⟩ := cSnt_owned ho
        have he : spS o k o.wait[r] = spS o 4 o.wait[r] := by rw [HKE.out]
        rw [he]
        exact ⟨bk, fun _ h => h, cSnt_own (s := ⟨o.wait[r].pkt, -2⟩) (hd1.kept hk') hin1 (by dsimp only [IntIn]; omega)⟩))
      have HSU := hid hst2
      have HST := hid hst3
      have HRD3 : Hid (OwnSl cSnt 63 ((w2.setCell ⟨g, r * 7 + 6, none⟩ (.int .i64 (-2))).drew) (o.wait.set r (spS o k o.wait[r])) (.slice (some ⟨g, 0, none⟩) o.wait.length co) bs3) := hid (hst1.kept (fun b _ => rfl))
      clear hst1 hst2 hst3
      have HY3 : Hid (Only (gR :: bs) w ((w2.setCell ⟨g, r * 7 + 6, none⟩ (.int .i64 (-2))).drew)) := hid (by
        have h1 := HY.out
        have h2 := HST.out
        exact ⟨h2.os.trans h1.os, h2.tape.trans h1.tape, h2.output.trans h1.output, Nat.le_trans h1.size h2.size, fun q hq hn => (h2.block q (Nat.lt_of_lt_of_le hq h1.size) (fun hm => hn (List.mem_cons_of_mem _ hm))).trans (h1.block q hq hn)⟩)
      have HJ03 : Hid (((w2.setCell ⟨g, r * 7 + 6, none⟩ (.int .i64 (-2))).drew).heap[w.heap.size]? = some (.cells #[.int .i64 o.epoch, .int .i64 o.next, .int .i64 o.now, .slice (some ⟨g, 0, none⟩) o.wait.length co] 30 (0, 0))) := hid ((Below.heap_setCell w2 ⟨g, r * 7 + 6, none⟩ (.int .i64 (-2)) w.heap.size (by simp only []; omega)).trans HJ0.out)
      have HJ13 : Hid (((w2.setCell ⟨g, r * 7 + 6, none⟩ (.int .i64 (-2))).drew).heap[w.heap.size + 1]? = some (.cells #[.int .i64 0, .int .i64 0, .int .i64 0, .slice none 0 0] 30 (0, 0))) := hid ((Below.heap_setCell w2 ⟨g, r * 7 + 6, none⟩ (.int .i64 (-2)) (w.heap.size + 1) (by simp only []; omega)).trans HJ1.out)
      go_upto_region 18 with fail
      go_region
      generalize ((w2.setCell ⟨g, r * 7 + 6, none⟩ (.int .i64 (-2))).drew) = w3 at *
      clear c0 zc0 c1 zc1 c2 zc2 c3 zc3
      clear r0 zr0 r1 zr1 r2 zr2 r3 zr3
      clear hy hyz hr1 hr2
      have c0 := cell_of_row _ _ 0 _ _ _ HJ03.out
      have c1 := cell_of_row _ _ 1 _ _ _ HJ03.out
      have c2 := cell_of_row _ _ 2 _ _ _ HJ03.out
      have c3 := cell_of_row _ _ 3 _ _ _ HJ03.out
      have zc0 := frozen_of_row _ _ 0 _ _ HJ03.out
      have zc1 := frozen_of_row _ _ 1 _ _ HJ03.out
      have zc2 := frozen_of_row _ _ 2 _ _ HJ03.out
      have zc3 := frozen_of_row _ _ 3 _ _ HJ03.out
      simp only [List.getElem?_toArray, List.getElem?_cons_zero, List.getElem?_cons_succ] at c0 c1 c2 c3
      have r0 := cell_of_row _ _ 0 _ _ _ HJ13.out
      have r1 := cell_of_row _ _ 1 _ _ _ HJ13.out
      have r2 := cell_of_row _ _ 2 _ _ _ HJ13.out
      have r3 := cell_of_row _ _ 3 _ _ _ HJ13.out
      have zr0 := frozen_of_row _ _ 0 _ _ HJ13.out
      have zr1 := frozen_of_row _ _ 1 _ _ HJ13.out
      have zr2 := frozen_of_row _ _ 2 _ _ HJ13.out
      have zr3 := frozen_of_row _ _ 3 _ _ HJ13.out
      simp only [List.getElem?_toArray, List.getElem?_cons_zero, List.getElem?_cons_succ] at r0 r1 r2 r3
      go_wp2_with fail
      refine bodyPost_ret (results_cell_row rfl _ _ (w.heap.size + 1) 30 #[.int .i64 o.epoch, .int .i64 o.next, .int .i64 o.now, .slice (some ⟨g, 0, none⟩) o.wait.length co] (0, 0) _ rfl (set4 HJ13.out) Try.underlying30 rfl (by kernel_rfl)) rfl ?_
      have he : spoilO o k v = ⟨o.epoch, o.next, o.now, o.wait.set r (spS o k o.wait[r])⟩ := by
        unfold spoilO
        rw [if_neg (by have := HKE.out; omega), if_neg (by have := HKE.out; omega), if_neg (by have := HKE.out; omega), if_neg HZ.out, ← HRV.out, modify_set _ _ _ hrl]
      rw [HKQ.out, HVQ.out, he]
      refine ⟨some ⟨g, 0, none⟩, co, bs3, by rw [List.length_set], by rw [List.length_set]; exact HRD3.out.kept (fun b hb => set4o (by have := HLB.out b (HSU.out b hb); omega)), HSU.out, set4_only _ (by omega) HY3.out⟩
  · have hk0 : ((k : Int) == 0) = false := by rw [hk]; rfl
    have hk1 : ((k : Int) == 1) = false := by rw [hk]; rfl
    have hk2 : ((k : Int) == 2) = false := by rw [hk]; rfl
    have hk3 : ((k : Int) == 3) = false := by rw [hk]; rfl
    have hk4 : ((k : Int) == 4) = false := by rw [hk]; rfl
    have hk5 : ((k : Int) == 5) = true := by rw [hk]; rfl
    have HKE := hid hk
    clear hk
    by_cases hz : o.wait.length = 0
    · have hz1 : ((o.wait.length : Int) == 0) = true := by rw [hz]; rfl
      have HZ := hid hz
      clear hz
      have HJ0w3 : Hid ((w2.setCell ⟨w.heap.size, 2, none⟩ (.int .i64 (-1))).heap[w.heap.size]? = some (.cells #[.int .i64 (o.epoch), .int .i64 (o.next), .int .i64 (-1), .slice ao o.wait.length co] 30 (0, 0))) := hid (by have h := heap_setCell_same w2 w.heap.size 2 _ _ (.int .i64 (-1)) HJ0.out; exact h)
      have HJ1w3 : Hid ((w2.setCell ⟨w.heap.size, 2, none⟩ (.int .i64 (-1))).heap[w.heap.size + 1]? = some (.cells #[.int .i64 0, .int .i64 0, .int .i64 0, .slice none 0 0] 30 (0, 0))) := hid ((Below.heap_setCell w2 ⟨w.heap.size, 2, none⟩ (.int .i64 (-1)) (w.heap.size + 1) (by simp only []; omega)).trans HJ1.out)
      have HOw3 : Hid (OwnSl cSnt 63 (w2.setCell ⟨w.heap.size, 2, none⟩ (.int .i64 (-1))) o.wait (.slice ao o.wait.length co) bs) := hid (HO2.out.kept (fun b hb => Below.heap_setCell w2 ⟨w.heap.size, 2, none⟩ (.int .i64 (-1)) b (by have := HLB.out b hb; simp only []; omega)))
      have HYw3 := hid (set1_only (g := w.heap.size) (i := 2) (x := .int .i64 (-1)) _ (Nat.le_refl _) HY.out)
      go_upto_region 24 with fail
      generalize (w2.setCell ⟨w.heap.size, 2, none⟩ (.int .i64 (-1))) = w3 at *
      clear c0 zc0 c1 zc1 c2 zc2 c3 zc3
      clear r0 zr0 r1 zr1 r2 zr2 r3 zr3
      have c0 := cell_of_row _ _ 0 _ _ _ HJ0w3.out
      have c1 := cell_of_row _ _ 1 _ _ _ HJ0w3.out
      have c2 := cell_of_row _ _ 2 _ _ _ HJ0w3.out
      have c3 := cell_of_row _ _ 3 _ _ _ HJ0w3.out
      have zc0 := frozen_of_row _ _ 0 _ _ HJ0w3.out
      have zc1 := frozen_of_row _ _ 1 _ _ HJ0w3.out
      have zc2 := frozen_of_row _ _ 2 _ _ HJ0w3.out
      have zc3 := frozen_of_row _ _ 3 _ _ HJ0w3.out
      simp only [List.getElem?_toArray, List.getElem?_cons_zero, List.getElem?_cons_succ] at c0 c1 c2 c3
      have r0 := cell_of_row _ _ 0 _ _ _ HJ1w3.out
      have r1 := cell_of_row _ _ 1 _ _ _ HJ1w3.out
      have r2 := cell_of_row _ _ 2 _ _ _ HJ1w3.out
      have r3 := cell_of_row _ _ 3 _ _ _ HJ1w3.out
      have zr0 := frozen_of_row _ _ 0 _ _ HJ1w3.out
      have zr1 := frozen_of_row _ _ 1 _ _ HJ1w3.out
      have zr2 := frozen_of_row _ _ 2 _ _ HJ1w3.out
      have zr3 := frozen_of_row _ _ 3 _ _ HJ1w3.out
      simp only [List.getElem?_toArray, List.getElem?_cons_zero, List.getElem?_cons_succ] at r0 r1 r2 r3
      go_wp2_with fail
      refine bodyPost_ret (results_cell_row rfl _ _ (w.heap.size + 1) 30 #[.int .i64 (o.epoch), .int .i64 (o.next), .int .i64 (-1), .slice ao o.wait.length co] (0, 0) _ rfl (set4 HJ1w3.out) Try.underlying30 rfl (by kernel_rfl)) rfl ?_
      have he : spoilO o k v = ⟨o.epoch, o.next, -1, o.wait⟩ := by unfold spoilO; simp [HKE.out, HZ.out]
      rw [HKQ.out, HVQ.out, he]
      exact ⟨ao, co, bs, rfl, HOw3.out.kept (fun b hb => set4o (by have := HLB.out b hb; omega)), fun _ h => h, set4_only _ (by omega) HYw3.out⟩
    · have hz1 : ((o.wait.length : Int) == 0) = false := beq_eq_false_iff_ne.2 (by omega)
      have HZ := hid hz
      clear hz
      obtain ⟨r, hr⟩ : ∃ r : Nat, r = v % o.wait.length := ⟨_, rfl⟩
      have hrl : r < o.wait.length := by rw [hr]; exact Nat.mod_lt _ (by have := HZ.out; omega)
      have hr1 : (v : Int).tmod (o.wait.length : Int) = (r : Int) := by rw [hr]; rfl
      have hr2 : (v : Int) % (o.wait.length : Int) = (r : Int) := by rw [hr]; rfl
      have hri : (r : Int) < (o.wait.length : Int) := by omega
      have HRV := hid hr
      obtain ⟨g, hag⟩ : ∃ g, ao = some ⟨g, 0, none⟩ := by
        rcases HO2.out with ⟨e, _⟩ | ⟨g, cap, vs, bss, e, _⟩
        · simp only [Value.slice.injEq] at e; omega
        · simp only [Value.slice.injEq] at e; exact ⟨g, e.1⟩
      subst hag
      have HGM : Hid (g ∈ bs) := hid (own_block_mem HO2.out rfl)
      have hgw : g < w.heap.size := HLB.out g HGM.out
      obtain ⟨y, hy⟩ := HO2.out.cellAt (j := r * 7 + 5) (by show r * 7 + 5 < o.wait.length * 7; omega)
      have hyz := HO2.out.frozenAt (r * 7 + 5)
      clear hr
      obtain ⟨bs3, hst1, hst2, hst3⟩ := (HO2.out.storeE HND.out hrl (r * 7 + 5) 5 [.slice none 0 0] rfl (by show 5 + 1 ≤ 7; omega) (spS o k o.wait[r]) (fun cs bk w' ho hk' => by
        obtain ⟨a1, c1, rfl, hd1, hin1, hat1⟩ := cSnt_owned ho
        have he : spS o k o.wait[r] = spS o 5 o.wait[r] := by rw [HKE.out]
        rw [he]
        exact ⟨[], by simp, cSnt_own (s := ⟨⟨o.wait[r].pkt.kind, o.wait[r].pkt.epoch, o.wait[r].pkt.seq, o.wait[r].pkt.count, o.wait[r].pkt.last, []⟩, o.wait[r].at_⟩) (.inl ⟨rfl, rfl, rfl⟩) ⟨hin1.1, hin1.2, hin1.3, hin1.4⟩ hat1⟩))
      have HSU := hid hst2
      have HST := hid hst3
      have HRD3 : Hid (OwnSl cSnt 63 ((w2.setCell ⟨g, r * 7 + 5, none⟩ (.slice none 0 0)).drew) (o.wait.set r (spS o k o.wait[r])) (.slice (some ⟨g, 0, none⟩) o.wait.length co) bs3) := hid (hst1.kept (fun b _ => rfl))
      clear hst1 hst2 hst3
      have HY3 : Hid (Only (gR :: bs) w ((w2.setCell ⟨g, r * 7 + 5, none⟩ (.slice none 0 0)).drew)) := hid (by
        have h1 := HY.out
        have h2 := HST.out
        exact ⟨h2.os.trans h1.os, h2.tape.trans h1.tape, h2.output.trans h1.output, Nat.le_trans h1.size h2.size, fun q hq hn => (h2.block q (Nat.lt_of_lt_of_le hq h1.size) (fun hm => hn (List.mem_cons_of_mem _ hm))).trans (h1.block q hq hn)⟩)
      have HJ03 : Hid (((w2.setCell ⟨g, r * 7 + 5, none⟩ (.slice none 0 0)).drew).heap[w.heap.size]? = some (.cells #[.int .i64 o.epoch, .int .i64 o.next, .int .i64 o.now, .slice (some ⟨g, 0, none⟩) o.wait.length co] 30 (0, 0))) := hid ((Below.heap_setCell w2 ⟨g, r * 7 + 5, none⟩ (.slice none 0 0) w.heap.size (by simp only []; omega)).trans HJ0.out)
      have HJ13 : Hid (((w2.setCell ⟨g, r * 7 + 5, none⟩ (.slice none 0 0)).drew).heap[w.heap.size + 1]? = some (.cells #[.int .i64 0, .int .i64 0, .int .i64 0, .slice none 0 0] 30 (0, 0))) := hid ((Below.heap_setCell w2 ⟨g, r * 7 + 5, none⟩ (.slice none 0 0) (w.heap.size + 1) (by simp only []; omega)).trans HJ1.out)
      go_upto_region 20 with fail
      go_region
      generalize ((w2.setCell ⟨g, r * 7 + 5, none⟩ (.slice none 0 0)).drew) = w3 at *
      clear c0 zc0 c1 zc1 c2 zc2 c3 zc3
      clear r0 zr0 r1 zr1 r2 zr2 r3 zr3
      clear hy hyz hr1 hr2
      have c0 := cell_of_row _ _ 0 _ _ _ HJ03.out
      have c1 := cell_of_row _ _ 1 _ _ _ HJ03.out
      have c2 := cell_of_row _ _ 2 _ _ _ HJ03.out
      have c3 := cell_of_row _ _ 3 _ _ _ HJ03.out
      have zc0 := frozen_of_row _ _ 0 _ _ HJ03.out
      have zc1 := frozen_of_row _ _ 1 _ _ HJ03.out
      have zc2 := frozen_of_row _ _ 2 _ _ HJ03.out
      have zc3 := frozen_of_row _ _ 3 _ _ HJ03.out
      simp only [List.getElem?_toArray, List.getElem?_cons_zero, List.getElem?_cons_succ] at c0 c1 c2 c3
      have r0 := cell_of_row _ _ 0 _ _ _ HJ13.out
      have r1 := cell_of_row _ _ 1 _ _ _ HJ13.out
      have r2 := cell_of_row _ _ 2 _ _ _ HJ13.out
      have r3 := cell_of_row _ _ 3 _ _ _ HJ13.out
      have zr0 := frozen_of_row _ _ 0 _ _ HJ13.out
      have zr1 := frozen_of_row _ _ 1 _ _ HJ13.out
      have zr2 := frozen_of_row _ _ 2 _ _ HJ13.out
      have zr3 := frozen_of_row _ _ 3 _ _ HJ13.out
      simp only [List.getElem?_toArray, List.getElem?_cons_zero, List.getElem?_cons_succ] at r0 r1 r2 r3
      go_wp2_with fail
      refine bodyPost_ret (results_cell_row rfl _ _ (w.heap.size + 1) 30 #[.int .i64 o.epoch, .int .i64 o.next, .int .i64 o.now, .slice (some ⟨g, 0, none⟩) o.wait.length co] (0, 0) _ rfl (set4 HJ13.out) Try.underlying30 rfl (by kernel_rfl)) rfl ?_
      have he : spoilO o k v = ⟨o.epoch, o.next, o.now, o.wait.set r (spS o k o.wait[r])⟩ := by
        unfold spoilO
        rw [if_neg (by have := HKE.out; omega), if_neg (by have := HKE.out; omega), if_neg (by have := HKE.out; omega), if_neg HZ.out, ← HRV.out, modify_set _ _ _ hrl]
      rw [HKQ.out, HVQ.out, he]
      refine ⟨some ⟨g, 0, none⟩, co, bs3, by rw [List.length_set], by rw [List.length_set]; exact HRD3.out.kept (fun b hb => set4o (by have := HLB.out b (HSU.out b hb); omega)), HSU.out, set4_only _ (by omega) HY3.out⟩
  · have hk0 : ((k : Int) == 0) = false := by rw [hk]; rfl
    have hk1 : ((k : Int) == 1) = false := by rw [hk]; rfl
    have hk2 : ((k : Int) == 2) = false := by rw [hk]; rfl
    have hk3 : ((k : Int) == 3) = false := by rw [hk]; rfl
    have hk4 : ((k : Int) == 4) = false := by rw [hk]; rfl
    have hk5 : ((k : Int) == 5) = false := by rw [hk]; rfl
    have hk6 : ((k : Int) == 6) = true := by rw [hk]; rfl
    have HKE := hid hk
    clear hk
    by_cases hz : o.wait.length = 0
    · have hz1 : ((o.wait.length : Int) == 0) = true := by rw [hz]; rfl
      have HZ := hid hz
      clear hz
      have HJ0w3 : Hid ((w2.setCell ⟨w.heap.size, 2, none⟩ (.int .i64 (-1))).heap[w.heap.size]? = some (.cells #[.int .i64 (o.epoch), .int .i64 (o.next), .int .i64 (-1), .slice ao o.wait.length co] 30 (0, 0))) := hid (by have h := heap_setCell_same w2 w.heap.size 2 _ _ (.int .i64 (-1)) HJ0.out; exact h)
      have HJ1w3 : Hid ((w2.setCell ⟨w.heap.size, 2, none⟩ (.int .i64 (-1))).heap[w.heap.size + 1]? = some (.cells #[.int .i64 0, .int .i64 0, .int .i64 0, .slice none 0 0] 30 (0, 0))) := hid ((Below.heap_setCell w2 ⟨w.heap.size, 2, none⟩ (.int .i64 (-1)) (w.heap.size + 1) (by simp only []; omega)).trans HJ1.out)
      have HOw3 : Hid (OwnSl cSnt 63 (w2.setCell ⟨w.heap.size, 2, none⟩ (.int .i64 (-1))) o.wait (.slice ao o.wait.length co) bs) := hid (HO2.out.kept (fun b hb => Below.heap_setCell w2 ⟨w.heap.size, 2, none⟩ (.int .i64 (-1)) b (by have := HLB.out b hb; simp only []; omega)))
      have HYw3 := hid (set1_only (g := w.heap.size) (i := 2) (x := .int .i64 (-1)) _ (Nat.le_refl _) HY.out)
      go_upto_region 24 with fail
      generalize (w2.setCell ⟨w.heap.size, 2, none⟩ (.int .i64 (-1))) = w3 at *
      clear c0 zc0 c1 zc1 c2 zc2 c3 zc3
      clear r0 zr0 r1 zr1 r2 zr2 r3 zr3
      have c0 := cell_of_row _ _ 0 _ _ _ HJ0w3.out
      have c1 := cell_of_row _ _ 1 _ _ _ HJ0w3.out
      have c2 := cell_of_row _ _ 2 _ _ _ HJ0w3.out
      have c3 := cell_of_row _ _ 3 _ _ _ HJ0w3.out
      have zc0 := frozen_of_row _ _ 0 _ _ HJ0w3.out
      have zc1 := frozen_of_row _ _ 1 _ _ HJ0w3.out
      have zc2 := frozen_of_row _ _ 2 _ _ HJ0w3.out
      have zc3 := frozen_of_row _ _ 3 _ _ HJ0w3.out
      simp only [List.getElem?_toArray, List.getElem?_cons_zero, List.getElem?_cons_succ] at c0 c1 c2 c3
      have r0 := cell_of_row _ _ 0 _ _ _ HJ1w3.out
      have r1 := cell_of_row _ _ 1 _ _ _ HJ1w3.out
      have r2 := cell_of_row _ _ 2 _ _ _ HJ1w3.out
      have r3 := cell_of_row _ _ 3 _ _ _ HJ1w3.out
      have zr0 := frozen_of_row _ _ 0 _ _ HJ1w3.out
      have zr1 := frozen_of_row _ _ 1 _ _ HJ1w3.out
      have zr2 := frozen_of_row _ _ 2 _ _ HJ1w3.out
      have zr3 := frozen_of_row _ _ 3 _ _ HJ1w3.out
      simp only [List.getElem?_toArray, List.getElem?_cons_zero, List.getElem?_cons_succ] at r0 r1 r2 r3
      go_wp2_with fail
      refine bodyPost_ret (results_cell_row rfl _ _ (w.heap.size + 1) 30 #[.int .i64 (o.epoch), .int .i64 (o.next), .int .i64 (-1), .slice ao o.wait.length co] (0, 0) _ rfl (set4 HJ1w3.out) Try.underlying30 rfl (by kernel_rfl)) rfl ?_
      have he : spoilO o k v = ⟨o.epoch, o.next, -1, o.wait⟩ := by unfold spoilO; simp [HKE.out, HZ.out]
      rw [HKQ.out, HVQ.out, he]
      exact ⟨ao, co, bs, rfl, HOw3.out.kept (fun b hb => set4o (by have := HLB.out b hb; omega)), fun _ h => h, set4_only _ (by omega) HYw3.out⟩
    · have hz1 : ((o.wait.length : Int) == 0) = false := beq_eq_false_iff_ne.2 (by omega)
      have HZ := hid hz
      clear hz
      obtain ⟨r, hr⟩ : ∃ r : Nat, r = v % o.wait.length := ⟨_, rfl⟩
      have hrl : r < o.wait.length := by rw [hr]; exact Nat.mod_lt _ (by have := HZ.out; omega)
      have hr1 : (v : Int).tmod (o.wait.length : Int) = (r : Int) := by rw [hr]; rfl
      have hr2 : (v : Int) % (o.wait.length : Int) = (r : Int) := by rw [hr]; rfl
      have hri : (r : Int) < (o.wait.length : Int) := by omega
      have HRV := hid hr
      obtain ⟨g, hag⟩ : ∃ g, ao = some ⟨g, 0, none⟩ := by
        rcases HO2.out with ⟨e, _⟩ | ⟨g, cap, vs, bss, e, _⟩
        · simp only [Value.slice.injEq] at e; omega
        · simp only [Value.slice.injEq] at e; exact ⟨g, e.1⟩
      subst hag
      have HGM : Hid (g ∈ bs) := hid (own_block_mem HO2.out rfl)
      have hgw : g < w.heap.size := HLB.out g HGM.out
      obtain ⟨y, hy⟩ := HO2.out.cellAt (j := r * 7 + 3) (by show r * 7 + 3 < o.wait.length * 7; omega)
      have hyz := HO2.out.frozenAt (r * 7 + 3)
      clear hr
      obtain ⟨bs3, hst1, hst2, hst3⟩ := (HO2.out.storeE HND.out hrl (r * 7 + 3) 3 [.int .i64 1] rfl (by show 3 + 1 ≤ 7; omega) (spS o k o.wait[r]) (fun cs bk w' ho hk' => by
        obtain ⟨a1, c1, rfl, hd1, hin1, hat1⟩ := cSnt_owned ho
        have he : spS o k o.wait[r] = spS o 6 o.wait[r] := by rw [HKE.out]
        rw [he]
        exact ⟨bk, fun _ h => h, cSnt_own (s := ⟨⟨o.wait[r].pkt.kind, o.wait[r].pkt.epoch, o.wait[r].pkt.seq, 1, o.wait[r].pkt.last, o.wait[r].pkt.data⟩, o.wait[r].at_⟩) (hd1.kept hk') ⟨hin1.1, hin1.2, hin1.3, by dsimp only [IntIn]; omega⟩ hat1⟩))
      have HSU := hid hst2
      have HST := hid hst3
      have HRD3 : Hid (OwnSl cSnt 63 ((w2.setCell ⟨g, r * 7 + 3, none⟩ (.int .i64 1)).drew) (o.wait.set r (spS o k o.wait[r])) (.slice (some ⟨g, 0, none⟩) o.wait.length co) bs3) := hid (hst1.kept (fun b _ => rfl))
      clear hst1 hst2 hst3
      have HY3 : Hid (Only (gR :: bs) w ((w2.setCell ⟨g, r * 7 + 3, none⟩ (.int .i64 1)).drew)) := hid (by
        have h1 := HY.out
        have h2 := HST.out
        exact ⟨h2.os.trans h1.os, h2.tape.trans h1.tape, h2.output.trans h1.output, Nat.le_trans h1.size h2.size, fun q hq hn => (h2.block q (Nat.lt_of_lt_of_le hq h1.size) (fun hm => hn (List.mem_cons_of_mem _ hm))).trans (h1.block q hq hn)⟩)
      have HJ03 : Hid (((w2.setCell ⟨g, r * 7 + 3, none⟩ (.int .i64 1)).drew).heap[w.heap.size]? = some (.cells #[.int .i64 o.epoch, .int .i64 o.next, .int .i64 o.now, .slice (some ⟨g, 0, none⟩) o.wait.length co] 30 (0, 0))) := hid ((Below.heap_setCell w2 ⟨g, r * 7 + 3, none⟩ (.int .i64 1) w.heap.size (by simp only []; omega)).trans HJ0.out)
      have HJ13 : Hid (((w2.setCell ⟨g, r * 7 + 3, none⟩ (.int .i64 1)).drew).heap[w.heap.size + 1]? = some (.cells #[.int .i64 0, .int .i64 0, .int .i64 0, .slice none 0 0] 30 (0, 0))) := hid ((Below.heap_setCell w2 ⟨g, r * 7 + 3, none⟩ (.int .i64 1) (w.heap.size + 1) (by simp only []; omega)).trans HJ1.out)
      go_upto_region 22 with fail
      go_region
      generalize ((w2.setCell ⟨g, r * 7 + 3, none⟩ (.int .i64 1)).drew) = w3 at *
      clear c0 zc0 c1 zc1 c2 zc2 c3 zc3
      clear r0 zr0 r1 zr1 r2 zr2 r3 zr3
      clear hy hyz hr1 hr2
      have c0 := cell_of_row _ _ 0 _ _ _ HJ03.out
      have c1 := cell_of_row _ _ 1 _ _ _ HJ03.out
      have c2 := cell_of_row _ _ 2 _ _ _ HJ03.out
      have c3 := cell_of_row _ _ 3 _ _ _ HJ03.out
      have zc0 := frozen_of_row _ _ 0 _ _ HJ03.out
      have zc1 := frozen_of_row _ _ 1 _ _ HJ03.out
      have zc2 := frozen_of_row _ _ 2 _ _ HJ03.out
      have zc3 := frozen_of_row _ _ 3 _ _ HJ03.out
      simp only [List.getElem?_toArray, List.getElem?_cons_zero, List.getElem?_cons_succ] at c0 c1 c2 c3
      have r0 := cell_of_row _ _ 0 _ _ _ HJ13.out
      have r1 := cell_of_row _ _ 1 _ _ _ HJ13.out
      have r2 := cell_of_row _ _ 2 _ _ _ HJ13.out
      have r3 := cell_of_row _ _ 3 _ _ _ HJ13.out
      have zr0 := frozen_of_row _ _ 0 _ _ HJ13.out
      have zr1 := frozen_of_row _ _ 1 _ _ HJ13.out
      have zr2 := frozen_of_row _ _ 2 _ _ HJ13.out
      have zr3 := frozen_of_row _ _ 3 _ _ HJ13.out
      simp only [List.getElem?_toArray, List.getElem?_cons_zero, List.getElem?_cons_succ] at r0 r1 r2 r3
      go_wp2_with fail
      refine bodyPost_ret (results_cell_row rfl _ _ (w.heap.size + 1) 30 #[.int .i64 o.epoch, .int .i64 o.next, .int .i64 o.now, .slice (some ⟨g, 0, none⟩) o.wait.length co] (0, 0) _ rfl (set4 HJ13.out) Try.underlying30 rfl (by kernel_rfl)) rfl ?_
      have he : spoilO o k v = ⟨o.epoch, o.next, o.now, o.wait.set r (spS o k o.wait[r])⟩ := by
        unfold spoilO
        rw [if_neg (by have := HKE.out; omega), if_neg (by have := HKE.out; omega), if_neg (by have := HKE.out; omega), if_neg HZ.out, ← HRV.out, modify_set _ _ _ hrl]
      rw [HKQ.out, HVQ.out, he]
      refine ⟨some ⟨g, 0, none⟩, co, bs3, by rw [List.length_set], by rw [List.length_set]; exact HRD3.out.kept (fun b hb => set4o (by have := HLB.out b (HSU.out b hb); omega)), HSU.out, set4_only _ (by omega) HY3.out⟩
  · have hk0 : ((k : Int) == 0) = false := by rw [hk]; rfl
    have hk1 : ((k : Int) == 1) = false := by rw [hk]; rfl
    have hk2 : ((k : Int) == 2) = false := by rw [hk]; rfl
    have hk3 : ((k : Int) == 3) = false := by rw [hk]; rfl
    have hk4 : ((k : Int) == 4) = false := by rw [hk]; rfl
    have hk5 : ((k : Int) == 5) = false := by rw [hk]; rfl
    have hk6 : ((k : Int) == 6) = false := by rw [hk]; rfl
    have hk7 : ((k : Int) == 7) = true := by rw [hk]; rfl
    have HKE := hid hk
    clear hk
    by_cases hz : o.wait.length = 0
    · have hz1 : ((o.wait.length : Int) == 0) = true := by rw [hz]; rfl
      have HZ := hid hz
      clear hz
      have HJ0w3 : Hid ((w2.setCell ⟨w.heap.size, 2, none⟩ (.int .i64 (-1))).heap[w.heap.size]? = some (.cells #[.int .i64 (o.epoch), .int .i64 (o.next), .int .i64 (-1), .slice ao o.wait.length co] 30 (0, 0))) := hid (by have h := heap_setCell_same w2 w.heap.size 2 _ _ (.int .i64 (-1)) HJ0.out; exact h)
      have HJ1w3 : Hid ((w2.setCell ⟨w.heap.size, 2, none⟩ (.int .i64 (-1))).heap[w.heap.size + 1]? = some (.cells #[.int .i64 0, .int .i64 0, .int .i64 0, .slice none 0 0] 30 (0, 0))) := hid ((Below.heap_setCell w2 ⟨w.heap.size, 2, none⟩ (.int .i64 (-1)) (w.heap.size + 1) (by simp only []; omega)).trans HJ1.out)
      have HOw3 : Hid (OwnSl cSnt 63 (w2.setCell ⟨w.heap.size, 2, none⟩ (.int .i64 (-1))) o.wait (.slice ao o.wait.length co) bs) := hid (HO2.out.kept (fun b hb => Below.heap_setCell w2 ⟨w.heap.size, 2, none⟩ (.int .i64 (-1)) b (by have := HLB.out b hb; simp only []; omega)))
      have HYw3 := hid (set1_only (g := w.heap.size) (i := 2) (x := .int .i64 (-1)) _ (Nat.le_refl _) HY.out)
      go_upto_region 24 with fail
      generalize (w2.setCell ⟨w.heap.size, 2, none⟩ (.int .i64 (-1))) = w3 at *
      clear c0 zc0 c1 zc1 c2 zc2 c3 zc3
      clear r0 zr0 r1 zr1 r2 zr2 r3 zr3
      have c0 := cell_of_row _ _ 0 _ _ _ HJ0w3.out
      have c1 := cell_of_row _ _ 1 _ _ _ HJ0w3.out
      have c2 := cell_of_row _ _ 2 _ _ _ HJ0w3.out
      have c3 := cell_of_row _ _ 3 _ _ _ HJ0w3.out
      have zc0 := frozen_of_row _ _ 0 _ _ HJ0w3.out
      have zc1 := frozen_of_row _ _ 1 _ _ HJ0w3.out
      have zc2 := frozen_of_row _ _ 2 _ _ HJ0w3.out
      have zc3 := frozen_of_row _ _ 3 _ _ HJ0w3.out
      simp only [List.getElem?_toArray, List.getElem?_cons_zero, List.getElem?_cons_succ] at c0 c1 c2 c3
      have r0 := cell_of_row _ _ 0 _ _ _ HJ1w3.out
      have r1 := cell_of_row _ _ 1 _ _ _ HJ1w3.out
      have r2 := cell_of_row _ _ 2 _ _ _ HJ1w3.out
      have r3 := cell_of_row _ _ 3 _ _ _ HJ1w3.out
      have zr0 := frozen_of_row _ _ 0 _ _ HJ1w3.out
      have zr1 := frozen_of_row _ _ 1 _ _ HJ1w3.out
      have zr2 := frozen_of_row _ _ 2 _ _ HJ1w3.out
      have zr3 := frozen_of_row _ _ 3 _ _ HJ1w3.out
      simp only [List.getElem?_toArray, List.getElem?_cons_zero, List.getElem?_cons_succ] at r0 r1 r2 r3
      go_wp2_with fail
      refine bodyPost_ret (results_cell_row rfl _ _ (w.heap.size + 1) 30 #[.int .i64 (o.epoch), .int .i64 (o.next), .int .i64 (-1), .slice ao o.wait.length co] (0, 0) _ rfl (set4 HJ1w3.out) Try.underlying30 rfl (by kernel_rfl)) rfl ?_
      have he : spoilO o k v = ⟨o.epoch, o.next, -1, o.wait⟩ := by unfold spoilO; simp [HKE.out, HZ.out]
      rw [HKQ.out, HVQ.out, he]
      exact ⟨ao, co, bs, rfl, HOw3.out.kept (fun b hb => set4o (by have := HLB.out b hb; omega)), fun _ h => h, set4_only _ (by omega) HYw3.out⟩
    · have hz1 : ((o.wait.length : Int) == 0) = false := beq_eq_false_iff_ne.2 (by omega)
      have HZ := hid hz
      clear hz
      obtain ⟨r, hr⟩ : ∃ r : Nat, r = v % o.wait.length := ⟨_, rfl⟩
      have hrl : r < o.wait.length := by rw [hr]; exact Nat.mod_lt _ (by have := HZ.out; omega)
      have hr1 : (v : Int).tmod (o.wait.length : Int) = (r : Int) := by rw [hr]; rfl
      have hr2 : (v : Int) % (o.wait.length : Int) = (r : Int) := by rw [hr]; rfl
      have hri : (r : Int) < (o.wait.length : Int) := by omega
      have HRV := hid hr
      obtain ⟨g, hag⟩ : ∃ g, ao = some ⟨g, 0, none⟩ := by
        rcases HO2.out with ⟨e, _⟩ | ⟨g, cap, vs, bss, e, _⟩
        · simp only [Value.slice.injEq] at e; omega
        · simp only [Value.slice.injEq] at e; exact ⟨g, e.1⟩
      subst hag
      have HGM : Hid (g ∈ bs) := hid (own_block_mem HO2.out rfl)
      have hgw : g < w.heap.size := HLB.out g HGM.out
      obtain ⟨y, hy⟩ := HO2.out.cellAt (j := r * 7) (by show r * 7 < o.wait.length * 7; omega)
      have hyz := HO2.out.frozenAt (r * 7)
      clear hr
      obtain ⟨bs3, hst1, hst2, hst3⟩ := (HO2.out.storeE HND.out hrl (r * 7) 0 [.int .i64 4] rfl (by show 0 + 1 ≤ 7; omega) (spS o k o.wait[r]) (fun cs bk w' ho hk' => by
        obtain ⟨a1, c1, rfl, hd1, hin1, hat1⟩ := cSnt_owned ho
        have he : spS o k o.wait[r] = spS o 7 o.wait[r] := by rw [HKE.out]
        rw [he]
        exact ⟨bk, fun _ h => h, cSnt_own (s := ⟨⟨4, o.wait[r].pkt.epoch, o.wait[r].pkt.seq, o.wait[r].pkt.count, o.wait[r].pkt.last, o.wait[r].pkt.data⟩, o.wait[r].at_⟩) (hd1.kept hk') ⟨by dsimp only [IntIn]; omega, hin1.2, hin1.3, hin1.4⟩ hat1⟩))
      have HSU := hid hst2
      have HST := hid hst3
      have HRD3 : Hid (OwnSl cSnt 63 ((w2.setCell ⟨g, r * 7, none⟩ (.int .i64 4)).drew) (o.wait.set r (spS o k o.wait[r])) (.slice (some ⟨g, 0, none⟩) o.wait.length co) bs3) := hid (hst1.kept (fun b _ => rfl))
      clear hst1 hst2 hst3
      have HY3 : Hid (Only (gR :: bs) w ((w2.setCell ⟨g, r * 7, none⟩ (.int .i64 4)).drew)) := hid (by
        have h1 := HY.out
        have h2 := HST.out
        exact ⟨h2.os.trans h1.os, h2.tape.trans h1.tape, h2.output.trans h1.output, Nat.le_trans h1.size h2.size, fun q hq hn => (h2.block q (Nat.lt_of_lt_of_le hq h1.size) (fun hm => hn (List.mem_cons_of_mem _ hm))).trans (h1.block q hq hn)⟩)
      have HJ03 : Hid (((w2.setCell ⟨g, r * 7, none⟩ (.int .i64 4)).drew).heap[w.heap.size]? = some (.cells #[.int .i64 o.epoch, .int .i64 o.next, .int .i64 o.now, .slice (some ⟨g, 0, none⟩) o.wait.length co] 30 (0, 0))) := hid ((Below.heap_setCell w2 ⟨g, r * 7, none⟩ (.int .i64 4) w.heap.size (by simp only []; omega)).trans HJ0.out)
      have HJ13 : Hid (((w2.setCell ⟨g, r * 7, none⟩ (.int .i64 4)).drew).heap[w.heap.size + 1]? = some (.cells #[.int .i64 0, .int .i64 0, .int .i64 0, .slice none 0 0] 30 (0, 0))) := hid ((Below.heap_setCell w2 ⟨g, r * 7, none⟩ (.int .i64 4) (w.heap.size + 1) (by simp only []; omega)).trans HJ1.out)
      go_upto_region 23 with fail
      go_region
      generalize ((w2.setCell ⟨g, r * 7, none⟩ (.int .i64 4)).drew) = w3 at *
      clear c0 zc0 c1 zc1 c2 zc2 c3 zc3
      clear r0 zr0 r1 zr1 r2 zr2 r3 zr3
      clear hy hyz hr1 hr2
      have c0 := cell_of_row _ _ 0 _ _ _ HJ03.out
      have c1 := cell_of_row _ _ 1 _ _ _ HJ03.out
      have c2 := cell_of_row _ _ 2 _ _ _ HJ03.out
      have c3 := cell_of_row _ _ 3 _ _ _ HJ03.out
      have zc0 := frozen_of_row _ _ 0 _ _ HJ03.out
      have zc1 := frozen_of_row _ _ 1 _ _ HJ03.out
      have zc2 := frozen_of_row _ _ 2 _ _ HJ03.out
      have zc3 := frozen_of_row _ _ 3 _ _ HJ03.out
      simp only [List.getElem?_toArray, List.getElem?_cons_zero, List.getElem?_cons_succ] at c0 c1 c2 c3
      have r0 := cell_of_row _ _ 0 _ _ _ HJ13.out
      have r1 := cell_of_row _ _ 1 _ _ _ HJ13.out
      have r2 := cell_of_row _ _ 2 _ _ _ HJ13.out
      have r3 := cell_of_row _ _ 3 _ _ _ HJ13.out
      have zr0 := frozen_of_row _ _ 0 _ _ HJ13.out
      have zr1 := frozen_of_row _ _ 1 _ _ HJ13.out
      have zr2 := frozen_of_row _ _ 2 _ _ HJ13.out
      have zr3 := frozen_of_row _ _ 3 _ _ HJ13.out
      simp only [List.getElem?_toArray, List.getElem?_cons_zero, List.getElem?_cons_succ] at r0 r1 r2 r3
      go_wp2_with fail
      refine bodyPost_ret (results_cell_row rfl _ _ (w.heap.size + 1) 30 #[.int .i64 o.epoch, .int .i64 o.next, .int .i64 o.now, .slice (some ⟨g, 0, none⟩) o.wait.length co] (0, 0) _ rfl (set4 HJ13.out) Try.underlying30 rfl (by kernel_rfl)) rfl ?_
      have he : spoilO o k v = ⟨o.epoch, o.next, o.now, o.wait.set r (spS o k o.wait[r])⟩ := by
        unfold spoilO
        rw [if_neg (by have := HKE.out; omega), if_neg (by have := HKE.out; omega), if_neg (by have := HKE.out; omega), if_neg HZ.out, ← HRV.out, modify_set _ _ _ hrl]
      rw [HKQ.out, HVQ.out, he]
      refine ⟨some ⟨g, 0, none⟩, co, bs3, by rw [List.length_set], by rw [List.length_set]; exact HRD3.out.kept (fun b hb => set4o (by have := HLB.out b (HSU.out b hb); omega)), HSU.out, set4_only _ (by omega) HY3.out⟩
end Go.Proofs.Ytmaccmgmcahopaa
