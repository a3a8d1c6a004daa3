import Derived.Test.YtfppfjklakdlfaaDoorJForms26
namespace Go.Proofs.YtfppfjklakdlfaaDoor
open Go.RowKit
def depk (xs : List Nat) : PP :=
  if nxt xs 0 % 16 = 0 then { dpk xs 2 with epoch := 999999999 + (nxt xs 1 % 3 : Nat) }
  else if nxt xs 0 % 16 = 1 then { dpk xs 2 with seq := 999999999999 + (nxt xs 1 % 3 : Nat) }
  else if nxt xs 0 % 16 = 2 then { dpk xs 2 with count := 999999999 + (nxt xs 1 % 3 : Nat) }
  else if nxt xs 0 % 16 = 3 then { dpk xs 2 with data := List.replicate (99 + nxt xs 1 % 3) 9 }
  else if nxt xs 0 % 16 = 4 then { dpk xs 2 with last := true }
  else if nxt xs 0 % 16 = 5 then { dpk xs 2 with kind := (nxt xs 1 % 3 : Nat) * 5 }
  else if nxt xs 0 % 16 = 6 then { dpk xs 2 with epoch := -((nxt xs 1 % 3 : Nat) : Int) }
  else dpk xs 2
theorem dpk_lt {xs : List Nat} (h : ∀ x ∈ xs, x < 256) (j : Nat) : (∀ x ∈ (dpk xs j).data, x < 256) ∧ (dpk xs j).data.length ≤ 12 := by
  have h1 := nxt_lt h j
  have h2 := drawn_lt h (j + 3) 12
  have h3 := drawn_len xs (j + 3) 12
  unfold dpk
  simp only []
  split
  · refine ⟨fun x hx => ?_, by simp; omega⟩
    rcases List.mem_cons.1 hx with rfl | hx
    · exact h1
    · exact h2 x hx
  · split
    · simp
    · split <;> simp
set_option maxRecDepth 100000 in
set_option maxHeartbeats 8000000 in
theorem drawE_any (a : Option Addr) (cap : Nat) (ys : List Nat) (w : World) (hr : RdSl cByte w ys (.slice a ys.length cap)) (hl : ys.length ≤ 1048576) :
    Calls Tryd.prog 21 #[.slice a ys.length cap] w fun e w' => ∃ v c, e = .returned (.agg #[.int .i64 (depk (ys.take 600)).kind, .int .i64 (depk (ys.take 600)).epoch, .int .i64 (depk (ys.take 600)).seq, .int .i64 (depk (ys.take 600)).count, .bool (depk (ys.take 600)).last, .slice v (depk (ys.take 600)).data.length c]) ∧ RdSl cByte w' (depk (ys.take 600)).data (.slice v (depk (ys.take 600)).data.length c) ∧ Below w.heap.size w w' := by
  have HR := hid hr.rdB.1
  have HBY := hid (take_lt hr.rdB.2 600)
  have hxl := take_len ys
  obtain ⟨hcap, hnil⟩ : ys.length ≤ cap ∧ (a = none → cap = 0) := by
    have h0 := hr.nil0
    obtain ⟨a', c', e', g1, g2, _⟩ := hr
    simp only [Value.slice.injEq] at e'
    exact ⟨by omega, fun h => (h0 h).2⟩
  clear hr
  go_enter Tryd.func21, Tryd.ntmps21
  go_wp2_with fail
  have hb0 := below_new1 w (.cells #[.int .i64 0, .int .i64 0, .int .i64 0, .int .i64 0, .bool false, .slice none 0 0] 39)
  have HK0 : Hid ((w.alloc (.cells #[.int .i64 0, .int .i64 0, .int .i64 0, .int .i64 0, .bool false, .slice none 0 0] 39)).heap[w.heap.size]? = some (.cells #[.int .i64 0, .int .i64 0, .int .i64 0, .int .i64 0, .bool false, .slice none 0 0] 39 (0, 0))) := hid (heap_alloc_new w _)
  have HS0 : Hid ((w.alloc (.cells #[.int .i64 0, .int .i64 0, .int .i64 0, .int .i64 0, .bool false, .slice none 0 0] 39)).heap.size = w.heap.size + 1) := hid (by simp)
  generalize (w.alloc (.cells #[.int .i64 0, .int .i64 0, .int .i64 0, .int .i64 0, .bool false, .slice none 0 0] 39)) = w0 at *
  refine (open_any a cap ys w0 (HR.out.later hb0) hcap hnil hl).mono ?_
  rintro e w1 ⟨a', c', rfl, hrd, hab0, bl1, hs1⟩
  have HK1 : Hid (w1.heap[w.heap.size]? = some (.cells #[.int .i64 0, .int .i64 0, .int .i64 0, .int .i64 0, .bool false, .slice none 0 0] 39 (0, 0))) := hid ((bl1.block _ (by have := HS0.out; omega)).trans HK0.out)
  have B1 := below_chain hb0 bl1
  have HS1 := hid hs1
  have HRD := hid hrd
  have HAB := hid hab0
  clear hrd hab0 HR hcap hnil bl1 hb0 hs1
  obtain ⟨xs, hxs⟩ : ∃ xs, xs = ys.take 600 := ⟨_, rfl⟩
  rw [← hxs] at HBY hxl HRD HAB
  have HXS := hid hxs
  clear hxs
  go_wp2_with fail
  refine (next_any _ c' 0 a' xs w1 HRD.out hxl HBY.out).mono ?_
  rintro e w2 ⟨rfl, r2, g2⟩
  have hk : nxt xs 0 < 256 := nxt_lt HBY.out 0
  obtain ⟨k, hkk⟩ : ∃ k : Nat, k = nxt xs 0 := ⟨_, rfl⟩
  rw [← hkk] at hk ⊢
  have HKK := hid hkk
  have HR2 := hid r2
  have HG2 := hid g2
  clear hkk r2 g2
  go_wp2_with fail
  refine (next_any _ c' 1 a' xs w2 HR2.out hxl HBY.out).mono ?_
  rintro e w3 ⟨rfl, r3, g3⟩
  have hq : nxt xs 1 < 256 := nxt_lt HBY.out 1
  obtain ⟨q, hqq⟩ : ∃ q : Nat, q = nxt xs 1 := ⟨_, rfl⟩
  rw [← hqq] at hq ⊢
  obtain ⟨t, ht⟩ : ∃ t : Nat, t = q % 3 := ⟨_, rfl⟩
  have hti : (q : Int) % 3 = (t : Int) := by rw [ht]; simp
  have HT : Hid (nxt xs 1 % 3 = t) := hid (by rw [ht, hqq])
  have htb : t < 3 := by omega
  have HR3 := hid r3
  have HG3 : Hid (w1.grownBy w3 (some w0.heap.size)) := hid (grown_next HG2.out g3 (fun p hp => by simp at hp; omega))
  clear hqq ht r3 g3 HG2 HR2
  go_wp2_with fail
  refine (drawPk_any _ c' 2 a' xs w3 HR3.out (fun x h1 h2 => by have := HAB.out x h1 h2; have := HG3.out.size; have := HS1.out; omega) hxl HBY.out).mono ?_
  rintro e w4 ⟨aD, cD, rfl, oD, -, g4⟩
  have hplt := dpk_lt HBY.out 2
  obtain ⟨p, hp⟩ : ∃ p : PP, p = dpk xs 2 := ⟨_, rfl⟩
  rw [← hp] at oD hplt ⊢
  have HP := hid hp
  have HPL := hid hplt
  clear hp hplt
  have HG4 : Hid (w1.grownBy w4 (some w0.heap.size)) := hid (grown_next HG3.out g4 (fun p hp => by simp at hp; omega))
  have B4 : Below w.heap.size w w4 := B1.grown HG4.out B1.size (fun p hp => by simp at hp; have := HS0.out; omega)
  have HK4 : Hid (w4.heap[w.heap.size]? = some (.cells #[.int .i64 0, .int .i64 0, .int .i64 0, .int .i64 0, .bool false, .slice none 0 0] 39 (0, 0))) := hid ((HG4.out.block _ (Array.getElem?_eq_some_iff.1 HK1.out).1 (fun e => by simp at e; have := HS0.out; omega)).trans HK1.out)
  have HKZ := HK4
  have HOD := hid oD
  have HB4 := hid B4
  have HW34 : Hid (w3.heap.size ≤ w4.heap.size) := hid g4.size
  have hb5 := below_new1 w4 (.cells #[.int .i64 p.kind, .int .i64 p.epoch, .int .i64 p.seq, .int .i64 p.count, .bool p.last, .slice aD p.data.length cD] 39)
  have HK5 : Hid ((w4.alloc (.cells #[.int .i64 p.kind, .int .i64 p.epoch, .int .i64 p.seq, .int .i64 p.count, .bool p.last, .slice aD p.data.length cD] 39)).heap[w.heap.size]? = some (.cells #[.int .i64 0, .int .i64 0, .int .i64 0, .int .i64 0, .bool false, .slice none 0 0] 39 (0, 0))) := hid ((hb5.block _ (Array.getElem?_eq_some_iff.1 HK4.out).1).trans HK4.out)
  have HM5 : Hid ((w4.alloc (.cells #[.int .i64 p.kind, .int .i64 p.epoch, .int .i64 p.seq, .int .i64 p.count, .bool p.last, .slice aD p.data.length cD] 39)).heap[w4.heap.size]? = some (.cells #[.int .i64 p.kind, .int .i64 p.epoch, .int .i64 p.seq, .int .i64 p.count, .bool p.last, .slice aD p.data.length cD] 39 (0, 0))) := hid (heap_alloc_new w4 _)
  have HB5 := hid (below_chain B4 hb5)
  have HO5 := hid (own_later oD hb5)
  have HW3 : Hid (w.heap.size < w3.heap.size) := hid (by have := HG3.out.size; have := HS1.out; have := HS0.out; omega)
  have HW4 : Hid (w.heap.size < w4.heap.size) := hid (by have := HW3.out; have := g4.size; omega)
  obtain ⟨r, hr⟩ : ∃ r : Nat, r = k % 16 := ⟨_, rfl⟩
  have hri : (k : Int) % 16 = (r : Int) := by rw [hr]; simp
  have HRR : Hid (nxt xs 0 % 16 = r) := hid (by rw [hr, HKK.out])
  have hrb : r < 16 := by omega
  clear hr g4 oD B4 hb5 HG4 HG3 HK4 HK1 HRD HR3 HAB B1 HK0
  by_cases hri0 : r = 0
  · have e0 : ((r : Int) == 0) = true := by rw [hri0]; rfl
    have e1 : ((r : Int) == 1) = false := beq_eq_false_iff_ne.2 (by omega)
    have e2 : ((r : Int) == 2) = false := beq_eq_false_iff_ne.2 (by omega)
    have e3 : ((r : Int) == 3) = false := beq_eq_false_iff_ne.2 (by omega)
    have e4 : ((r : Int) == 4) = false := beq_eq_false_iff_ne.2 (by omega)
    have e5 : ((r : Int) == 5) = false := beq_eq_false_iff_ne.2 (by omega)
    have e6 : ((r : Int) == 6) = false := beq_eq_false_iff_ne.2 (by omega)
    have HDL := hid HPL.out.1
    have hb6 := below_new1 w4 (.cells #[.int .i64 p.kind, .int .i64 (999999999 + (t : Int)), .int .i64 p.seq, .int .i64 p.count, .bool p.last, .slice aD p.data.length cD] 39)
    have HM6 : Hid ((w4.alloc (.cells #[.int .i64 p.kind, .int .i64 (999999999 + (t : Int)), .int .i64 p.seq, .int .i64 p.count, .bool p.last, .slice aD p.data.length cD] 39)).heap[w4.heap.size]? = some (.cells #[.int .i64 p.kind, .int .i64 (999999999 + (t : Int)), .int .i64 p.seq, .int .i64 p.count, .bool p.last, .slice aD p.data.length cD] 39 (0, 0))) := hid (heap_alloc_new w4 _)
    have HK6 : Hid ((w4.alloc (.cells #[.int .i64 p.kind, .int .i64 (999999999 + (t : Int)), .int .i64 p.seq, .int .i64 p.count, .bool p.last, .slice aD p.data.length cD] 39)).heap[w.heap.size]? = some (.cells #[.int .i64 0, .int .i64 0, .int .i64 0, .int .i64 0, .bool false, .slice none 0 0] 39 (0, 0))) := hid ((hb6.block _ HW4.out).trans HKZ.out)
    have HO6 := hid (own_later HOD.out hb6)
    have HB6 := hid (below_chain HB4.out hb6)
    clear hb6
    have s0 := cell_of_row _ _ 0 _ _ _ HM5.out
    have zs0 := frozen_of_row _ _ 0 _ _ HM5.out
    have s1 := cell_of_row _ _ 1 _ _ _ HM5.out
    have zs1 := frozen_of_row _ _ 1 _ _ HM5.out
    have s2 := cell_of_row _ _ 2 _ _ _ HM5.out
    have zs2 := frozen_of_row _ _ 2 _ _ HM5.out
    have s3 := cell_of_row _ _ 3 _ _ _ HM5.out
    have zs3 := frozen_of_row _ _ 3 _ _ HM5.out
    have s4 := cell_of_row _ _ 4 _ _ _ HM5.out
    have zs4 := frozen_of_row _ _ 4 _ _ HM5.out
    have s5 := cell_of_row _ _ 5 _ _ _ HM5.out
    have zs5 := frozen_of_row _ _ 5 _ _ HM5.out
    simp only [List.getElem?_toArray, List.getElem?_cons_zero, List.getElem?_cons_succ] at s0 s1 s2 s3 s4 s5
    have HPK : Hid (depk xs = { p with epoch := (999999999 + (t : Int)) }) := hid (by unfold depk; rw [HRR.out, if_pos hri0]; (try rw [HT.out]); rw [← HP.out])
    have p0 := cell_of_row _ _ 0 _ _ _ HM6.out
    have zp0 := frozen_of_row _ _ 0 _ _ HM6.out
    have p1 := cell_of_row _ _ 1 _ _ _ HM6.out
    have zp1 := frozen_of_row _ _ 1 _ _ HM6.out
    have p2 := cell_of_row _ _ 2 _ _ _ HM6.out
    have zp2 := frozen_of_row _ _ 2 _ _ HM6.out
    have p3 := cell_of_row _ _ 3 _ _ _ HM6.out
    have zp3 := frozen_of_row _ _ 3 _ _ HM6.out
    have p4 := cell_of_row _ _ 4 _ _ _ HM6.out
    have zp4 := frozen_of_row _ _ 4 _ _ HM6.out
    have p5 := cell_of_row _ _ 5 _ _ _ HM6.out
    have zp5 := frozen_of_row _ _ 5 _ _ HM6.out
    simp only [List.getElem?_toArray, List.getElem?_cons_zero, List.getElem?_cons_succ] at p0 p1 p2 p3 p4 p5
    have r0 := cell_of_row _ _ 0 _ _ _ HK6.out
    have zr0 := frozen_of_row _ _ 0 _ _ HK6.out
    have r1 := cell_of_row _ _ 1 _ _ _ HK6.out
    have zr1 := frozen_of_row _ _ 1 _ _ HK6.out
    have r2 := cell_of_row _ _ 2 _ _ _ HK6.out
    have zr2 := frozen_of_row _ _ 2 _ _ HK6.out
    have r3 := cell_of_row _ _ 3 _ _ _ HK6.out
    have zr3 := frozen_of_row _ _ 3 _ _ HK6.out
    have r4 := cell_of_row _ _ 4 _ _ _ HK6.out
    have zr4 := frozen_of_row _ _ 4 _ _ HK6.out
    have r5 := cell_of_row _ _ 5 _ _ _ HK6.out
    have zr5 := frozen_of_row _ _ 5 _ _ HK6.out
    simp only [List.getElem?_toArray, List.getElem?_cons_zero, List.getElem?_cons_succ] at r0 r1 r2 r3 r4 r5
    have hgm : ¬ w4.heap.size = w.heap.size := by have := HW4.out; omega
    have hgm2 : ¬ w.heap.size = w4.heap.size := by have := HW4.out; omega
    clear hri0
    go_wp2
    refine bodyPost_ret (results_cell_row rfl _ _ w.heap.size 39 #[.int .i64 p.kind, .int .i64 (999999999 + (t : Int)), .int .i64 p.seq, .int .i64 p.count, .bool p.last, .slice aD p.data.length cD] (0, 0) _ rfl (set6 HK6.out) Tryd.underlying39 rfl (by kernel_rfl)) rfl ?_
    rw [← HXS.out, HPK.out]
    refine ⟨_, _, rfl, ?_, set6b HB6.out (Nat.le_refl _)⟩
    exact own_rdSl (ownsRow_kept HO6.out (fun b hb => set6o (by have := own_in HO6.out hb; have := HW3.out; omega))) HDL.out
  have hr0 := hri0
  clear hri0
  by_cases hri0 : r = 1
  · have e0 : ((r : Int) == 0) = false := beq_eq_false_iff_ne.2 (by omega)
    have e1 : ((r : Int) == 1) = true := by rw [hri0]; rfl
    have e2 : ((r : Int) == 2) = false := beq_eq_false_iff_ne.2 (by omega)
    have e3 : ((r : Int) == 3) = false := beq_eq_false_iff_ne.2 (by omega)
    have e4 : ((r : Int) == 4) = false := beq_eq_false_iff_ne.2 (by omega)
    have e5 : ((r : Int) == 5) = false := beq_eq_false_iff_ne.2 (by omega)
    have e6 : ((r : Int) == 6) = false := beq_eq_false_iff_ne.2 (by omega)
    have HDL := hid HPL.out.1
    have hb6 := below_new1 w4 (.cells #[.int .i64 p.kind, .int .i64 p.epoch, .int .i64 (999999999999 + (t : Int)), .int .i64 p.count, .bool p.last, .slice aD p.data.length cD] 39)
    have HM6 : Hid ((w4.alloc (.cells #[.int .i64 p.kind, .int .i64 p.epoch, .int .i64 (999999999999 + (t : Int)), .int .i64 p.count, .bool p.last, .slice aD p.data.length cD] 39)).heap[w4.heap.size]? = some (.cells #[.int .i64 p.kind, .int .i64 p.epoch, .int .i64 (999999999999 + (t : Int)), .int .i64 p.count, .bool p.last, .slice aD p.data.length cD] 39 (0, 0))) := hid (heap_alloc_new w4 _)
    have HK6 : Hid ((w4.alloc (.cells #[.int .i64 p.kind, .int .i64 p.epoch, .int .i64 (999999999999 + (t : Int)), .int .i64 p.count, .bool p.last, .slice aD p.data.length cD] 39)).heap[w.heap.size]? = some (.cells #[.int .i64 0, .int .i64 0, .int .i64 0, .int .i64 0, .bool false, .slice none 0 0] 39 (0, 0))) := hid ((hb6.block _ HW4.out).trans HKZ.out)
    have HO6 := hid (own_later HOD.out hb6)
    have HB6 := hid (below_chain HB4.out hb6)
    clear hb6
    have s0 := cell_of_row _ _ 0 _ _ _ HM5.out
    have zs0 := frozen_of_row _ _ 0 _ _ HM5.out
    have s1 := cell_of_row _ _ 1 _ _ _ HM5.out
    have zs1 := frozen_of_row _ _ 1 _ _ HM5.out
    have s2 := cell_of_row _ _ 2 _ _ _ HM5.out
    have zs2 := frozen_of_row _ _ 2 _ _ HM5.out
    have s3 := cell_of_row _ _ 3 _ _ _ HM5.out
    have zs3 := frozen_of_row _ _ 3 _ _ HM5.out
    have s4 := cell_of_row _ _ 4 _ _ _ HM5.out
    have zs4 := frozen_of_row _ _ 4 _ _ HM5.out
    have s5 := cell_of_row _ _ 5 _ _ _ HM5.out
    have zs5 := frozen_of_row _ _ 5 _ _ HM5.out
    simp only [List.getElem?_toArray, List.getElem?_cons_zero, List.getElem?_cons_succ] at s0 s1 s2 s3 s4 s5
    have HPK : Hid (depk xs = { p with seq := (999999999999 + (t : Int)) }) := hid (by unfold depk; rw [HRR.out, if_neg (show ¬ r = 0 by omega), if_pos hri0]; (try rw [HT.out]); rw [← HP.out])
    have p0 := cell_of_row _ _ 0 _ _ _ HM6.out
    have zp0 := frozen_of_row _ _ 0 _ _ HM6.out
    have p1 := cell_of_row _ _ 1 _ _ _ HM6.out
    have zp1 := frozen_of_row _ _ 1 _ _ HM6.out
    have p2 := cell_of_row _ _ 2 _ _ _ HM6.out
    have zp2 := frozen_of_row _ _ 2 _ _ HM6.out
    have p3 := cell_of_row _ _ 3 _ _ _ HM6.out
    have zp3 := frozen_of_row _ _ 3 _ _ HM6.out
    have p4 := cell_of_row _ _ 4 _ _ _ HM6.out
    have zp4 := frozen_of_row _ _ 4 _ _ HM6.out
    have p5 := cell_of_row _ _ 5 _ _ _ HM6.out
    have zp5 := frozen_of_row _ _ 5 _ _ HM6.out
    simp only [List.getElem?_toArray, List.getElem?_cons_zero, List.getElem?_cons_succ] at p0 p1 p2 p3 p4 p5
    have r0 := cell_of_row _ _ 0 _ _ _ HK6.out
    have zr0 := frozen_of_row _ _ 0 _ _ HK6.out
    have r1 := cell_of_row _ _ 1 _ _ _ HK6.out
    have zr1 := frozen_of_row _ _ 1 _ _ HK6.out
    have r2 := cell_of_row _ _ 2 _ _ _ HK6.out
    have zr2 := frozen_of_row _ _ 2 _ _ HK6.out
    have r3 := cell_of_row _ _ 3 _ _ _ HK6.out
    have zr3 := frozen_of_row _ _ 3 _ _ HK6.out
    have r4 := cell_of_row _ _ 4 _ _ _ HK6.out
    have zr4 := frozen_of_row _ _ 4 _ _ HK6.out
    have r5 := cell_of_row _ _ 5 _ _ _ HK6.out
    have zr5 := frozen_of_row _ _ 5 _ _ HK6.out
    simp only [List.getElem?_toArray, List.getElem?_cons_zero, List.getElem?_cons_succ] at r0 r1 r2 r3 r4 r5
    have hgm : ¬ w4.heap.size = w.heap.size := by have := HW4.out; omega
    have hgm2 : ¬ w.heap.size = w4.heap.size := by have := HW4.out; omega
    clear hri0
    go_wp2
    refine bodyPost_ret (results_cell_row rfl _ _ w.heap.size 39 #[.int .i64 p.kind, .int .i64 p.epoch, .int .i64 (999999999999 + (t : Int)), .int .i64 p.count, .bool p.last, .slice aD p.data.length cD] (0, 0) _ rfl (set6 HK6.out) Tryd.underlying39 rfl (by kernel_rfl)) rfl ?_
    rw [← HXS.out, HPK.out]
    refine ⟨_, _, rfl, ?_, set6b HB6.out (Nat.le_refl _)⟩
    exact own_rdSl (ownsRow_kept HO6.out (fun b hb => set6o (by have := own_in HO6.out hb; have := HW3.out; omega))) HDL.out
  have hr1 := hri0
  clear hri0
  by_cases hri0 : r = 2
  · have e0 : ((r : Int) == 0) = false := beq_eq_false_iff_ne.2 (by omega)
    have e1 : ((r : Int) == 1) = false := beq_eq_false_iff_ne.2 (by omega)
    have e2 : ((r : Int) == 2) = true := by rw [hri0]; rfl
    have e3 : ((r : Int) == 3) = false := beq_eq_false_iff_ne.2 (by omega)
    have e4 : ((r : Int) == 4) = false := beq_eq_false_iff_ne.2 (by omega)
    have e5 : ((r : Int) == 5) = false := beq_eq_false_iff_ne.2 (by omega)
    have e6 : ((r : Int) == 6) = false := beq_eq_false_iff_ne.2 (by omega)
    have HDL := hid HPL.out.1
    have hb6 := below_new1 w4 (.cells #[.int .i64 p.kind, .int .i64 p.epoch, .int .i64 p.seq, .int .i64 (999999999 + (t : Int)), .bool p.last, .slice aD p.data.length cD] 39)
    have HM6 : Hid ((w4.alloc (.cells #[.int .i64 p.kind, .int .i64 p.epoch, .int .i64 p.seq, .int .i64 (999999999 + (t : Int)), .bool p.last, .slice aD p.data.length cD] 39)).heap[w4.heap.size]? = some (.cells #[.int .i64 p.kind, .int .i64 p.epoch, .int .i64 p.seq, .int .i64 (999999999 + (t : Int)), .bool p.last, .slice aD p.data.length cD] 39 (0, 0))) := hid (heap_alloc_new w4 _)
    have HK6 : Hid ((w4.alloc (.cells #[.int .i64 p.kind, .int .i64 p.epoch, .int .i64 p.seq, .int .i64 (999999999 + (t : Int)), .bool p.last, .slice aD p.data.length cD] 39)).heap[w.heap.size]? = some (.cells #[.int .i64 0, .int .i64 0, .int .i64 0, .int .i64 0, .bool false, .slice none 0 0] 39 (0, 0))) := hid ((hb6.block _ HW4.out).trans HKZ.out)
    have HO6 := hid (own_later HOD.out hb6)
    have HB6 := hid (below_chain HB4.out hb6)
    clear hb6
    have s0 := cell_of_row _ _ 0 _ _ _ HM5.out
    have zs0 := frozen_of_row _ _ 0 _ _ HM5.out
    have s1 := cell_of_row _ _ 1 _ _ _ HM5.out
    have zs1 := frozen_of_row _ _ 1 _ _ HM5.out
    have s2 := cell_of_row _ _ 2 _ _ _ HM5.out
    have zs2 := frozen_of_row _ _ 2 _ _ HM5.out
    have s3 := cell_of_row _ _ 3 _ _ _ HM5.out
    have zs3 := frozen_of_row _ _ 3 _ _ HM5.out
    have s4 := cell_of_row _ _ 4 _ _ _ HM5.out
    have zs4 := frozen_of_row _ _ 4 _ _ HM5.out
    have s5 := cell_of_row _ _ 5 _ _ _ HM5.out
    have zs5 := frozen_of_row _ _ 5 _ _ HM5.out
    simp only [List.getElem?_toArray, List.getElem?_cons_zero, List.getElem?_cons_succ] at s0 s1 s2 s3 s4 s5
    have HPK : Hid (depk xs = { p with count := (999999999 + (t : Int)) }) := hid (by unfold depk; rw [HRR.out, if_neg (show ¬ r = 0 by omega), if_neg (show ¬ r = 1 by omega), if_pos hri0]; (try rw [HT.out]); rw [← HP.out])
    have p0 := cell_of_row _ _ 0 _ _ _ HM6.out
    have zp0 := frozen_of_row _ _ 0 _ _ HM6.out
    have p1 := cell_of_row _ _ 1 _ _ _ HM6.out
    have zp1 := frozen_of_row _ _ 1 _ _ HM6.out
    have p2 := cell_of_row _ _ 2 _ _ _ HM6.out
    have zp2 := frozen_of_row _ _ 2 _ _ HM6.out
    have p3 := cell_of_row _ _ 3 _ _ _ HM6.out
    have zp3 := frozen_of_row _ _ 3 _ _ HM6.out
    have p4 := cell_of_row _ _ 4 _ _ _ HM6.out
    have zp4 := frozen_of_row _ _ 4 _ _ HM6.out
    have p5 := cell_of_row _ _ 5 _ _ _ HM6.out
    have zp5 := frozen_of_row _ _ 5 _ _ HM6.out
    simp only [List.getElem?_toArray, List.getElem?_cons_zero, List.getElem?_cons_succ] at p0 p1 p2 p3 p4 p5
    have r0 := cell_of_row _ _ 0 _ _ _ HK6.out
    have zr0 := frozen_of_row _ _ 0 _ _ HK6.out
    have r1 := cell_of_row _ _ 1 _ _ _ HK6.out
    have zr1 := frozen_of_row _ _ 1 _ _ HK6.out
    have r2 := cell_of_row _ _ 2 _ _ _ HK6.out
    have zr2 := frozen_of_row _ _ 2 _ _ HK6.out
    have r3 := cell_of_row _ _ 3 _ _ _ HK6.out
    have zr3 := frozen_of_row _ _ 3 _ _ HK6.out
    have r4 := cell_of_row _ _ 4 _ _ _ HK6.out
    have zr4 := frozen_of_row _ _ 4 _ _ HK6.out
    have r5 := cell_of_row _ _ 5 _ _ _ HK6.out
    have zr5 := frozen_of_row _ _ 5 _ _ HK6.out
    simp only [List.getElem?_toArray, List.getElem?_cons_zero, List.getElem?_cons_succ] at r0 r1 r2 r3 r4 r5
    have hgm : ¬ w4.heap.size = w.heap.size := by have := HW4.out; omega
    have hgm2 : ¬ w.heap.size = w4.heap.size := by have := HW4.out; omega
    clear hri0
    go_wp2
    refine bodyPost_ret (results_cell_row rfl _ _ w.heap.size 39 #[.int .i64 p.kind, .int .i64 p.epoch, .int .i64 p.seq, .int .i64 (999999999 + (t : Int)), .bool p.last, .slice aD p.data.length cD] (0, 0) _ rfl (set6 HK6.out) Tryd.underlying39 rfl (by kernel_rfl)) rfl ?_
    rw [← HXS.out, HPK.out]
    refine ⟨_, _, rfl, ?_, set6b HB6.out (Nat.le_refl _)⟩
    exact own_rdSl (ownsRow_kept HO6.out (fun b hb => set6o (by have := own_in HO6.out hb; have := HW3.out; omega))) HDL.out
  have hr2 := hri0
  clear hri0
  by_cases hri0 : r = 3
  · have e0 : ((r : Int) == 0) = false := beq_eq_false_iff_ne.2 (by omega)
    have e1 : ((r : Int) == 1) = false := beq_eq_false_iff_ne.2 (by omega)
    have e2 : ((r : Int) == 2) = false := beq_eq_false_iff_ne.2 (by omega)
    have e3 : ((r : Int) == 3) = true := by rw [hri0]; rfl
    have e4 : ((r : Int) == 4) = false := beq_eq_false_iff_ne.2 (by omega)
    have e5 : ((r : Int) == 5) = false := beq_eq_false_iff_ne.2 (by omega)
    have e6 : ((r : Int) == 6) = false := beq_eq_false_iff_ne.2 (by omega)
    obtain ⟨L, hL⟩ : ∃ L : Nat, L = 99 + t := ⟨_, rfl⟩
    have hLi : 99 + (t : Int) = (L : Int) := by rw [hL]; simp
    have hLb : L ≤ 102 := by omega
    have HLL := hid hL
    clear hL
    go_wp2_with fail
    refine (fill_any 9 L (w4.alloc (.cells #[.int .i64 p.kind, .int .i64 p.epoch, .int .i64 p.seq, .int .i64 p.count, .bool p.last, .slice aD p.data.length cD] 39)) (by omega)).mono ?_
    rintro e w6 ⟨aL, cL, rfl, oL, b6⟩
    have HK6 : Hid (w6.heap[w.heap.size]? = some (.cells #[.int .i64 0, .int .i64 0, .int .i64 0, .int .i64 0, .bool false, .slice none 0 0] 39 (0, 0))) := hid ((b6.block _ (Array.getElem?_eq_some_iff.1 HK5.out).1).trans HK5.out)
    have HM6 : Hid (w6.heap[w4.heap.size]? = some (.cells #[.int .i64 p.kind, .int .i64 p.epoch, .int .i64 p.seq, .int .i64 p.count, .bool p.last, .slice aD p.data.length cD] 39 (0, 0))) := hid ((b6.block _ (Array.getElem?_eq_some_iff.1 HM5.out).1).trans HM5.out)
    have HB6 := hid (below_chain HB5.out b6)
    have HO6 : Hid (w6.ownsRow w3.heap.size 5 1 (.slice aL L cL) L (byt (List.replicate L 9))) := hid (own_mono oL (by have := HW34.out; simp; omega))
    have HM7 : Hid ((w6.setCell ⟨w4.heap.size, 5, none⟩ (.slice aL L cL)).heap[w4.heap.size]? = some (.cells #[.int .i64 p.kind, .int .i64 p.epoch, .int .i64 p.seq, .int .i64 p.count, .bool p.last, .slice aL L cL] 39 (0, 0))) := hid (heap_setCell_same _ w4.heap.size 5 _ _ _ HM6.out)
    have HK7 : Hid ((w6.setCell ⟨w4.heap.size, 5, none⟩ (.slice aL L cL)).heap[w.heap.size]? = some (.cells #[.int .i64 0, .int .i64 0, .int .i64 0, .int .i64 0, .bool false, .slice none 0 0] 39 (0, 0))) := hid ((heap_setCell_other _ ⟨w4.heap.size, 5, none⟩ w.heap.size _ (by have := HW4.out; simp only []; omega)).trans HK6.out)
    have HO7 : Hid (World.ownsRow (w6.setCell ⟨w4.heap.size, 5, none⟩ (.slice aL L cL)) w3.heap.size 5 1 (.slice aL L cL) L (byt (List.replicate L 9))) := hid (ownsRow_kept HO6.out (fun b hb => heap_setCell_other _ ⟨w4.heap.size, 5, none⟩ b _ (fun e => boxY_far HM6.out HO6.out (by decide) (by rw [hb]; exact congrArg some e))))
    have HB7 : Hid (Below w.heap.size w (w6.setCell ⟨w4.heap.size, 5, none⟩ (.slice aL L cL))) := hid (HB6.out.setCell (p := ⟨w4.heap.size, 5, none⟩) (Nat.le_of_lt HW4.out) _)
    have HDL : Hid (∀ x ∈ List.replicate L 9, x < 256) := hid (fun x hx => by simp at hx; omega)
    clear oL b6 hLi
    have s0 := cell_of_row _ _ 0 _ _ _ HM6.out
    have zs0 := frozen_of_row _ _ 0 _ _ HM6.out
    have s1 := cell_of_row _ _ 1 _ _ _ HM6.out
    have zs1 := frozen_of_row _ _ 1 _ _ HM6.out
    have s2 := cell_of_row _ _ 2 _ _ _ HM6.out
    have zs2 := frozen_of_row _ _ 2 _ _ HM6.out
    have s3 := cell_of_row _ _ 3 _ _ _ HM6.out
    have zs3 := frozen_of_row _ _ 3 _ _ HM6.out
    have s4 := cell_of_row _ _ 4 _ _ _ HM6.out
    have zs4 := frozen_of_row _ _ 4 _ _ HM6.out
    have s5 := cell_of_row _ _ 5 _ _ _ HM6.out
    have zs5 := frozen_of_row _ _ 5 _ _ HM6.out
    simp only [List.getElem?_toArray, List.getElem?_cons_zero, List.getElem?_cons_succ] at s0 s1 s2 s3 s4 s5
    have HPK : Hid (depk xs = { p with data := List.replicate L 9 }) := hid (by unfold depk; rw [HRR.out, if_neg (show ¬ r = 0 by omega), if_neg (show ¬ r = 1 by omega), if_neg (show ¬ r = 2 by omega), if_pos hri0]; (try rw [HT.out]); rw [← HLL.out]; rw [← HP.out])
    have p0 := cell_of_row _ _ 0 _ _ _ HM7.out
    have zp0 := frozen_of_row _ _ 0 _ _ HM7.out
    have p1 := cell_of_row _ _ 1 _ _ _ HM7.out
    have zp1 := frozen_of_row _ _ 1 _ _ HM7.out
    have p2 := cell_of_row _ _ 2 _ _ _ HM7.out
    have zp2 := frozen_of_row _ _ 2 _ _ HM7.out
    have p3 := cell_of_row _ _ 3 _ _ _ HM7.out
    have zp3 := frozen_of_row _ _ 3 _ _ HM7.out
    have p4 := cell_of_row _ _ 4 _ _ _ HM7.out
    have zp4 := frozen_of_row _ _ 4 _ _ HM7.out
    have p5 := cell_of_row _ _ 5 _ _ _ HM7.out
    have zp5 := frozen_of_row _ _ 5 _ _ HM7.out
    simp only [List.getElem?_toArray, List.getElem?_cons_zero, List.getElem?_cons_succ] at p0 p1 p2 p3 p4 p5
    have r0 := cell_of_row _ _ 0 _ _ _ HK7.out
    have zr0 := frozen_of_row _ _ 0 _ _ HK7.out
    have r1 := cell_of_row _ _ 1 _ _ _ HK7.out
    have zr1 := frozen_of_row _ _ 1 _ _ HK7.out
    have r2 := cell_of_row _ _ 2 _ _ _ HK7.out
    have zr2 := frozen_of_row _ _ 2 _ _ HK7.out
    have r3 := cell_of_row _ _ 3 _ _ _ HK7.out
    have zr3 := frozen_of_row _ _ 3 _ _ HK7.out
    have r4 := cell_of_row _ _ 4 _ _ _ HK7.out
    have zr4 := frozen_of_row _ _ 4 _ _ HK7.out
    have r5 := cell_of_row _ _ 5 _ _ _ HK7.out
    have zr5 := frozen_of_row _ _ 5 _ _ HK7.out
    simp only [List.getElem?_toArray, List.getElem?_cons_zero, List.getElem?_cons_succ] at r0 r1 r2 r3 r4 r5
    have hgm : ¬ w4.heap.size = w.heap.size := by have := HW4.out; omega
    have hgm2 : ¬ w.heap.size = w4.heap.size := by have := HW4.out; omega
    clear hri0
    go_wp2
    refine bodyPost_ret (results_cell_row rfl _ _ w.heap.size 39 #[.int .i64 p.kind, .int .i64 p.epoch, .int .i64 p.seq, .int .i64 p.count, .bool p.last, .slice aL L cL] (0, 0) _ rfl (set6 HK7.out) Tryd.underlying39 rfl (by kernel_rfl)) rfl ?_
    rw [← HXS.out, HPK.out]
    show ∃ v c, _ = Ending.returned (Value.agg #[.int .i64 p.kind, .int .i64 p.epoch, .int .i64 p.seq, .int .i64 p.count, .bool p.last, .slice v (List.replicate L 9).length c]) ∧ RdSl cByte _ (List.replicate L 9) (.slice v (List.replicate L 9).length c) ∧ _
    rw [List.length_replicate]
    refine ⟨_, _, rfl, ?_, set6b HB7.out (Nat.le_refl _)⟩
    exact own_rdSl (ownsRow_kept HO7.out (fun b hb => set6o (by have := own_in HO7.out hb; have := HW3.out; omega))) HDL.out
  have hr3 := hri0
  clear hri0
  by_cases hri0 : r = 4
  · have e0 : ((r : Int) == 0) = false := beq_eq_false_iff_ne.2 (by omega)
    have e1 : ((r : Int) == 1) = false := beq_eq_false_iff_ne.2 (by omega)
    have e2 : ((r : Int) == 2) = false := beq_eq_false_iff_ne.2 (by omega)
    have e3 : ((r : Int) == 3) = false := beq_eq_false_iff_ne.2 (by omega)
    have e4 : ((r : Int) == 4) = true := by rw [hri0]; rfl
    have e5 : ((r : Int) == 5) = false := beq_eq_false_iff_ne.2 (by omega)
    have e6 : ((r : Int) == 6) = false := beq_eq_false_iff_ne.2 (by omega)
    have HDL := hid HPL.out.1
    have hb6 := below_new1 w4 (.cells #[.int .i64 p.kind, .int .i64 p.epoch, .int .i64 p.seq, .int .i64 p.count, .bool true, .slice aD p.data.length cD] 39)
    have HM6 : Hid ((w4.alloc (.cells #[.int .i64 p.kind, .int .i64 p.epoch, .int .i64 p.seq, .int .i64 p.count, .bool true, .slice aD p.data.length cD] 39)).heap[w4.heap.size]? = some (.cells #[.int .i64 p.kind, .int .i64 p.epoch, .int .i64 p.seq, .int .i64 p.count, .bool true, .slice aD p.data.length cD] 39 (0, 0))) := hid (heap_alloc_new w4 _)
    have HK6 : Hid ((w4.alloc (.cells #[.int .i64 p.kind, .int .i64 p.epoch, .int .i64 p.seq, .int .i64 p.count, .bool true, .slice aD p.data.length cD] 39)).heap[w.heap.size]? = some (.cells #[.int .i64 0, .int .i64 0, .int .i64 0, .int .i64 0, .bool false, .slice none 0 0] 39 (0, 0))) := hid ((hb6.block _ HW4.out).trans HKZ.out)
    have HO6 := hid (own_later HOD.out hb6)
    have HB6 := hid (below_chain HB4.out hb6)
    clear hb6
    have s0 := cell_of_row _ _ 0 _ _ _ HM5.out
    have zs0 := frozen_of_row _ _ 0 _ _ HM5.out
    have s1 := cell_of_row _ _ 1 _ _ _ HM5.out
    have zs1 := frozen_of_row _ _ 1 _ _ HM5.out
    have s2 := cell_of_row _ _ 2 _ _ _ HM5.out
    have zs2 := frozen_of_row _ _ 2 _ _ HM5.out
    have s3 := cell_of_row _ _ 3 _ _ _ HM5.out
    have zs3 := frozen_of_row _ _ 3 _ _ HM5.out
    have s4 := cell_of_row _ _ 4 _ _ _ HM5.out
    have zs4 := frozen_of_row _ _ 4 _ _ HM5.out
    have s5 := cell_of_row _ _ 5 _ _ _ HM5.out
    have zs5 := frozen_of_row _ _ 5 _ _ HM5.out
    simp only [List.getElem?_toArray, List.getElem?_cons_zero, List.getElem?_cons_succ] at s0 s1 s2 s3 s4 s5
    have HPK : Hid (depk xs = { p with last := true }) := hid (by unfold depk; rw [HRR.out, if_neg (show ¬ r = 0 by omega), if_neg (show ¬ r = 1 by omega), if_neg (show ¬ r = 2 by omega), if_neg (show ¬ r = 3 by omega), if_pos hri0]; (try rw [HT.out]); rw [← HP.out])
    have p0 := cell_of_row _ _ 0 _ _ _ HM6.out
    have zp0 := frozen_of_row _ _ 0 _ _ HM6.out
    have p1 := cell_of_row _ _ 1 _ _ _ HM6.out
    have zp1 := frozen_of_row _ _ 1 _ _ HM6.out
    have p2 := cell_of_row _ _ 2 _ _ _ HM6.out
    have zp2 := frozen_of_row _ _ 2 _ _ HM6.out
    have p3 := cell_of_row _ _ 3 _ _ _ HM6.out
    have zp3 := frozen_of_row _ _ 3 _ _ HM6.out
    have p4 := cell_of_row _ _ 4 _ _ _ HM6.out
    have zp4 := frozen_of_row _ _ 4 _ _ HM6.out
    have p5 := cell_of_row _ _ 5 _ _ _ HM6.out
    have zp5 := frozen_of_row _ _ 5 _ _ HM6.out
    simp only [List.getElem?_toArray, List.getElem?_cons_zero, List.getElem?_cons_succ] at p0 p1 p2 p3 p4 p5
    have r0 := cell_of_row _ _ 0 _ _ _ HK6.out
    have zr0 := frozen_of_row _ _ 0 _ _ HK6.out
    have r1 := cell_of_row _ _ 1 _ _ _ HK6.out
    have zr1 := frozen_of_row _ _ 1 _ _ HK6.out
    have r2 := cell_of_row _ _ 2 _ _ _ HK6.out
    have zr2 := frozen_of_row _ _ 2 _ _ HK6.out
    have r3 := cell_of_row _ _ 3 _ _ _ HK6.out
    have zr3 := frozen_of_row _ _ 3 _ _ HK6.out
    have r4 := cell_of_row _ _ 4 _ _ _ HK6.out
    have zr4 := frozen_of_row _ _ 4 _ _ HK6.out
    have r5 := cell_of_row _ _ 5 _ _ _ HK6.out
    have zr5 := frozen_of_row _ _ 5 _ _ HK6.out
    simp only [List.getElem?_toArray, List.getElem?_cons_zero, List.getElem?_cons_succ] at r0 r1 r2 r3 r4 r5
    have hgm : ¬ w4.heap.size = w.heap.size := by have := HW4.out; omega
    have hgm2 : ¬ w.heap.size = w4.heap.size := by have := HW4.out; omega
    clear hri0
    go_wp2
    refine bodyPost_ret (results_cell_row rfl _ _ w.heap.size 39 #[.int .i64 p.kind, .int .i64 p.epoch, .int .i64 p.seq, .int .i64 p.count, .bool true, .slice aD p.data.length cD] (0, 0) _ rfl (set6 HK6.out) Tryd.underlying39 rfl (by kernel_rfl)) rfl ?_
    rw [← HXS.out, HPK.out]
    refine ⟨_, _, rfl, ?_, set6b HB6.out (Nat.le_refl _)⟩
    exact own_rdSl (ownsRow_kept HO6.out (fun b hb => set6o (by have := own_in HO6.out hb; have := HW3.out; omega))) HDL.out
  have hr4 := hri0
  clear hri0
  by_cases hri0 : r = 5
  · have e0 : ((r : Int) == 0) = false := beq_eq_false_iff_ne.2 (by omega)
    have e1 : ((r : Int) == 1) = false := beq_eq_false_iff_ne.2 (by omega)
    have e2 : ((r : Int) == 2) = false := beq_eq_false_iff_ne.2 (by omega)
    have e3 : ((r : Int) == 3) = false := beq_eq_false_iff_ne.2 (by omega)
    have e4 : ((r : Int) == 4) = false := beq_eq_false_iff_ne.2 (by omega)
    have e5 : ((r : Int) == 5) = true := by rw [hri0]; rfl
    have e6 : ((r : Int) == 6) = false := beq_eq_false_iff_ne.2 (by omega)
    have HDL := hid HPL.out.1
    have hb6 := below_new1 w4 (.cells #[.int .i64 ((t : Int) * 5), .int .i64 p.epoch, .int .i64 p.seq, .int .i64 p.count, .bool p.last, .slice aD p.data.length cD] 39)
    have HM6 : Hid ((w4.alloc (.cells #[.int .i64 ((t : Int) * 5), .int .i64 p.epoch, .int .i64 p.seq, .int .i64 p.count, .bool p.last, .slice aD p.data.length cD] 39)).heap[w4.heap.size]? = some (.cells #[.int .i64 ((t : Int) * 5), .int .i64 p.epoch, .int .i64 p.seq, .int .i64 p.count, .bool p.last, .slice aD p.data.length cD] 39 (0, 0))) := hid (heap_alloc_new w4 _)
    have HK6 : Hid ((w4.alloc (.cells #[.int .i64 ((t : Int) * 5), .int .i64 p.epoch, .int .i64 p.seq, .int .i64 p.count, .bool p.last, .slice aD p.data.length cD] 39)).heap[w.heap.size]? = some (.cells #[.int .i64 0, .int .i64 0, .int .i64 0, .int .i64 0, .bool false, .slice none 0 0] 39 (0, 0))) := hid ((hb6.block _ HW4.out).trans HKZ.out)
    have HO6 := hid (own_later HOD.out hb6)
    have HB6 := hid (below_chain HB4.out hb6)
    clear hb6
    have s0 := cell_of_row _ _ 0 _ _ _ HM5.out
    have zs0 := frozen_of_row _ _ 0 _ _ HM5.out
    have s1 := cell_of_row _ _ 1 _ _ _ HM5.out
    have zs1 := frozen_of_row _ _ 1 _ _ HM5.out
    have s2 := cell_of_row _ _ 2 _ _ _ HM5.out
    have zs2 := frozen_of_row _ _ 2 _ _ HM5.out
    have s3 := cell_of_row _ _ 3 _ _ _ HM5.out
    have zs3 := frozen_of_row _ _ 3 _ _ HM5.out
    have s4 := cell_of_row _ _ 4 _ _ _ HM5.out
    have zs4 := frozen_of_row _ _ 4 _ _ HM5.out
    have s5 := cell_of_row _ _ 5 _ _ _ HM5.out
    have zs5 := frozen_of_row _ _ 5 _ _ HM5.out
    simp only [List.getElem?_toArray, List.getElem?_cons_zero, List.getElem?_cons_succ] at s0 s1 s2 s3 s4 s5
    have HPK : Hid (depk xs = { p with kind := ((t : Int) * 5) }) := hid (by unfold depk; rw [HRR.out, if_neg (show ¬ r = 0 by omega), if_neg (show ¬ r = 1 by omega), if_neg (show ¬ r = 2 by omega), if_neg (show ¬ r = 3 by omega), if_neg (show ¬ r = 4 by omega), if_pos hri0]; (try rw [HT.out]); rw [← HP.out])
    have p0 := cell_of_row _ _ 0 _ _ _ HM6.out
    have zp0 := frozen_of_row _ _ 0 _ _ HM6.out
    have p1 := cell_of_row _ _ 1 _ _ _ HM6.out
    have zp1 := frozen_of_row _ _ 1 _ _ HM6.out
    have p2 := cell_of_row _ _ 2 _ _ _ HM6.out
    have zp2 := frozen_of_row _ _ 2 _ _ HM6.out
    have p3 := cell_of_row _ _ 3 _ _ _ HM6.out
    have zp3 := frozen_of_row _ _ 3 _ _ HM6.out
    have p4 := cell_of_row _ _ 4 _ _ _ HM6.out
    have zp4 := frozen_of_row _ _ 4 _ _ HM6.out
    have p5 := cell_of_row _ _ 5 _ _ _ HM6.out
    have zp5 := frozen_of_row _ _ 5 _ _ HM6.out
    simp only [List.getElem?_toArray, List.getElem?_cons_zero, List.getElem?_cons_succ] at p0 p1 p2 p3 p4 p5
    have r0 := cell_of_row _ _ 0 _ _ _ HK6.out
    have zr0 := frozen_of_row _ _ 0 _ _ HK6.out
    have r1 := cell_of_row _ _ 1 _ _ _ HK6.out
    have zr1 := frozen_of_row _ _ 1 _ _ HK6.out
    have r2 := cell_of_row _ _ 2 _ _ _ HK6.out
    have zr2 := frozen_of_row _ _ 2 _ _ HK6.out
    have r3 := cell_of_row _ _ 3 _ _ _ HK6.out
    have zr3 := frozen_of_row _ _ 3 _ _ HK6.out
    have r4 := cell_of_row _ _ 4 _ _ _ HK6.out
    have zr4 := frozen_of_row _ _ 4 _ _ HK6.out
    have r5 := cell_of_row _ _ 5 _ _ _ HK6.out
    have zr5 := frozen_of_row _ _ 5 _ _ HK6.out
    simp only [List.getElem?_toArray, List.getElem?_cons_zero, List.getElem?_cons_succ] at r0 r1 r2 r3 r4 r5
    have hgm : ¬ w4.heap.size = w.heap.size := by have := HW4.out; omega
    have hgm2 : ¬ w.heap.size = w4.heap.size := by have := HW4.out; omega
    clear hri0
    go_wp2
    refine bodyPost_ret (results_cell_row rfl _ _ w.heap.size 39 #[.int .i64 ((t : Int) * 5), .int .i64 p.epoch, .int .i64 p.seq, .int .i64 p.count, .bool p.last, .slice aD p.data.length cD] (0, 0) _ rfl (set6 HK6.out) Tryd.underlying39 rfl (by kernel_rfl)) rfl ?_
    rw [← HXS.out, HPK.out]
    refine ⟨_, _, rfl, ?_, set6b HB6.out (Nat.le_refl _)⟩
    exact own_rdSl (ownsRow_kept HO6.out (fun b hb => set6o (by have := own_in HO6.out hb; have := HW3.out; omega))) HDL.out
  have hr5 := hri0
  clear hri0
  by_cases hri0 : r = 6
  · have e0 : ((r : Int) == 0) = false := beq_eq_false_iff_ne.2 (by omega)
    have e1 : ((r : Int) == 1) = false := beq_eq_false_iff_ne.2 (by omega)
    have e2 : ((r : Int) == 2) = false := beq_eq_false_iff_ne.2 (by omega)
    have e3 : ((r : Int) == 3) = false := beq_eq_false_iff_ne.2 (by omega)
    have e4 : ((r : Int) == 4) = false := beq_eq_false_iff_ne.2 (by omega)
    have e5 : ((r : Int) == 5) = false := beq_eq_false_iff_ne.2 (by omega)
    have e6 : ((r : Int) == 6) = true := by rw [hri0]; rfl
    have HDL := hid HPL.out.1
    have hb6 := below_new1 w4 (.cells #[.int .i64 p.kind, .int .i64 (-(t : Int)), .int .i64 p.seq, .int .i64 p.count, .bool p.last, .slice aD p.data.length cD] 39)
    have HM6 : Hid ((w4.alloc (.cells #[.int .i64 p.kind, .int .i64 (-(t : Int)), .int .i64 p.seq, .int .i64 p.count, .bool p.last, .slice aD p.data.length cD] 39)).heap[w4.heap.size]? = some (.cells #[.int .i64 p.kind, .int .i64 (-(t : Int)), .int .i64 p.seq, .int .i64 p.count, .bool p.last, .slice aD p.data.length cD] 39 (0, 0))) := hid (heap_alloc_new w4 _)
    have HK6 : Hid ((w4.alloc (.cells #[.int .i64 p.kind, .int .i64 (-(t : Int)), .int .i64 p.seq, .int .i64 p.count, .bool p.last, .slice aD p.data.length cD] 39)).heap[w.heap.size]? = some (.cells #[.int .i64 0, .int .i64 0, .int .i64 0, .int .i64 0, .bool false, .slice none 0 0] 39 (0, 0))) := hid ((hb6.block _ HW4.out).trans HKZ.out)
    have HO6 := hid (own_later HOD.out hb6)
    have HB6 := hid (below_chain HB4.out hb6)
    clear hb6
    have s0 := cell_of_row _ _ 0 _ _ _ HM5.out
    have zs0 := frozen_of_row _ _ 0 _ _ HM5.out
    have s1 := cell_of_row _ _ 1 _ _ _ HM5.out
    have zs1 := frozen_of_row _ _ 1 _ _ HM5.out
    have s2 := cell_of_row _ _ 2 _ _ _ HM5.out
    have zs2 := frozen_of_row _ _ 2 _ _ HM5.out
    have s3 := cell_of_row _ _ 3 _ _ _ HM5.out
    have zs3 := frozen_of_row _ _ 3 _ _ HM5.out
    have s4 := cell_of_row _ _ 4 _ _ _ HM5.out
    have zs4 := frozen_of_row _ _ 4 _ _ HM5.out
    have s5 := cell_of_row _ _ 5 _ _ _ HM5.out
    have zs5 := frozen_of_row _ _ 5 _ _ HM5.out
    simp only [List.getElem?_toArray, List.getElem?_cons_zero, List.getElem?_cons_succ] at s0 s1 s2 s3 s4 s5
    have HPK : Hid (depk xs = { p with epoch := (-(t : Int)) }) := hid (by unfold depk; rw [HRR.out, if_neg (show ¬ r = 0 by omega), if_neg (show ¬ r = 1 by omega), if_neg (show ¬ r = 2 by omega), if_neg (show ¬ r = 3 by omega), if_neg (show ¬ r = 4 by omega), if_neg (show ¬ r = 5 by omega), if_pos hri0]; (try rw [HT.out]); rw [← HP.out])
    have p0 := cell_of_row _ _ 0 _ _ _ HM6.out
    have zp0 := frozen_of_row _ _ 0 _ _ HM6.out
    have p1 := cell_of_row _ _ 1 _ _ _ HM6.out
    have zp1 := frozen_of_row _ _ 1 _ _ HM6.out
    have p2 := cell_of_row _ _ 2 _ _ _ HM6.out
    have zp2 := frozen_of_row _ _ 2 _ _ HM6.out
    have p3 := cell_of_row _ _ 3 _ _ _ HM6.out
    have zp3 := frozen_of_row _ _ 3 _ _ HM6.out
    have p4 := cell_of_row _ _ 4 _ _ _ HM6.out
    have zp4 := frozen_of_row _ _ 4 _ _ HM6.out
    have p5 := cell_of_row _ _ 5 _ _ _ HM6.out
    have zp5 := frozen_of_row _ _ 5 _ _ HM6.out
    simp only [List.getElem?_toArray, List.getElem?_cons_zero, List.getElem?_cons_succ] at p0 p1 p2 p3 p4 p5
    have r0 := cell_of_row _ _ 0 _ _ _ HK6.out
    have zr0 := frozen_of_row _ _ 0 _ _ HK6.out
    have r1 := cell_of_row _ _ 1 _ _ _ HK6.out
    have zr1 := frozen_of_row _ _ 1 _ _ HK6.out
    have r2 := cell_of_row _ _ 2 _ _ _ HK6.out
    have zr2 := frozen_of_row _ _ 2 _ _ HK6.out
    have r3 := cell_of_row _ _ 3 _ _ _ HK6.out
    have zr3 := frozen_of_row _ _ 3 _ _ HK6.out
    have r4 := cell_of_row _ _ 4 _ _ _ HK6.out
    have zr4 := frozen_of_row _ _ 4 _ _ HK6.out
    have r5 := cell_of_row _ _ 5 _ _ _ HK6.out
    have zr5 := frozen_of_row _ _ 5 _ _ HK6.out
    simp only [List.getElem?_toArray, List.getElem?_cons_zero, List.getElem?_cons_succ] at r0 r1 r2 r3 r4 r5
    have hgm : ¬ w4.heap.size = w.heap.size := by have := HW4.out; omega
    have hgm2 : ¬ w.heap.size = w4.heap.size := by have := HW4.out; omega
    clear hri0
    go_wp2
    refine bodyPost_ret (results_cell_row rfl _ _ w.heap.size 39 #[.int .i64 p.kind, .int .i64 (-(t : Int)), .int .i64 p.seq, .int .i64 p.count, .bool p.last, .slice aD p.data.length cD] (0, 0) _ rfl (set6 HK6.out) Tryd.underlying39 rfl (by kernel_rfl)) rfl ?_
    rw [← HXS.out, HPK.out]
    refine ⟨_, _, rfl, ?_, set6b HB6.out (Nat.le_refl _)⟩
    exact own_rdSl (ownsRow_kept HO6.out (fun b hb => set6o (by have := own_in HO6.out hb; have := HW3.out; omega))) HDL.out
  have hr6 := hri0
  clear hri0
  have hri0 : True := trivial
  have e0 : ((r : Int) == 0) = false := beq_eq_false_iff_ne.2 (by omega)
  have e1 : ((r : Int) == 1) = false := beq_eq_false_iff_ne.2 (by omega)
  have e2 : ((r : Int) == 2) = false := beq_eq_false_iff_ne.2 (by omega)
  have e3 : ((r : Int) == 3) = false := beq_eq_false_iff_ne.2 (by omega)
  have e4 : ((r : Int) == 4) = false := beq_eq_false_iff_ne.2 (by omega)
  have e5 : ((r : Int) == 5) = false := beq_eq_false_iff_ne.2 (by omega)
  have e6 : ((r : Int) == 6) = false := beq_eq_false_iff_ne.2 (by omega)
  have HDL := hid HPL.out.1
  have HPK : Hid (depk xs = p) := hid (by unfold depk; rw [HRR.out, if_neg (show ¬ r = 0 by omega), if_neg (show ¬ r = 1 by omega), if_neg (show ¬ r = 2 by omega), if_neg (show ¬ r = 3 by omega), if_neg (show ¬ r = 4 by omega), if_neg (show ¬ r = 5 by omega), if_neg (show ¬ r = 6 by omega)]; (try rw [HT.out]); rw [← HP.out])
  have p0 := cell_of_row _ _ 0 _ _ _ HM5.out
  have zp0 := frozen_of_row _ _ 0 _ _ HM5.out
  have p1 := cell_of_row _ _ 1 _ _ _ HM5.out
  have zp1 := frozen_of_row _ _ 1 _ _ HM5.out
  have p2 := cell_of_row _ _ 2 _ _ _ HM5.out
  have zp2 := frozen_of_row _ _ 2 _ _ HM5.out
  have p3 := cell_of_row _ _ 3 _ _ _ HM5.out
  have zp3 := frozen_of_row _ _ 3 _ _ HM5.out
  have p4 := cell_of_row _ _ 4 _ _ _ HM5.out
  have zp4 := frozen_of_row _ _ 4 _ _ HM5.out
  have p5 := cell_of_row _ _ 5 _ _ _ HM5.out
  have zp5 := frozen_of_row _ _ 5 _ _ HM5.out
  simp only [List.getElem?_toArray, List.getElem?_cons_zero, List.getElem?_cons_succ] at p0 p1 p2 p3 p4 p5
  have r0 := cell_of_row _ _ 0 _ _ _ HK5.out
  have zr0 := frozen_of_row _ _ 0 _ _ HK5.out
  have r1 := cell_of_row _ _ 1 _ _ _ HK5.out
  have zr1 := frozen_of_row _ _ 1 _ _ HK5.out
  have r2 := cell_of_row _ _ 2 _ _ _ HK5.out
  have zr2 := frozen_of_row _ _ 2 _ _ HK5.out
  have r3 := cell_of_row _ _ 3 _ _ _ HK5.out
  have zr3 := frozen_of_row _ _ 3 _ _ HK5.out
  have r4 := cell_of_row _ _ 4 _ _ _ HK5.out
  have zr4 := frozen_of_row _ _ 4 _ _ HK5.out
  have r5 := cell_of_row _ _ 5 _ _ _ HK5.out
  have zr5 := frozen_of_row _ _ 5 _ _ HK5.out
  simp only [List.getElem?_toArray, List.getElem?_cons_zero, List.getElem?_cons_succ] at r0 r1 r2 r3 r4 r5
  have hgm : ¬ w4.heap.size = w.heap.size := by have := HW4.out; omega
  have hgm2 : ¬ w.heap.size = w4.heap.size := by have := HW4.out; omega
  clear hri0
  go_wp2
  refine bodyPost_ret (results_cell_row rfl _ _ w.heap.size 39 #[.int .i64 p.kind, .int .i64 p.epoch, .int .i64 p.seq, .int .i64 p.count, .bool p.last, .slice aD p.data.length cD] (0, 0) _ rfl (set6 HK5.out) Tryd.underlying39 rfl (by kernel_rfl)) rfl ?_
  rw [← HXS.out, HPK.out]
  refine ⟨_, _, rfl, ?_, set6b HB5.out (Nat.le_refl _)⟩
  exact own_rdSl (ownsRow_kept HO5.out (fun b hb => set6o (by have := own_in HO5.out hb; have := HW3.out; omega))) HDL.out
end Go.Proofs.YtfppfjklakdlfaaDoor
