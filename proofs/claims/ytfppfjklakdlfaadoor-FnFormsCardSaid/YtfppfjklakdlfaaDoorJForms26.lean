import Derived.Test.YtfppfjklakdlfaaDoorJForms18
import Derived.Test.YtfppfjklakdlfaaDoorJForms14
import Derived.Test.YtfppfjklakdlfaaDoorJForms24
import Derived.Deep.DeepCutAuto
import Derived.Deep.RegionHeld3
namespace Go.Proofs.YtfppfjklakdlfaaDoor
open Go.RowKit
def dpk (xs : List Nat) (j : Nat) : PP :=
  let k := nxt xs j
  if k % 4 = 0 then ⟨1, 1 + (k / 4 % 3 : Nat), (nxt xs (j + 1) % 20 : Nat), 0, decide (nxt xs (j + 2) % 2 = 1), k :: drawn xs (j + 3) 12⟩
  else if k % 4 = 1 then ⟨2, 1 + (k / 4 % 3 : Nat), (nxt xs (j + 1) % 20 : Nat), (nxt xs (j + 2) % 9 : Nat), false, []⟩
  else if k % 4 = 2 then ⟨3, 1 + (k / 4 % 3 : Nat), 0, (nxt xs (j + 1) % 9 : Nat), false, []⟩
  else ⟨4, 1 + (k / 4 % 3 : Nat), 0, 0, false, []⟩
theorem grown6 (w : World) (g : Nat) (x y z u p q : Value) : w.grownBy ((((((w.setCell ⟨g, 0, none⟩ x).setCell ⟨g, 1, none⟩ y).setCell ⟨g, 2, none⟩ z).setCell ⟨g, 3, none⟩ u).setCell ⟨g, 4, none⟩ p).setCell ⟨g, 5, none⟩ q) (some g) :=
  (((((set_grown w g 0 x).trans (set_grown _ g 1 y)).trans (set_grown _ g 2 z)).trans (set_grown _ g 3 u)).trans (set_grown _ g 4 p)).trans (set_grown _ g 5 q)
theorem infoByteD : (Tryd.prog.info? 5).map (fun i => (i.zero, i.size, i.bytes)) = some (some (.int .u8 0), 1, 1) := by kernel_rfl
set_option maxRecDepth 100000 in
set_option maxHeartbeats 8000000 in
theorem drawPk_any (gR c j : Nat) (a : Option Addr) (xs : List Nat) (w : World) (h : Rdr w gR a c xs j) (hab : ∀ x, a = some x → xs ≠ [] → x.block < w.heap.size) (hl : xs.length ≤ 1048576) (hx : ∀ x ∈ xs, x < 256) :
    Calls Tryd.prog 49 #[.pointer (some ⟨gR, 0, none⟩)] w fun e w' => ∃ v m, e = .returned (.agg #[.int .i64 (dpk xs j).kind, .int .i64 (dpk xs j).epoch, .int .i64 (dpk xs j).seq, .int .i64 (dpk xs j).count, .bool (dpk xs j).last, .slice v (dpk xs j).data.length m]) ∧ w'.ownsRow w.heap.size 5 1 (.slice v (dpk xs j).data.length m) (dpk xs j).data.length (byt (dpk xs j).data) ∧ (∃ j', Rdr w' gR a c xs j') ∧ w.grownBy w' (some gR) := by
  obtain ⟨i0, hi, hz0, hz1, hz2⟩ := info_parts infoByteD
  have HR := hid h
  have HAB := hid hab
  have HBY := hid hx
  have hgR : gR < w.heap.size := lt_of_block h.cells
  clear h hab hx
  go_enter Tryd.func49, Tryd.ntmps49
  go_wp2_with fail
  have hb0 := below_new1 w (.cells #[.int .i64 0, .int .i64 0, .int .i64 0, .int .i64 0, .bool false, .slice none 0 0] 39)
  have HK0 : Hid ((w.alloc (.cells #[.int .i64 0, .int .i64 0, .int .i64 0, .int .i64 0, .bool false, .slice none 0 0] 39)).heap[w.heap.size]? = some (.cells #[.int .i64 0, .int .i64 0, .int .i64 0, .int .i64 0, .bool false, .slice none 0 0] 39 (0, 0))) := hid (heap_alloc_new w _)
  have HS0 : Hid ((w.alloc (.cells #[.int .i64 0, .int .i64 0, .int .i64 0, .int .i64 0, .bool false, .slice none 0 0] 39)).heap.size = w.heap.size + 1) := hid (by simp)
  have HG0 : Hid (w.grownBy (w.alloc (.cells #[.int .i64 0, .int .i64 0, .int .i64 0, .int .i64 0, .bool false, .slice none 0 0] 39)) (some gR)) := hid (grown_next (World.grownBy.refl w (some gR)) (World.grownBy_alloc w (.cells #[.int .i64 0, .int .i64 0, .int .i64 0, .int .i64 0, .bool false, .slice none 0 0] 39) none) (by simp))
  have HR0 := hid (HR.out.kept (World.grownBy_alloc w (.cells #[.int .i64 0, .int .i64 0, .int .i64 0, .int .i64 0, .bool false, .slice none 0 0] 39) none) (by simp) (by simp))
  generalize (w.alloc (.cells #[.int .i64 0, .int .i64 0, .int .i64 0, .int .i64 0, .bool false, .slice none 0 0] 39)) = w0 at *
  refine (next_any gR c j a xs w0 HR0.out hl HBY.out).mono ?_
  rintro e w1 ⟨rfl, r1, g1⟩
  have hs1 := g1.size
  have HRN : Hid (gR < w1.heap.size) := hid (by have := HS0.out; omega)
  have HW1 : Hid (w.heap.size < w1.heap.size) := hid (by have := HS0.out; omega)
  have HG1 : Hid (w.grownBy w1 (some gR)) := hid (grown_next HG0.out g1 (fun p hp => by simp at hp; omega))
  have HK1 : Hid (w1.heap[w.heap.size]? = some (.cells #[.int .i64 0, .int .i64 0, .int .i64 0, .int .i64 0, .bool false, .slice none 0 0] 39 (0, 0))) := hid ((g1.block _ (by have := HS0.out; omega) (fun e => by simp at e; omega)).trans HK0.out)
  have HAB1 : Hid (∀ x, a = some x → xs ≠ [] → x.block < w1.heap.size) := hid (fun x h1 h2 => by have := HAB.out x h1 h2; have := HW1.out; omega)
  have HM := hid (Nat.le_refl w1.heap.size)
  have hk : nxt xs j < 256 := nxt_lt HBY.out j
  obtain ⟨k, hkk⟩ : ∃ k : Nat, k = nxt xs j := ⟨_, rfl⟩
  rw [← hkk] at hk ⊢
  have HKK := hid hkk
  obtain ⟨E, hE⟩ : ∃ E : Nat, E = k / 4 % 3 := ⟨_, rfl⟩
  have hEi : (k : Int) / 4 % 3 = (E : Int) := by rw [hE]; simp
  have hEb : E < 3 := by omega
  have HEE := hid hE
  have HR1 := hid r1
  clear hkk hE hb0 HK0 HG0 HR0 r1 g1 hs1
  have hq4 : k % 4 = 0 ∨ k % 4 = 1 ∨ k % 4 = 2 ∨ k % 4 = 3 := by omega
  rcases hq4 with hq4 | hq4 | hq4 | hq4
  · have hki : 1 + (k : Int) % 4 = 1 := by omega
    have HD2 : Hid (DSt w1 w1.heap.size gR a c xs (j + 1) 39 #[.int .i64 1, .int .i64 (1 + (E : Int)), .int .i64 0, .int .i64 0, .bool false, .slice none 0 0] (w1.alloc (.cells #[.int .i64 1, .int .i64 (1 + (E : Int)), .int .i64 0, .int .i64 0, .bool false, .slice none 0 0] 39))) := hid ⟨heap_alloc_new w1 _, HR1.out.kept (World.grownBy_alloc w1 _ none) (by simp) (by simp), ⟨rfl, rfl, rfl, by simp, fun i hi _ => Below.heap_alloc _ _ _ hi⟩⟩
    have HQ4 := hid hq4
    clear hq4
    have p0 := cell_of_row _ _ 0 _ _ _ HD2.out.box
    have zp0 := frozen_of_row _ _ 0 _ _ HD2.out.box
    have p1 := cell_of_row _ _ 1 _ _ _ HD2.out.box
    have zp1 := frozen_of_row _ _ 1 _ _ HD2.out.box
    have p2 := cell_of_row _ _ 2 _ _ _ HD2.out.box
    have zp2 := frozen_of_row _ _ 2 _ _ HD2.out.box
    have p3 := cell_of_row _ _ 3 _ _ _ HD2.out.box
    have zp3 := frozen_of_row _ _ 3 _ _ HD2.out.box
    have p4 := cell_of_row _ _ 4 _ _ _ HD2.out.box
    have zp4 := frozen_of_row _ _ 4 _ _ HD2.out.box
    have p5 := cell_of_row _ _ 5 _ _ _ HD2.out.box
    have zp5 := frozen_of_row _ _ 5 _ _ HD2.out.box
    simp only [List.getElem?_toArray, List.getElem?_cons_zero, List.getElem?_cons_succ] at p0 p1 p2 p3 p4 p5
    go_wp2_with fail
    refine (dnext HD2.out HM.out HRN.out hl HBY.out).mono ?_
    rintro e w3 ⟨rfl, d3, -⟩
    have HDn3 := hid d3
    clear d3
    have hV3 : nxt xs (j + 1) < 256 := nxt_lt HBY.out _
    obtain ⟨V, hv3⟩ : ∃ V : Nat, V = nxt xs (j + 1) := ⟨_, rfl⟩
    rw [← hv3] at hV3 ⊢
    have HV3 := hid hv3
    clear hv3
    clear p0 zp0 p1 zp1 p2 zp2 p3 zp3 p4 zp4 p5 zp5
    have s0 := cell_of_row _ _ 0 _ _ _ HDn3.out.box
    have zs0 := frozen_of_row _ _ 0 _ _ HDn3.out.box
    have s1 := cell_of_row _ _ 1 _ _ _ HDn3.out.box
    have zs1 := frozen_of_row _ _ 1 _ _ HDn3.out.box
    have s2 := cell_of_row _ _ 2 _ _ _ HDn3.out.box
    have zs2 := frozen_of_row _ _ 2 _ _ HDn3.out.box
    have s3 := cell_of_row _ _ 3 _ _ _ HDn3.out.box
    have zs3 := frozen_of_row _ _ 3 _ _ HDn3.out.box
    have s4 := cell_of_row _ _ 4 _ _ _ HDn3.out.box
    have zs4 := frozen_of_row _ _ 4 _ _ HDn3.out.box
    have s5 := cell_of_row _ _ 5 _ _ _ HDn3.out.box
    have zs5 := frozen_of_row _ _ 5 _ _ HDn3.out.box
    simp only [List.getElem?_toArray, List.getElem?_cons_zero, List.getElem?_cons_succ] at s0 s1 s2 s3 s4 s5
    have HD4 := hid (HDn3.out.set HM.out HRN.out HAB1.out 2 (.int .i64 ((V : Int) % 20)) (cs' := #[.int .i64 1, .int .i64 (1 + (E : Int)), .int .i64 ((V : Int) % 20), .int .i64 0, .bool false, .slice none 0 0]) (by simp))
    go_wp2_with fail
    generalize (w3.setCell ⟨w1.heap.size, 2, none⟩ (.int .i64 ((V : Int) % 20))) = w4 at *
    clear s0 zs0 s1 zs1 s2 zs2 s3 zs3 s4 zs4 s5 zs5
    refine (dnext HD4.out HM.out HRN.out hl HBY.out).mono ?_
    rintro e w5 ⟨rfl, d5, -⟩
    have HDn5 := hid d5
    clear d5
    have hV5 : nxt xs (j + 1 + 1) < 256 := nxt_lt HBY.out _
    obtain ⟨U, hv5⟩ : ∃ U : Nat, U = nxt xs (j + 1 + 1) := ⟨_, rfl⟩
    rw [← hv5] at hV5 ⊢
    have HV5 := hid hv5
    clear hv5
    have s0 := cell_of_row _ _ 0 _ _ _ HDn5.out.box
    have zs0 := frozen_of_row _ _ 0 _ _ HDn5.out.box
    have s1 := cell_of_row _ _ 1 _ _ _ HDn5.out.box
    have zs1 := frozen_of_row _ _ 1 _ _ HDn5.out.box
    have s2 := cell_of_row _ _ 2 _ _ _ HDn5.out.box
    have zs2 := frozen_of_row _ _ 2 _ _ HDn5.out.box
    have s3 := cell_of_row _ _ 3 _ _ _ HDn5.out.box
    have zs3 := frozen_of_row _ _ 3 _ _ HDn5.out.box
    have s4 := cell_of_row _ _ 4 _ _ _ HDn5.out.box
    have zs4 := frozen_of_row _ _ 4 _ _ HDn5.out.box
    have s5 := cell_of_row _ _ 5 _ _ _ HDn5.out.box
    have zs5 := frozen_of_row _ _ 5 _ _ HDn5.out.box
    simp only [List.getElem?_toArray, List.getElem?_cons_zero, List.getElem?_cons_succ] at s0 s1 s2 s3 s4 s5
    have HD6 := hid (HDn5.out.set HM.out HRN.out HAB1.out 4 (.bool ((U : Int) % 2 == 1)) (cs' := #[.int .i64 1, .int .i64 (1 + (E : Int)), .int .i64 ((V : Int) % 20), .int .i64 0, .bool ((U : Int) % 2 == 1), .slice none 0 0]) (by simp))
    have HS6 : Hid ((w5.setCell ⟨w1.heap.size, 4, none⟩ (.bool ((U : Int) % 2 == 1))).heap.size = w5.heap.size) := hid (by simp)
    have HLT5 : Hid (w1.heap.size < w5.heap.size) := hid (Array.getElem?_eq_some_iff.1 HDn5.out.box).1
    go_wp2_with fail
    generalize (w5.setCell ⟨w1.heap.size, 4, none⟩ (.bool ((U : Int) % 2 == 1))) = w6 at *
    clear s0 zs0 s1 zs1 s2 zs2 s3 zs3 s4 zs4 s5 zs5
    have HD7 := hid (HD6.out.later (below_new1 w6 (.cells #[.int .u8 (k : Int)] 5)))
    have HO7 : Hid ((w6.alloc (.cells #[.int .u8 (k : Int)] 5)).ownsRow w1.heap.size 5 1 (.slice (some ⟨w5.heap.size, 0, none⟩) 1 1) 1 (byt [k])) := hid (by
      have h := own_one w6 (.int .u8 (k : Int)) 5 (B := w1.heap.size) (by have := HS6.out; have := HLT5.out; omega)
      rw [HS6.out] at h
      exact h)
    generalize (w6.alloc (.cells #[.int .u8 (k : Int)] 5)) = w7 at *
    refine (drawBytes_any gR c (j + 1 + 1 + 1) 12 a xs w7 HD7.out.rdr (fun x h1 h2 => Nat.lt_of_lt_of_le (HAB1.out x h1 h2) HD7.out.gro.size) hl HBY.out (by omega) (by omega)).mono ?_
    rintro e w8 ⟨a9, c9, rfl, hnil9, o9, r9, g9⟩
    have HD8 := hid (HD7.out.next HM.out HRN.out r9 g9)
    have HO8 := hid (own_marked HO7.out g9 (fun q p hq hp => by have := own_in HO7.out hq; simp at hp; have := HRN.out; omega))
    have HR9 : Hid (Rd w8 a9 (byt (drawn xs (j + 1 + 1 + 1) 12))) := hid (rd_at o9)
    have HNIL : Hid (a9 = none → (drawn xs (j + 1 + 1 + 1) 12).length = 0 ∧ c9 = 0) := hid (fun h => ⟨by
      rcases o9.2 with ⟨e1, e2⟩ | ⟨g, cp, cur, e1, _⟩
      · exact e2
      · rw [h] at e1; simp at e1, hnil9 h⟩)
    have hdl : (drawn xs (j + 1 + 1 + 1) 12).length ≤ 11 := by rw [drawn_len]; omega
    have HDL := hid (drawn_lt HBY.out (j + 1 + 1 + 1) 12)
    have hs8 : w1.heap.size ≤ w8.heap.size := HD8.out.gro.size
    have HPK0 : Hid (dpk xs j = ⟨1, 1 + ((E : Nat) : Int), (V : Int) % 20, 0, ((U : Int) % 2 == 1), k :: drawn xs (j + 1 + 1 + 1) 12⟩) := hid (by
      unfold dpk; simp only []
      rw [← HKK.out, if_pos HQ4.out, ← HEE.out, ← HV3.out, show nxt xs (j + 2) = U from HV5.out.symm]
      have h1 : ((V % 20 : Nat) : Int) = (V : Int) % 20 := by simp
      have h2 : decide (U % 2 = 1) = ((U : Int) % 2 == 1) := by rw [Bool.eq_iff_iff]; simp; omega
      rw [h1, h2])
    generalize drawn xs (j + 1 + 1 + 1) 12 = D at *
    clear o9 r9 g9 hnil9 HD7 HO7
    go_wp2_with (first | (at_builtin; refine append_any rfl _ _ 22 rfl w1.heap.size 5 i0 (.int .u8 0) 1 Tryd.underlying22 hi hz0 hz1 hz2 rfl _ 1 (byt [k]) rfl HO8.out a9 D.length c9 (byt D) rfl (byt_len _) HNIL.out HR9.out (byt_one _) (by unfold maxLen; omega) (by omega) hs8 ?_) | fail)
    intro v' w10 hown hgrow
    obtain ⟨a10, c10, rfl, -⟩ := rd_own hown
    have hgb : w1.heap.size ≠ w5.heap.size := by have := HLT5.out; omega
    have HD10 := hid (HD8.out.grow HRN.out HAB1.out hgrow (fun p hp => by simp [Value.ownBlock] at hp; have := HLT5.out; omega))
    have HO10 := hid hown
    clear hown hgrow hgb
    have s0 := cell_of_row _ _ 0 _ _ _ HD10.out.box
    have zs0 := frozen_of_row _ _ 0 _ _ HD10.out.box
    have s1 := cell_of_row _ _ 1 _ _ _ HD10.out.box
    have zs1 := frozen_of_row _ _ 1 _ _ HD10.out.box
    have s2 := cell_of_row _ _ 2 _ _ _ HD10.out.box
    have zs2 := frozen_of_row _ _ 2 _ _ HD10.out.box
    have s3 := cell_of_row _ _ 3 _ _ _ HD10.out.box
    have zs3 := frozen_of_row _ _ 3 _ _ HD10.out.box
    have s4 := cell_of_row _ _ 4 _ _ _ HD10.out.box
    have zs4 := frozen_of_row _ _ 4 _ _ HD10.out.box
    have s5 := cell_of_row _ _ 5 _ _ _ HD10.out.box
    have zs5 := frozen_of_row _ _ 5 _ _ HD10.out.box
    simp only [List.getElem?_toArray, List.getElem?_cons_zero, List.getElem?_cons_succ] at s0 s1 s2 s3 s4 s5
    have HD11 := hid (HD10.out.set HM.out HRN.out HAB1.out 5 (.slice a10 (1 + D.length) c10) (cs' := #[.int .i64 1, .int .i64 (1 + (E : Int)), .int .i64 ((V : Int) % 20), .int .i64 0, .bool ((U : Int) % 2 == 1), .slice a10 (1 + D.length) c10]) (by simp))
    have HO11 := hid (ownsRow_kept HO10.out (fun b hb => Below.heap_setCell w10 ⟨w1.heap.size, 5, none⟩ (.slice a10 (1 + D.length) c10) b (fun e => boxY_far HD10.out.box HO10.out (by decide) (by rw [hb]; exact congrArg some e))))
    have HPK := HPK0
    have hk6 : ∀ b, (Value.slice a10 (1 + D.length) c10).ownBlock = some b → b ≠ w.heap.size := fun b hb => by have := own_in HO11.out hb; have := HW1.out; omega
    have HKr : Hid ((w10.setCell ⟨w1.heap.size, 5, none⟩ (.slice a10 (1 + D.length) c10)).heap[w.heap.size]? = some (.cells #[.int .i64 0, .int .i64 0, .int .i64 0, .int .i64 0, .bool false, .slice none 0 0] 39 (0, 0))) := hid ((HD11.out.gro.block _ HW1.out (fun e => by simp at e; omega)).trans HK1.out)
    have p0 := cell_of_row _ _ 0 _ _ _ HD11.out.box
    have zp0 := frozen_of_row _ _ 0 _ _ HD11.out.box
    have p1 := cell_of_row _ _ 1 _ _ _ HD11.out.box
    have zp1 := frozen_of_row _ _ 1 _ _ HD11.out.box
    have p2 := cell_of_row _ _ 2 _ _ _ HD11.out.box
    have zp2 := frozen_of_row _ _ 2 _ _ HD11.out.box
    have p3 := cell_of_row _ _ 3 _ _ _ HD11.out.box
    have zp3 := frozen_of_row _ _ 3 _ _ HD11.out.box
    have p4 := cell_of_row _ _ 4 _ _ _ HD11.out.box
    have zp4 := frozen_of_row _ _ 4 _ _ HD11.out.box
    have p5 := cell_of_row _ _ 5 _ _ _ HD11.out.box
    have zp5 := frozen_of_row _ _ 5 _ _ HD11.out.box
    simp only [List.getElem?_toArray, List.getElem?_cons_zero, List.getElem?_cons_succ] at p0 p1 p2 p3 p4 p5
    have r0 := cell_of_row _ _ 0 _ _ _ HKr.out
    have zr0 := frozen_of_row _ _ 0 _ _ HKr.out
    have r1 := cell_of_row _ _ 1 _ _ _ HKr.out
    have zr1 := frozen_of_row _ _ 1 _ _ HKr.out
    have r2 := cell_of_row _ _ 2 _ _ _ HKr.out
    have zr2 := frozen_of_row _ _ 2 _ _ HKr.out
    have r3 := cell_of_row _ _ 3 _ _ _ HKr.out
    have zr3 := frozen_of_row _ _ 3 _ _ HKr.out
    have r4 := cell_of_row _ _ 4 _ _ _ HKr.out
    have zr4 := frozen_of_row _ _ 4 _ _ HKr.out
    have r5 := cell_of_row _ _ 5 _ _ _ HKr.out
    have zr5 := frozen_of_row _ _ 5 _ _ HKr.out
    simp only [List.getElem?_toArray, List.getElem?_cons_zero, List.getElem?_cons_succ] at r0 r1 r2 r3 r4 r5
    have hgm : ¬ w1.heap.size = w.heap.size := by have := HW1.out; omega
    have hgm2 : ¬ w.heap.size = w1.heap.size := by have := HW1.out; omega
    go_wp2
    refine bodyPost_ret (results_cell_row rfl _ _ w.heap.size 39 #[.int .i64 1, .int .i64 (1 + (E : Int)), .int .i64 ((V : Int) % 20), .int .i64 0, .bool ((U : Int) % 2 == 1), .slice a10 (1 + D.length) c10] (0, 0) _ rfl (set6 HKr.out) Tryd.underlying39 rfl (by kernel_rfl)) rfl ?_
    rw [HPK.out]
    show ∃ v m, _ = Ending.returned (Value.agg #[.int .i64 1, .int .i64 (1 + (E : Int)), .int .i64 ((V : Int) % 20), .int .i64 0, .bool ((U : Int) % 2 == 1), .slice v (k :: D).length m]) ∧ World.ownsRow _ w.heap.size 5 1 (.slice v (k :: D).length m) (k :: D).length (byt (k :: D)) ∧ _ ∧ _
    rw [show (k :: D).length = 1 + D.length from by simp; omega]
    refine ⟨_, _, rfl, own_mono (ownsRow_kept HO11.out (fun b hb => set6o (hk6 b hb))) (Nat.le_of_lt HW1.out), ⟨_, HD11.out.rdr.kept (grown6 _ w.heap.size _ _ _ _ _ _) (fun e => by simp at e; omega) (fun x h1 h2 e => by have := HAB.out x h1 h2; simp at e; omega)⟩, grown_next (grown_next HG1.out HD11.out.gro (fun p hp => by simp at hp; omega)) (grown6 _ w.heap.size _ _ _ _ _ _) (fun p hp => by simp at hp; omega)⟩
  · have hki : 1 + (k : Int) % 4 = 2 := by omega
    have HD2 : Hid (DSt w1 w1.heap.size gR a c xs (j + 1) 39 #[.int .i64 2, .int .i64 (1 + (E : Int)), .int .i64 0, .int .i64 0, .bool false, .slice none 0 0] (w1.alloc (.cells #[.int .i64 2, .int .i64 (1 + (E : Int)), .int .i64 0, .int .i64 0, .bool false, .slice none 0 0] 39))) := hid ⟨heap_alloc_new w1 _, HR1.out.kept (World.grownBy_alloc w1 _ none) (by simp) (by simp), ⟨rfl, rfl, rfl, by simp, fun i hi _ => Below.heap_alloc _ _ _ hi⟩⟩
    have HQ4 := hid hq4
    clear hq4
    have p0 := cell_of_row _ _ 0 _ _ _ HD2.out.box
    have zp0 := frozen_of_row _ _ 0 _ _ HD2.out.box
    have p1 := cell_of_row _ _ 1 _ _ _ HD2.out.box
    have zp1 := frozen_of_row _ _ 1 _ _ HD2.out.box
    have p2 := cell_of_row _ _ 2 _ _ _ HD2.out.box
    have zp2 := frozen_of_row _ _ 2 _ _ HD2.out.box
    have p3 := cell_of_row _ _ 3 _ _ _ HD2.out.box
    have zp3 := frozen_of_row _ _ 3 _ _ HD2.out.box
    have p4 := cell_of_row _ _ 4 _ _ _ HD2.out.box
    have zp4 := frozen_of_row _ _ 4 _ _ HD2.out.box
    have p5 := cell_of_row _ _ 5 _ _ _ HD2.out.box
    have zp5 := frozen_of_row _ _ 5 _ _ HD2.out.box
    simp only [List.getElem?_toArray, List.getElem?_cons_zero, List.getElem?_cons_succ] at p0 p1 p2 p3 p4 p5
    go_wp2_with fail
    refine (dnext HD2.out HM.out HRN.out hl HBY.out).mono ?_
    rintro e w3 ⟨rfl, d3, -⟩
    have HDn3 := hid d3
    clear d3
    have hV3 : nxt xs (j + 1) < 256 := nxt_lt HBY.out _
    obtain ⟨V, hv3⟩ : ∃ V : Nat, V = nxt xs (j + 1) := ⟨_, rfl⟩
    rw [← hv3] at hV3 ⊢
    have HV3 := hid hv3
    clear hv3
    clear p0 zp0 p1 zp1 p2 zp2 p3 zp3 p4 zp4 p5 zp5
    have s0 := cell_of_row _ _ 0 _ _ _ HDn3.out.box
    have zs0 := frozen_of_row _ _ 0 _ _ HDn3.out.box
    have s1 := cell_of_row _ _ 1 _ _ _ HDn3.out.box
    have zs1 := frozen_of_row _ _ 1 _ _ HDn3.out.box
    have s2 := cell_of_row _ _ 2 _ _ _ HDn3.out.box
    have zs2 := frozen_of_row _ _ 2 _ _ HDn3.out.box
    have s3 := cell_of_row _ _ 3 _ _ _ HDn3.out.box
    have zs3 := frozen_of_row _ _ 3 _ _ HDn3.out.box
    have s4 := cell_of_row _ _ 4 _ _ _ HDn3.out.box
    have zs4 := frozen_of_row _ _ 4 _ _ HDn3.out.box
    have s5 := cell_of_row _ _ 5 _ _ _ HDn3.out.box
    have zs5 := frozen_of_row _ _ 5 _ _ HDn3.out.box
    simp only [List.getElem?_toArray, List.getElem?_cons_zero, List.getElem?_cons_succ] at s0 s1 s2 s3 s4 s5
    have HD4 := hid (HDn3.out.set HM.out HRN.out HAB1.out 2 (.int .i64 ((V : Int) % 20)) (cs' := #[.int .i64 2, .int .i64 (1 + (E : Int)), .int .i64 ((V : Int) % 20), .int .i64 0, .bool false, .slice none 0 0]) (by simp))
    go_wp2_with fail
    generalize (w3.setCell ⟨w1.heap.size, 2, none⟩ (.int .i64 ((V : Int) % 20))) = w4 at *
    clear s0 zs0 s1 zs1 s2 zs2 s3 zs3 s4 zs4 s5 zs5
    refine (dnext HD4.out HM.out HRN.out hl HBY.out).mono ?_
    rintro e w5 ⟨rfl, d5, -⟩
    have HDn5 := hid d5
    clear d5
    have hV5 : nxt xs (j + 1 + 1) < 256 := nxt_lt HBY.out _
    obtain ⟨U, hv5⟩ : ∃ U : Nat, U = nxt xs (j + 1 + 1) := ⟨_, rfl⟩
    rw [← hv5] at hV5 ⊢
    have HV5 := hid hv5
    clear hv5
    have s0 := cell_of_row _ _ 0 _ _ _ HDn5.out.box
    have zs0 := frozen_of_row _ _ 0 _ _ HDn5.out.box
    have s1 := cell_of_row _ _ 1 _ _ _ HDn5.out.box
    have zs1 := frozen_of_row _ _ 1 _ _ HDn5.out.box
    have s2 := cell_of_row _ _ 2 _ _ _ HDn5.out.box
    have zs2 := frozen_of_row _ _ 2 _ _ HDn5.out.box
    have s3 := cell_of_row _ _ 3 _ _ _ HDn5.out.box
    have zs3 := frozen_of_row _ _ 3 _ _ HDn5.out.box
    have s4 := cell_of_row _ _ 4 _ _ _ HDn5.out.box
    have zs4 := frozen_of_row _ _ 4 _ _ HDn5.out.box
    have s5 := cell_of_row _ _ 5 _ _ _ HDn5.out.box
    have zs5 := frozen_of_row _ _ 5 _ _ HDn5.out.box
    simp only [List.getElem?_toArray, List.getElem?_cons_zero, List.getElem?_cons_succ] at s0 s1 s2 s3 s4 s5
    have HD6 := hid (HDn5.out.set HM.out HRN.out HAB1.out 3 (.int .i64 ((U : Int) % 9)) (cs' := #[.int .i64 2, .int .i64 (1 + (E : Int)), .int .i64 ((V : Int) % 20), .int .i64 ((U : Int) % 9), .bool false, .slice none 0 0]) (by simp))
    have HPK : Hid (dpk xs j = ⟨2, 1 + ((E : Nat) : Int), ((nxt xs (j + 1) % 20 : Nat) : Int), ((nxt xs (j + 2) % 9 : Nat) : Int), false, []⟩) := hid (by unfold dpk; simp only []; rw [← HKK.out, if_neg (show ¬ k % 4 = 0 by have := HQ4.out; omega), if_pos HQ4.out, ← HEE.out])
    rw [← HV3.out, show nxt xs (j + 2) = U from HV5.out.symm] at HPK
    have hVc : ((V % 20 : Nat) : Int) = (V : Int) % 20 := by simp
    have hUc : ((U % 9 : Nat) : Int) = (U : Int) % 9 := by simp
    rw [hVc, hUc] at HPK
    clear hVc hUc
    have HKr : Hid ((w5.setCell ⟨w1.heap.size, 3, none⟩ (.int .i64 ((U : Int) % 9))).heap[w.heap.size]? = some (.cells #[.int .i64 0, .int .i64 0, .int .i64 0, .int .i64 0, .bool false, .slice none 0 0] 39 (0, 0))) := hid ((HD6.out.gro.block _ HW1.out (fun e => by simp at e; omega)).trans HK1.out)
    have p0 := cell_of_row _ _ 0 _ _ _ HD6.out.box
    have zp0 := frozen_of_row _ _ 0 _ _ HD6.out.box
    have p1 := cell_of_row _ _ 1 _ _ _ HD6.out.box
    have zp1 := frozen_of_row _ _ 1 _ _ HD6.out.box
    have p2 := cell_of_row _ _ 2 _ _ _ HD6.out.box
    have zp2 := frozen_of_row _ _ 2 _ _ HD6.out.box
    have p3 := cell_of_row _ _ 3 _ _ _ HD6.out.box
    have zp3 := frozen_of_row _ _ 3 _ _ HD6.out.box
    have p4 := cell_of_row _ _ 4 _ _ _ HD6.out.box
    have zp4 := frozen_of_row _ _ 4 _ _ HD6.out.box
    have p5 := cell_of_row _ _ 5 _ _ _ HD6.out.box
    have zp5 := frozen_of_row _ _ 5 _ _ HD6.out.box
    simp only [List.getElem?_toArray, List.getElem?_cons_zero, List.getElem?_cons_succ] at p0 p1 p2 p3 p4 p5
    have r0 := cell_of_row _ _ 0 _ _ _ HKr.out
    have zr0 := frozen_of_row _ _ 0 _ _ HKr.out
    have r1 := cell_of_row _ _ 1 _ _ _ HKr.out
    have zr1 := frozen_of_row _ _ 1 _ _ HKr.out
    have r2 := cell_of_row _ _ 2 _ _ _ HKr.out
    have zr2 := frozen_of_row _ _ 2 _ _ HKr.out
    have r3 := cell_of_row _ _ 3 _ _ _ HKr.out
    have zr3 := frozen_of_row _ _ 3 _ _ HKr.out
    have r4 := cell_of_row _ _ 4 _ _ _ HKr.out
    have zr4 := frozen_of_row _ _ 4 _ _ HKr.out
    have r5 := cell_of_row _ _ 5 _ _ _ HKr.out
    have zr5 := frozen_of_row _ _ 5 _ _ HKr.out
    simp only [List.getElem?_toArray, List.getElem?_cons_zero, List.getElem?_cons_succ] at r0 r1 r2 r3 r4 r5
    have hgm : ¬ w1.heap.size = w.heap.size := by have := HW1.out; omega
    have hgm2 : ¬ w.heap.size = w1.heap.size := by have := HW1.out; omega
    go_wp2
    refine bodyPost_ret (results_cell_row rfl _ _ w.heap.size 39 #[.int .i64 2, .int .i64 (1 + (E : Int)), .int .i64 ((V : Int) % 20), .int .i64 ((U : Int) % 9), .bool false, .slice none 0 0] (0, 0) _ rfl (set6 HKr.out) Tryd.underlying39 rfl (by kernel_rfl)) rfl ?_
    rw [HPK.out]
    refine ⟨_, _, rfl, World.ownsRow_nil _ _ _ _, ⟨j + 1 + 1 + 1, HD6.out.rdr.kept (grown6 _ w.heap.size _ _ _ _ _ _) (fun e => by simp at e; omega) (fun x h1 h2 e => by have := HAB.out x h1 h2; simp at e; omega)⟩, grown_next (grown_next HG1.out HD6.out.gro (fun p hp => by simp at hp; omega)) (grown6 _ w.heap.size _ _ _ _ _ _) (fun p hp => by simp at hp; omega)⟩
  · have hki : 1 + (k : Int) % 4 = 3 := by omega
    have HD2 : Hid (DSt w1 w1.heap.size gR a c xs (j + 1) 39 #[.int .i64 3, .int .i64 (1 + (E : Int)), .int .i64 0, .int .i64 0, .bool false, .slice none 0 0] (w1.alloc (.cells #[.int .i64 3, .int .i64 (1 + (E : Int)), .int .i64 0, .int .i64 0, .bool false, .slice none 0 0] 39))) := hid ⟨heap_alloc_new w1 _, HR1.out.kept (World.grownBy_alloc w1 _ none) (by simp) (by simp), ⟨rfl, rfl, rfl, by simp, fun i hi _ => Below.heap_alloc _ _ _ hi⟩⟩
    have HQ4 := hid hq4
    clear hq4
    have p0 := cell_of_row _ _ 0 _ _ _ HD2.out.box
    have zp0 := frozen_of_row _ _ 0 _ _ HD2.out.box
    have p1 := cell_of_row _ _ 1 _ _ _ HD2.out.box
    have zp1 := frozen_of_row _ _ 1 _ _ HD2.out.box
    have p2 := cell_of_row _ _ 2 _ _ _ HD2.out.box
    have zp2 := frozen_of_row _ _ 2 _ _ HD2.out.box
    have p3 := cell_of_row _ _ 3 _ _ _ HD2.out.box
    have zp3 := frozen_of_row _ _ 3 _ _ HD2.out.box
    have p4 := cell_of_row _ _ 4 _ _ _ HD2.out.box
    have zp4 := frozen_of_row _ _ 4 _ _ HD2.out.box
    have p5 := cell_of_row _ _ 5 _ _ _ HD2.out.box
    have zp5 := frozen_of_row _ _ 5 _ _ HD2.out.box
    simp only [List.getElem?_toArray, List.getElem?_cons_zero, List.getElem?_cons_succ] at p0 p1 p2 p3 p4 p5
    go_wp2_with fail
    refine (dnext HD2.out HM.out HRN.out hl HBY.out).mono ?_
    rintro e w3 ⟨rfl, d3, -⟩
    have HDn3 := hid d3
    clear d3
    have hV3 : nxt xs (j + 1) < 256 := nxt_lt HBY.out _
    obtain ⟨V, hv3⟩ : ∃ V : Nat, V = nxt xs (j + 1) := ⟨_, rfl⟩
    rw [← hv3] at hV3 ⊢
    have HV3 := hid hv3
    clear hv3
    clear p0 zp0 p1 zp1 p2 zp2 p3 zp3 p4 zp4 p5 zp5
    have s0 := cell_of_row _ _ 0 _ _ _ HDn3.out.box
    have zs0 := frozen_of_row _ _ 0 _ _ HDn3.out.box
    have s1 := cell_of_row _ _ 1 _ _ _ HDn3.out.box
    have zs1 := frozen_of_row _ _ 1 _ _ HDn3.out.box
    have s2 := cell_of_row _ _ 2 _ _ _ HDn3.out.box
    have zs2 := frozen_of_row _ _ 2 _ _ HDn3.out.box
    have s3 := cell_of_row _ _ 3 _ _ _ HDn3.out.box
    have zs3 := frozen_of_row _ _ 3 _ _ HDn3.out.box
    have s4 := cell_of_row _ _ 4 _ _ _ HDn3.out.box
    have zs4 := frozen_of_row _ _ 4 _ _ HDn3.out.box
    have s5 := cell_of_row _ _ 5 _ _ _ HDn3.out.box
    have zs5 := frozen_of_row _ _ 5 _ _ HDn3.out.box
    simp only [List.getElem?_toArray, List.getElem?_cons_zero, List.getElem?_cons_succ] at s0 s1 s2 s3 s4 s5
    have HD4 := hid (HDn3.out.set HM.out HRN.out HAB1.out 3 (.int .i64 ((V : Int) % 9)) (cs' := #[.int .i64 3, .int .i64 (1 + (E : Int)), .int .i64 0, .int .i64 ((V : Int) % 9), .bool false, .slice none 0 0]) (by simp))
    have HPK : Hid (dpk xs j = ⟨3, 1 + ((E : Nat) : Int), 0, ((nxt xs (j + 1) % 9 : Nat) : Int), false, []⟩) := hid (by unfold dpk; simp only []; rw [← HKK.out, if_neg (show ¬ k % 4 = 0 by have := HQ4.out; omega), if_neg (show ¬ k % 4 = 1 by have := HQ4.out; omega), if_pos HQ4.out, ← HEE.out])
    rw [← HV3.out] at HPK
    have hVc : ((V % 9 : Nat) : Int) = (V : Int) % 9 := by simp
    rw [hVc] at HPK
    clear hVc
    have HKr : Hid ((w3.setCell ⟨w1.heap.size, 3, none⟩ (.int .i64 ((V : Int) % 9))).heap[w.heap.size]? = some (.cells #[.int .i64 0, .int .i64 0, .int .i64 0, .int .i64 0, .bool false, .slice none 0 0] 39 (0, 0))) := hid ((HD4.out.gro.block _ HW1.out (fun e => by simp at e; omega)).trans HK1.out)
    have p0 := cell_of_row _ _ 0 _ _ _ HD4.out.box
    have zp0 := frozen_of_row _ _ 0 _ _ HD4.out.box
    have p1 := cell_of_row _ _ 1 _ _ _ HD4.out.box
    have zp1 := frozen_of_row _ _ 1 _ _ HD4.out.box
    have p2 := cell_of_row _ _ 2 _ _ _ HD4.out.box
    have zp2 := frozen_of_row _ _ 2 _ _ HD4.out.box
    have p3 := cell_of_row _ _ 3 _ _ _ HD4.out.box
    have zp3 := frozen_of_row _ _ 3 _ _ HD4.out.box
    have p4 := cell_of_row _ _ 4 _ _ _ HD4.out.box
    have zp4 := frozen_of_row _ _ 4 _ _ HD4.out.box
    have p5 := cell_of_row _ _ 5 _ _ _ HD4.out.box
    have zp5 := frozen_of_row _ _ 5 _ _ HD4.out.box
    simp only [List.getElem?_toArray, List.getElem?_cons_zero, List.getElem?_cons_succ] at p0 p1 p2 p3 p4 p5
    have r0 := cell_of_row _ _ 0 _ _ _ HKr.out
    have zr0 := frozen_of_row _ _ 0 _ _ HKr.out
    have r1 := cell_of_row _ _ 1 _ _ _ HKr.out
    have zr1 := frozen_of_row _ _ 1 _ _ HKr.out
    have r2 := cell_of_row _ _ 2 _ _ _ HKr.out
    have zr2 := frozen_of_row _ _ 2 _ _ HKr.out
    have r3 := cell_of_row _ _ 3 _ _ _ HKr.out
    have zr3 := frozen_of_row _ _ 3 _ _ HKr.out
    have r4 := cell_of_row _ _ 4 _ _ _ HKr.out
    have zr4 := frozen_of_row _ _ 4 _ _ HKr.out
    have r5 := cell_of_row _ _ 5 _ _ _ HKr.out
    have zr5 := frozen_of_row _ _ 5 _ _ HKr.out
    simp only [List.getElem?_toArray, List.getElem?_cons_zero, List.getElem?_cons_succ] at r0 r1 r2 r3 r4 r5
    have hgm : ¬ w1.heap.size = w.heap.size := by have := HW1.out; omega
    have hgm2 : ¬ w.heap.size = w1.heap.size := by have := HW1.out; omega
    go_wp2
    refine bodyPost_ret (results_cell_row rfl _ _ w.heap.size 39 #[.int .i64 3, .int .i64 (1 + (E : Int)), .int .i64 0, .int .i64 ((V : Int) % 9), .bool false, .slice none 0 0] (0, 0) _ rfl (set6 HKr.out) Tryd.underlying39 rfl (by kernel_rfl)) rfl ?_
    rw [HPK.out]
    refine ⟨_, _, rfl, World.ownsRow_nil _ _ _ _, ⟨j + 1 + 1, HD4.out.rdr.kept (grown6 _ w.heap.size _ _ _ _ _ _) (fun e => by simp at e; omega) (fun x h1 h2 e => by have := HAB.out x h1 h2; simp at e; omega)⟩, grown_next (grown_next HG1.out HD4.out.gro (fun p hp => by simp at hp; omega)) (grown6 _ w.heap.size _ _ _ _ _ _) (fun p hp => by simp at hp; omega)⟩
  · have hki : 1 + (k : Int) % 4 = 4 := by omega
    have HD2 : Hid (DSt w1 w1.heap.size gR a c xs (j + 1) 39 #[.int .i64 4, .int .i64 (1 + (E : Int)), .int .i64 0, .int .i64 0, .bool false, .slice none 0 0] (w1.alloc (.cells #[.int .i64 4, .int .i64 (1 + (E : Int)), .int .i64 0, .int .i64 0, .bool false, .slice none 0 0] 39))) := hid ⟨heap_alloc_new w1 _, HR1.out.kept (World.grownBy_alloc w1 _ none) (by simp) (by simp), ⟨rfl, rfl, rfl, by simp, fun i hi _ => Below.heap_alloc _ _ _ hi⟩⟩
    have HQ4 := hid hq4
    clear hq4
    have HPK : Hid (dpk xs j = ⟨4, 1 + ((E : Nat) : Int), 0, 0, false, []⟩) := hid (by unfold dpk; simp only []; rw [← HKK.out, if_neg (show ¬ k % 4 = 0 by have := HQ4.out; omega), if_neg (show ¬ k % 4 = 1 by have := HQ4.out; omega), if_neg (show ¬ k % 4 = 2 by have := HQ4.out; omega), ← HEE.out])
    have HKr : Hid ((w1.alloc (.cells #[.int .i64 4, .int .i64 (1 + (E : Int)), .int .i64 0, .int .i64 0, .bool false, .slice none 0 0] 39)).heap[w.heap.size]? = some (.cells #[.int .i64 0, .int .i64 0, .int .i64 0, .int .i64 0, .bool false, .slice none 0 0] 39 (0, 0))) := hid ((HD2.out.gro.block _ HW1.out (fun e => by simp at e; omega)).trans HK1.out)
    have p0 := cell_of_row _ _ 0 _ _ _ HD2.out.box
    have zp0 := frozen_of_row _ _ 0 _ _ HD2.out.box
    have p1 := cell_of_row _ _ 1 _ _ _ HD2.out.box
    have zp1 := frozen_of_row _ _ 1 _ _ HD2.out.box
    have p2 := cell_of_row _ _ 2 _ _ _ HD2.out.box
    have zp2 := frozen_of_row _ _ 2 _ _ HD2.out.box
    have p3 := cell_of_row _ _ 3 _ _ _ HD2.out.box
    have zp3 := frozen_of_row _ _ 3 _ _ HD2.out.box
    have p4 := cell_of_row _ _ 4 _ _ _ HD2.out.box
    have zp4 := frozen_of_row _ _ 4 _ _ HD2.out.box
    have p5 := cell_of_row _ _ 5 _ _ _ HD2.out.box
    have zp5 := frozen_of_row _ _ 5 _ _ HD2.out.box
    simp only [List.getElem?_toArray, List.getElem?_cons_zero, List.getElem?_cons_succ] at p0 p1 p2 p3 p4 p5
    have r0 := cell_of_row _ _ 0 _ _ _ HKr.out
    have zr0 := frozen_of_row _ _ 0 _ _ HKr.out
    have r1 := cell_of_row _ _ 1 _ _ _ HKr.out
    have zr1 := frozen_of_row _ _ 1 _ _ HKr.out
    have r2 := cell_of_row _ _ 2 _ _ _ HKr.out
    have zr2 := frozen_of_row _ _ 2 _ _ HKr.out
    have r3 := cell_of_row _ _ 3 _ _ _ HKr.out
    have zr3 := frozen_of_row _ _ 3 _ _ HKr.out
    have r4 := cell_of_row _ _ 4 _ _ _ HKr.out
    have zr4 := frozen_of_row _ _ 4 _ _ HKr.out
    have r5 := cell_of_row _ _ 5 _ _ _ HKr.out
    have zr5 := frozen_of_row _ _ 5 _ _ HKr.out
    simp only [List.getElem?_toArray, List.getElem?_cons_zero, List.getElem?_cons_succ] at r0 r1 r2 r3 r4 r5
    have hgm : ¬ w1.heap.size = w.heap.size := by have := HW1.out; omega
    have hgm2 : ¬ w.heap.size = w1.heap.size := by have := HW1.out; omega
    go_wp2
    refine bodyPost_ret (results_cell_row rfl _ _ w.heap.size 39 #[.int .i64 4, .int .i64 (1 + (E : Int)), .int .i64 0, .int .i64 0, .bool false, .slice none 0 0] (0, 0) _ rfl (set6 HKr.out) Tryd.underlying39 rfl (by kernel_rfl)) rfl ?_
    rw [HPK.out]
    refine ⟨_, _, rfl, World.ownsRow_nil _ _ _ _, ⟨j + 1, HD2.out.rdr.kept (grown6 _ w.heap.size _ _ _ _ _ _) (fun e => by simp at e; omega) (fun x h1 h2 e => by have := HAB.out x h1 h2; simp at e; omega)⟩, grown_next (grown_next HG1.out HD2.out.gro (fun p hp => by simp at hp; omega)) (grown6 _ w.heap.size _ _ _ _ _ _) (fun p hp => by simp at hp; omega)⟩
end Go.Proofs.YtfppfjklakdlfaaDoor
