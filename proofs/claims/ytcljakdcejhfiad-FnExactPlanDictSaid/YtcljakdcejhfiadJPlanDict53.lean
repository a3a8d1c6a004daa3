import Derived.Test.YtcljakdcejhfiadJPlanDict6
import Derived.Test.YtcljakdcejhfiadJPlanDict7
import Derived.Test.YtcljakdcejhfiadJPlanDict9
import Derived.Test.YtcljakdcejhfiadJPlanDict10
import Derived.Test.YtcljakdcejhfiadJPlanDict12
import Derived.Test.YtcljakdcejhfiadJPlanDict15
import Derived.Test.YtcljakdcejhfiadJPlanDict34
import Derived.Test.YtcljakdcejhfiadJPlanDict52
namespace Go.Proofs.Ytcljakdcejhfiad
open Go.RowKit
theorem OwnSl.only {α : Type} {c : Cod α} {e : TypeId} {w w' : World} {xs : List α} {v : Value} {bs us : List Nat} (h : OwnSl c e w xs v bs) (ho : Only us w w') (hd : ∀ b ∈ bs, b ∉ us) : OwnSl c e w' xs v bs :=
  h.kept (fun b hb => ho.block b (h.lt b hb) (hd b hb))
theorem OwnSl.later {α : Type} {c : Cod α} {e : TypeId} {w w' : World} {xs : List α} {v : Value} {bs : List Nat} (h : OwnSl c e w xs v bs) (hb : Below w.heap.size w w') : OwnSl c e w' xs v bs :=
  h.kept (fun b hm => hb.block b (h.lt b hm))
theorem box_later {w w' : World} {g : Nat} {o : Obj} (h : w.heap[g]? = some o) (hb : Below w.heap.size w w') : w'.heap[g]? = some o := (hb.block g (Array.getElem?_eq_some_iff.1 h).1).trans h
theorem box_only {w w' : World} {g : Nat} {o : Obj} {us : List Nat} (h : w.heap[g]? = some o) (ho : Only us w w') (hg : g ∉ us) : w'.heap[g]? = some o := (ho.block g (Array.getElem?_eq_some_iff.1 h).1 hg).trans h
set_option maxRecDepth 100000 in
set_option maxHeartbeats 8000000 in
theorem planDict_walk (a1 : Option Addr) (len1 c1 : Nat) (a2 : Option Addr) (len2 c2 : Nat) (w : World) (h1 : BSSIn w a1 len1 c1) (h2 : CellsIn w a2 len2 c2) :
    Calls Try.prog 5 #[.slice a1 len1 c1, .slice a2 len2 c2] w fun e w' => e = .returned (.bool true) ∧ Below w.heap.size w w' := by
  obtain ⟨vs, rfl, hv⟩ := h1
  obtain ⟨cs, rfl, hc⟩ := h2
  have HV := hid hv
  have HC := hid hc
  clear hv hc
  go_enter Try.func5, Try.ntmps5
  go_wp2_with fail
  refine (szSS_any a1 c1 vs 1048576 w HV.out (by omega) (by omega)).mono ?_
  rintro e w ⟨rfl, rfl⟩
  by_cases hneg : rest 1048576 (totL List.length vs) < 0
  · generalize rest 1048576 (totL List.length vs) = r at *
    go_wp2
    go_ret
    exact ⟨rfl, Below.refl _ _⟩
  have ht1 : totL List.length vs ≤ 1048576 := by have := rest_fits (l := 1048576) (n := totL List.length vs) (by omega); omega
  have HRE : Hid (rest 1048576 (totL List.length vs) = 1048576 - (totL List.length vs : Int)) := hid (by unfold rest; split <;> omega)
  generalize hr1 : rest 1048576 (totL List.length vs) = r at *
  have hr0 : 0 ≤ r := by omega
  have hr2 : r ≤ 1048576 := by have := HRE.out; omega
  go_wp2_with fail
  refine (szCellS_any a2 c2 cs r w HC.out hr0 hr2).mono ?_
  rintro e w1 ⟨rfl, b1⟩
  have HB1 := hid b1
  clear b1
  by_cases hneg2 : rest r (totL (fun f : PC => f.text.length) cs) < 0
  · generalize rest r (totL (fun f : PC => f.text.length) cs) = q at *
    go_wp2
    go_ret
    exact ⟨rfl, HB1.out⟩
  have ht : totL List.length vs + (cs.length + txt cs) ≤ 1048576 := by
    have h := rest_fits (l := r) (n := totL (fun f : PC => f.text.length) cs) (by omega)
    have := HRE.out
    have h2 : totL (fun f : PC => f.text.length) cs = cs.length + txt cs := rfl
    omega
  have ht2 : totL (fun f : PC => f.text.length) cs ≤ 1048576 := by
    have h2 : totL (fun f : PC => f.text.length) cs = cs.length + txt cs := rfl
    omega
  have hvl : vs.length ≤ 1048576 ∧ tot vs ≤ 1048576 := by rw [totL_tot] at ht1; omega
  have hcl : cs.length ≤ 1048576 ∧ (cs.map fun c : PC => c.text.length).sum ≤ 1048576 := by
    have h2 : txt cs = (cs.map fun c : PC => c.text.length).sum := rfl
    omega
  generalize rest r (totL (fun f : PC => f.text.length) cs) = q at *
  clear hr1
  go_wp2_with fail
  refine (toSS_any a1 c1 vs w1 (HV.out.later HB1.out) ht1).mono ?_
  rintro e w2 ⟨v2, bs2, rfl, o2, -, -, b2⟩
  obtain ⟨x2, y2, rfl, -⟩ := id o2.rd
  have B2 := below_chain HB1.out b2
  go_wp2_with fail
  refine (toCellS_any a2 c2 cs w2 (HC.out.later B2) ht2).mono ?_
  rintro e w3 ⟨v3, bs3, rfl, o3, -, -, b3⟩
  obtain ⟨x3, y3, rfl, -⟩ := id o3.rd
  have B3 := below_chain B2 b3
  go_wp2_with fail
  refine (specPlan_any x2 x3 y2 y3 vs cs w3 (o2.rd.later b3) o3.rd ht).mono ?_
  rintro e w4 ⟨aW1, cW1, aW2, cW2, rfl, rW1, rW2, b4⟩
  have hsm := planP_small vs cs
  generalize hPE : planP vs cs = P at *
  generalize hCE : planC vs cs = C at *
  have HPE := hid hPE
  have HCE := hid hCE
  clear hPE hCE o2 o3
  obtain ⟨s1, s2, -⟩ := hsm
  have htf : totL List.length P.fresh ≤ 1048576 := by rw [totL_tot]; omega
  have htv : totL List.length P.values ≤ 1048576 := by rw [totL_tot]; omega
  have HW1 := hid rW1
  have HW2 := hid rW2
  have B4 := below_chain B3 b4
  have b5 := below_new1 w4 (.cells #[.int .i64 P.act, .slice aW1 P.fresh.length cW1, .slice aW2 P.values.length cW2] 56)
  have HKW5 : Hid ((w4.alloc (.cells #[.int .i64 P.act, .slice aW1 P.fresh.length cW1, .slice aW2 P.values.length cW2] 56)).heap[w4.heap.size]? = some (.cells #[.int .i64 P.act, .slice aW1 P.fresh.length cW1, .slice aW2 P.values.length cW2] 56 (0, 0))) := hid (heap_alloc_new w4 _)
  have hsz5 : (w4.alloc (.cells #[.int .i64 P.act, .slice aW1 P.fresh.length cW1, .slice aW2 P.values.length cW2] 56)).heap.size = w4.heap.size + 1 := by simp
  have B5 := below_chain B4 b5
  clear rW1 rW2 b4
  go_wp2_with fail
  generalize (w4.alloc (.cells #[.int .i64 P.act, .slice aW1 P.fresh.length cW1, .slice aW2 P.values.length cW2] 56)) = w5 at *
  refine (toSS_any a1 c1 vs w5 (HV.out.later B5) ht1).mono ?_
  rintro e w6 ⟨v6, bs6, rfl, o6, l6, n6, b6⟩
  obtain ⟨x6, y6, rfl, -⟩ := id o6.rd
  have B6 := below_chain B5 b6
  go_wp2_with fail
  refine (toCellS_any a2 c2 cs w6 (HC.out.later B6) ht2).mono ?_
  rintro e w7 ⟨v7, bs7, rfl, o7, l7, n7, b7⟩
  obtain ⟨x7, y7, rfl, -⟩ := id o7.rd
  have B7 := below_chain B6 b7
  have lt6 := o6.lt
  have lt7 := o7.lt
  have O6 := o6.later b7
  go_wp2_with fail
  refine (implPlan_any x6 x7 y6 y7 vs cs w7 O6.rd o7.rd ht).mono ?_
  rintro e w8 ⟨aG1, cG1, aG2, cG2, z1, z2, he, oG1, oG2, lG, nG, b8⟩
  rw [HPE.out, HCE.out] at he
  rw [HPE.out] at oG1 oG2
  subst he
  have B8 := below_chain B7 b8
  have ltG1 := oG1.lt
  have ltG2 := oG2.lt
  have b9 := below_new1 w8 (.cells #[.int .i64 P.act, .slice aG1 P.fresh.length cG1, .slice aG2 P.values.length cG2] 56)
  have HKG9 : Hid ((w8.alloc (.cells #[.int .i64 P.act, .slice aG1 P.fresh.length cG1, .slice aG2 P.values.length cG2] 56)).heap[w8.heap.size]? = some (.cells #[.int .i64 P.act, .slice aG1 P.fresh.length cG1, .slice aG2 P.values.length cG2] 56 (0, 0))) := hid (heap_alloc_new w8 _)
  have hsz9 : (w8.alloc (.cells #[.int .i64 P.act, .slice aG1 P.fresh.length cG1, .slice aG2 P.values.length cG2] 56)).heap.size = w8.heap.size + 1 := by simp
  have B9 := below_chain B8 b9
  have b59 := below_chain (below_chain (below_chain b6 b7) b8) b9
  have HKW9 := hid (box_later HKW5.out b59)
  have OG1 := oG1.later b9
  have OG2 := oG2.later b9
  have O6' := O6.later (below_chain b8 b9)
  have O7 := o7.later (below_chain b8 b9)
  have W9 : Below w4.heap.size w4 _ := below_chain b5 b59
  have pW0 := cell_of_row _ _ 0 _ _ _ HKW9.out
  have pW1 := cell_of_row _ _ 1 _ _ _ HKW9.out
  have pW2 := cell_of_row _ _ 2 _ _ _ HKW9.out
  simp only [List.getElem?_toArray, List.getElem?_cons_zero, List.getElem?_cons_succ] at pW0 pW1 pW2
  go_wp2_with fail
  generalize (w8.alloc (.cells #[.int .i64 P.act, .slice aG1 P.fresh.length cG1, .slice aG2 P.values.length cG2] 56)) = w9 at *
  refine (eqPlan_any aG1 aG2 aW1 aW2 cG1 cG2 cW1 cW2 P w9 OG1.rd OG2.rd (HW1.out.later W9) (HW2.out.later W9) htf htv).mono ?_
  rintro e w10 ⟨rfl, b10⟩
  clear pW0 pW1 pW2
  have B10 := below_chain B9 b10
  go_wp2_with fail
  refine (toSS_any a1 c1 vs w10 (HV.out.later B10) ht1).mono ?_
  rintro e w11 ⟨v11, bs11, rfl, o11, -, -, b11⟩
  obtain ⟨x11, y11, rfl, -⟩ := id o11.rd
  have B11 := below_chain B10 b11
  go_wp2_with fail
  refine (eqSS_any _ _ _ _ vs w11 (O6'.rd.later (below_chain b10 b11)) o11.rd ht1).mono ?_
  rintro e w12 ⟨rfl, b12⟩
  have B12 := below_chain B11 b12
  clear o11
  go_wp2_with fail
  refine (toCellS_any a2 c2 cs w12 (HC.out.later B12) ht2).mono ?_
  rintro e w13 ⟨v13, bs13, rfl, o13, -, -, b13⟩
  obtain ⟨x13, y13, rfl, -⟩ := id o13.rd
  have B13 := below_chain B12 b13
  have b913 : Below w9.heap.size w9 w13 := below_chain (below_chain (below_chain b10 b11) b12) b13
  go_wp2_with fail
  refine (eqCellS_any _ _ _ _ cs w13 (O7.rd.later b913) o13.rd ht2).mono ?_
  rintro e w14 ⟨rfl, b14⟩
  have B14 := below_chain B13 b14
  have b914 := below_chain b913 b14
  clear o13
  have O6a := O6'.later b914
  have O7a := O7.later b914
  have OG1a := OG1.later b914
  have OG2a := OG2.later b914
  have HKWa := hid (box_later HKW9.out b914)
  have HKGa := hid (box_later HKG9.out b914)
  have Wa := below_chain W9 b914
  clear O6' O7 OG1 OG2
  have hs68 : w6.heap.size ≤ w7.heap.size := b7.size
  have hs78 : w7.heap.size ≤ w8.heap.size := b8.size
  have hs56 : w5.heap.size ≤ w6.heap.size := b6.size
  have hsw : w.heap.size ≤ w4.heap.size := B4.size
  go_wp2_with fail
  refine (markSS_any _ vs bs6 1 w14 O6a n6 hvl.1 hvl.2 (by omega)).mono ?_
  rintro e w15 ⟨rfl, -, on15⟩
  have O7b := O7a.only on15 (fun b hb hb2 => by have := l7 b hb; have := lt6 b hb2; omega)
  have OG1b := OG1a.only on15 (fun b hb hb2 => by have := lG b (List.mem_append_left _ hb); have := lt6 b hb2; omega)
  have OG2b := OG2a.only on15 (fun b hb hb2 => by have := lG b (List.mem_append_right _ hb); have := lt6 b hb2; omega)
  have HKWb := hid (box_only HKWa.out on15 (fun h => by have := l6 _ h; omega))
  have HKGb := hid (box_only HKGa.out on15 (fun h => by have := lt6 _ h; omega))
  have B15 : Below w.heap.size w w15 := Only.chain B14 on15 (fun x hx => by have := l6 x hx; omega) (Nat.le_refl _)
  have Wb : Below w4.heap.size w4 w15 := Only.chain Wa on15 (fun x hx => by have := l6 x hx; omega) (Nat.le_refl _)
  clear O6a O7a OG1a OG2a HKWa HKGa on15
  go_wp2_with fail
  refine (markCells_any 86 _ cs bs7 (1 + tot vs) w15 O7b n7 hcl.1 hcl.2 (by omega)).mono ?_
  rintro e w16 ⟨k16, rfl, hk16, on16⟩
  have OG1c := OG1b.only on16 (fun b hb hb2 => by have := lG b (List.mem_append_left _ hb); have := lt7 b hb2; omega)
  have OG2c := OG2b.only on16 (fun b hb hb2 => by have := lG b (List.mem_append_right _ hb); have := lt7 b hb2; omega)
  have HKWc := hid (box_only HKWb.out on16 (fun h => by have := l7 _ h; omega))
  have HKGc := hid (box_only HKGb.out on16 (fun h => by have := lt7 _ h; omega))
  have B16 : Below w.heap.size w w16 := Only.chain B15 on16 (fun x hx => by have := l7 x hx; omega) (Nat.le_refl _)
  have Wc : Below w4.heap.size w4 w16 := Only.chain Wb on16 (fun x hx => by have := l7 x hx; omega) (Nat.le_refl _)
  clear O7b OG1b OG2b HKWb HKGb on16 hk16
  have pW0 := cell_of_row _ _ 0 _ _ _ HKWc.out
  have pW1 := cell_of_row _ _ 1 _ _ _ HKWc.out
  have pW2 := cell_of_row _ _ 2 _ _ _ HKWc.out
  simp only [List.getElem?_toArray, List.getElem?_cons_zero, List.getElem?_cons_succ] at pW0 pW1 pW2
  have pG0 := cell_of_row _ _ 0 _ _ _ HKGc.out
  have pG1 := cell_of_row _ _ 1 _ _ _ HKGc.out
  have pG2 := cell_of_row _ _ 2 _ _ _ HKGc.out
  simp only [List.getElem?_toArray, List.getElem?_cons_zero, List.getElem?_cons_succ] at pG0 pG1 pG2
  go_wp2_with fail
  refine (eqPlan_any aG1 aG2 aW1 aW2 cG1 cG2 cW1 cW2 P w16 OG1c.rd OG2c.rd (HW1.out.later Wc) (HW2.out.later Wc) htf htv).mono ?_
  rintro e w17 ⟨rfl, b17⟩
  clear pW0 pW1 pW2 pG0 pG1 pG2
  have OG1d := OG1c.later b17
  have OG2d := OG2c.later b17
  have HKWd := hid (box_later HKWc.out b17)
  have HKGd := hid (box_later HKGc.out b17)
  have B17 := below_chain B16 b17
  have Wd := below_chain Wc b17
  clear OG1c OG2c HKWc HKGc
  have pG0 := cell_of_row _ _ 0 _ _ _ HKGd.out
  have pG1 := cell_of_row _ _ 1 _ _ _ HKGd.out
  have pG2 := cell_of_row _ _ 2 _ _ _ HKGd.out
  simp only [List.getElem?_toArray, List.getElem?_cons_zero, List.getElem?_cons_succ] at pG0 pG1 pG2
  go_wp2_with fail
  refine (markPlan_any _ _ P z1 z2 1 w17 OG1d OG2d nG s1 s2 (by omega)).mono ?_
  rintro e w18 ⟨rfl, OG1e, OG2e, on18⟩
  clear pG0 pG1 pG2
  have hz : ∀ b ∈ z1 ++ z2, b < w8.heap.size := fun b hb => by
    rcases List.mem_append.1 hb with hb | hb
    · exact ltG1 b hb
    · exact ltG2 b hb
  have HKWe := hid (box_only HKWd.out on18 (fun h => by have := lG _ h; omega))
  have HKGe := hid (box_only HKGd.out on18 (fun h => by have := hz _ h; omega))
  have B18 : Below w.heap.size w w18 := Only.chain B17 on18 (fun x hx => by have := lG x hx; omega) (Nat.le_refl _)
  have We : Below w4.heap.size w4 w18 := Only.chain Wd on18 (fun x hx => by have := lG x hx; omega) (Nat.le_refl _)
  clear OG1d OG2d HKWd HKGd on18
  have pG0 := cell_of_row _ _ 0 _ _ _ HKGe.out
  have pG1 := cell_of_row _ _ 1 _ _ _ HKGe.out
  have pG2 := cell_of_row _ _ 2 _ _ _ HKGe.out
  simp only [List.getElem?_toArray, List.getElem?_cons_zero, List.getElem?_cons_succ] at pG0 pG1 pG2
  go_wp2_with fail
  refine (heldPlan_any aG1 aG2 cG1 cG2 P 1 w18 OG1e.rd OG2e.rd s1 s2 (by omega)).mono ?_
  rintro e w19 ⟨rfl, b19⟩
  clear pG0 pG1 pG2
  have HKWf := hid (box_later HKWe.out b19)
  have B19 := below_chain B18 b19
  have Wf := below_chain We b19
  clear OG1e OG2e HKGe HKWe
  go_wp2_with fail
  refine (toSS_any a1 c1 vs w19 (HV.out.later B19) ht1).mono ?_
  rintro e w20 ⟨v20, bs20, rfl, o20, -, -, b20⟩
  obtain ⟨x20, y20, rfl, -⟩ := id o20.rd
  have B20 := below_chain B19 b20
  go_wp2_with fail
  refine (toCellS_any a2 c2 cs w20 (HC.out.later B20) ht2).mono ?_
  rintro e w21 ⟨v21, bs21, rfl, o21, -, -, b21⟩
  obtain ⟨x21, y21, rfl, -⟩ := id o21.rd
  have B21 := below_chain B20 b21
  go_wp2_with fail
  refine (implPlan_any x20 x21 y20 y21 vs cs w21 (o20.rd.later b21) o21.rd ht).mono ?_
  rintro e w22 ⟨aH1, cH1, aH2, cH2, u1, u2, he, oH1, oH2, -, -, b22⟩
  rw [HPE.out, HCE.out] at he
  rw [HPE.out] at oH1 oH2
  subst he
  have b23 := below_new1 w22 (.cells #[.int .i64 P.act, .slice aH1 P.fresh.length cH1, .slice aH2 P.values.length cH2] 56)
  have b1923 := below_chain (below_chain (below_chain b20 b21) b22) b23
  have HKWg := hid (box_later HKWf.out b1923)
  have Wg := below_chain Wf b1923
  have B23 := below_chain B19 b1923
  have OH1 := oH1.later b23
  have OH2 := oH2.later b23
  clear oH1 oH2 o20 o21 HKWf
  have pW0 := cell_of_row _ _ 0 _ _ _ HKWg.out
  have pW1 := cell_of_row _ _ 1 _ _ _ HKWg.out
  have pW2 := cell_of_row _ _ 2 _ _ _ HKWg.out
  simp only [List.getElem?_toArray, List.getElem?_cons_zero, List.getElem?_cons_succ] at pW0 pW1 pW2
  go_wp2_with fail
  generalize (w22.alloc (.cells #[.int .i64 P.act, .slice aH1 P.fresh.length cH1, .slice aH2 P.values.length cH2] 56)) = w23 at *
  refine (eqPlan_any aH1 aH2 aW1 aW2 cH1 cH2 cW1 cW2 P w23 OH1.rd OH2.rd (HW1.out.later Wg) (HW2.out.later Wg) htf htv).mono ?_
  rintro e w24 ⟨rfl, b24⟩
  go_wp2
  go_ret
  exact ⟨rfl, below_chain B23 b24⟩
end Go.Proofs.Ytcljakdcejhfiad
