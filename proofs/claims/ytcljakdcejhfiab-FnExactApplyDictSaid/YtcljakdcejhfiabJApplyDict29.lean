import Derived.Test.YtcljakdcejhfiabJApplyDict7
import Derived.Test.YtcljakdcejhfiabJApplyDict10
import Derived.Test.YtcljakdcejhfiabJApplyDict13
import Derived.Test.YtcljakdcejhfiabJApplyDict22
import Derived.Test.YtcljakdcejhfiabJApplyDict28
namespace Go.Proofs.Ytcljakdcejhfiab
open Go.RowKit
theorem RdSl.keep {α : Type} {c : Cod α} {a b d : World} {xs : List α} {v : Value} {bs : List Nat} (h : RdSl c a xs v) (hb : Below a.heap.size a b) (ho : Only bs b d) (hs : ∀ x ∈ bs, a.heap.size ≤ x) : RdSl c d xs v :=
  h.later (Only.chain hb ho hs (Nat.le_refl _))
set_option maxHeartbeats 4000000 in
theorem applyDict_walk (a1 : Option Addr) (len1 c1 : Nat) (act : Int) (a2 : Option Addr) (len2 c2 : Nat) (w : World) (h1 : BSSIn w a1 len1 c1) (ha : IntIn act) (h2 : BSSIn w a2 len2 c2) :
    Calls Try.prog 8 #[.slice a1 len1 c1, .int .i64 act, .slice a2 len2 c2] w fun e w' => e = .returned (.bool true) ∧ Below w.heap.size w w' := by
  obtain ⟨vs, rfl, hv⟩ := h1
  obtain ⟨fs, rfl, hf⟩ := h2
  have HV := hid hv
  have HF := hid hf
  have HA := hid ha
  clear hv hf ha
  go_enter Try.func8, Try.ntmps8
  go_wp2_with fail
  refine (szSS_any a1 c1 vs 1048576 w HV.out (by omega) (by omega)).mono ?_
  rintro e w ⟨rfl, rfl⟩
  by_cases hneg : rest 1048576 (totL List.length vs) < 0
  · generalize rest 1048576 (totL List.length vs) = r at *
    go_wp2
    go_ret
    exact ⟨rfl, Below.refl _ _⟩
  have ht1 : totL List.length vs ≤ 1048576 := by have := rest_fits (l := 1048576) (n := totL List.length vs) (by omega); omega
  have HRE : Hid (rest 1048576 (totL List.length vs) = 1048576 - (totL List.length vs : Int)) := hid (by unfold rest; split <;> omega)
  generalize hr1 : rest 1048576 (totL List.length vs) = r at *
  have hr0 : 0 ≤ r := by omega
  have hr2 : r ≤ 1048576 := by have := HRE.out; omega
  go_wp2_with fail
  refine (szSS_any a2 c2 fs r w HF.out hr0 hr2).mono ?_
  rintro e w ⟨rfl, rfl⟩
  by_cases hneg2 : rest r (totL List.length fs) < 0
  · generalize rest r (totL List.length fs) = q at *
    go_wp2
    go_ret
    exact ⟨rfl, Below.refl _ _⟩
  have ht : totL List.length vs + totL List.length fs ≤ 1048576 := by have := rest_fits (l := r) (n := totL List.length fs) (by omega); have := HRE.out; omega
  have ht2 : totL List.length fs ≤ 1048576 := by omega
  have hvl : vs.length ≤ 1048576 ∧ tot vs ≤ 1048576 := by rw [totL_tot] at ht1; omega
  have hfl : fs.length ≤ 1048576 ∧ tot fs ≤ 1048576 := by rw [totL_tot] at ht2; omega
  have hsm := applyV_small vs act fs
  have htR : totL List.length (applyV vs act fs) ≤ 1048576 := by rw [totL_tot]; omega
  generalize rest r (totL List.length fs) = q at *
  clear hr1
  go_wp2_with fail
  refine (toSS_any a1 c1 vs w HV.out ht1).mono ?_
  rintro e w2 ⟨v2, bs2, rfl, o2, -, -, b2⟩
  obtain ⟨x2, y2, rfl, -⟩ := id o2.rd
  go_wp2_with fail
  refine (toSS_any a2 c2 fs w2 (HF.out.later b2) ht2).mono ?_
  rintro e w3 ⟨v3, bs3, rfl, o3, -, -, b3⟩
  obtain ⟨x3, y3, rfl, -⟩ := id o3.rd
  have B3 := below_chain b2 b3
  go_wp2_with fail
  refine (specApply_any x2 x3 y2 y3 vs fs act w3 (o2.rd.later b3) o3.rd HA.out ht).mono ?_
  rintro e w4 ⟨aW, cW, rfl, rW, b4⟩
  have B4 := below_chain B3 b4
  have HW := hid rW
  clear rW o2 o3
  go_wp2_with fail
  refine (toSS_any a1 c1 vs w4 (HV.out.later B4) ht1).mono ?_
  rintro e w5 ⟨v5, bs5, rfl, o5, l5, n5, b5⟩
  obtain ⟨x5, y5, rfl, -⟩ := id o5.rd
  have B5 := below_chain B4 b5
  go_wp2_with fail
  refine (toSS_any a2 c2 fs w5 (HF.out.later B5) ht2).mono ?_
  rintro e w6 ⟨v6, bs6, rfl, o6, l6, n6, b6⟩
  obtain ⟨x6, y6, rfl, -⟩ := id o6.rd
  have B46 := below_chain b5 b6
  have B6 := below_chain B5 b6
  have lt5 := (cSl cSS 24).lt (x := vs) ⟨_, rfl, o5⟩
  have lt6 := (cSl cSS 24).lt (x := fs) ⟨_, rfl, o6⟩
  have O5 := (cSl cSS 24).ownLater (x := vs) ⟨_, rfl, o5⟩ b6
  go_wp2_with fail
  refine (implApply_any x5 x6 y5 y6 vs fs act w6 (o5.rd.later b6) o6.rd HA.out ht).mono ?_
  rintro e w7 ⟨aG, cG, bG, rfl, oG, lG, nG, b7⟩
  have B47 := below_chain B46 b7
  have B7 := below_chain B6 b7
  generalize hRE : applyV vs act fs = R at *
  generalize hCE : applyC vs act fs = C at *
  have HR1 := hid hRE
  have HC1 := hid hCE
  clear hRE hCE
  go_wp2_with fail
  refine (eqSS_any _ _ _ _ R w7 oG.rd (HW.out.later B47) htR).mono ?_
  rintro e w8 ⟨rfl, b8⟩
  have B8 := below_chain B7 b8
  go_wp2_with fail
  refine (toSS_any a1 c1 vs w8 (HV.out.later B8) ht1).mono ?_
  rintro e w9 ⟨v9, bs9, rfl, o9, -, -, b9⟩
  obtain ⟨x9, y9, rfl, -⟩ := id o9.rd
  have B9 := below_chain B8 b9
  have B69 := below_chain (below_chain b7 b8) b9
  go_wp2_with fail
  refine (eqSS_any _ _ _ _ vs w9 ((o5.rd.later b6).later B69) o9.rd ht1).mono ?_
  rintro e w10 ⟨rfl, b10⟩
  have B10 := below_chain B9 b10
  have B610 := below_chain B69 b10
  clear o9
  go_wp2_with fail
  refine (toSS_any a2 c2 fs w10 (HF.out.later B10) ht2).mono ?_
  rintro e w11 ⟨v11, bs11, rfl, o11, -, -, b11⟩
  obtain ⟨x11, y11, rfl, -⟩ := id o11.rd
  have B11 := below_chain B10 b11
  have B611 := below_chain B610 b11
  go_wp2_with fail
  refine (eqSS_any _ _ _ _ fs w11 (o6.rd.later B611) o11.rd ht2).mono ?_
  rintro e w12 ⟨rfl, b12⟩
  have B12 := below_chain B11 b12
  have B612 := below_chain B611 b12
  have B712 : Below w7.heap.size w7 w12 := below_chain (below_chain (below_chain (below_chain b8 b9) b10) b11) b12
  clear o11
  obtain ⟨_, e5, O5⟩ := (cSl cSS 24).ownLater O5 B612
  simp only [List.cons.injEq, and_true] at e5
  subst e5
  go_wp2_with fail
  refine (markSS_any _ vs bs5 1 w12 O5 n5 hvl.1 hvl.2 (by omega)).mono ?_
  rintro e w13 ⟨rfl, -, on13⟩
  obtain ⟨_, e6, O6⟩ := (cSl cSS 24).only ((cSl cSS 24).ownLater (x := fs) ⟨_, rfl, o6⟩ B612) on13 (fun b hb hb2 => by have := l6 b hb; have := lt5 b hb2; omega)
  simp only [List.cons.injEq, and_true] at e6
  subst e6
  obtain ⟨_, e7, O7⟩ := (cSl cSS 24).only ((cSl cSS 24).ownLater (x := R) ⟨_, rfl, oG⟩ B712) on13 (fun b hb hb2 => by have := lG b hb; have := lt5 b hb2; have := b6.size; omega)
  simp only [List.cons.injEq, and_true] at e7
  subst e7
  have B13 : Below w.heap.size w w13 := Only.chain B12 on13 (fun x hx => by have := l5 x hx; have := B4.size; omega) (Nat.le_refl _)
  have W13 : Below w4.heap.size w4 w13 := Only.chain (below_chain B46 B612) on13 l5 (Nat.le_refl _)
  clear O5
  go_wp2_with fail
  refine (markSS_any _ fs bs6 (1 + tot vs) w13 O6 n6 hfl.1 hfl.2 (by omega)).mono ?_
  rintro e w14 ⟨rfl, -, on14⟩
  obtain ⟨_, e7, O8⟩ := (cSl cSS 24).only (x := R) ⟨_, rfl, O7⟩ on14 (fun b hb hb2 => by have := lG b hb; have := lt6 b hb2; omega)
  simp only [List.cons.injEq, and_true] at e7
  subst e7
  have B14 : Below w.heap.size w w14 := Only.chain B13 on14 (fun x hx => by have := l6 x hx; have := B5.size; omega) (Nat.le_refl _)
  have W14 : Below w4.heap.size w4 w14 := Only.chain W13 on14 (fun x hx => by have := l6 x hx; have := b5.size; omega) (Nat.le_refl _)
  clear O6 O7
  go_wp2_with fail
  refine (eqSS_any _ _ _ _ R w14 O8.rd (HW.out.later W14) htR).mono ?_
  rintro e w15 ⟨rfl, b15⟩
  obtain ⟨_, e7, O9⟩ := (cSl cSS 24).ownLater (x := R) ⟨_, rfl, O8⟩ b15
  simp only [List.cons.injEq, and_true] at e7
  subst e7
  have B15 := below_chain B14 b15
  have W15 := below_chain W14 b15
  clear O8
  go_wp2_with fail
  refine (markSS_any _ R bG 1 w15 O9 nG (by omega) (by omega) (by omega)).mono ?_
  rintro e w16 ⟨rfl, O10, on16⟩
  have B16 : Below w.heap.size w w16 := Only.chain B15 on16 (fun x hx => by have := lG x hx; have := B6.size; omega) (Nat.le_refl _)
  have W16 : Below w4.heap.size w4 w16 := Only.chain W15 on16 (fun x hx => by have := lG x hx; have := B46.size; omega) (Nat.le_refl _)
  go_wp2_with fail
  refine (heldSS_any _ _ R 1 w16 O10.rd (by omega) (by omega) (by omega)).mono ?_
  rintro e w17 ⟨rfl, b17⟩
  have B17 := below_chain B16 b17
  have W17 := below_chain W16 b17
  clear O10 O9
  go_wp2_with fail
  refine (toSS_any a1 c1 vs w17 (HV.out.later B17) ht1).mono ?_
  rintro e w18 ⟨v18, bs18, rfl, o18, -, -, b18⟩
  obtain ⟨x18, y18, rfl, -⟩ := id o18.rd
  have B18 := below_chain B17 b18
  go_wp2_with fail
  refine (toSS_any a2 c2 fs w18 (HF.out.later B18) ht2).mono ?_
  rintro e w19 ⟨v19, bs19, rfl, o19, -, -, b19⟩
  obtain ⟨x19, y19, rfl, -⟩ := id o19.rd
  have B19 := below_chain B18 b19
  go_wp2_with fail
  refine (implApply_any x18 x19 y18 y19 vs fs act w19 (o18.rd.later b19) o19.rd HA.out ht).mono ?_
  rintro e w20 ⟨aH, cH, bH, he, oH, -, -, b20⟩
  rw [HR1.out, HC1.out] at he
  rw [HR1.out] at oH
  subst he
  have B20 := below_chain B19 b20
  have W20 := below_chain W17 (below_chain (below_chain b18 b19) b20)
  go_wp2_with fail
  refine (eqSS_any _ _ _ _ R w20 oH.rd (HW.out.later W20) htR).mono ?_
  rintro e w21 ⟨rfl, b21⟩
  go_wp2
  go_ret
  exact ⟨rfl, below_chain B20 b21⟩
end Go.Proofs.Ytcljakdcejhfiab
