import Derived.Test.YtfaehioeepolhaaGreatJCrashReceiver13
import Derived.Test.YtfaehioeepolhaaGreatJCrashReceiver25
import Derived.Test.YtfaehioeepolhaaGreatJCrashReceiver32
import Derived.Test.YtfaehioeepolhaaGreatJCrashReceiver34
namespace Go.Proofs.YtfaehioeepolhaaGreat
open Go.RowKit
def dOK (f : PF) (d : List (List Nat)) : Bool := dictOK d && (f.kind == 3 || d.length == 0)
def dictsOK (fs : List PF) (ds : List (List (List Nat))) : Bool := (List.range ds.length).all fun i => dOK (fs[i]?.getD ⟨[], 0, 0⟩) (ds[i]?.getD [])
def strOK (s : PStr) : Bool :=
  if s.opened = false then decide (s.fields.length = 0 ∧ s.next = 0 ∧ s.dicts.length = 0)
  else fieldsOK s.fields && decide (0 ≤ s.next ∧ s.next ≤ 1000000000 ∧ s.dicts.length = s.fields.length) && dictsOK s.fields s.dicts
theorem strOK_shut {s : PStr} (h : s.opened = false) : strOK s = decide (s.fields.length = 0 ∧ s.next = 0 ∧ s.dicts.length = 0) := by unfold strOK; rw [if_pos h]
theorem strOK_open {s : PStr} (h : s.opened = true) : strOK s = (fieldsOK s.fields && decide (0 ≤ s.next ∧ s.next ≤ 1000000000 ∧ s.dicts.length = s.fields.length) && dictsOK s.fields s.dicts) := by unfold strOK; rw [if_neg (by simp [h])]
theorem dictsOK_no {fs : List PF} {ds : List (List (List Nat))} {k : Nat} (hk : k < ds.length) (hf : k < fs.length) (h : dOK fs[k] ds[k] = false) : dictsOK fs ds = false := by
  unfold dictsOK
  rw [List.all_eq_false]
  exact ⟨k, List.mem_range.2 hk, by simp [hk, hf, h]⟩
theorem dictsOK_yes {fs : List PF} {ds : List (List (List Nat))} (hl : ds.length = fs.length) (h : ∀ k, (hk : k < ds.length) → (hf : k < fs.length) → dOK fs[k] ds[k] = true) : dictsOK fs ds = true := by
  unfold dictsOK
  rw [List.all_eq_true]
  intro k hk
  have hk' := List.mem_range.1 hk
  have := h k hk' (by omega)
  simpa [hk', show k < fs.length from by omega] using this
set_option maxHeartbeats 2000000 in
theorem specStr_any (s : PStr) (a b : Option Addr) (c d : Nat) (w : World) (hr : RdStr w s a c b d) (ht : tStr s ≤ 1048576) :
    Calls Tryz.prog 39 #[.agg #[.bool s.opened, .slice a s.fields.length c, .int .i64 s.next, .slice b s.dicts.length d]] w fun e w' => e = .returned (.bool (strOK s)) ∧ Below w.heap.size w w' := by
  have HR := hid hr
  have ht1 : totL fN s.fields ≤ 1048576 ∧ totL tS s.dicts ≤ 1048576 := by unfold tStr at ht; omega
  have hl1 : s.fields.length ≤ 1048576 ∧ s.dicts.length ≤ 1048576 := by unfold totL at ht1; omega
  clear hr
  cases ho : s.opened with
  | false =>
    have HE := hid (strOK_shut ho)
    clear ho
    by_cases h1 : s.fields.length = 0
    · by_cases h2 : s.next = 0
      · by_cases h3 : s.dicts.length = 0
        · have HV : Hid (strOK s = true) := hid (by rw [HE.out]; exact decide_eq_true ⟨h1, h2, h3⟩)
          rw [h1, h2, h3, HV.out]
          go_enter Tryz.func39, Tryz.ntmps39
          go_wp2
          go_ret
          exact ⟨rfl, below_new1 _ _⟩
        · have HV : Hid (strOK s = false) := hid (by rw [HE.out]; exact decide_eq_false (fun h => h3 h.2.2))
          rw [h1, h2, HV.out]
          have h3' : ((s.dicts.length : Int) == 0) = false := by rw [beq_eq_false_iff_ne]; omega
          go_enter Tryz.func39, Tryz.ntmps39
          go_wp2
          go_ret
          exact ⟨rfl, below_new1 _ _⟩
      · have HV : Hid (strOK s = false) := hid (by rw [HE.out]; exact decide_eq_false (fun h => h2 h.2.1))
        rw [h1, HV.out]
        have h2' : (s.next == 0) = false := by simpa using h2
        go_enter Tryz.func39, Tryz.ntmps39
        go_wp2
        go_ret
        exact ⟨rfl, below_new1 _ _⟩
    · have HV : Hid (strOK s = false) := hid (by rw [HE.out]; exact decide_eq_false (fun h => h1 h.1))
      rw [HV.out]
      have h1' : ((s.fields.length : Int) == 0) = false := by rw [beq_eq_false_iff_ne]; omega
      go_enter Tryz.func39, Tryz.ntmps39
      go_wp2
      go_ret
      exact ⟨rfl, below_new1 _ _⟩
  | true =>
    have HE := hid (strOK_open ho)
    clear ho
    have HQ := hid (specFields_any a c s.fields _ (HR.out.f.later (below_new1 w (.cells #[.bool true, .slice a s.fields.length c, .int .i64 s.next, .slice b s.dicts.length d] 40))))
    cases hf : fieldsOK s.fields with
    | false =>
      have HV : Hid (strOK s = false) := hid (by rw [HE.out, hf]; simp)
      rw [hf] at HQ
      rw [HV.out]
      clear hf
      go_enter Tryz.func39, Tryz.ntmps39
      go_wp2_with fail
      refine HQ.out.mono ?_
      rintro e w2 ⟨rfl, b2⟩
      have HB2 := hid (below_chain (below_new1 _ _) b2)
      clear b2
      go_wp2
      go_ret
      exact ⟨rfl, HB2.out⟩
    | true =>
      rw [hf] at HQ HE
      clear hf
      rw [Bool.true_and] at HE
      have HE2 : Hid (¬ (0 ≤ s.next ∧ s.next ≤ 1000000000 ∧ s.dicts.length = s.fields.length) → strOK s = false) := hid (fun h => by rw [HE.out, decide_eq_false h]; simp)
      have HE3 : Hid ((0 ≤ s.next ∧ s.next ≤ 1000000000 ∧ s.dicts.length = s.fields.length) → strOK s = dictsOK s.fields s.dicts) := hid (fun h => by rw [HE.out, decide_eq_true h]; simp)
      clear HE
      by_cases n1 : s.next < 0
      · have HV := hid (HE2.out (by omega))
        rw [HV.out]
        go_enter Tryz.func39, Tryz.ntmps39
        go_wp2_with fail
        refine HQ.out.mono ?_
        rintro e w2 ⟨rfl, b2⟩
        have k1 := heap1 _ (by simpa using b2)
        have p2 := cell_of_row w2 _ 2 _ _ _ k1
        simp only [List.getElem?_toArray, List.getElem?_cons_zero, List.getElem?_cons_succ] at p2
        have HB2 := hid (below_chain (below_new1 _ _) b2)
        clear b2 k1
        go_wp2
        go_ret
        exact ⟨rfl, HB2.out⟩
      by_cases n2 : 1000000000 < s.next
      · have HV := hid (HE2.out (by omega))
        rw [HV.out]
        go_enter Tryz.func39, Tryz.ntmps39
        go_wp2_with fail
        refine HQ.out.mono ?_
        rintro e w2 ⟨rfl, b2⟩
        have k1 := heap1 _ (by simpa using b2)
        have p2 := cell_of_row w2 _ 2 _ _ _ k1
        simp only [List.getElem?_toArray, List.getElem?_cons_zero, List.getElem?_cons_succ] at p2
        have HB2 := hid (below_chain (below_new1 _ _) b2)
        clear b2 k1
        go_wp2
        go_ret
        exact ⟨rfl, HB2.out⟩
      by_cases n3 : s.dicts.length = s.fields.length
      · have HV := hid (HE3.out ⟨by omega, by omega, n3⟩)
        have HN3 := hid n3
        have n3' : ((s.dicts.length : Int) != (s.fields.length : Int)) = false := by simp; omega
        rw [HV.out]
        clear n3
        go_enter Tryz.func39, Tryz.ntmps39
        go_wp2_with fail
        refine HQ.out.mono ?_
        rintro e w2 ⟨rfl, b2⟩
        have k1 := heap1 _ (by simpa using b2)
        have p1 := cell_of_row w2 _ 1 _ _ _ k1
        have p2 := cell_of_row w2 _ 2 _ _ _ k1
        have p3 := cell_of_row w2 _ 3 _ _ _ k1
        simp only [List.getElem?_toArray, List.getElem?_cons_zero, List.getElem?_cons_succ] at p1 p2 p3
        have HK := hid k1
        have HB2 := hid (below_chain (below_new1 _ _) b2)
        clear b2 k1 HQ
        go_wp2
        go_loopw [3] (fun i wr => ∃ k : Nat, k ≤ s.dicts.length ∧ i = .int .i64 k ∧ (∀ j, (hj : j < s.dicts.length) → (hf : j < s.fields.length) → j < k → dOK s.fields[j] s.dicts[j] = true) ∧ wr.heap[w.heap.size]? = some (.cells #[.bool true, .slice a s.fields.length c, .int .i64 s.next, .slice b s.dicts.length d] 40 (0, 0)) ∧ Below w.heap.size w wr) (fun i _ => s.dicts.length - (intOf i).toNat)
        case atStart => exact ⟨0, Nat.zero_le _, rfl, fun j _ _ h => by omega, HK.out, HB2.out⟩
        case round =>
          obtain ⟨k, hk, rfl, hall, hkx, hbe⟩ := hrel
          have HALL := hid hall
          have HKx := hid hkx
          have HB := hid hbe
          clear hall hbe p1 p2 p3
          have p1 := cell_of_row wr _ 1 _ _ _ hkx
          have p3 := cell_of_row wr _ 3 _ _ _ hkx
          simp only [List.getElem?_toArray, List.getElem?_cons_zero, List.getElem?_cons_succ] at p1 p3
          clear hkx
          by_cases hlt : k < s.dicts.length
          · have hlf : k < s.fields.length := by have := HN3.out; omega
            have hki : (k : Int) < (s.dicts.length : Int) := by omega
            have hkf : (k : Int) < (s.fields.length : Int) := by omega
            obtain ⟨b', off, ad, cd, rfl, hcb, hrr⟩ := (HR.out.t.later HB.out).row3 hlt
            have htk : totL List.length s.dicts[k] ≤ 1048576 := by have h := tot_at tS s.dicts k hlt; unfold totL at ht1; exact Nat.le_trans h (by omega)
            have hln : s.dicts[k].length ≤ 1048576 := by unfold totL at htk; omega
            have HD := hid (specDict_any ad cd s.dicts[k] wr hrr htk)
            have HOK : Hid (dOK s.fields[k] s.dicts[k] = (dictOK s.dicts[k] && (s.fields[k].kind == 3 || s.dicts[k].length == 0))) := hid rfl
            have HNO : Hid (dOK s.fields[k] s.dicts[k] = false → dictsOK s.fields s.dicts = false) := hid (fun h => dictsOK_no hlt hlf h)
            have HYES : Hid (dOK s.fields[k] s.dicts[k] = true → ∀ j, (hj : j < s.dicts.length) → (hf : j < s.fields.length) → j < k + 1 → dOK s.fields[j] s.dicts[j] = true) := hid (fun h j hj hf hjk => by
              by_cases e : j = k
              · subst e; exact h
              · exact HALL.out j hj hf (by omega))
            obtain ⟨b2, o2, x0, x1, x2, e2, hes, d0, d1, d2⟩ := (HR.out.f.later HB.out).at3 rfl hlf
            obtain ⟨af, cf, e3⟩ := cField_shape hes
            simp only [List.cons.injEq, and_true] at e3
            obtain ⟨rfl, rfl, rfl⟩ := e3
            subst e2
            generalize hdx : s.dicts[k].length = dn at *
            generalize hkd : s.fields[k].kind = kd at *
            clear hes hrr htk
            cases hdk : dictOK s.dicts[k] with
            | false =>
              have HF := hid (HNO.out (by rw [HOK.out, hdk]; rfl))
              rw [hdk] at HD
              clear hdk
              go_wp2_with fail
              refine HD.out.mono ?_
              rintro e w3 ⟨rfl, b3⟩
              have HB3 := hid (below_chain HB.out b3)
              clear b3
              go_wp2
              go_ret
              exact ⟨by rw [HF.out]; first | done | rfl, HB3.out⟩
            | true =>
              rw [hdk] at HD HOK
              rw [Bool.true_and] at HOK
              clear hdk
              have hk2 : w.heap.size < wr.heap.size := (Array.getElem?_eq_some_iff.1 HKx.out).1
              go_wp2_with fail
              refine HD.out.mono ?_
              rintro e w3 ⟨rfl, b3⟩
              have kp : ∀ p v, wr.cell? p = some v → w3.cell? p = some v := fun p v h => (b3.cell (World.block_lt_of_cell? _ _ h)).trans h
              have p1' := kp _ _ p1
              have p3' := kp _ _ p3
              have hcb' := kp _ _ hcb
              have d1' := kp _ _ d1
              have HB3 := hid (below_chain HB.out b3)
              have HK3 := hid ((b3.block _ hk2).trans HKx.out)
              clear b3 p1 p3 hcb d0 d1 d2 kp
              by_cases hk3 : kd = 3
              · have hk3' : (kd != 3) = false := by simpa using hk3
                have HY := hid (HYES.out (by rw [HOK.out, hk3]; rfl))
                clear hk3
                go_wp2
                go_roundw
                case rel => exact ⟨k + 1, by omega, by go_num, HY.out, HK3.out, HB3.out⟩
                case measure => simp [intOf]; omega
              · have hk3' : (kd != 3) = true := by simpa using hk3
                by_cases hd0 : dn = 0
                · have HY := hid (HYES.out (by rw [HOK.out, hd0]; simp))
                  have hd0' : ¬ (0 : Int) < (dn : Int) := by omega
                  clear hk3
                  go_wp2
                  go_roundw
                  case rel => exact ⟨k + 1, by omega, by go_num, HY.out, HK3.out, HB3.out⟩
                  case measure => simp [intOf]; omega
                · have HF := hid (HNO.out (by rw [HOK.out]; simp [hk3, hd0]))
                  have hd0' : (0 : Int) < (dn : Int) := by omega
                  clear hk3
                  go_wp2
                  go_ret
                  exact ⟨by rw [HF.out]; first | done | rfl, HB3.out⟩
          · have HF := hid (dictsOK_yes HN3.out (fun j hj hf => HALL.out j hj hf (by omega)))
            have hki : ¬ (k : Int) < (s.dicts.length : Int) := by omega
            go_wp2
            go_ret
            exact ⟨by rw [HF.out]; first | done | rfl, HB.out⟩
      · have HV := hid (HE2.out (by omega))
        rw [HV.out]
        have n3' : ((s.dicts.length : Int) != (s.fields.length : Int)) = true := by simp; omega
        clear n3
        go_enter Tryz.func39, Tryz.ntmps39
        go_wp2_with fail
        refine HQ.out.mono ?_
        rintro e w2 ⟨rfl, b2⟩
        have k1 := heap1 _ (by simpa using b2)
        have p1 := cell_of_row w2 _ 1 _ _ _ k1
        have p2 := cell_of_row w2 _ 2 _ _ _ k1
        have p3 := cell_of_row w2 _ 3 _ _ _ k1
        simp only [List.getElem?_toArray, List.getElem?_cons_zero, List.getElem?_cons_succ] at p1 p2 p3
        have HB2 := hid (below_chain (below_new1 _ _) b2)
        clear b2 k1
        go_wp2
        go_ret
        exact ⟨rfl, HB2.out⟩
end Go.Proofs.YtfaehioeepolhaaGreat
