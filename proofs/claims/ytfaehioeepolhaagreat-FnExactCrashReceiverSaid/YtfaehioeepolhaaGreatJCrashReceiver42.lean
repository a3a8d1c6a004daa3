import Derived.Test.YtfaehioeepolhaaGreatJCrashReceiver35
import Derived.Test.YtfaehioeepolhaaGreatJCrashReceiver41
namespace Go.Proofs.YtfaehioeepolhaaGreat
open Go.RowKit
set_option maxHeartbeats 2000000 in
theorem validDicts_any (fs : List PF) (ds : List (List (List Nat))) (a b : Option Addr) (c d : Nat) (w : World) (hr : RdSl cField w fs (.slice a fs.length c)) (hr2 : RdSl cSSS w ds (.slice b ds.length d)) (hl : fs.length ≤ 1048576) (ht : totL tS ds ≤ 1048576) :
    Calls Tryz.prog 93 #[.slice a fs.length c, .slice b ds.length d] w fun e w' => e = .returned (.bool (decide (ds.length = fs.length) && dictsOK fs ds)) ∧ Below w.heap.size w w' := by
  have HR := hid hr
  have HR2 := hid hr2
  have hl2 : ds.length ≤ 1048576 := by unfold totL at ht; omega
  clear hr hr2
  by_cases n3 : ds.length = fs.length
  · have HN3 := hid n3
    have n3' : ((ds.length : Int) != (fs.length : Int)) = false := by simp; omega
    rw [decide_eq_true n3, Bool.true_and]
    clear n3
    go_enter Tryz.func93, Tryz.ntmps93
    go_wp2
    go_loopw [14] (fun i wr => ∃ k : Nat, k ≤ ds.length ∧ i = .int .i64 k ∧ (∀ j, (hj : j < ds.length) → (hf : j < fs.length) → j < k → dOK fs[j] ds[j] = true) ∧ Below w.heap.size w wr) (fun i _ => ds.length - (intOf i).toNat)
    case atStart => exact ⟨0, Nat.zero_le _, rfl, fun j _ _ h => by omega, Below.refl _ _⟩
    case round =>
      obtain ⟨k, hk, rfl, hall, hbe⟩ := hrel
      have HALL := hid hall
      have HB := hid hbe
      clear hall hbe
      by_cases hlt : k < ds.length
      · have hlf : k < fs.length := by have := HN3.out; omega
        have hki : (k : Int) < (ds.length : Int) := by omega
        have hkf : (k : Int) < (fs.length : Int) := by omega
        obtain ⟨b', off, ad, cd, rfl, hcb, hrr⟩ := (HR2.out.later HB.out).row3 hlt
        have htk : totL List.length ds[k] ≤ 1048576 := by have h := tot_at tS ds k hlt; unfold totL at ht; exact Nat.le_trans h (by omega)
        have HD := hid (implDict_any ad cd ds[k] wr hrr htk)
        have HOK : Hid (dOK fs[k] ds[k] = (dictOK ds[k] && (fs[k].kind == 3 || ds[k].length == 0))) := hid rfl
        have HNO : Hid (dOK fs[k] ds[k] = false → dictsOK fs ds = false) := hid (fun h => dictsOK_no hlt hlf h)
        have HYES : Hid (dOK fs[k] ds[k] = true → ∀ j, (hj : j < ds.length) → (hf : j < fs.length) → j < k + 1 → dOK fs[j] ds[j] = true) := hid (fun h j hj hf hjk => by
          by_cases e : j = k
          · subst e; exact h
          · exact HALL.out j hj hf (by omega))
        obtain ⟨b2, o2, x0, x1, x2, e2, hes, d0, d1, d2⟩ := (HR.out.later HB.out).at3 rfl hlf
        obtain ⟨af, cf, e3⟩ := cField_shape hes
        simp only [List.cons.injEq, and_true] at e3
        obtain ⟨rfl, rfl, rfl⟩ := e3
        subst e2
        generalize hdx : ds[k].length = dn at *
        generalize hkd : fs[k].kind = kd at *
        clear hes hrr htk
        cases hdk : dictOK ds[k] with
        | false =>
          have HF := hid (HNO.out (by rw [HOK.out, hdk]; rfl))
          rw [hdk] at HD
          clear hdk
          go_wp2_with fail
          refine HD.out.mono ?_
          rintro e w3 ⟨rfl, b3⟩
          have HB3 := hid (below_chain HB.out b3)
          clear b3
          go_wp2
          go_ret
          exact ⟨by rw [HF.out]; first | done | rfl, HB3.out⟩
        | true =>
          rw [hdk] at HD HOK
          rw [Bool.true_and] at HOK
          clear hdk
          go_wp2_with fail
          refine HD.out.mono ?_
          rintro e w3 ⟨rfl, b3⟩
          have d1' : w3.cell? ⟨b2, o2 + k * 3 + 1, none⟩ = some (.int .i64 kd) := (b3.cell (World.block_lt_of_cell? _ _ d1)).trans d1
          have HB3 := hid (below_chain HB.out b3)
          clear b3 hcb d0 d1 d2
          by_cases hk3 : kd = 3
          · have hk3' : (kd != 3) = false := by simpa using hk3
            have HY := hid (HYES.out (by rw [HOK.out, hk3]; rfl))
            clear hk3
            go_wp2
            go_roundw
            case rel => exact ⟨k + 1, by omega, by go_num, HY.out, HB3.out⟩
            case measure => simp [intOf]; omega
          · have hk3' : (kd != 3) = true := by simpa using hk3
            by_cases hd0 : dn = 0
            · have HY := hid (HYES.out (by rw [HOK.out, hd0]; simp))
              have hd0' : ¬ (0 : Int) < (dn : Int) := by omega
              clear hk3
              go_wp2
              go_roundw
              case rel => exact ⟨k + 1, by omega, by go_num, HY.out, HB3.out⟩
              case measure => simp [intOf]; omega
            · have HF := hid (HNO.out (by rw [HOK.out]; simp [hk3, hd0]))
              have hd0' : (0 : Int) < (dn : Int) := by omega
              clear hk3
              go_wp2
              go_ret
              exact ⟨by rw [HF.out]; first | done | rfl, HB3.out⟩
      · have HF := hid (dictsOK_yes HN3.out (fun j hj hf => HALL.out j hj hf (by omega)))
        have hki : ¬ (k : Int) < (ds.length : Int) := by omega
        go_wp2
        go_ret
        exact ⟨by rw [HF.out]; first | done | rfl, HB.out⟩
  · have n3' : ((ds.length : Int) != (fs.length : Int)) = true := by simp; omega
    rw [decide_eq_false n3, Bool.false_and]
    clear n3
    go_enter Tryz.func93, Tryz.ntmps93
    go_wp2
    go_ret
    exact ⟨rfl, Below.refl _ _⟩
set_option maxHeartbeats 2000000 in
theorem implStr_any (s : PStr) (a b : Option Addr) (c d : Nat) (w : World) (hr : RdStr w s a c b d) (ht : tStr s ≤ 1048576) :
    Calls Tryz.prog 46 #[.agg #[.bool s.opened, .slice a s.fields.length c, .int .i64 s.next, .slice b s.dicts.length d]] w fun e w' => e = .returned (.bool (strOK s)) ∧ Below w.heap.size w w' := by
  have HR := hid hr
  have ht1 : totL fN s.fields ≤ 1048576 ∧ totL tS s.dicts ≤ 1048576 := by unfold tStr at ht; omega
  have hl1 : s.fields.length ≤ 1048576 ∧ s.dicts.length ≤ 1048576 := by unfold totL at ht1; omega
  clear hr
  cases ho : s.opened with
  | false =>
    have HE := hid (strOK_shut ho)
    clear ho
    by_cases h1 : s.fields.length = 0
    · by_cases h2 : s.next = 0
      · by_cases h3 : s.dicts.length = 0
        · have HV : Hid (strOK s = true) := hid (by rw [HE.out]; exact decide_eq_true ⟨h1, h2, h3⟩)
          rw [h1, h2, h3, HV.out]
          go_enter Tryz.func46, Tryz.ntmps46
          go_wp2
          go_ret
          exact ⟨rfl, below_new1 _ _⟩
        · have HV : Hid (strOK s = false) := hid (by rw [HE.out]; exact decide_eq_false (fun h => h3 h.2.2))
          rw [h1, h2, HV.out]
          have h3' : ((s.dicts.length : Int) == 0) = false := by rw [beq_eq_false_iff_ne]; omega
          go_enter Tryz.func46, Tryz.ntmps46
          go_wp2
          go_ret
          exact ⟨rfl, below_new1 _ _⟩
      · have HV : Hid (strOK s = false) := hid (by rw [HE.out]; exact decide_eq_false (fun h => h2 h.2.1))
        rw [h1, HV.out]
        have h2' : (s.next == 0) = false := by simpa using h2
        go_enter Tryz.func46, Tryz.ntmps46
        go_wp2
        go_ret
        exact ⟨rfl, below_new1 _ _⟩
    · have HV : Hid (strOK s = false) := hid (by rw [HE.out]; exact decide_eq_false (fun h => h1 h.1))
      rw [HV.out]
      have h1' : ((s.fields.length : Int) == 0) = false := by rw [beq_eq_false_iff_ne]; omega
      go_enter Tryz.func46, Tryz.ntmps46
      go_wp2
      go_ret
      exact ⟨rfl, below_new1 _ _⟩
  | true =>
    have HE := hid (strOK_open ho)
    clear ho
    have HQ := hid (implFields_any a c s.fields _ (HR.out.f.later (below_new1 w (.cells #[.bool true, .slice a s.fields.length c, .int .i64 s.next, .slice b s.dicts.length d] 40))))
    cases hf : fieldsOK s.fields with
    | false =>
      have HV : Hid (strOK s = false) := hid (by rw [HE.out, hf]; simp)
      rw [hf] at HQ
      rw [HV.out]
      clear hf
      go_enter Tryz.func46, Tryz.ntmps46
      go_wp2_with fail
      refine HQ.out.mono ?_
      rintro e w2 ⟨rfl, b2⟩
      have HB2 := hid (below_chain (below_new1 _ _) b2)
      clear b2
      go_wp2
      go_ret
      exact ⟨rfl, HB2.out⟩
    | true =>
      rw [hf] at HQ HE
      clear hf
      rw [Bool.true_and] at HE
      by_cases n1 : 0 ≤ s.next ∧ s.next ≤ 1000000000
      · have HV : Hid (strOK s = (decide (s.dicts.length = s.fields.length) && dictsOK s.fields s.dicts)) := hid (by
          rw [HE.out]
          by_cases h : s.dicts.length = s.fields.length
          · rw [decide_eq_true ⟨n1.1, n1.2, h⟩, decide_eq_true h]
          · rw [decide_eq_false (fun g => h g.2.2), decide_eq_false h])
        have HNX := hid (fun w' => validNext_any s.next w')
        rw [decide_eq_true n1] at HNX
        rw [HV.out]
        generalize hDD : (decide (s.dicts.length = s.fields.length) && dictsOK s.fields s.dicts) = DD
        have HDD := hid hDD
        clear hDD n1 HE
        go_enter Tryz.func46, Tryz.ntmps46
        go_wp2_with fail
        refine HQ.out.mono ?_
        rintro e w2 ⟨rfl, b2⟩
        have k1 := heap1 _ (by simpa using b2)
        have p1 := cell_of_row w2 _ 1 _ _ _ k1
        have p2 := cell_of_row w2 _ 2 _ _ _ k1
        have p3 := cell_of_row w2 _ 3 _ _ _ k1
        simp only [List.getElem?_toArray, List.getElem?_cons_zero, List.getElem?_cons_succ] at p1 p2 p3
        have HB2 := hid (below_chain (below_new1 _ _) b2)
        clear b2 k1 HQ
        go_wp2_with fail
        refine (HNX.out w2).mono ?_
        rintro e w3 ⟨rfl, rfl⟩
        go_wp2_with fail
        refine (validDicts_any s.fields s.dicts a b c d w3 (HR.out.f.later HB2.out) (HR.out.t.later HB2.out) hl1.1 ht1.2).mono ?_
        rintro e w4 ⟨rfl, b4⟩
        rw [HDD.out]
        have HB4 := hid (below_chain HB2.out b4)
        clear b4
        go_wp2
        go_ret
        exact ⟨rfl, HB4.out⟩
      · have HV : Hid (strOK s = false) := hid (by rw [HE.out, decide_eq_false (fun h => n1 ⟨h.1, h.2.1⟩)]; rfl)
        have HNX := hid (fun w' => validNext_any s.next w')
        rw [decide_eq_false n1] at HNX
        rw [HV.out]
        clear n1
        go_enter Tryz.func46, Tryz.ntmps46
        go_wp2_with fail
        refine HQ.out.mono ?_
        rintro e w2 ⟨rfl, b2⟩
        have k1 := heap1 _ (by simpa using b2)
        have p2 := cell_of_row w2 _ 2 _ _ _ k1
        simp only [List.getElem?_toArray, List.getElem?_cons_zero, List.getElem?_cons_succ] at p2
        have HB2 := hid (below_chain (below_new1 _ _) b2)
        clear b2 k1 HQ
        go_wp2_with fail
        refine (HNX.out w2).mono ?_
        rintro e w3 ⟨rfl, rfl⟩
        go_wp2
        go_ret
        exact ⟨rfl, HB2.out⟩
end Go.Proofs.YtfaehioeepolhaaGreat
