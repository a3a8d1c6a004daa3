import Derived.Test.YtfaehioeepolhaaGreatJPoll9
import Derived.Test.YtfaehioeepolhaaGreatJPoll26
import Derived.Test.YtfaehioeepolhaaGreatJPoll30
import Derived.Test.YtfaehioeepolhaaGreatJPoll31
import Derived.Test.YtfaehioeepolhaaGreatJPoll12
import Derived.Test.YtfaehioeepolhaaGreatJPoll1
import Derived.Handy
import Derived.Test.YtfaehioeepolhaaGreatJPoll0
namespace Go.Proofs.YtfaehioeepolhaaGreat
open Go.RowKit
def dOK (f : PF) (d : List (List Nat)) : Bool := dictOK d && (f.kind == 3 || d.length == 0)
def dictsOK (fs : List PF) (ds : List (List (List Nat))) : Bool := (List.range ds.length).all fun i => dOK (fs[i]?.getD ⟨[], 0, 0⟩) (ds[i]?.getD [])
def strOK (s : PStr) : Bool :=
  if s.opened = false then decide (s.fields.length = 0 ∧ s.next = 0 ∧ s.dicts.length = 0)
  else fieldsOK s.fields && decide (0 ≤ s.next ∧ s.next ≤ 1000000000 ∧ s.dicts.length = s.fields.length) && dictsOK s.fields s.dicts
theorem strOK_shut {s : PStr} (h : s.opened = false) : strOK s = decide (s.fields.length = 0 ∧ s.next = 0 ∧ s.dicts.length = 0) := by unfold strOK; rw [if_pos h]
theorem strOK_open {s : PStr} (h : s.opened = true) : strOK s = (fieldsOK s.fields && decide (0 ≤ s.next ∧ s.next ≤ 1000000000 ∧ s.dicts.length = s.fields.length) && dictsOK s.fields s.dicts) := by unfold strOK; rw [if_neg (by simp [h])]
theorem dictsOK_no {fs : List PF} {ds : List (List (List Nat))} {k : Nat} (hk : k < ds.length) (hf : k < fs.length) (h : dOK fs[k] ds[k] = false) : dictsOK fs ds = false := by
  unfold dictsOK
  rw [List.all_eq_false]
  exact ⟨k, List.mem_range.2 hk, by simp [hk, hf, h]⟩
theorem dictsOK_yes {fs : List PF} {ds : List (List (List Nat))} (hl : ds.length = fs.length) (h : ∀ k, (hk : k < ds.length) → (hf : k < fs.length) → dOK fs[k] ds[k] = true) : dictsOK fs ds = true := by
  unfold dictsOK
  rw [List.all_eq_true]
  intro k hk
  have hk' := List.mem_range.1 hk
  have := h k hk' (by omega)
  simpa [hk', show k < fs.length from by omega] using this
set_option maxHeartbeats 2000000 in
theorem specStr_any (s : PStr) (a b : Option Addr) (c d : Nat) (w : World) (hr : RdStr w s a c b d) (ht : tStr s ≤ 1048576) :
    Calls Tryz.prog 39 #[.agg #[.bool s.opened, .slice a s.fields.length c, .int .i64 s.next, .slice b s.dicts.length d]] w fun e w' => e = .returned (.bool (strOK s)) ∧ Below w.heap.size w w' := by
  have HR := hid hr
  have ht1 : totL fN s.fields ≤ 1048576 ∧ totL tS s.dicts ≤ 1048576 := by unfold tStr at ht; omega
  have hl1 : s.fields.length ≤ 1048576 ∧ s.dicts.length ≤ 1048576 := by unfold totL at ht1; omega
  clear hr
  cases ho : s.opened with
  | false =>
    have HE := hid (strOK_shut ho)
    clear ho
    by_cases h1 : s.fields.length = 0
    · by_cases h2 : s.next = 0
      · by_cases h3 : s.dicts.length = 0
        · have HV : Hid (strOK s = true) := hid (by rw [HE.out]; exact decide_eq_true ⟨h1, h2, h3⟩)
          rw [h1, h2, h3, HV.out]
          go_enter Tryz.func39, Tryz.ntmps39
          go_wp2
          go_ret
          exact ⟨rfl, below_new1 _ _⟩
        · have HV : Hid (strOK s = false) := hid (by rw [HE.out]; exact decide_eq_false (fun h => h3 h.2.2))
          rw [h1, h2, HV.out]
          have h3' : ((s.dicts.length : Int) == 0) = false := by rw [beq_eq_false_iff_ne]; omega
          go_enter Tryz.func39, Tryz.ntmps39
          go_wp2
          go_ret
          exact ⟨rfl, below_new1 _ _⟩
      · have HV : Hid (strOK s = false) := hid (by rw [HE.out]; exact decide_eq_false (fun h => h2 h.2.1))
        rw [h1, HV.out]
        have h2' : (s.next == 0) = false := by simpa using h2
        go_enter Tryz.func39, Tryz.ntmps39
        go_wp2
        go_ret
        exact ⟨rfl, below_new1 _ _⟩
    · have HV : Hid (strOK s = false) := hid (by rw [HE.out]; exact decide_eq_false (fun h => h1 h.1))
      rw [HV.out]
      have h1' : ((s.fields.length : Int) == 0) = false := by rw [beq_eq_false_iff_ne]; omega
      go_enter Tryz.func39, Tryz.ntmps39
      go_wp2
      go_ret
      exact ⟨rfl, below_new1 _ _⟩
  | true =>
    have HE := hid (strOK_open ho)
    clear ho
    have HQ := hid (specFields_any a c s.fields _ (HR.out.f.later (below_new1 w (.cells #[.bool true, .slice a s.fields.length c, .int .i64 s.next, .slice b s.dicts.length d] 40))))
    cases hf : fieldsOK s.fields with
    | false =>
      have HV : Hid (strOK s = false) := hid (by rw [HE.out, hf]; simp)
      rw [hf] at HQ
      rw [HV.out]
      clear hf
      go_enter Tryz.func39, Tryz.ntmps39
      go_wp2_with fail
      refine HQ.out.mono ?_
      rintro e w2 ⟨rfl, b2⟩
      have HB2 := hid (below_chain (below_new1 _ _) b2)
      clear b2
      go_wp2
      go_ret
      exact ⟨rfl, HB2.out⟩
    | true =>
      rw [hf] at HQ HE
      clear hf
      rw [Bool.true_and] at HE
      have HE2 : Hid (¬ (0 ≤ s.next ∧ s.next ≤ 1000000000 ∧ s.dicts.length = s.fields.length) → strOK s = false) := hid (fun h => by rw [HE.out, decide_eq_false h]; simp)
      have HE3 : Hid ((0 ≤ s.next ∧ s.next ≤ 1000000000 ∧ s.dicts.length = s.fields.length) → strOK s = dictsOK s.fields s.dicts) := hid (fun h => by rw [HE.out, decide_eq_true h]; simp)
      clear HE
      by_cases n1 : s.next < 0
      · have HV := hid (HE2.out (by omega))
        rw [HV.out]
        go_enter Tryz.func39, Tryz.ntmps39
        go_wp2_with fail
        refine HQ.out.mono ?_
        rintro e w2 ⟨rfl, b2⟩
        have k1 := heap1 _ (by simpa using b2)
        have p2 := cell_of_row w2 _ 2 _ _ _ k1
        simp only [List.getElem?_toArray, List.getElem?_cons_zero, List.getElem?_cons_succ] at p2
        have HB2 := hid (below_chain (below_new1 _ _) b2)
        clear b2 k1
        go_wp2
        go_ret
        exact ⟨rfl, HB2.out⟩
      by_cases n2 : 1000000000 < s.next
      · have HV := hid (HE2.out (by omega))
        rw [HV.out]
        go_enter Tryz.func39, Tryz.ntmps39
        go_wp2_with fail
        refine HQ.out.mono ?_
        rintro e w2 ⟨rfl, b2⟩
        have k1 := heap1 _ (by simpa using b2)
        have p2 := cell_of_row w2 _ 2 _ _ _ k1
        simp only [List.getElem?_toArray, List.getElem?_cons_zero, List.getElem?_cons_succ] at p2
        have HB2 := hid (below_chain (below_new1 _ _) b2)
        clear b2 k1
        go_wp2
        go_ret
        exact ⟨rfl, HB2.out⟩
      by_cases n3 : s.dicts.length = s.fields.length
      · have HV := hid (HE3.out ⟨by omega, by omega, n3⟩)
        have HN3 := hid n3
        have n3' : ((s.dicts.length : Int) != (s.fields.length : Int)) = false := by simp; omega
        rw [HV.out]
        clear n3
        go_enter Tryz.func39, Tryz.ntmps39
        go_wp2_with fail
        refine HQ.out.mono ?_
        rintro e w2 ⟨rfl, b2⟩
        have k1 := heap1 _ (by simpa using b2)
        have p1 := cell_of_row w2 _ 1 _ _ _ k1
        have p2 := cell_of_row w2 _ 2 _ _ _ k1
        have p3 := cell_of_row w2 _ 3 _ _ _ k1
        simp only [List.getElem?_toArray, List.getElem?_cons_zero, List.getElem?_cons_succ] at p1 p2 p3
        have HK := hid k1
        have HB2 := hid (below_chain (below_new1 _ _) b2)
        clear b2 k1 HQ
        go_wp2
        go_loopw [3] (fun i wr => ∃ k : Nat, k ≤ s.dicts.length ∧ i = .int .i64 k ∧ (∀ j, (hj : j < s.dicts.length) → (hf : j < s.fields.length) → j < k → dOK s.fields[j] s.dicts[j] = true) ∧ wr.heap[w.heap.size]? = some (.cells #[.bool true, .slice a s.fields.length c, .int .i64 s.next, .slice b s.dicts.length d] 40 (0, 0)) ∧ Below w.heap.size w wr) (fun i _ => s.dicts.length - (intOf i).toNat)
        case atStart => exact ⟨0, Nat.zero_le _, rfl, fun j _ _ h => by omega, HK.out, HB2.out⟩
        case round =>
          obtain ⟨k, hk, rfl, hall, hkx, hbe⟩ := hrel
          have HALL := hid hall
          have HKx := hid hkx
          have HB := hid hbe
          clear hall hbe p1 p2 p3
          have p1 := cell_of_row wr _ 1 _ _ _ hkx
          have p3 := cell_of_row wr _ 3 _ _ _ hkx
          simp only [List.getElem?_toArray, List.getElem?_cons_zero, List.getElem?_cons_succ] at p1 p3
          clear hkx
          by_cases hlt : k < s.dicts.length
          · have hlf : k < s.fields.length := by have := HN3.out; omega
            have hki : (k : Int) < (s.dicts.length : Int) := by omega
            have hkf : (k : Int) < (s.fields.length : Int) := by omega
            obtain ⟨b', off, ad, cd, rfl, hcb, hrr⟩ := (HR.out.t.later HB.out).row3 hlt
            have htk : totL List.length s.dicts[k] ≤ 1048576 := by have h := tot_at tS s.dicts k hlt; unfold totL at ht1; exact Nat.le_trans h (by omega)
            have hln : s.dicts[k].length ≤ 1048576 := by unfold totL at htk; omega
            have HD := hid (specDict_any ad cd s.dicts[k] wr hrr htk)
            have HOK : Hid (dOK s.fields[k] s.dicts[k] = (dictOK s.dicts[k] && (s.fields[k].kind == 3 || s.dicts[k].length == 0))) := hid rfl
            have HNO : Hid (dOK s.fields[k] s.dicts[k] = false → dictsOK s.fields s.dicts = false) := hid (fun h => dictsOK_no hlt hlf h)
            have HYES : Hid (dOK s.fields[k] s.dicts[k] = true → ∀ j, (hj : j < s.dicts.length) → (hf : j < s.fields.length) → j < k + 1 → dOK s.fields[j] s.dicts[j] = true) := hid (fun h j hj hf hjk => by
              by_cases e : j = k
              · subst e; exact h
              · exact HALL.out j hj hf (by omega))
            obtain ⟨b2, o2, x0, x1, x2, e2, hes, d0, d1, d2⟩ := (HR.out.f.later HB.out).at3 rfl hlf
            obtain ⟨af, cf, e3⟩ := cField_shape hes
            simp only [List.cons.injEq, and_true] at e3
            obtain ⟨rfl, rfl, rfl⟩ := e3
            subst e2
            generalize hdx : s.dicts[k].length = dn at *
            generalize hkd : s.fields[k].kind = kd at *
            clear hes hrr htk
            cases hdk : dictOK s.dicts[k] with
            | false =>
              have HF := hid (HNO.out (by rw [HOK.out, hdk]; rfl))
              rw [hdk] at HD
              clear hdk
              go_wp2_with fail
              refine HD.out.mono ?_
              rintro e w3 ⟨rfl, b3⟩
              have HB3 := hid (below_chain HB.out b3)
              clear b3
              go_wp2
              go_ret
              exact ⟨by rw [HF.out]; first | done | rfl, HB3.out⟩
            | true =>
              rw [hdk] at HD HOK
              rw [Bool.true_and] at HOK
              clear hdk
              have hk2 : w.heap.size < wr.heap.size := (Array.getElem?_eq_some_iff.1 HKx.out).1
              go_wp2_with fail
              refine HD.out.mono ?_
              rintro e w3 ⟨rfl, b3⟩
              have kp : ∀ p v, wr.cell? p = some v → w3.cell? p = some v := fun p v h => (b3.cell (World.block_lt_of_cell? _ _ h)).trans h
              have p1' := kp _ _ p1
              have p3' := kp _ _ p3
              have hcb' := kp _ _ hcb
              have d1' := kp _ _ d1
              have HB3 := hid (below_chain HB.out b3)
              have HK3 := hid ((b3.block _ hk2).trans HKx.out)
              clear b3 p1 p3 hcb d0 d1 d2 kp
              by_cases hk3 : kd = 3
              · have hk3' : (kd != 3) = false := by simpa using hk3
                have HY := hid (HYES.out (by rw [HOK.out, hk3]; rfl))
                clear hk3
                go_wp2
                go_roundw
                case rel => exact ⟨k + 1, by omega, by go_num, HY.out, HK3.out, HB3.out⟩
                case measure => simp [intOf]; omega
              · have hk3' : (kd != 3) = true := by simpa using hk3
                by_cases hd0 : dn = 0
                · have HY := hid (HYES.out (by rw [HOK.out, hd0]; simp))
                  have hd0' : ¬ (0 : Int) < (dn : Int) := by omega
                  clear hk3
                  go_wp2
                  go_roundw
                  case rel => exact ⟨k + 1, by omega, by go_num, HY.out, HK3.out, HB3.out⟩
                  case measure => simp [intOf]; omega
                · have HF := hid (HNO.out (by rw [HOK.out]; simp [hk3, hd0]))
                  have hd0' : (0 : Int) < (dn : Int) := by omega
                  clear hk3
                  go_wp2
                  go_ret
                  exact ⟨by rw [HF.out]; first | done | rfl, HB3.out⟩
          · have HF := hid (dictsOK_yes HN3.out (fun j hj hf => HALL.out j hj hf (by omega)))
            have hki : ¬ (k : Int) < (s.dicts.length : Int) := by omega
            go_wp2
            go_ret
            exact ⟨by rw [HF.out]; first | done | rfl, HB.out⟩
      · have HV := hid (HE2.out (by omega))
        rw [HV.out]
        have n3' : ((s.dicts.length : Int) != (s.fields.length : Int)) = true := by simp; omega
        clear n3
        go_enter Tryz.func39, Tryz.ntmps39
        go_wp2_with fail
        refine HQ.out.mono ?_
        rintro e w2 ⟨rfl, b2⟩
        have k1 := heap1 _ (by simpa using b2)
        have p1 := cell_of_row w2 _ 1 _ _ _ k1
        have p2 := cell_of_row w2 _ 2 _ _ _ k1
        have p3 := cell_of_row w2 _ 3 _ _ _ k1
        simp only [List.getElem?_toArray, List.getElem?_cons_zero, List.getElem?_cons_succ] at p1 p2 p3
        have HB2 := hid (below_chain (below_new1 _ _) b2)
        clear b2 k1
        go_wp2
        go_ret
        exact ⟨rfl, HB2.out⟩
end Go.Proofs.YtfaehioeepolhaaGreat
namespace Go.Proofs.YtfaehioeepolhaaGreat
open Go.RowKit
def readyOK (r : PRcv) : Bool := if r.str.opened = true then (decide (r.ready.length ≤ 20) && tabsOK r.str.fields r.ready) else decide (r.ready.length = 0)
abbrev RcvH (r : PRcv) : Prop := 0 ≤ r.epoch ∧ r.epoch ≤ 1000000000 ∧ 0 ≤ r.count ∧ r.count ≤ 1000000000 ∧ 0 ≤ r.errors ∧ r.errors ≤ 1000000000
abbrev RcvZ (r : PRcv) : Prop := r.inn.epoch = 0 ∧ r.inn.expect = 0 ∧ r.inn.held.length = 0 ∧ r.inn.part.length = 0 ∧ r.str.opened = false ∧ r.str.next = 0 ∧ r.str.fields.length = 0 ∧ r.str.dicts.length = 0 ∧ r.ready.length = 0
abbrev RcvN (r : PRcv) : Prop := r.str.next ≤ r.count + (r.ready.length : Int) ∧ (r.ready.length = 0 ∨ r.str.next = r.count + (r.ready.length : Int))
def rcvOK (r : PRcv) : Bool := decide (RcvH r) && (if r.live = false then decide (RcvZ r) else (decide (1 ≤ r.epoch ∧ r.inn.epoch = r.epoch) && (inOK r.inn && (strOK r.str && (readyOK r && (!r.str.opened || decide (RcvN r)))))))
theorem rcv_head {r : PRcv} (h : ¬ RcvH r) : rcvOK r = false := by unfold rcvOK; rw [decide_eq_false h]; rfl
theorem rcv_dead {r : PRcv} (h : RcvH r) (hl : r.live = false) : rcvOK r = decide (RcvZ r) := by unfold rcvOK; rw [decide_eq_true h, if_pos hl]; rfl
theorem rcv_live {r : PRcv} (h : RcvH r) (hl : r.live = true) : rcvOK r = (decide (1 ≤ r.epoch ∧ r.inn.epoch = r.epoch) && (inOK r.inn && (strOK r.str && (readyOK r && (!r.str.opened || decide (RcvN r)))))) := by unfold rcvOK; rw [decide_eq_true h, if_neg (by simp [hl])]; rfl
end Go.Proofs.YtfaehioeepolhaaGreat
namespace Go.Proofs.YtfaehioeepolhaaGreat
open Go.RowKit
def plR (r : PRcv) : PRcv := if rcvOK r = true then ⟨r.epoch, r.count + (r.ready.length : Int), r.live, r.inn, r.str, [], r.errors⟩ else ⟨0, 0, false, ⟨0, 0, [], []⟩, ⟨false, [], 0, []⟩, [], 0⟩
def plT (r : PRcv) : List PT := if rcvOK r = true then r.ready else []
def plK (r : PRcv) : Int := if rcvOK r = true then 0 else 1
theorem pl_no {r : PRcv} (h : rcvOK r = false) : plR r = ⟨0, 0, false, ⟨0, 0, [], []⟩, ⟨false, [], 0, []⟩, [], 0⟩ ∧ plT r = [] ∧ plK r = 1 := by unfold plR plT plK; rw [h]; exact ⟨rfl, rfl, rfl⟩
theorem pl_yes {r : PRcv} (h : rcvOK r = true) : plR r = ⟨r.epoch, r.count + (r.ready.length : Int), r.live, r.inn, r.str, [], r.errors⟩ ∧ plT r = r.ready ∧ plK r = 0 := by unfold plR plT plK; rw [h]; exact ⟨rfl, rfl, rfl⟩
theorem pl_count {r : PRcv} (h : rcvOK r = true) : 0 ≤ r.count ∧ r.count ≤ 1000000000 := by
  unfold rcvOK at h
  rw [Bool.and_eq_true, decide_eq_true_iff] at h
  exact ⟨h.1.2.2.1, h.1.2.2.2.1⟩
theorem pl_tot (r : PRcv) (h : tRcv r ≤ 1048576) : tRcv (plR r) ≤ 1048576 ∧ totL totT (plT r) ≤ 1048576 := by
  cases hok : rcvOK r with
  | false =>
    rw [(pl_no hok).1, (pl_no hok).2.1]
    exact ⟨by decide, by decide⟩
  | true =>
    rw [(pl_yes hok).1, (pl_yes hok).2.1]
    unfold tRcv at h ⊢
    simp only [totL, List.length_nil, List.map_nil, List.sum_nil] at h ⊢
    omega
end Go.Proofs.YtfaehioeepolhaaGreat
namespace Go.Proofs.YtfaehioeepolhaaGreat
open Go.RowKit
set_option maxHeartbeats 4000000 in
theorem l5valid_raw (kind epoch seq count : Int) (last : Bool) (a : Option Addr) (n cap : Nat) (w : World) (B : Bool) (hT : (1 ≤ epoch ∧ epoch ≤ 1000000000 ∧ 0 ≤ seq ∧ seq ≤ 1000000000000 ∧ 0 ≤ count ∧ count ≤ 1000000000 ∧ ((kind = 1 ∧ seq < 1000000000000 ∧ count = 0 ∧ 1 ≤ n ∧ n ≤ 100) ∨ (lastN last = 0 ∧ n = 0 ∧ (kind = 2 ∨ (kind = 3 ∧ seq = 0) ∨ (kind = 4 ∧ seq = 0 ∧ count = 0))))) → B = true) (hF : ¬ (1 ≤ epoch ∧ epoch ≤ 1000000000 ∧ 0 ≤ seq ∧ seq ≤ 1000000000000 ∧ 0 ≤ count ∧ count ≤ 1000000000 ∧ ((kind = 1 ∧ seq < 1000000000000 ∧ count = 0 ∧ 1 ≤ n ∧ n ≤ 100) ∨ (lastN last = 0 ∧ n = 0 ∧ (kind = 2 ∨ (kind = 3 ∧ seq = 0) ∨ (kind = 4 ∧ seq = 0 ∧ count = 0))))) → B = false) (hn : n ≤ maxLen) :
    Calls Tryz.prog 102 #[.agg #[.int .i64 kind, .int .i64 epoch, .int .i64 seq, .int .i64 count, .bool last, .slice a n cap]] w fun e w' => e = .returned (.bool B) ∧ Below w.heap.size w w' := by
  have HT := hid hT
  have HF := hid hF
  unfold maxLen at hn
  clear hT hF
  by_cases c0 : kind < 1
  · have HB := hid (HF.out (by omega))
    go_enter Tryz.func102, Tryz.ntmps102
    go_wp2
    go_ret
    exact ⟨(by rw [HB.out]; first | done | rfl), below_new1 _ _⟩
  by_cases c1 : 4 < kind
  · have HB := hid (HF.out (by omega))
    go_enter Tryz.func102, Tryz.ntmps102
    go_wp2
    go_ret
    exact ⟨(by rw [HB.out]; first | done | rfl), below_new1 _ _⟩
  by_cases c2 : epoch < 1
  · have HB := hid (HF.out (by omega))
    go_enter Tryz.func102, Tryz.ntmps102
    go_wp2
    go_ret
    exact ⟨(by rw [HB.out]; first | done | rfl), below_new1 _ _⟩
  by_cases c3 : 1000000000 < epoch
  · have HB := hid (HF.out (by omega))
    go_enter Tryz.func102, Tryz.ntmps102
    go_wp2
    go_ret
    exact ⟨(by rw [HB.out]; first | done | rfl), below_new1 _ _⟩
  by_cases c4 : seq < 0
  · have HB := hid (HF.out (by omega))
    go_enter Tryz.func102, Tryz.ntmps102
    go_wp2
    go_ret
    exact ⟨(by rw [HB.out]; first | done | rfl), below_new1 _ _⟩
  by_cases c5 : 1000000000000 < seq
  · have HB := hid (HF.out (by omega))
    go_enter Tryz.func102, Tryz.ntmps102
    go_wp2
    go_ret
    exact ⟨(by rw [HB.out]; first | done | rfl), below_new1 _ _⟩
  by_cases c6 : count < 0
  · have HB := hid (HF.out (by omega))
    go_enter Tryz.func102, Tryz.ntmps102
    go_wp2
    go_ret
    exact ⟨(by rw [HB.out]; first | done | rfl), below_new1 _ _⟩
  by_cases c7 : 1000000000 < count
  · have HB := hid (HF.out (by omega))
    go_enter Tryz.func102, Tryz.ntmps102
    go_wp2
    go_ret
    exact ⟨(by rw [HB.out]; first | done | rfl), below_new1 _ _⟩
  by_cases k1 : kind = 1
  · subst k1
    by_cases d0 : count = 0
    · subst d0
      by_cases d1 : seq < 1000000000000
      · by_cases d2 : 1 ≤ n
        · have d2' : (1 : Int) ≤ (n : Int) := by omega
          by_cases d3 : n ≤ 100
          · have d3' : (n : Int) ≤ 100 := by omega
            have HB := hid (HT.out (by omega))
            go_enter Tryz.func102, Tryz.ntmps102
            go_wp2
            go_ret
            exact ⟨(by rw [HB.out]; first | done | rfl), below_new1 _ _⟩
          have d3' : decide ((n : Int) ≤ 100) = false := decide_eq_false (by omega)
          have HB := hid (HF.out (by omega))
          go_enter Tryz.func102, Tryz.ntmps102
          go_wp2
          go_ret
          exact ⟨(by rw [HB.out]; first | done | rfl), below_new1 _ _⟩
        have d2' : (n : Int) < 1 := by omega
        have HB := hid (HF.out (by omega))
        go_enter Tryz.func102, Tryz.ntmps102
        go_wp2
        go_ret
        exact ⟨(by rw [HB.out]; first | done | rfl), below_new1 _ _⟩
      have HB := hid (HF.out (by omega))
      go_enter Tryz.func102, Tryz.ntmps102
      go_wp2
      go_ret
      exact ⟨(by rw [HB.out]; first | done | rfl), below_new1 _ _⟩
    have d0' : (count == 0) = false := by simpa using d0
    have HB := hid (HF.out (by omega))
    go_enter Tryz.func102, Tryz.ntmps102
    go_wp2
    go_ret
    exact ⟨(by rw [HB.out]; first | done | rfl), below_new1 _ _⟩
  have k1' : (kind == 1) = false := by simpa using k1
  cases last with
  | true =>
    have hl : lastN true = 1 := rfl
    have HB := hid (HF.out (by omega))
    go_enter Tryz.func102, Tryz.ntmps102
    go_wp2
    go_ret
    exact ⟨(by rw [HB.out]; first | done | rfl), below_new1 _ _⟩
  | false =>
    have hl : lastN false = 0 := rfl
    by_cases n0 : n = 0
    · subst n0
      by_cases k2 : kind = 2
      · subst k2
        have HB := hid (HT.out (by omega))
        go_enter Tryz.func102, Tryz.ntmps102
        go_wp2
        go_ret
        exact ⟨(by rw [HB.out]; first | done | rfl), below_new1 _ _⟩
      have k2' : (kind == 2) = false := by simpa using k2
      by_cases s0 : seq = 0
      · subst s0
        by_cases k3 : kind = 3
        · subst k3
          have HB := hid (HT.out (by omega))
          go_enter Tryz.func102, Tryz.ntmps102
          go_wp2
          go_ret
          exact ⟨(by rw [HB.out]; first | done | rfl), below_new1 _ _⟩
        have k3' : (kind == 3) = false := by simpa using k3
        by_cases x0 : count = 0
        · subst x0
          have HB := hid (HT.out (by omega))
          go_enter Tryz.func102, Tryz.ntmps102
          go_wp2
          go_ret
          exact ⟨(by rw [HB.out]; first | done | rfl), below_new1 _ _⟩
        have x0' : (count == 0) = false := by simpa using x0
        have HB := hid (HF.out (by omega))
        go_enter Tryz.func102, Tryz.ntmps102
        go_wp2
        go_ret
        exact ⟨(by rw [HB.out]; first | done | rfl), below_new1 _ _⟩
      have s0' : (seq == 0) = false := by simpa using s0
      have HB := hid (HF.out (by omega))
      go_enter Tryz.func102, Tryz.ntmps102
      go_wp2
      go_ret
      exact ⟨(by rw [HB.out]; first | done | rfl), below_new1 _ _⟩
    have n0' : ((n : Int) != 0) = true := by simp; omega
    have HB := hid (HF.out (by omega))
    go_enter Tryz.func102, Tryz.ntmps102
    go_wp2
    go_ret
    exact ⟨(by rw [HB.out]; first | done | rfl), below_new1 _ _⟩
theorem l5valid_any (p : PP) (a : Option Addr) (cap : Nat) (w : World) (hn : p.data.length ≤ maxLen) :
    Calls Tryz.prog 102 #[.agg #[.int .i64 p.kind, .int .i64 p.epoch, .int .i64 p.seq, .int .i64 p.count, .bool p.last, .slice a p.data.length cap]] w fun e w' => e = .returned (.bool (pktOK p)) ∧ Below w.heap.size w w' :=
  l5valid_raw p.kind p.epoch p.seq p.count p.last a p.data.length cap w (pktOK p) (fun h => decide_eq_true h) (fun h => decide_eq_false h) hn
end Go.Proofs.YtfaehioeepolhaaGreat
namespace Go.Proofs.YtfaehioeepolhaaGreat
open Go.RowKit
theorem box_laterP2 {w w' : World} {g : Nat} {o : Obj} (h : w.heap[g]? = some o) (hb : Below w.heap.size w w') : w'.heap[g]? = some o := (hb.block g (Array.getElem?_eq_some_iff.1 h).1).trans h
end Go.Proofs.YtfaehioeepolhaaGreat
namespace Go.Proofs.YtfaehioeepolhaaGreat
open Go.RowKit
set_option maxRecDepth 100000 in
set_option maxHeartbeats 4000000 in
theorem l5data_any (p : PP) (a : Option Addr) (cap : Nat) (ep : Int) (w : World) (hn : p.data.length ≤ maxLen) :
    Calls Tryz.prog 86 #[.agg #[.int .i64 p.kind, .int .i64 p.epoch, .int .i64 p.seq, .int .i64 p.count, .bool p.last, .slice a p.data.length cap], .int .i64 ep] w fun e w' => e = .returned (.bool (dataB p ep)) ∧ Below w.heap.size w w' := by
  have HV := hid (l5valid_any p a cap (w.alloc (.cells #[.int .i64 p.kind, .int .i64 p.epoch, .int .i64 p.seq, .int .i64 p.count, .bool p.last, .slice a p.data.length cap] 120)) hn)
  have HB0 := hid (below_new1 w (.cells #[.int .i64 p.kind, .int .i64 p.epoch, .int .i64 p.seq, .int .i64 p.count, .bool p.last, .slice a p.data.length cap] 120))
  have HK0 : Hid ((w.alloc (.cells #[.int .i64 p.kind, .int .i64 p.epoch, .int .i64 p.seq, .int .i64 p.count, .bool p.last, .slice a p.data.length cap] 120)).heap[w.heap.size]? = some (.cells #[.int .i64 p.kind, .int .i64 p.epoch, .int .i64 p.seq, .int .i64 p.count, .bool p.last, .slice a p.data.length cap] 120 (0, 0))) := hid (heap_alloc_new w _)
  have HD : Hid (dataB p ep = (pktOK p && (decide (p.kind = 1) && decide (p.epoch = ep)))) := hid rfl
  clear hn
  go_enter Tryz.func86, Tryz.ntmps86
  go_wp2_with fail
  refine HV.out.mono ?_
  rintro e w2 ⟨rfl, b2⟩
  have hx := box_laterP2 HK0.out b2
  have z0 := cell_of_row _ _ 0 _ _ _ hx
  have z1 := cell_of_row _ _ 1 _ _ _ hx
  simp only [List.getElem?_toArray, List.getElem?_cons_zero, List.getElem?_cons_succ] at z0 z1
  have HB2 := hid (below_chain HB0.out b2)
  clear b2 hx
  cases hok : pktOK p with
  | false =>
    rw [hok] at HD
    clear hok
    go_wp2
    go_ret
    exact ⟨(by rw [HD.out]; first | done | rfl), HB2.out⟩
  | true =>
    rw [hok] at HD
    clear hok
    by_cases k1 : p.kind = 1
    · have k1t : (p.kind == 1) = true := by simp; omega
      rw [decide_eq_true k1] at HD
      clear k1
      by_cases e1 : p.epoch = ep
      · have e1t : (p.epoch == ep) = true := by simp; omega
        rw [decide_eq_true e1] at HD
        clear e1
        go_wp2
        go_ret
        exact ⟨(by rw [HD.out]; first | done | rfl), HB2.out⟩
      · have e1t : (p.epoch == ep) = false := by simp; omega
        rw [decide_eq_false e1] at HD
        clear e1
        go_wp2
        go_ret
        exact ⟨(by rw [HD.out]; first | done | rfl), HB2.out⟩
    · have k1t : (p.kind == 1) = false := by simp; omega
      rw [decide_eq_false k1] at HD
      clear k1
      go_wp2
      go_ret
      exact ⟨(by rw [HD.out]; first | done | rfl), HB2.out⟩
end Go.Proofs.YtfaehioeepolhaaGreat
