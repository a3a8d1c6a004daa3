import Derived.Test.YtfaehioeepolhaaGreatJCrashReceiver32
import Derived.Test.YtfaehioeepolhaaGreatJCrashReceiver18
import Derived.Test.YtfaehioeepolhaaGreatJCrashReceiver28
import Derived.Deep.DeepCutAuto
namespace Go.Proofs.YtfaehioeepolhaaGreat
open Go.RowKit Go.Maps
set_option maxHeartbeats 8000000 in
theorem implTable_any (a a2 : Option Addr) (cap c2 : Nat) (fs : List PF) (t : PT) (w : World) (hr : RdSl cField w fs (.slice a fs.length cap)) (hr2 : RdSl cCell w t.cells (.slice a2 t.cells.length c2)) (ht : totT t ≤ 1048576) :
    Calls Tryz.prog 108 #[.slice a fs.length cap, .agg #[.int .i64 t.rows, .slice a2 t.cells.length c2]] w fun e w' => e = .returned (.bool (tableOK fs t)) ∧ Below w.heap.size w w' := by
  have HR := hid hr
  have HR2 := hid hr2
  have hcl : t.cells.length ≤ 1048576 := by unfold totT totL at ht; omega
  have HQ : Hid (Calls Tryz.prog 57 #[.slice a fs.length cap] (w.alloc (.cells #[.int .i64 t.rows, .slice a2 t.cells.length c2] 111)) fun e w' => e = .returned (.bool (fieldsOK fs)) ∧ w'.heap[w.heap.size]? = some (.cells #[.int .i64 t.rows, .slice a2 t.cells.length c2] 111 (0, 0)) ∧ Below w.heap.size w w') := hid (by
    have hb1 := below_new1 w (.cells #[.int .i64 t.rows, .slice a2 t.cells.length c2] 111)
    refine (implFields_any a cap fs _ (hr.later hb1)).mono ?_
    rintro e w' ⟨rfl, b⟩
    exact ⟨rfl, heap1 _ (b.mono (by simp)), hb1.trans (b.mono hb1.size)⟩)
  clear hr hr2
  cases hf : fieldsOK fs
  · have HX := hid (tableOK_fields (t := t) hf)
    rw [hf] at HQ
    go_enter Tryz.func108, Tryz.ntmps108
    go_wp2_with fail
    refine HQ.out.mono ?_
    rintro e w2 ⟨rfl, -, b2⟩
    have HB := hid b2
    clear b2
    go_wp2
    go_ret
    exact ⟨by rw [HX.out]; rfl, HB.out⟩
  rw [hf] at HQ
  have HF := hid hf
  have hfl := fields_len hf
  clear hf
  by_cases hrows : 0 ≤ t.rows ∧ t.rows ≤ 100
  · obtain ⟨R, hR⟩ : ∃ R : Nat, t.rows = (R : Int) := ⟨t.rows.toNat, by omega⟩
    have hR2 : R ≤ 100 := by omega
    obtain ⟨pr, hpr⟩ : ∃ pr : Nat, pr = fs.length * R := ⟨_, rfl⟩
    have hm : (R : Int) * (fs.length : Int) = (pr : Int) := by rw [hpr, Nat.mul_comm]; simp
    have hprl : pr ≤ 1200 := by rw [hpr]; exact Nat.le_trans (Nat.mul_le_mul hfl hR2) (by omega)
    have HPR := hid hpr
    have HRR := hid hR
    by_cases hlen : t.cells.length = pr
    · have HLEN : Hid (t.cells.length = fs.length * R) := hid (by rw [hlen, hpr])
      have htot : txt t.cells + t.cells.length ≤ 1048576 := by unfold totT totL at ht; unfold txt; omega
      rw [hR] at HQ ⊢
      exact implTable_main a a2 cap c2 fs t R pr w HR HR2 hcl HQ HF hfl hR2 hm hprl HRR hlen HLEN htot
    · have HX : Hid (tableOK fs t = false) := hid (tableOK_len (by rw [hR]; intro h; apply hlen; rw [Int.mul_comm] at h; omega))
      have hne : ((t.cells.length : Int) != (pr : Int)) = true := by simp; omega
      rw [hR] at HQ ⊢
      clear hrows hR hpr
      go_enter Tryz.func108, Tryz.ntmps108
      go_wp2_with fail
      refine HQ.out.mono ?_
      rintro e w2 ⟨rfl, k2, b2⟩
      have HB := hid b2
      have p0 := cell_of_row w2 _ 0 _ _ _ k2
      have p1 := cell_of_row w2 _ 1 _ _ _ k2
      simp at p0 p1
      clear b2 k2
      go_wp2_with fail
      refine (validRows_any _ _).mono ?_
      rintro e w2 ⟨rfl, rfl⟩
      rw [decide_eq_true (show (0 : Int) ≤ (R : Int) ∧ (R : Int) ≤ 100 by omega)]
      go_wp2
      go_ret
      exact ⟨by rw [HX.out]; rfl, HB.out⟩
  · have HX : Hid (tableOK fs t = false) := hid (by
      by_cases h0 : 0 ≤ t.rows
      · exact tableOK_high (by omega)
      · exact tableOK_low (by omega))
    have hd := decide_eq_false hrows
    clear hrows
    go_enter Tryz.func108, Tryz.ntmps108
    go_wp2_with fail
    refine HQ.out.mono ?_
    rintro e w2 ⟨rfl, k2, b2⟩
    have HB := hid b2
    have p0 := cell_of_row w2 _ 0 _ _ _ k2
    have p1 := cell_of_row w2 _ 1 _ _ _ k2
    simp at p0 p1
    clear b2 k2
    have HD := hid hd
    clear hd
    go_wp2_with fail
    refine (validRows_any _ _).mono ?_
    rintro e w2 ⟨rfl, rfl⟩
    rw [HD.out]
    go_wp2
    go_ret
    exact ⟨by rw [HX.out]; rfl, HB.out⟩
end Go.Proofs.YtfaehioeepolhaaGreat
namespace Go.Proofs.YtfaehioeepolhaaGreat
open Go.RowKit
def tabsOK (fs : List PF) (ts : List PT) : Bool := ts.all fun t => tableOK fs t
theorem tabsOK_no {fs : List PF} {ts : List PT} {k : Nat} (hk : k < ts.length) (h : tableOK fs ts[k] = false) : tabsOK fs ts = false := by
  unfold tabsOK
  rw [List.all_eq_false]
  exact ⟨ts[k], List.getElem_mem _, by simp [h]⟩
theorem tabsOK_yes {fs : List PF} {ts : List PT} (h : ∀ k, (hk : k < ts.length) → tableOK fs ts[k] = true) : tabsOK fs ts = true := by
  unfold tabsOK
  rw [List.all_eq_true]
  intro t ht
  obtain ⟨k, hk, rfl⟩ := List.getElem_of_mem ht
  exact h k hk
set_option maxRecDepth 100000 in
set_option maxHeartbeats 4000000 in
theorem validTables_any (fs : List PF) (ts : List PT) (a b : Option Addr) (c d : Nat) (w : World) (hr : RdSl cField w fs (.slice a fs.length c)) (hr2 : RdSl cTable w ts (.slice b ts.length d)) (ht : totL totT ts ≤ 1048576) :
    Calls Tryz.prog 59 #[.slice a fs.length c, .slice b ts.length d] w fun e w' => e = .returned (.bool (tabsOK fs ts)) ∧ Below w.heap.size w w' := by
  have HR := hid hr
  have HR2 := hid hr2
  clear hr hr2
  have hlen : ts.length ≤ 1048576 := by unfold totL at ht; omega
  go_enter Tryz.func59, Tryz.ntmps59
  go_wp2
  go_loopw [6, 9] (fun _ i wr => ∃ k : Nat, k ≤ ts.length ∧ i = .int .i64 k ∧ (∀ j, (hj : j < ts.length) → j < k → tableOK fs ts[j] = true) ∧ Below w.heap.size w wr) (fun _ i _ => ts.length - (intOf i).toNat)
  case atStart => exact ⟨0, Nat.zero_le _, rfl, fun j _ h => absurd h (by omega), Below.refl _ _⟩
  case round =>
    obtain ⟨k, hk, rfl, hall, hbe⟩ := hrel
    have HA := hid hall
    have HB := hid hbe
    clear hall hbe
    by_cases hlt : k < ts.length
    · obtain ⟨bb, off, es, rfl, hes, hcs⟩ := (HR2.out.later HB.out).atN hlt
      obtain ⟨a0, c0, rfl, hrc, -⟩ := cTable_shape hes
      have d0 : wr.cell? ⟨bb, off + k * 2, none⟩ = some (.int .i64 ts[k].rows) := by have h := hcs 0 (by decide); rw [show cTable.n = 2 from rfl] at h; simpa [Nat.add_assoc] using h
      have d1 : wr.cell? ⟨bb, off + k * 2 + 1, none⟩ = some (.slice a0 ts[k].cells.length c0) := by have h := hcs 1 (by decide); rw [show cTable.n = 2 from rfl] at h; simpa [Nat.add_assoc] using h
      have hki : (k : Int) < (ts.length : Int) := by omega
      have hnl : totT ts[k] ≤ 1048576 := by have h := tot_at totT ts k hlt; unfold totL at ht; exact Nat.le_trans h (by omega)
      have HRC := hid hrc
      clear hes hcs hrc
      have HBX := hid (below_new1 wr (.cells #[.int .i64 ts[k].rows, .slice a0 ts[k].cells.length c0] 111))
      have HK : Hid ((wr.alloc (.cells #[.int .i64 ts[k].rows, .slice a0 ts[k].cells.length c0] 111)).heap[wr.heap.size]? = some (.cells #[.int .i64 ts[k].rows, .slice a0 ts[k].cells.length c0] 111 (0, 0))) := hid (heap_alloc_new _ _)
      go_upto_region 4 with fail
      generalize (wr.alloc (.cells #[.int .i64 ts[k].rows, .slice a0 ts[k].cells.length c0] 111)) = W1 at *
      have e0 := cell_of_row _ _ 0 _ _ _ HK.out
      have e1 := cell_of_row _ _ 1 _ _ _ HK.out
      simp only [List.getElem?_toArray, List.getElem?_cons_zero, List.getElem?_cons_succ] at e0 e1
      have HB1 := hid (below_chain HB.out HBX.out)
      go_wp2_with fail
      refine (implTable_any a a0 c c0 fs ts[k] W1 (HR.out.later HB1.out) (HRC.out.later HBX.out) hnl).mono ?_
      rintro e w2 ⟨rfl, b2⟩
      have HB2 := hid (below_chain HB1.out b2)
      clear b2 d0 d1 e0 e1
      cases hq : tableOK fs ts[k] with
      | false =>
        have HF := hid (tabsOK_no hlt hq)
        clear hq
        go_wp2
        go_ret
        exact ⟨by rw [HF.out]; rfl, HB2.out⟩
      | true =>
        have HA2 : Hid (∀ j, (hj : j < ts.length) → j < k + 1 → tableOK fs ts[j] = true) := hid (fun j hj h => by
          by_cases e : j = k
          · subst e; exact hq
          · exact HA.out j hj (by omega))
        clear hq
        go_wp2
        go_roundw
        case rel => exact ⟨k + 1, by omega, by go_num, HA2.out, HB2.out⟩
        case measure => simp [intOf]; omega
    · obtain rfl : k = ts.length := by omega
      have HF := hid (tabsOK_yes (fun j hj => HA.out j hj hj))
      go_wp2
      go_ret
      exact ⟨by rw [HF.out]; rfl, HB.out⟩
set_option maxRecDepth 100000 in
set_option maxHeartbeats 4000000 in
theorem l6tablesOK_any (fs : List PF) (ts : List PT) (a b : Option Addr) (c d : Nat) (w : World) (hr : RdSl cField w fs (.slice a fs.length c)) (hr2 : RdSl cTable w ts (.slice b ts.length d)) (ht : totL totT ts ≤ 1048576) :
    Calls Tryz.prog 54 #[.slice a fs.length c, .slice b ts.length d] w fun e w' => e = .returned (.bool (decide (ts.length ≤ 20) && tabsOK fs ts)) ∧ Below w.heap.size w w' := by
  have HR := hid hr
  have HR2 := hid hr2
  clear hr hr2
  have hlen : ts.length ≤ 1048576 := by unfold totL at ht; omega
  by_cases h20 : ts.length ≤ 20
  · rw [decide_eq_true h20, Bool.true_and]
    have h20t : decide ((20 : Int) < (ts.length : Int)) = false := decide_eq_false (by omega)
    clear h20
    go_enter Tryz.func54, Tryz.ntmps54
    go_wp2
    go_loopw [5] (fun i wr => ∃ k : Nat, k ≤ ts.length ∧ i = .int .i64 k ∧ (∀ j, (hj : j < ts.length) → j < k → tableOK fs ts[j] = true) ∧ Below w.heap.size w wr) (fun i _ => ts.length - (intOf i).toNat)
    case atStart => exact ⟨0, Nat.zero_le _, rfl, fun j _ h => absurd h (by omega), Below.refl _ _⟩
    case round =>
      obtain ⟨k, hk, rfl, hall, hbe⟩ := hrel
      have HA := hid hall
      have HB := hid hbe
      clear hall hbe
      by_cases hlt : k < ts.length
      · obtain ⟨bb, off, es, rfl, hes, hcs⟩ := (HR2.out.later HB.out).atN hlt
        obtain ⟨a0, c0, rfl, hrc, -⟩ := cTable_shape hes
        have d0 : wr.cell? ⟨bb, off + k * 2, none⟩ = some (.int .i64 ts[k].rows) := by have h := hcs 0 (by decide); rw [show cTable.n = 2 from rfl] at h; simpa [Nat.add_assoc] using h
        have d1 : wr.cell? ⟨bb, off + k * 2 + 1, none⟩ = some (.slice a0 ts[k].cells.length c0) := by have h := hcs 1 (by decide); rw [show cTable.n = 2 from rfl] at h; simpa [Nat.add_assoc] using h
        have hki : (k : Int) < (ts.length : Int) := by omega
        have hnl : totT ts[k] ≤ 1048576 := by have h := tot_at totT ts k hlt; unfold totL at ht; exact Nat.le_trans h (by omega)
        have HRC := hid hrc
        clear hes hcs hrc
        go_wp2_with fail
        refine (specTable_any a a0 c c0 fs ts[k] wr (HR.out.later HB.out) HRC.out hnl).mono ?_
        rintro e w2 ⟨rfl, b2⟩
        have HB2 := hid (below_chain HB.out b2)
        clear b2 d0 d1
        cases hq : tableOK fs ts[k] with
        | false =>
          have HF := hid (tabsOK_no hlt hq)
          clear hq
          go_wp2
          go_ret
          exact ⟨by rw [HF.out]; rfl, HB2.out⟩
        | true =>
          have HA2 : Hid (∀ j, (hj : j < ts.length) → j < k + 1 → tableOK fs ts[j] = true) := hid (fun j hj h => by
            by_cases e : j = k
            · subst e; exact hq
            · exact HA.out j hj (by omega))
          clear hq
          go_wp2
          go_roundw
          case rel => exact ⟨k + 1, by omega, by go_num, HA2.out, HB2.out⟩
          case measure => simp [intOf]; omega
      · obtain rfl : k = ts.length := by omega
        have HF := hid (tabsOK_yes (fun j hj => HA.out j hj hj))
        go_wp2
        go_ret
        exact ⟨by rw [HF.out]; rfl, HB.out⟩
  · have h20t : decide ((20 : Int) < (ts.length : Int)) = true := decide_eq_true (by omega)
    rw [decide_eq_false h20]
    clear h20
    go_enter Tryz.func54, Tryz.ntmps54
    go_wp2
    go_ret
    exact ⟨rfl, Below.refl _ _⟩
end Go.Proofs.YtfaehioeepolhaaGreat
