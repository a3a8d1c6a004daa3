import Derived.Test.YtfaehioeepolhabGreatJSend7
import Derived.Test.YtfaehioeepolhabGreatJSend16
import Derived.Test.YtfaehioeepolhabGreatJSend24
import Derived.Test.YtfaehioeepolhabGreatJSend23
import Derived.Deep.DeepCutAuto
namespace Go.Proofs.YtfaehioeepolhabGreat
open Go.RowKit
def dOK (f : PF) (d : List (List Nat)) : Bool := dictOK d && (f.kind == 3 || d.length == 0)
def dictsOK (fs : List PF) (ds : List (List (List Nat))) : Bool := (List.range ds.length).all fun i => dOK (fs[i]?.getD ⟨[], 0, 0⟩) (ds[i]?.getD [])
def strOK (s : PStr) : Bool :=
  if s.opened = false then decide (s.fields.length = 0 ∧ s.next = 0 ∧ s.dicts.length = 0)
  else fieldsOK s.fields && decide (0 ≤ s.next ∧ s.next ≤ 1000000000 ∧ s.dicts.length = s.fields.length) && dictsOK s.fields s.dicts
theorem strOK_shut {s : PStr} (h : s.opened = false) : strOK s = decide (s.fields.length = 0 ∧ s.next = 0 ∧ s.dicts.length = 0) := by unfold strOK; rw [if_pos h]
theorem strOK_open {s : PStr} (h : s.opened = true) : strOK s = (fieldsOK s.fields && decide (0 ≤ s.next ∧ s.next ≤ 1000000000 ∧ s.dicts.length = s.fields.length) && dictsOK s.fields s.dicts) := by unfold strOK; rw [if_neg (by simp [h])]
theorem dictsOK_no {fs : List PF} {ds : List (List (List Nat))} {k : Nat} (hk : k < ds.length) (hf : k < fs.length) (h : dOK fs[k] ds[k] = false) : dictsOK fs ds = false := by
  unfold dictsOK
  rw [List.all_eq_false]
  exact ⟨k, List.mem_range.2 hk, by simp [hk, hf, h]⟩
theorem dictsOK_yes {fs : List PF} {ds : List (List (List Nat))} (hl : ds.length = fs.length) (h : ∀ k, (hk : k < ds.length) → (hf : k < fs.length) → dOK fs[k] ds[k] = true) : dictsOK fs ds = true := by
  unfold dictsOK
  rw [List.all_eq_true]
  intro k hk
  have hk' := List.mem_range.1 hk
  have := h k hk' (by omega)
  simpa [hk', show k < fs.length from by omega] using this
set_option maxHeartbeats 2000000 in
theorem specStr_any (s : PStr) (a b : Option Addr) (c d : Nat) (w : World) (hr : RdStr w s a c b d) (ht : tStr s ≤ 1048576) :
    Calls Tryz.prog 60 #[.agg #[.bool s.opened, .slice a s.fields.length c, .int .i64 s.next, .slice b s.dicts.length d]] w fun e w' => e = .returned (.bool (strOK s)) ∧ Below w.heap.size w w' := by
  have HR := hid hr
  have ht1 : totL fN s.fields ≤ 1048576 ∧ totL tS s.dicts ≤ 1048576 := by unfold tStr at ht; omega
  have hl1 : s.fields.length ≤ 1048576 ∧ s.dicts.length ≤ 1048576 := by unfold totL at ht1; omega
  clear hr
  cases ho : s.opened with
  | false =>
    have HE := hid (strOK_shut ho)
    clear ho
    by_cases h1 : s.fields.length = 0
    · by_cases h2 : s.next = 0
      · by_cases h3 : s.dicts.length = 0
        · have HV : Hid (strOK s = true) := hid (by rw [HE.out]; exact decide_eq_true ⟨h1, h2, h3⟩)
          rw [h1, h2, h3, HV.out]
          go_enter Tryz.func60, Tryz.ntmps60
          go_wp2
          go_ret
          exact ⟨rfl, below_new1 _ _⟩
        · have HV : Hid (strOK s = false) := hid (by rw [HE.out]; exact decide_eq_false (fun h => h3 h.2.2))
          rw [h1, h2, HV.out]
          have h3' : ((s.dicts.length : Int) == 0) = false := by rw [beq_eq_false_iff_ne]; omega
          go_enter Tryz.func60, Tryz.ntmps60
          go_wp2
          go_ret
          exact ⟨rfl, below_new1 _ _⟩
      · have HV : Hid (strOK s = false) := hid (by rw [HE.out]; exact decide_eq_false (fun h => h2 h.2.1))
        rw [h1, HV.out]
        have h2' : (s.next == 0) = false := by simpa using h2
        go_enter Tryz.func60, Tryz.ntmps60
        go_wp2
        go_ret
        exact ⟨rfl, below_new1 _ _⟩
    · have HV : Hid (strOK s = false) := hid (by rw [HE.out]; exact decide_eq_false (fun h => h1 h.1))
      rw [HV.out]
      have h1' : ((s.fields.length : Int) == 0) = false := by rw [beq_eq_false_iff_ne]; omega
      go_enter Tryz.func60, Tryz.ntmps60
      go_wp2
      go_ret
      exact ⟨rfl, below_new1 _ _⟩
  | true =>
    have HE := hid (strOK_open ho)
    clear ho
    have HQ := hid (specFields_any a c s.fields _ (HR.out.f.later (below_new1 w (.cells #[.bool true, .slice a s.fields.length c, .int .i64 s.next, .slice b s.dicts.length d] 43))))
    cases hf : fieldsOK s.fields with
    | false =>
      have HV : Hid (strOK s = false) := hid (by rw [HE.out, hf]; simp)
      rw [hf] at HQ
      rw [HV.out]
      clear hf
      go_enter Tryz.func60, Tryz.ntmps60
      go_wp2_with fail
      refine HQ.out.mono ?_
      rintro e w2 ⟨rfl, b2⟩
      have HB2 := hid (below_chain (below_new1 _ _) b2)
      clear b2
      go_wp2
      go_ret
      exact ⟨rfl, HB2.out⟩
    | true =>
      rw [hf] at HQ HE
      clear hf
      rw [Bool.true_and] at HE
      have HE2 : Hid (¬ (0 ≤ s.next ∧ s.next ≤ 1000000000 ∧ s.dicts.length = s.fields.length) → strOK s = false) := hid (fun h => by rw [HE.out, decide_eq_false h]; simp)
      have HE3 : Hid ((0 ≤ s.next ∧ s.next ≤ 1000000000 ∧ s.dicts.length = s.fields.length) → strOK s = dictsOK s.fields s.dicts) := hid (fun h => by rw [HE.out, decide_eq_true h]; simp)
      clear HE
      by_cases n1 : s.next < 0
      · have HV := hid (HE2.out (by omega))
        rw [HV.out]
        go_enter Tryz.func60, Tryz.ntmps60
        go_wp2_with fail
        refine HQ.out.mono ?_
        rintro e w2 ⟨rfl, b2⟩
        have k1 := heap1 _ (by simpa using b2)
        have p2 := cell_of_row w2 _ 2 _ _ _ k1
        simp only [List.getElem?_toArray, List.getElem?_cons_zero, List.getElem?_cons_succ] at p2
        have HB2 := hid (below_chain (below_new1 _ _) b2)
        clear b2 k1
        go_wp2
        go_ret
        exact ⟨rfl, HB2.out⟩
      by_cases n2 : 1000000000 < s.next
      · have HV := hid (HE2.out (by omega))
        rw [HV.out]
        go_enter Tryz.func60, Tryz.ntmps60
        go_wp2_with fail
        refine HQ.out.mono ?_
        rintro e w2 ⟨rfl, b2⟩
        have k1 := heap1 _ (by simpa using b2)
        have p2 := cell_of_row w2 _ 2 _ _ _ k1
        simp only [List.getElem?_toArray, List.getElem?_cons_zero, List.getElem?_cons_succ] at p2
        have HB2 := hid (below_chain (below_new1 _ _) b2)
        clear b2 k1
        go_wp2
        go_ret
        exact ⟨rfl, HB2.out⟩
      by_cases n3 : s.dicts.length = s.fields.length
      · have HV := hid (HE3.out ⟨by omega, by omega, n3⟩)
        have HN3 := hid n3
        have n3' : ((s.dicts.length : Int) != (s.fields.length : Int)) = false := by simp; omega
        rw [HV.out]
        clear n3
        go_enter Tryz.func60, Tryz.ntmps60
        go_wp2_with fail
        refine HQ.out.mono ?_
        rintro e w2 ⟨rfl, b2⟩
        have k1 := heap1 _ (by simpa using b2)
        have p1 := cell_of_row w2 _ 1 _ _ _ k1
        have p2 := cell_of_row w2 _ 2 _ _ _ k1
        have p3 := cell_of_row w2 _ 3 _ _ _ k1
        simp only [List.getElem?_toArray, List.getElem?_cons_zero, List.getElem?_cons_succ] at p1 p2 p3
        have HK := hid k1
        have HB2 := hid (below_chain (below_new1 _ _) b2)
        clear b2 k1 HQ
        go_wp2
        go_loopw [3] (fun i wr => ∃ k : Nat, k ≤ s.dicts.length ∧ i = .int .i64 k ∧ (∀ j, (hj : j < s.dicts.length) → (hf : j < s.fields.length) → j < k → dOK s.fields[j] s.dicts[j] = true) ∧ wr.heap[w.heap.size]? = some (.cells #[.bool true, .slice a s.fields.length c, .int .i64 s.next, .slice b s.dicts.length d] 43 (0, 0)) ∧ Below w.heap.size w wr) (fun i _ => s.dicts.length - (intOf i).toNat)
        case atStart => exact ⟨0, Nat.zero_le _, rfl, fun j _ _ h => by omega, HK.out, HB2.out⟩
        case round =>
          obtain ⟨k, hk, rfl, hall, hkx, hbe⟩ := hrel
          have HALL := hid hall
          have HKx := hid hkx
          have HB := hid hbe
          clear hall hbe p1 p2 p3
          have p1 := cell_of_row wr _ 1 _ _ _ hkx
          have p3 := cell_of_row wr _ 3 _ _ _ hkx
          simp only [List.getElem?_toArray, List.getElem?_cons_zero, List.getElem?_cons_succ] at p1 p3
          clear hkx
          by_cases hlt : k < s.dicts.length
          · have hlf : k < s.fields.length := by have := HN3.out; omega
            have hki : (k : Int) < (s.dicts.length : Int) := by omega
            have hkf : (k : Int) < (s.fields.length : Int) := by omega
            obtain ⟨b', off, ad, cd, rfl, hcb, hrr⟩ := (HR.out.t.later HB.out).row3 hlt
            have htk : totL List.length s.dicts[k] ≤ 1048576 := by have h := tot_at tS s.dicts k hlt; unfold totL at ht1; exact Nat.le_trans h (by omega)
            have hln : s.dicts[k].length ≤ 1048576 := by unfold totL at htk; omega
            have HD := hid (specDict_any ad cd s.dicts[k] wr hrr htk)
            have HOK : Hid (dOK s.fields[k] s.dicts[k] = (dictOK s.dicts[k] && (s.fields[k].kind == 3 || s.dicts[k].length == 0))) := hid rfl
            have HNO : Hid (dOK s.fields[k] s.dicts[k] = false → dictsOK s.fields s.dicts = false) := hid (fun h => dictsOK_no hlt hlf h)
            have HYES : Hid (dOK s.fields[k] s.dicts[k] = true → ∀ j, (hj : j < s.dicts.length) → (hf : j < s.fields.length) → j < k + 1 → dOK s.fields[j] s.dicts[j] = true) := hid (fun h j hj hf hjk => by
              by_cases e : j = k
              · subst e; exact h
              · exact HALL.out j hj hf (by omega))
            obtain ⟨b2, o2, x0, x1, x2, e2, hes, d0, d1, d2⟩ := (HR.out.f.later HB.out).at3 rfl hlf
            obtain ⟨af, cf, e3⟩ := cField_shape hes
            simp only [List.cons.injEq, and_true] at e3
            obtain ⟨rfl, rfl, rfl⟩ := e3
            subst e2
            generalize hdx : s.dicts[k].length = dn at *
            generalize hkd : s.fields[k].kind = kd at *
            clear hes hrr htk
            cases hdk : dictOK s.dicts[k] with
            | false =>
              have HF := hid (HNO.out (by rw [HOK.out, hdk]; rfl))
              rw [hdk] at HD
              clear hdk
              go_wp2_with fail
              refine HD.out.mono ?_
              rintro e w3 ⟨rfl, b3⟩
              have HB3 := hid (below_chain HB.out b3)
              clear b3
              go_wp2
              go_ret
              exact ⟨by rw [HF.out]; first | done | rfl, HB3.out⟩
            | true =>
              rw [hdk] at HD HOK
              rw [Bool.true_and] at HOK
              clear hdk
              have hk2 : w.heap.size < wr.heap.size := (Array.getElem?_eq_some_iff.1 HKx.out).1
              go_wp2_with fail
              refine HD.out.mono ?_
              rintro e w3 ⟨rfl, b3⟩
              have kp : ∀ p v, wr.cell? p = some v → w3.cell? p = some v := fun p v h => (b3.cell (World.block_lt_of_cell? _ _ h)).trans h
              have p1' := kp _ _ p1
              have p3' := kp _ _ p3
              have hcb' := kp _ _ hcb
              have d1' := kp _ _ d1
              have HB3 := hid (below_chain HB.out b3)
              have HK3 := hid ((b3.block _ hk2).trans HKx.out)
              clear b3 p1 p3 hcb d0 d1 d2 kp
              by_cases hk3 : kd = 3
              · have hk3' : (kd != 3) = false := by simpa using hk3
                have HY := hid (HYES.out (by rw [HOK.out, hk3]; rfl))
                clear hk3
                go_wp2
                go_roundw
                case rel => exact ⟨k + 1, by omega, by go_num, HY.out, HK3.out, HB3.out⟩
                case measure => simp [intOf]; omega
              · have hk3' : (kd != 3) = true := by simpa using hk3
                by_cases hd0 : dn = 0
                · have HY := hid (HYES.out (by rw [HOK.out, hd0]; simp))
                  have hd0' : ¬ (0 : Int) < (dn : Int) := by omega
                  clear hk3
                  go_wp2
                  go_roundw
                  case rel => exact ⟨k + 1, by omega, by go_num, HY.out, HK3.out, HB3.out⟩
                  case measure => simp [intOf]; omega
                · have HF := hid (HNO.out (by rw [HOK.out]; simp [hk3, hd0]))
                  have hd0' : (0 : Int) < (dn : Int) := by omega
                  clear hk3
                  go_wp2
                  go_ret
                  exact ⟨by rw [HF.out]; first | done | rfl, HB3.out⟩
          · have HF := hid (dictsOK_yes HN3.out (fun j hj hf => HALL.out j hj hf (by omega)))
            have hki : ¬ (k : Int) < (s.dicts.length : Int) := by omega
            go_wp2
            go_ret
            exact ⟨by rw [HF.out]; first | done | rfl, HB.out⟩
      · have HV := hid (HE2.out (by omega))
        rw [HV.out]
        have n3' : ((s.dicts.length : Int) != (s.fields.length : Int)) = true := by simp; omega
        clear n3
        go_enter Tryz.func60, Tryz.ntmps60
        go_wp2_with fail
        refine HQ.out.mono ?_
        rintro e w2 ⟨rfl, b2⟩
        have k1 := heap1 _ (by simpa using b2)
        have p1 := cell_of_row w2 _ 1 _ _ _ k1
        have p2 := cell_of_row w2 _ 2 _ _ _ k1
        have p3 := cell_of_row w2 _ 3 _ _ _ k1
        simp only [List.getElem?_toArray, List.getElem?_cons_zero, List.getElem?_cons_succ] at p1 p2 p3
        have HB2 := hid (below_chain (below_new1 _ _) b2)
        clear b2 k1
        go_wp2
        go_ret
        exact ⟨rfl, HB2.out⟩
end Go.Proofs.YtfaehioeepolhabGreat
namespace Go.Proofs.YtfaehioeepolhabGreat
open Go.RowKit
theorem pf_ext {f g : PF} (h1 : f.name = g.name) (h2 : f.kind = g.kind) (h3 : f.width = g.width) : f = g := by cases f; cases g; simp_all
def pfT (f : PF) : List Nat × Int × Int := (f.name, f.kind, f.width)
theorem pfT_inj {f g : PF} (h : pfT f = pfT g) : f = g := by
  unfold pfT at h
  simp only [Prod.mk.injEq] at h
  exact pf_ext h.1 h.2.1 h.2.2
def eqPF (f g : PF) : Bool := decide (pfT f = pfT g)
theorem eqPF_yes {f g : PF} (h : f = g) : eqPF f g = true := decide_eq_true (by rw [h])
theorem eqPF_no {f g : PF} (h : f ≠ g) : eqPF f g = false := decide_eq_false (fun e => h (pfT_inj e))
def sameFs (fs gs : List PF) : Bool := decide (fs.map pfT = gs.map pfT)
theorem sameFs_len {fs gs : List PF} (h : fs.length ≠ gs.length) : sameFs fs gs = false := decide_eq_false (fun e => h (by have := congrArg List.length e; simpa using this))
theorem sameFs_at {fs gs : List PF} {k : Nat} (h1 : k < fs.length) (h2 : k < gs.length) (h : fs[k] ≠ gs[k]) : sameFs fs gs = false := decide_eq_false (fun e => h (by
  have := congrArg (fun l : List (List Nat × Int × Int) => l[k]?) e
  simp only [List.getElem?_map, List.getElem?_eq_getElem h1, List.getElem?_eq_getElem h2, Option.map_some, Option.some.injEq] at this
  exact pfT_inj this))
theorem sameFs_all {fs gs : List PF} (hl : fs.length = gs.length) (h : ∀ k, (h1 : k < fs.length) → (h2 : k < gs.length) → fs[k] = gs[k]) : sameFs fs gs = true := decide_eq_true (by rw [List.ext_getElem hl h])
set_option maxRecDepth 100000 in
set_option maxHeartbeats 8000000 in
theorem l6sameFields_any (fs gs : List PF) (a b : Option Addr) (c d : Nat) (w : World) (hr : RdSl cField w fs (.slice a fs.length c)) (hr2 : RdSl cField w gs (.slice b gs.length d)) (hl1 : fs.length ≤ 1048576) :
    Calls Tryz.prog 61 #[.slice a fs.length c, .slice b gs.length d] w fun e w' => e = .returned (.bool (sameFs fs gs)) ∧ Below w.heap.size w w' := by
  have HR := hid hr
  have HR2 := hid hr2
  clear hr hr2
  by_cases hl : fs.length = gs.length
  rotate_left
  · have HF := hid (sameFs_len hl)
    have f0 : ((fs.length : Int) != (gs.length : Int)) = true := by simp; omega
    clear hl
    go_enter Tryz.func61, Tryz.ntmps61
    go_wp2
    go_ret
    exact ⟨by rw [HF.out]; rfl, Below.refl _ _⟩
  · have f0 : ((fs.length : Int) != (gs.length : Int)) = false := by simp; omega
    have HL := hid hl
    clear hl
    go_enter Tryz.func61, Tryz.ntmps61
    go_wp2
    go_loopw [5] (fun i wr => ∃ k : Nat, k ≤ fs.length ∧ i = .int .i64 k ∧ (∀ j, (h1 : j < fs.length) → (h2 : j < gs.length) → j < k → fs[j] = gs[j]) ∧ Below w.heap.size w wr) (fun i _ => fs.length - (intOf i).toNat)
    case atStart => exact ⟨0, Nat.zero_le _, rfl, fun j _ _ h => absurd h (by omega), Below.refl _ _⟩
    case round =>
      obtain ⟨k, hk, rfl, hall, hbe⟩ := hrel
      have HA := hid hall
      have HB := hid hbe
      clear hall hbe
      by_cases hlt : k < fs.length
      · have hlt2 : k < gs.length := by have := HL.out; omega
        obtain ⟨bb, off, x0, x1, x2, rfl, hx, p0, p1, p2⟩ := (HR.out.later HB.out).at3 (k := k) rfl hlt
        obtain ⟨bb', off', y0, y1, y2, rfl, hy, q0, q1, q2⟩ := (HR2.out.later HB.out).at3 (k := k) rfl hlt2
        obtain ⟨vx, ex, hvx, -⟩ := cField_rd hx
        obtain ⟨vy, ey, hvy, -⟩ := cField_rd hy
        obtain ⟨ax, cx, rfl, -, -, -, rx, bx⟩ := hvx.bytes
        obtain ⟨ay, cy, rfl, -, -, -, ry, by_⟩ := hvy.bytes
        simp only [List.cons.injEq, and_true] at ex ey
        obtain ⟨rfl, rfl, rfl⟩ := ex
        obtain ⟨rfl, rfl, rfl⟩ := ey
        have HQ : Hid (∀ n, Calls Tryz.prog 108 #[.slice ax fs[k].name.length cx, .slice ay gs[k].name.length cy] (wr.drewN n) fun e w' => e = .returned (.bool (decide (fs[k].name = gs[k].name))) ∧ ∃ m, w' = (wr.drewN n).drewN m) := hid (fun n => by
          refine (l1same_any ax ay cx cy _ _ _ (rx.later (below_drewN (Below.refl _ _) n)) (ry.later (below_drewN (Below.refl _ _) n)) bx by_).mono ?_
          rintro e w' ⟨rfl, rfl⟩
          exact ⟨rfl, 0, rfl⟩)
        have hki : (k : Int) < (fs.length : Int) := by omega
        have hki2 : (k : Int) < (gs.length : Int) := by omega
        clear hvx hvy rx ry bx by_ hx hy
        by_cases e0 : fs[k].name = gs[k].name
        · rw [decide_eq_true e0] at HQ
          by_cases e1 : fs[k].kind = gs[k].kind
          · have m1 : (fs[k].kind != gs[k].kind) = false := by simpa using e1
            by_cases e2 : fs[k].width = gs[k].width
            · have m2 : (fs[k].width != gs[k].width) = false := by simpa using e2
              have HA2 : Hid (∀ j, (h1 : j < fs.length) → (h2 : j < gs.length) → j < k + 1 → fs[j] = gs[j]) := hid (fun j h1 h2 h => by
                by_cases e : j = k
                · subst e; exact pf_ext e0 e1 e2
                · exact HA.out j h1 h2 (by omega))
              clear e0 e1 e2
              go_wp2
              go_quiet ((go_at_call 108; exact Calls.quiet_of (HQ.out _)))
              go_wp2
              go_roundw
              case rel => exact ⟨k + 1, by omega, by go_num, HA2.out, below_drewN HB.out _⟩
              case measure => simp [intOf]; omega
            · have m2 : (fs[k].width != gs[k].width) = true := by simpa using e2
              have HF := hid (sameFs_at hlt hlt2 (fun h => e2 (by rw [h])))
              clear e0 e1 e2
              go_wp2
              go_quiet ((go_at_call 108; exact Calls.quiet_of (HQ.out _)))
              go_wp2
              go_ret
              exact ⟨by rw [HF.out]; rfl, below_drewN HB.out _⟩
          · have m1 : (fs[k].kind != gs[k].kind) = true := by simpa using e1
            have HF := hid (sameFs_at hlt hlt2 (fun h => e1 (by rw [h])))
            clear e0 e1
            go_wp2
            go_quiet ((go_at_call 108; exact Calls.quiet_of (HQ.out _)))
            go_wp2
            go_ret
            exact ⟨by rw [HF.out]; rfl, below_drewN HB.out _⟩
        · rw [decide_eq_false e0] at HQ
          have HF := hid (sameFs_at hlt hlt2 (fun h => e0 (by rw [h])))
          clear e0
          go_wp2
          go_quiet ((go_at_call 108; exact Calls.quiet_of (HQ.out _)))
          go_wp2
          go_ret
          exact ⟨by rw [HF.out]; rfl, below_drewN HB.out _⟩
      · obtain rfl : k = fs.length := by omega
        have HF := hid (sameFs_all HL.out (fun j h1 h2 => HA.out j h1 h2 h1))
        go_wp2
        go_ret
        exact ⟨by rw [HF.out]; rfl, HB.out⟩
set_option maxRecDepth 100000 in
set_option maxHeartbeats 4000000 in
theorem sameField_any (f g : PF) (a b : Option Addr) (c d : Nat) (w : World) (h1 : RdSl cByte w f.name (.slice a f.name.length c)) (h2 : RdSl cByte w g.name (.slice b g.name.length d)) :
    Calls Tryz.prog 124 #[.agg #[.slice a f.name.length c, .int .i64 f.kind, .int .i64 f.width], .agg #[.slice b g.name.length d, .int .i64 g.kind, .int .i64 g.width]] w fun e w' => e = .returned (.bool (eqPF f g)) ∧ Below w.heap.size w w' := by
  obtain ⟨_, _, e1, -, -, -, rx, bx⟩ := h1.bytes
  obtain ⟨_, _, e2, -, -, -, ry, by_⟩ := h2.bytes
  simp only [Value.slice.injEq] at e1 e2
  obtain ⟨rfl, -, rfl⟩ := e1
  obtain ⟨rfl, -, rfl⟩ := e2
  have HX := hid rx
  have HY := hid ry
  have HBX := hid bx
  have HBY := hid by_
  clear h1 h2 rx ry bx by_
  have HK0 : Hid (((w.alloc (.cells #[.slice a f.name.length c, .int .i64 f.kind, .int .i64 f.width] 101)).alloc (.cells #[.slice b g.name.length d, .int .i64 g.kind, .int .i64 g.width] 101)).heap[w.heap.size]? = some (.cells #[.slice a f.name.length c, .int .i64 f.kind, .int .i64 f.width] 101 (0, 0))) := hid (heap2 _ _ (Below.refl _ _)).1
  have HK1 : Hid (((w.alloc (.cells #[.slice a f.name.length c, .int .i64 f.kind, .int .i64 f.width] 101)).alloc (.cells #[.slice b g.name.length d, .int .i64 g.kind, .int .i64 g.width] 101)).heap[w.heap.size + 1]? = some (.cells #[.slice b g.name.length d, .int .i64 g.kind, .int .i64 g.width] 101 (0, 0))) := hid (heap2 _ _ (Below.refl _ _)).2
  have HB0 := hid (below_new2 w (.cells #[.slice a f.name.length c, .int .i64 f.kind, .int .i64 f.width] 101) (.cells #[.slice b g.name.length d, .int .i64 g.kind, .int .i64 g.width] 101))
  go_enter Tryz.func124, Tryz.ntmps124
  go_upto_region 1 with fail
  generalize ((w.alloc (.cells #[.slice a f.name.length c, .int .i64 f.kind, .int .i64 f.width] 101)).alloc (.cells #[.slice b g.name.length d, .int .i64 g.kind, .int .i64 g.width] 101)) = W0 at *
  have p0 := cell_of_row _ _ 0 _ _ _ HK0.out
  have p1 := cell_of_row _ _ 1 _ _ _ HK0.out
  have p2 := cell_of_row _ _ 2 _ _ _ HK0.out
  have q0 := cell_of_row _ _ 0 _ _ _ HK1.out
  have q1 := cell_of_row _ _ 1 _ _ _ HK1.out
  have q2 := cell_of_row _ _ 2 _ _ _ HK1.out
  simp only [List.getElem?_toArray, List.getElem?_cons_zero, List.getElem?_cons_succ] at p0 p1 p2 q0 q1 q2
  go_wp2_with fail
  refine (bytesEqual_any a b c d f.name g.name W0 (HX.out.later HB0.out) (HY.out.later HB0.out) HBX.out HBY.out).mono ?_
  rintro e w2 ⟨rfl, hw2⟩
  subst w2
  by_cases e0 : f.name = g.name
  · rw [decide_eq_true e0]
    by_cases e1 : f.kind = g.kind
    · have m1 : (f.kind == g.kind) = true := beq_iff_eq.2 e1
      by_cases e2 : f.width = g.width
      · have m2 : (f.width == g.width) = true := beq_iff_eq.2 e2
        have HF : Hid (eqPF f g = true) := hid (eqPF_yes (pf_ext e0 e1 e2))
        clear e0 e1 e2
        go_wp2
        go_ret
        exact ⟨by rw [HF.out]; rfl, HB0.out⟩
      · have m2 : (f.width == g.width) = false := beq_false_of_ne e2
        have HF : Hid (eqPF f g = false) := hid (eqPF_no (fun h => e2 (by rw [h])))
        clear e0 e1 e2
        go_wp2
        go_ret
        exact ⟨by rw [HF.out]; rfl, HB0.out⟩
    · have m1 : (f.kind == g.kind) = false := beq_false_of_ne e1
      have HF : Hid (eqPF f g = false) := hid (eqPF_no (fun h => e1 (by rw [h])))
      clear e0 e1
      go_wp2
      go_ret
      exact ⟨by rw [HF.out]; rfl, HB0.out⟩
  · rw [decide_eq_false e0]
    have HF : Hid (eqPF f g = false) := hid (eqPF_no (fun h => e0 (by rw [h])))
    clear e0
    go_wp2
    go_ret
    exact ⟨by rw [HF.out]; rfl, HB0.out⟩
end Go.Proofs.YtfaehioeepolhabGreat
