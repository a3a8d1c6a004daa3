import Derived.Test.YtfaehioeepolhabGreatJCrashSender32
import Derived.Test.YtfaehioeepolhabGreatJCrashSender35
import Derived.Test.YtfaehioeepolhabGreatJCrashSender33
import Derived.Test.YtfaehioeepolhabGreatJCrashSender42
import Derived.BigQuiet
namespace Go.Proofs.YtfaehioeepolhabGreat
open Go.RowKit
set_option maxHeartbeats 2000000 in
theorem validDicts_any (fs : List PF) (ds : List (List (List Nat))) (a b : Option Addr) (c d : Nat) (w : World) (hr : RdSl cField w fs (.slice a fs.length c)) (hr2 : RdSl cSSS w ds (.slice b ds.length d)) (hl : fs.length ≤ 1048576) (ht : totL tS ds ≤ 1048576) :
  Calls Tryz.prog 148 #[.slice a fs.length c, .slice b ds.length d] w fun e w' => e = .returned (.bool (decide (ds.length = fs.length) && dictsOK fs ds)) ∧ Below w.heap.size w w' := by
 have HR := hid hr
 have HR2 := hid hr2
 have hl2 : ds.length ≤ 1048576 := by unfold totL at ht; omega
 clear hr hr2
 by_cases n3 : ds.length = fs.length
 ·have HN3 := hid n3
  have n3' : ((ds.length : Int) != (fs.length : Int)) = false := by simp; omega
  rw [decide_eq_true n3, Bool.true_and]
  clear n3
  go_enter Tryz.func148, Tryz.ntmps148
  go_wp2
  go_loopw [14] (fun i wr => ∃ k : Nat, k ≤ ds.length ∧ i = .int .i64 k ∧ (∀ j, (hj : j < ds.length) → (hf : j < fs.length) → j < k → dOK fs[j] ds[j] = true) ∧ Below w.heap.size w wr) (fun i _ => ds.length - (intOf i).toNat)
  case atStart => exact ⟨0, Nat.zero_le _, rfl, fun j _ _ h => by omega, Below.refl _ _⟩
  case round =>
   obtain ⟨k, hk, rfl, hall, hbe⟩ := hrel
   have HALL := hid hall
   have HB := hid hbe
   clear hall hbe
   by_cases hlt : k < ds.length
   ·have hlf : k < fs.length := by have := HN3.out; omega
    have hki : (k : Int) < (ds.length : Int) := by omega
    have hkf : (k : Int) < (fs.length : Int) := by omega
    obtain ⟨b', off, ad, cd, rfl, hcb, hrr⟩ := (HR2.out.later HB.out).row3 hlt
    have htk : totL List.length ds[k] ≤ 1048576 := by have h := tot_at tS ds k hlt; unfold totL at ht; exact Nat.le_trans h (by omega)
    have HD := hid (implDict_any ad cd ds[k] wr hrr htk)
    have HOK : Hid (dOK fs[k] ds[k] = (dictOK ds[k] && (fs[k].kind == 3 || ds[k].length == 0))) := hid rfl
    have HNO : Hid (dOK fs[k] ds[k] = false → dictsOK fs ds = false) := hid (fun h => dictsOK_no hlt hlf h)
    have HYES : Hid (dOK fs[k] ds[k] = true → ∀ j, (hj : j < ds.length) → (hf : j < fs.length) → j < k + 1 → dOK fs[j] ds[j] = true) := hid (fun h j hj hf hjk => by
     by_cases e : j = k
     ·subst e; exact h
     ·exact HALL.out j hj hf (by omega))
    obtain ⟨b2, o2, x0, x1, x2, e2, hes, d0, d1, d2⟩ := (HR.out.later HB.out).at3 rfl hlf
    obtain ⟨af, cf, e3⟩ := cField_shape hes
    simp only [List.cons.injEq, and_true] at e3
    obtain ⟨rfl, rfl, rfl⟩ := e3
    subst e2
    generalize hdx : ds[k].length = dn at *
    generalize hkd : fs[k].kind = kd at *
    clear hes hrr htk
    cases hdk : dictOK ds[k] with
    | false =>
     have HF := hid (HNO.out (by rw [HOK.out, hdk]; rfl))
     rw [hdk] at HD
     clear hdk
     go_wp2_with fail
     refine HD.out.mono ?_
     rintro e w3 ⟨rfl, b3⟩
     have HB3 := hid (bC HB.out b3)
     clear b3
     go_wp2
     go_ret
     exact ⟨by rw [HF.out]; first | done | rfl, HB3.out⟩
    | true =>
     rw [hdk] at HD HOK
     rw [Bool.true_and] at HOK
     clear hdk
     go_wp2_with fail
     refine HD.out.mono ?_
     rintro e w3 ⟨rfl, b3⟩
     have d1' : w3.cell? ⟨b2, o2 + k * 3 + 1, none⟩ = some (.int .i64 kd) := (b3.cell (World.block_lt_of_cell? _ _ d1)).trans d1
     have HB3 := hid (bC HB.out b3)
     clear b3 hcb d0 d1 d2
     by_cases hk3 : kd = 3
     ·have hk3' : (kd != 3) = false := by simpa using hk3
      have HY := hid (HYES.out (by rw [HOK.out, hk3]; rfl))
      clear hk3
      go_wp2
      go_roundw
      case rel => exact ⟨k + 1, by omega, by go_num, HY.out, HB3.out⟩
      case measure => simp [intOf]; omega
     ·have hk3' : (kd != 3) = true := by simpa using hk3
      by_cases hd0 : dn = 0
      ·have HY := hid (HYES.out (by rw [HOK.out, hd0]; simp))
       have hd0' : ¬ (0 : Int) < (dn : Int) := by omega
       clear hk3
       go_wp2
       go_roundw
       case rel => exact ⟨k + 1, by omega, by go_num, HY.out, HB3.out⟩
       case measure => simp [intOf]; omega
      ·have HF := hid (HNO.out (by rw [HOK.out]; simp [hk3, hd0]))
       have hd0' : (0 : Int) < (dn : Int) := by omega
       clear hk3
       go_wp2
       go_ret
       exact ⟨by rw [HF.out]; first | done | rfl, HB3.out⟩
   ·have HF := hid (dictsOK_yes HN3.out (fun j hj hf => HALL.out j hj hf (by omega)))
    have hki : ¬ (k : Int) < (ds.length : Int) := by omega
    go_wp2
    go_ret
    exact ⟨by rw [HF.out]; first | done | rfl, HB.out⟩
 ·have n3' : ((ds.length : Int) != (fs.length : Int)) = true := by simp; omega
  rw [decide_eq_false n3, Bool.false_and]
  clear n3
  go_enter Tryz.func148, Tryz.ntmps148
  go_wp2
  go_ret
  exact ⟨rfl, Below.refl _ _⟩
set_option maxHeartbeats 2000000 in
theorem implStr_any (s : PStr) (a b : Option Addr) (c d : Nat) (w : World) (hr : RdStr w s a c b d) (ht : tStr s ≤ 1048576) :
  Calls Tryz.prog 122 #[.agg #[.bool s.opened, .slice a s.fields.length c, .int .i64 s.next, .slice b s.dicts.length d]] w fun e w' => e = .returned (.bool (strOK s)) ∧ Below w.heap.size w w' := by
 have HR := hid hr
 have ht1 : totL fN s.fields ≤ 1048576 ∧ totL tS s.dicts ≤ 1048576 := by unfold tStr at ht; omega
 have hl1 : s.fields.length ≤ 1048576 ∧ s.dicts.length ≤ 1048576 := by unfold totL at ht1; omega
 clear hr
 cases ho : s.opened with
 | false =>
  have HE := hid (strOK_shut ho)
  clear ho
  by_cases h1 : s.fields.length = 0
  ·by_cases h2 : s.next = 0
   ·by_cases h3 : s.dicts.length = 0
    ·have HV : Hid (strOK s = true) := hid (by rw [HE.out]; exact decide_eq_true ⟨h1, h2, h3⟩)
     rw [h1, h2, h3, HV.out]
     go_enter Tryz.func122, Tryz.ntmps122
     go_wp2
     go_ret
     exact ⟨rfl, bN _ _⟩
    ·have HV : Hid (strOK s = false) := hid (by rw [HE.out]; exact decide_eq_false (fun h => h3 h.2.2))
     rw [h1, h2, HV.out]
     have h3' : ((s.dicts.length : Int) == 0) = false := by rw [beq_eq_false_iff_ne]; omega
     go_enter Tryz.func122, Tryz.ntmps122
     go_wp2
     go_ret
     exact ⟨rfl, bN _ _⟩
   ·have HV : Hid (strOK s = false) := hid (by rw [HE.out]; exact decide_eq_false (fun h => h2 h.2.1))
    rw [h1, HV.out]
    have h2' : (s.next == 0) = false := by simpa using h2
    go_enter Tryz.func122, Tryz.ntmps122
    go_wp2
    go_ret
    exact ⟨rfl, bN _ _⟩
  ·have HV : Hid (strOK s = false) := hid (by rw [HE.out]; exact decide_eq_false (fun h => h1 h.1))
   rw [HV.out]
   have h1' : ((s.fields.length : Int) == 0) = false := by rw [beq_eq_false_iff_ne]; omega
   go_enter Tryz.func122, Tryz.ntmps122
   go_wp2
   go_ret
   exact ⟨rfl, bN _ _⟩
 | true =>
  have HE := hid (strOK_open ho)
  clear ho
  have HQ := hid (implFields_any a c s.fields _ (HR.out.f.later (bN w (.cells #[.bool true, .slice a s.fields.length c, .int .i64 s.next, .slice b s.dicts.length d] 43))))
  cases hf : fieldsOK s.fields with
  | false =>
   have HV : Hid (strOK s = false) := hid (by rw [HE.out, hf]; simp)
   rw [hf] at HQ
   rw [HV.out]
   clear hf
   go_enter Tryz.func122, Tryz.ntmps122
   go_wp2_with fail
   refine HQ.out.mono ?_
   rintro e w2 ⟨rfl, b2⟩
   have HB2 := hid (bC (bN _ _) b2)
   clear b2
   go_wp2
   go_ret
   exact ⟨rfl, HB2.out⟩
  | true =>
   rw [hf] at HQ HE
   clear hf
   rw [Bool.true_and] at HE
   by_cases n1 : 0 ≤ s.next ∧ s.next ≤ 1000000000
   ·have HV : Hid (strOK s = (decide (s.dicts.length = s.fields.length) && dictsOK s.fields s.dicts)) := hid (by
     rw [HE.out]
     by_cases h : s.dicts.length = s.fields.length
     ·rw [decide_eq_true ⟨n1.1, n1.2, h⟩, decide_eq_true h]
     ·rw [decide_eq_false (fun g => h g.2.2), decide_eq_false h])
    have HNX := hid (fun w' => validNext_any s.next w')
    rw [decide_eq_true n1] at HNX
    rw [HV.out]
    generalize hDD : (decide (s.dicts.length = s.fields.length) && dictsOK s.fields s.dicts) = DD
    have HDD := hid hDD
    clear hDD n1 HE
    go_enter Tryz.func122, Tryz.ntmps122
    go_wp2_with fail
    refine HQ.out.mono ?_
    rintro e w2 ⟨rfl, b2⟩
    have k1 := heap1 _ (by simpa using b2)
    have p1 := cR w2 _ 1 _ _ _ k1
    have p2 := cR w2 _ 2 _ _ _ k1
    have p3 := cR w2 _ 3 _ _ _ k1
    simp only [gA, gZ, gU] at p1 p2 p3
    have HB2 := hid (bC (bN _ _) b2)
    clear b2 k1 HQ
    go_wp2_with fail
    refine (HNX.out w2).mono ?_
    rintro e w3 ⟨rfl, rfl⟩
    go_wp2_with fail
    refine (validDicts_any s.fields s.dicts a b c d w3 (HR.out.f.later HB2.out) (HR.out.t.later HB2.out) hl1.1 ht1.2).mono ?_
    rintro e w4 ⟨rfl, b4⟩
    rw [HDD.out]
    have HB4 := hid (bC HB2.out b4)
    clear b4
    go_wp2
    go_ret
    exact ⟨rfl, HB4.out⟩
   ·have HV : Hid (strOK s = false) := hid (by rw [HE.out, decide_eq_false (fun h => n1 ⟨h.1, h.2.1⟩)]; rfl)
    have HNX := hid (fun w' => validNext_any s.next w')
    rw [decide_eq_false n1] at HNX
    rw [HV.out]
    clear n1
    go_enter Tryz.func122, Tryz.ntmps122
    go_wp2_with fail
    refine HQ.out.mono ?_
    rintro e w2 ⟨rfl, b2⟩
    have k1 := heap1 _ (by simpa using b2)
    have p2 := cR w2 _ 2 _ _ _ k1
    simp only [gA, gZ, gU] at p2
    have HB2 := hid (bC (bN _ _) b2)
    clear b2 k1 HQ
    go_wp2_with fail
    refine (HNX.out w2).mono ?_
    rintro e w3 ⟨rfl, rfl⟩
    go_wp2
    go_ret
    exact ⟨rfl, HB2.out⟩
set_option maxRecDepth 100000 in
set_option maxHeartbeats 8000000 in
theorem eqFuncField_any (fs gs : List PF) (a b : Option Addr) (c d : Nat) (w : World) (hr : RdSl cField w fs (.slice a fs.length c)) (hr2 : RdSl cField w gs (.slice b gs.length d)) (hl1 : fs.length ≤ 1048576) :
  Calls Tryz.prog 123 #[.slice a fs.length c, .slice b gs.length d, .func (.func 124) #[] #[]] w fun e w' => e = .returned (.bool (sameFs fs gs)) ∧ Below w.heap.size w w' := by
 have HR := hid hr
 have HR2 := hid hr2
 clear hr hr2
 by_cases hl : fs.length = gs.length
 rotate_left
 ·have HF := hid (sameFs_len hl)
  have f0 : ((fs.length : Int) != (gs.length : Int)) = true := by simp; omega
  clear hl
  go_enter Tryz.func123, Tryz.ntmps123
  go_wp2
  go_ret
  exact ⟨by rw [HF.out]; rfl, Below.refl _ _⟩
 ·have f0 : ((fs.length : Int) != (gs.length : Int)) = false := by simp; omega
  have HL := hid hl
  clear hl
  go_enter Tryz.func123, Tryz.ntmps123
  go_wp2
  go_loopw [7, 8, 9, 17] (fun _ _ _ i wr => ∃ k : Nat, k ≤ fs.length ∧ i = .int .i64 k ∧ (∀ j, (h1 : j < fs.length) → (h2 : j < gs.length) → j < k → fs[j] = gs[j]) ∧ Below w.heap.size w wr) (fun _ _ _ i _ => fs.length - (intOf i).toNat)
  case atStart => exact ⟨0, Nat.zero_le _, rfl, fun j _ _ h => absurd h (by omega), Below.refl _ _⟩
  case round =>
   obtain ⟨k, hk, rfl, hall, hbe⟩ := hrel
   have HA := hid hall
   have HB := hid hbe
   clear hall hbe
   by_cases hlt : k < fs.length
   ·have hlt2 : k < gs.length := by have := HL.out; omega
    obtain ⟨bb, off, x0, x1, x2, rfl, hx, p0, p1, p2⟩ := (HR.out.later HB.out).at3 (k := k) rfl hlt
    obtain ⟨vx, ex, hvx, -⟩ := cField_rd hx
    obtain ⟨ax, cx, rfl, -, -, -, -, -⟩ := hvx.bytes
    simp only [List.cons.injEq, and_true] at ex
    obtain ⟨rfl, rfl, rfl⟩ := ex
    have HX := hid hvx
    obtain ⟨bb', off', y0, y1, y2, rfl, hy, q0, q1, q2⟩ := (HR2.out.later (bC HB.out (bN wr (.cells #[.slice ax fs[k].name.length cx, .int .i64 fs[k].kind, .int .i64 fs[k].width] 101)))).at3 (k := k) rfl hlt2
    obtain ⟨vy, ey, hvy, -⟩ := cField_rd hy
    obtain ⟨ay, cy, rfl, -, -, -, -, -⟩ := hvy.bytes
    simp only [List.cons.injEq, and_true] at ey
    obtain ⟨rfl, rfl, rfl⟩ := ey
    have HY := hid hvy
    have hki : (k : Int) < (fs.length : Int) := by omega
    have hki2 : (k : Int) < (gs.length : Int) := by omega
    clear hvx hvy hx hy
    have HB1 := hid (below_new2 wr (.cells #[.slice ax fs[k].name.length cx, .int .i64 fs[k].kind, .int .i64 fs[k].width] 101) (.cells #[.slice ay gs[k].name.length cy, .int .i64 gs[k].kind, .int .i64 gs[k].width] 101))
    have HB2 := hid (bN (wr.alloc (.cells #[.slice ax fs[k].name.length cx, .int .i64 fs[k].kind, .int .i64 fs[k].width] 101)) (.cells #[.slice ay gs[k].name.length cy, .int .i64 gs[k].kind, .int .i64 gs[k].width] 101))
    have HK1 : Hid (((wr.alloc (.cells #[.slice ax fs[k].name.length cx, .int .i64 fs[k].kind, .int .i64 fs[k].width] 101)).alloc (.cells #[.slice ay gs[k].name.length cy, .int .i64 gs[k].kind, .int .i64 gs[k].width] 101)).heap[wr.heap.size]? = some (.cells #[.slice ax fs[k].name.length cx, .int .i64 fs[k].kind, .int .i64 fs[k].width] 101 (0, 0))) := hid (heap2 _ _ (Below.refl _ _)).1
    have HK2 : Hid (((wr.alloc (.cells #[.slice ax fs[k].name.length cx, .int .i64 fs[k].kind, .int .i64 fs[k].width] 101)).alloc (.cells #[.slice ay gs[k].name.length cy, .int .i64 gs[k].kind, .int .i64 gs[k].width] 101)).heap[wr.heap.size + 1]? = some (.cells #[.slice ay gs[k].name.length cy, .int .i64 gs[k].kind, .int .i64 gs[k].width] 101 (0, 0))) := hid (heap2 _ _ (Below.refl _ _)).2
    have HX2 : Hid (RdSl cByte ((wr.alloc (.cells #[.slice ax fs[k].name.length cx, .int .i64 fs[k].kind, .int .i64 fs[k].width] 101)).alloc (.cells #[.slice ay gs[k].name.length cy, .int .i64 gs[k].kind, .int .i64 gs[k].width] 101)) fs[k].name (.slice ax fs[k].name.length cx)) := hid (HX.out.later HB1.out)
    have HY2 : Hid (RdSl cByte ((wr.alloc (.cells #[.slice ax fs[k].name.length cx, .int .i64 fs[k].kind, .int .i64 fs[k].width] 101)).alloc (.cells #[.slice ay gs[k].name.length cy, .int .i64 gs[k].kind, .int .i64 gs[k].width] 101)) gs[k].name (.slice ay gs[k].name.length cy)) := hid (HY.out.later HB2.out)
    have HB3 := hid (bC HB.out HB1.out)
    clear HB1 HB2 HX HY
    go_upto_region 7 with fail
    generalize ((wr.alloc (.cells #[.slice ax fs[k].name.length cx, .int .i64 fs[k].kind, .int .i64 fs[k].width] 101)).alloc (.cells #[.slice ay gs[k].name.length cy, .int .i64 gs[k].kind, .int .i64 gs[k].width] 101)) = W2 at *
    clear p0 p1 p2 q0 q1 q2
    have e0 := cR _ _ 0 _ _ _ HK1.out
    have e1 := cR _ _ 1 _ _ _ HK1.out
    have e2 := cR _ _ 2 _ _ _ HK1.out
    have g0 := cR _ _ 0 _ _ _ HK2.out
    have g1 := cR _ _ 1 _ _ _ HK2.out
    have g2 := cR _ _ 2 _ _ _ HK2.out
    simp only [gA, gZ, gU] at e0 e1 e2 g0 g1 g2
    go_wp2_with fail
    refine (sameField_any fs[k] gs[k] ax ay cx cy W2 HX2.out HY2.out).mono ?_
    rintro e w3 ⟨rfl, b3⟩
    have HB4 := hid (bC HB3.out b3)
    clear b3 e0 e1 e2 g0 g1 g2
    by_cases hq : fs[k] = gs[k]
    ·rw [eqPF_yes hq]
     have HA2 : Hid (∀ j, (h1 : j < fs.length) → (h2 : j < gs.length) → j < k + 1 → fs[j] = gs[j]) := hid (fun j h1 h2 h => by
      by_cases e : j = k
      ·subst e; exact hq
      ·exact HA.out j h1 h2 (by omega))
     clear hq
     go_wp2
     go_roundw
     case rel => exact ⟨k + 1, by omega, by go_num, HA2.out, HB4.out⟩
     case measure => simp [intOf]; omega
    ·rw [eqPF_no hq]
     have HF := hid (sameFs_at hlt hlt2 hq)
     clear hq
     go_wp2
     go_ret
     exact ⟨by rw [HF.out]; rfl, HB4.out⟩
   ·obtain rfl : k = fs.length := by omega
    have HF := hid (sameFs_all HL.out (fun j h1 h2 => HA.out j h1 h2 h1))
    go_wp2
    go_ret
    exact ⟨by rw [HF.out]; rfl, HB.out⟩
set_option maxRecDepth 100000 in
set_option maxHeartbeats 8000000 in
theorem validSenderStream_any (r : PSnd) (a0 a3 a1 a2 b2 : Option Addr) (c0 c3 c1 c2 d2 : Nat) (w : World) (hr : RdSnd w r a0 c0 a3 c3 a1 c1 a2 c2 b2 d2) (ht : tSnd r ≤ 1048576) (hbp : 0 ≤ r.base ∧ r.base ≤ 1000000000 ∧ 0 ≤ r.pushed ∧ r.pushed ≤ 1000000000) :
  Calls Tryz.prog 78 #[.agg #[.slice a0 r.fields.length c0, .int .i64 r.epoch, .int .i64 r.base, .slice a3 r.tables.length c3, .int .i64 r.pushed, .int .i64 r.out.epoch, .int .i64 r.out.next, .int .i64 r.out.now, .slice a1 r.out.wait.length c1, .bool r.str.opened, .slice a2 r.str.fields.length c2, .int .i64 r.str.next, .slice b2 r.str.dicts.length d2]] w fun e w' => e = .returned (.bool (sndS r)) ∧ Below w.heap.size w w' := by
 have HR := hid hr
 clear hr
 have hT : tStr r.str ≤ 1048576 := by unfold tSnd at ht; omega
 have hln : r.str.fields.length ≤ 1048576 := by unfold tStr totL at hT; omega
 have HKa : Hid ((w.alloc (.cells #[.slice a0 r.fields.length c0, .int .i64 r.epoch, .int .i64 r.base, .slice a3 r.tables.length c3, .int .i64 r.pushed, .int .i64 r.out.epoch, .int .i64 r.out.next, .int .i64 r.out.now, .slice a1 r.out.wait.length c1, .bool r.str.opened, .slice a2 r.str.fields.length c2, .int .i64 r.str.next, .slice b2 r.str.dicts.length d2] 45)).heap[w.heap.size]? = some (.cells #[.slice a0 r.fields.length c0, .int .i64 r.epoch, .int .i64 r.base, .slice a3 r.tables.length c3, .int .i64 r.pushed, .int .i64 r.out.epoch, .int .i64 r.out.next, .int .i64 r.out.now, .slice a1 r.out.wait.length c1, .bool r.str.opened, .slice a2 r.str.fields.length c2, .int .i64 r.str.next, .slice b2 r.str.dicts.length d2] 45 (0, 0))) := hid (heap_alloc_new w _)
 have HBa := hid (bN w (.cells #[.slice a0 r.fields.length c0, .int .i64 r.epoch, .int .i64 r.base, .slice a3 r.tables.length c3, .int .i64 r.pushed, .int .i64 r.out.epoch, .int .i64 r.out.next, .int .i64 r.out.now, .slice a1 r.out.wait.length c1, .bool r.str.opened, .slice a2 r.str.fields.length c2, .int .i64 r.str.next, .slice b2 r.str.dicts.length d2] 45))
 go_enter Tryz.func78, Tryz.ntmps78
 go_upto_region 1 with fail
 generalize (w.alloc (.cells #[.slice a0 r.fields.length c0, .int .i64 r.epoch, .int .i64 r.base, .slice a3 r.tables.length c3, .int .i64 r.pushed, .int .i64 r.out.epoch, .int .i64 r.out.next, .int .i64 r.out.now, .slice a1 r.out.wait.length c1, .bool r.str.opened, .slice a2 r.str.fields.length c2, .int .i64 r.str.next, .slice b2 r.str.dicts.length d2] 45)) = W0 at *
 have p0 := cR _ _ 0 _ _ _ HKa.out
 have p1 := cR _ _ 1 _ _ _ HKa.out
 have p2 := cR _ _ 2 _ _ _ HKa.out
 have p3 := cR _ _ 3 _ _ _ HKa.out
 have p4 := cR _ _ 4 _ _ _ HKa.out
 have p5 := cR _ _ 5 _ _ _ HKa.out
 have p6 := cR _ _ 6 _ _ _ HKa.out
 have p7 := cR _ _ 7 _ _ _ HKa.out
 have p8 := cR _ _ 8 _ _ _ HKa.out
 have p9 := cR _ _ 9 _ _ _ HKa.out
 have p10 := cR _ _ 10 _ _ _ HKa.out
 have p11 := cR _ _ 11 _ _ _ HKa.out
 have p12 := cR _ _ 12 _ _ _ HKa.out
 simp only [gA, gZ, gU] at p0 p1 p2 p3 p4 p5 p6 p7 p8 p9 p10 p11 p12
 have HBb := hid (bN W0 (.cells #[.bool r.str.opened, .slice a2 r.str.fields.length c2, .int .i64 r.str.next, .slice b2 r.str.dicts.length d2] 43))
 have HS0 : Hid ((W0.alloc (.cells #[.bool r.str.opened, .slice a2 r.str.fields.length c2, .int .i64 r.str.next, .slice b2 r.str.dicts.length d2] 43)).heap[W0.heap.size]? = some (.cells #[.bool r.str.opened, .slice a2 r.str.fields.length c2, .int .i64 r.str.next, .slice b2 r.str.dicts.length d2] 43 (0, 0))) := hid (heap_alloc_new W0 _)
 have HK0 := hid (boxSd HKa.out HBb.out)
 have HB0 := hid (bC HBa.out HBb.out)
 go_upto_region 2 with fail
 generalize (W0.alloc (.cells #[.bool r.str.opened, .slice a2 r.str.fields.length c2, .int .i64 r.str.next, .slice b2 r.str.dicts.length d2] 43)) = W1 at *
 clear p0 p1 p2 p3 p4 p5 p6 p7 p8 p9 p10 p11 p12
 have p0 := cR _ _ 0 _ _ _ HK0.out
 have p2 := cR _ _ 2 _ _ _ HK0.out
 have p4 := cR _ _ 4 _ _ _ HK0.out
 simp only [gA, gZ, gU] at p0 p2 p4
 have q0 := cR _ _ 0 _ _ _ HS0.out
 have q1 := cR _ _ 1 _ _ _ HS0.out
 have q2 := cR _ _ 2 _ _ _ HS0.out
 have q3 := cR _ _ 3 _ _ _ HS0.out
 simp only [gA, gZ, gU] at q0 q1 q2 q3
 go_wp2_with fail
 refine (implStr_any r.str a2 b2 c2 d2 W1 (HR.out.s.later HB0.out) hT).mono ?_
 rintro e w2 ⟨rfl, b1⟩
 have HK1 := hid (boxSd HK0.out b1)
 have HS1 := hid (boxSd HS0.out b1)
 have HB1 := hid (bC HB0.out b1)
 clear b1 p0 p2 p4 q0 q1 q2 q3
 have p0 := cR _ _ 0 _ _ _ HK1.out
 have p2 := cR _ _ 2 _ _ _ HK1.out
 have p4 := cR _ _ 4 _ _ _ HK1.out
 simp only [gA, gZ, gU] at p0 p2 p4
 have q0 := cR _ _ 0 _ _ _ HS1.out
 have q1 := cR _ _ 1 _ _ _ HS1.out
 have q2 := cR _ _ 2 _ _ _ HS1.out
 have q3 := cR _ _ 3 _ _ _ HS1.out
 simp only [gA, gZ, gU] at q0 q1 q2 q3
 cases hss : strOK r.str with
 | false =>
  have HF : Hid (sndS r = false) := hid (sndS_no (fun h => by rw [h.1] at hss; cases hss))
  clear hss
  go_wp2
  go_ret
  exact ⟨by rw [HF.out]; rfl, HB1.out⟩
 | true =>
 have HSS := hid hss
 clear hss
 cases hpp : r.str.opened with
 | false =>
  have HF : Hid (sndS r = false) := hid (sndS_no (fun h => by rw [h.2.1] at hpp; cases hpp))
  rw [hpp] at q0
  clear hpp
  go_wp2
  go_ret
  exact ⟨by rw [HF.out]; rfl, HB1.out⟩
 | true =>
 rw [hpp] at q0 HS1
 have HOP := hid hpp
 clear hpp
 go_wp2_with fail
 refine (eqFuncField_any r.str.fields r.fields a2 a0 c2 c0 w2 (HR.out.s.f.later HB1.out) (HR.out.f.later HB1.out) hln).mono ?_
 rintro e w3 ⟨rfl, b2⟩
 have HK2 := hid (boxSd HK1.out b2)
 have HS2 := hid (boxSd HS1.out b2)
 have HB2 := hid (bC HB1.out b2)
 clear b2 p0 p2 p4 q0 q1 q2 q3
 have p0 := cR _ _ 0 _ _ _ HK2.out
 have p2 := cR _ _ 2 _ _ _ HK2.out
 have p4 := cR _ _ 4 _ _ _ HK2.out
 simp only [gA, gZ, gU] at p0 p2 p4
 have q0 := cR _ _ 0 _ _ _ HS2.out
 have q1 := cR _ _ 1 _ _ _ HS2.out
 have q2 := cR _ _ 2 _ _ _ HS2.out
 have q3 := cR _ _ 3 _ _ _ HS2.out
 simp only [gA, gZ, gU] at q0 q1 q2 q3
 cases hqq : sameFs r.str.fields r.fields with
 | false =>
  have HF : Hid (sndS r = false) := hid (sndS_no (fun h => by rw [h.2.2.1] at hqq; cases hqq))
  clear hqq
  go_wp2
  go_ret
  exact ⟨by rw [HF.out]; rfl, HB2.out⟩
 | true =>
 have HQQ := hid hqq
 clear hqq
 by_cases k7 : ¬ r.str.next = r.base + r.pushed
 ·have g7 : (r.str.next == r.base + r.pushed) = false := beq_false_of_ne k7
  have HF : Hid (sndS r = false) := hid (sndS_no (fun h => k7 h.2.2.2))
  clear k7
  go_wp2
  go_ret
  exact ⟨by rw [HF.out]; rfl, HB2.out⟩
 replace k7 := Decidable.not_not.1 k7
 have g7 : (r.str.next == r.base + r.pushed) = true := beq_iff_eq.2 k7
 have HF : Hid (sndS r = true) := hid (sndS_yes ⟨HSS.out, HOP.out, HQQ.out, k7⟩)
 clear k7
 go_wp2
 go_ret
 exact ⟨by rw [HF.out]; rfl, HB2.out⟩
set_option maxRecDepth 100000 in
set_option maxHeartbeats 16000000 in
theorem implSnd_any (r : PSnd) (a0 a3 a1 a2 b2 : Option Addr) (c0 c3 c1 c2 d2 : Nat) (w : World) (hr : RdSnd w r a0 c0 a3 c3 a1 c1 a2 c2 b2 d2) (ht : tSnd r ≤ 1048576) :
  Calls Tryz.prog 32 #[.agg #[.slice a0 r.fields.length c0, .int .i64 r.epoch, .int .i64 r.base, .slice a3 r.tables.length c3, .int .i64 r.pushed, .int .i64 r.out.epoch, .int .i64 r.out.next, .int .i64 r.out.now, .slice a1 r.out.wait.length c1, .bool r.str.opened, .slice a2 r.str.fields.length c2, .int .i64 r.str.next, .slice b2 r.str.dicts.length d2]] w fun e w' => e = .returned (.bool (sndOK r)) ∧ Below w.heap.size w w' := by
 have HR := hid hr
 clear hr
 have HK0 : Hid ((w.alloc (.cells #[.slice a0 r.fields.length c0, .int .i64 r.epoch, .int .i64 r.base, .slice a3 r.tables.length c3, .int .i64 r.pushed, .int .i64 r.out.epoch, .int .i64 r.out.next, .int .i64 r.out.now, .slice a1 r.out.wait.length c1, .bool r.str.opened, .slice a2 r.str.fields.length c2, .int .i64 r.str.next, .slice b2 r.str.dicts.length d2] 45)).heap[w.heap.size]? = some (.cells #[.slice a0 r.fields.length c0, .int .i64 r.epoch, .int .i64 r.base, .slice a3 r.tables.length c3, .int .i64 r.pushed, .int .i64 r.out.epoch, .int .i64 r.out.next, .int .i64 r.out.now, .slice a1 r.out.wait.length c1, .bool r.str.opened, .slice a2 r.str.fields.length c2, .int .i64 r.str.next, .slice b2 r.str.dicts.length d2] 45 (0, 0))) := hid (heap_alloc_new w _)
 have HB0 := hid (bN w (.cells #[.slice a0 r.fields.length c0, .int .i64 r.epoch, .int .i64 r.base, .slice a3 r.tables.length c3, .int .i64 r.pushed, .int .i64 r.out.epoch, .int .i64 r.out.next, .int .i64 r.out.now, .slice a1 r.out.wait.length c1, .bool r.str.opened, .slice a2 r.str.fields.length c2, .int .i64 r.str.next, .slice b2 r.str.dicts.length d2] 45))
 have hT : totL totT r.tables ≤ 1048576 ∧ tStr r.str ≤ 1048576 := by unfold tSnd at ht; omega
 have hln : r.str.fields.length ≤ 1048576 ∧ r.tables.length ≤ 1048576 := by
  have h1 := hT.1
  have h2 := hT.2
  unfold tStr at h2
  unfold totL at h1 h2
  omega
 go_enter Tryz.func32, Tryz.ntmps32
 go_upto_region 1 with fail
 generalize (w.alloc (.cells #[.slice a0 r.fields.length c0, .int .i64 r.epoch, .int .i64 r.base, .slice a3 r.tables.length c3, .int .i64 r.pushed, .int .i64 r.out.epoch, .int .i64 r.out.next, .int .i64 r.out.now, .slice a1 r.out.wait.length c1, .bool r.str.opened, .slice a2 r.str.fields.length c2, .int .i64 r.str.next, .slice b2 r.str.dicts.length d2] 45)) = W0 at *
 have p0 := cR _ _ 0 _ _ _ HK0.out
 have p1 := cR _ _ 1 _ _ _ HK0.out
 have p2 := cR _ _ 2 _ _ _ HK0.out
 have p3 := cR _ _ 3 _ _ _ HK0.out
 have p4 := cR _ _ 4 _ _ _ HK0.out
 have p5 := cR _ _ 5 _ _ _ HK0.out
 have p6 := cR _ _ 6 _ _ _ HK0.out
 have p7 := cR _ _ 7 _ _ _ HK0.out
 have p8 := cR _ _ 8 _ _ _ HK0.out
 have p9 := cR _ _ 9 _ _ _ HK0.out
 have p10 := cR _ _ 10 _ _ _ HK0.out
 have p11 := cR _ _ 11 _ _ _ HK0.out
 have p12 := cR _ _ 12 _ _ _ HK0.out
 simp only [gA, gZ, gU] at p0 p1 p2 p3 p4 p5 p6 p7 p8 p9 p10 p11 p12
 go_wp2_with fail
 refine (implFields_any a0 c0 r.fields W0 (HR.out.f.later HB0.out)).mono ?_
 rintro e w2 ⟨rfl, b1⟩
 have HK1 := hid (boxSd HK0.out b1)
 have HB1 := hid (bC HB0.out b1)
 clear b1 p0 p1 p2 p3 p4 p5 p6 p7 p8 p9 p10 p11 p12
 have p0 := cR _ _ 0 _ _ _ HK1.out
 have p1 := cR _ _ 1 _ _ _ HK1.out
 have p2 := cR _ _ 2 _ _ _ HK1.out
 have p3 := cR _ _ 3 _ _ _ HK1.out
 have p4 := cR _ _ 4 _ _ _ HK1.out
 have p5 := cR _ _ 5 _ _ _ HK1.out
 have p6 := cR _ _ 6 _ _ _ HK1.out
 have p7 := cR _ _ 7 _ _ _ HK1.out
 have p8 := cR _ _ 8 _ _ _ HK1.out
 have p9 := cR _ _ 9 _ _ _ HK1.out
 have p10 := cR _ _ 10 _ _ _ HK1.out
 have p11 := cR _ _ 11 _ _ _ HK1.out
 have p12 := cR _ _ 12 _ _ _ HK1.out
 simp only [gA, gZ, gU] at p0 p1 p2 p3 p4 p5 p6 p7 p8 p9 p10 p11 p12
 cases hff : fieldsOK r.fields with
 | false =>
  have HF : Hid (sndOK r = false) := hid (sndOK_no (fun h => by rw [h.1] at hff; cases hff))
  clear hff
  go_wp2
  go_ret
  exact ⟨by rw [HF.out]; rfl, HB1.out⟩
 | true =>
 have HFF := hid hff
 clear hff
 by_cases k2 : ¬ r.epoch = r.out.epoch
 ·have g2 : (r.epoch != r.out.epoch) = true := by simpa using k2
  have HF : Hid (sndOK r = false) := hid (sndOK_no (fun h => by exact k2 h.2.1.2.2.symm))
  go_wp2
  go_ret
  exact ⟨by rw [HF.out]; rfl, HB1.out⟩
 replace k2 := Decidable.not_not.1 k2
 have g2 : (r.epoch != r.out.epoch) = false := by simpa using k2
 have HE0 := hid k2
 clear k2
 go_wp2_with fail
 refine (implVO_any r.out a1 c1 w2 (HR.out.o.later HB1.out)).mono ?_
 rintro e w3 ⟨rfl, b2⟩
 have HK2 := hid (boxSd HK1.out b2)
 have HB2 := hid (bC HB1.out b2)
 clear b2 p0 p1 p2 p3 p4 p5 p6 p7 p8 p9 p10 p11 p12
 have p0 := cR _ _ 0 _ _ _ HK2.out
 have p1 := cR _ _ 1 _ _ _ HK2.out
 have p2 := cR _ _ 2 _ _ _ HK2.out
 have p3 := cR _ _ 3 _ _ _ HK2.out
 have p4 := cR _ _ 4 _ _ _ HK2.out
 have p5 := cR _ _ 5 _ _ _ HK2.out
 have p6 := cR _ _ 6 _ _ _ HK2.out
 have p7 := cR _ _ 7 _ _ _ HK2.out
 have p8 := cR _ _ 8 _ _ _ HK2.out
 have p9 := cR _ _ 9 _ _ _ HK2.out
 have p10 := cR _ _ 10 _ _ _ HK2.out
 have p11 := cR _ _ 11 _ _ _ HK2.out
 have p12 := cR _ _ 12 _ _ _ HK2.out
 simp only [gA, gZ, gU] at p0 p1 p2 p3 p4 p5 p6 p7 p8 p9 p10 p11 p12
 cases hoo : outOK r.out with
 | false =>
  have HF : Hid (sndOK r = false) := hid (sndOK_no (fun h => by rw [h.2.2.1] at hoo; cases hoo))
  clear hoo
  go_wp2
  go_ret
  exact ⟨by rw [HF.out]; rfl, HB2.out⟩
 | true =>
 have HOO := hid hoo
 clear hoo
 have HE : Hid (SndE r) := hid (by have h := outOK_epoch HOO.out; have h2 := HE0.out; exact ⟨by omega, by omega, h2.symm⟩)
 by_cases k3 : 20 < r.tables.length
 ·have g3 : decide ((20 : Int) < (r.tables.length : Int)) = true := decide_eq_true (by omega)
  have HF : Hid (sndOK r = false) := hid (sndOK_no (fun h => by have := h.2.2.2.2.1; omega))
  go_wp2
  go_ret
  exact ⟨by rw [HF.out]; rfl, HB2.out⟩
 have g3 : decide ((20 : Int) < (r.tables.length : Int)) = false := decide_eq_false (by omega)
 go_wp2_with fail
 refine (within_any r.base 0 (1000000000 - (r.tables.length : Int)) w3).mono ?_
 rintro e v ⟨rfl, hv⟩
 subst v
 by_cases kb : ¬ (0 ≤ r.base ∧ r.base ≤ (1000000000 - (r.tables.length : Int)))
 ·rw [decide_eq_false kb]
  have HF : Hid (sndOK r = false) := hid (sndOK_no (fun h => by exact kb h.2.2.2.1))
  clear kb
  go_wp2
  go_ret
  exact ⟨by rw [HF.out]; rfl, HB2.out⟩
 replace kb := Decidable.not_not.1 kb
 rw [decide_eq_true kb]
 have Hkb : Hid (SndB r) := hid kb
 go_wp2_with fail
 refine (validTables_any r.fields r.tables a0 a3 c0 c3 w3 (HR.out.f.later HB2.out) (HR.out.t.later HB2.out) hT.1).mono ?_
 rintro e w4 ⟨rfl, b3⟩
 have HK3 := hid (boxSd HK2.out b3)
 have HB3 := hid (bC HB2.out b3)
 clear b3 p0 p1 p2 p3 p4 p5 p6 p7 p8 p9 p10 p11 p12
 have p0 := cR _ _ 0 _ _ _ HK3.out
 have p1 := cR _ _ 1 _ _ _ HK3.out
 have p2 := cR _ _ 2 _ _ _ HK3.out
 have p3 := cR _ _ 3 _ _ _ HK3.out
 have p4 := cR _ _ 4 _ _ _ HK3.out
 have p5 := cR _ _ 5 _ _ _ HK3.out
 have p6 := cR _ _ 6 _ _ _ HK3.out
 have p7 := cR _ _ 7 _ _ _ HK3.out
 have p8 := cR _ _ 8 _ _ _ HK3.out
 have p9 := cR _ _ 9 _ _ _ HK3.out
 have p10 := cR _ _ 10 _ _ _ HK3.out
 have p11 := cR _ _ 11 _ _ _ HK3.out
 have p12 := cR _ _ 12 _ _ _ HK3.out
 simp only [gA, gZ, gU] at p0 p1 p2 p3 p4 p5 p6 p7 p8 p9 p10 p11 p12
 cases htt : tabsOK r.fields r.tables with
 | false =>
  have HF : Hid (sndOK r = false) := hid (sndOK_no (fun h => by rw [h.2.2.2.2.2.1] at htt; cases htt))
  clear htt
  go_wp2
  go_ret
  exact ⟨by rw [HF.out]; rfl, HB3.out⟩
 | true =>
 have HTT := hid htt
 clear htt
 go_wp2_with fail
 refine (within_any r.pushed 0 (r.tables.length : Int) w4).mono ?_
 rintro e v ⟨rfl, hv⟩
 subst v
 by_cases kp : ¬ (0 ≤ r.pushed ∧ r.pushed ≤ (r.tables.length : Int))
 ·rw [decide_eq_false kp]
  have HF : Hid (sndOK r = false) := hid (sndOK_no (fun h => by exact kp h.2.2.2.2.2.2.1))
  clear kp
  go_wp2
  go_ret
  exact ⟨by rw [HF.out]; rfl, HB3.out⟩
 replace kp := Decidable.not_not.1 kp
 rw [decide_eq_true kp]
 have Hkp : Hid (SndP r) := hid kp
 have HL : Hid (sndOK r = sndS r) := hid (sndOK_last HFF.out HE.out HOO.out Hkb.out (by omega) HTT.out Hkp.out)
 go_wp2_with fail
 refine (validSenderStream_any r a0 a3 a1 a2 b2 c0 c3 c1 c2 d2 w4 (HR.out.later HB3.out) ht ⟨kb.1, by omega, kp.1, by omega⟩).mono ?_
 rintro e w5 ⟨rfl, b4⟩
 rw [← HL.out]
 have HB4 := hid (bC HB3.out b4)
 clear b4
 generalize hqe : sndOK r = q at *
 have HQE := hid hqe
 clear hqe
 go_wp2
 go_ret
 exact ⟨by rw [HQE.out]; rfl, HB4.out⟩
end Go.Proofs.YtfaehioeepolhabGreat
