import Derived.Test.YtfaehioeepolhabGreatJCrashSender31
import Derived.Test.YtfaehioeepolhabGreatJCrashSender10
import Derived.Test.YtfaehioeepolhabGreatJCrashSender29
import Derived.Deep.DeepCutAuto
import Derived.Test.YtfaehioeepolhabGreatJCrashSender28
import Derived.Test.YtfaehioeepolhabGreatJCrashSender7
import Derived.Test.YtfaehioeepolhabGreatJCrashSender23
namespace Go.Proofs.YtfaehioeepolhabGreat
open Go.RowKit Go.Maps
set_option maxHeartbeats 8000000 in
theorem implTable_any (a a2 : Option Addr) (cap c2 : Nat) (fs : List PF) (t : PT) (w : World) (hr : RdSl cField w fs (.slice a fs.length cap)) (hr2 : RdSl cCell w t.cells (.slice a2 t.cells.length c2)) (ht : totT t ≤ 1048576) :
  Calls Tryz.prog 33 #[.slice a fs.length cap, .agg #[.int .i64 t.rows, .slice a2 t.cells.length c2]] w fun e w' => e = .returned (.bool (tableOK fs t)) ∧ Below w.heap.size w w' := by
 have HR := hid hr
 have HR2 := hid hr2
 have hcl : t.cells.length ≤ 1048576 := by unfold totT totL at ht; omega
 have HQ : Hid (Calls Tryz.prog 74 #[.slice a fs.length cap] (w.alloc (.cells #[.int .i64 t.rows, .slice a2 t.cells.length c2] 51)) fun e w' => e = .returned (.bool (fieldsOK fs)) ∧ w'.heap[w.heap.size]? = some (.cells #[.int .i64 t.rows, .slice a2 t.cells.length c2] 51 (0, 0)) ∧ Below w.heap.size w w') := hid (by
  have hb1 := bN w (.cells #[.int .i64 t.rows, .slice a2 t.cells.length c2] 51)
  refine (implFields_any a cap fs _ (hr.later hb1)).mono ?_
  rintro e w' ⟨rfl, b⟩
  exact ⟨rfl, heap1 _ (b.mono (by simp)), hb1.trans (b.mono hb1.size)⟩)
 clear hr hr2
 cases hf : fieldsOK fs
 ·have HX := hid (tableOK_fields (t := t) hf)
  rw [hf] at HQ
  go_enter Tryz.func33, Tryz.ntmps33
  go_wp2_with fail
  refine HQ.out.mono ?_
  rintro e w2 ⟨rfl, -, b2⟩
  have HB := hid b2
  clear b2
  go_wp2
  go_ret
  exact ⟨by rw [HX.out]; rfl, HB.out⟩
 rw [hf] at HQ
 have HF := hid hf
 have hfl := fields_len hf
 clear hf
 by_cases hrows : 0 ≤ t.rows ∧ t.rows ≤ 100
 ·obtain ⟨R, hR⟩ : ∃ R : Nat, t.rows = (R : Int) := ⟨t.rows.toNat, by omega⟩
  have hR2 : R ≤ 100 := by omega
  obtain ⟨pr, hpr⟩ : ∃ pr : Nat, pr = fs.length * R := ⟨_, rfl⟩
  have hm : (R : Int) * (fs.length : Int) = (pr : Int) := by rw [hpr, Nat.mul_comm]; simp
  have hprl : pr ≤ 1200 := by rw [hpr]; exact Nat.le_trans (Nat.mul_le_mul hfl hR2) (by omega)
  have HPR := hid hpr
  have HRR := hid hR
  by_cases hlen : t.cells.length = pr
  ·have HLEN : Hid (t.cells.length = fs.length * R) := hid (by rw [hlen, hpr])
   have htot : txt t.cells + t.cells.length ≤ 1048576 := by unfold totT totL at ht; unfold txt; omega
   rw [hR] at HQ ⊢
   exact implTable_main a a2 cap c2 fs t R pr w HR HR2 hcl HQ HF hfl hR2 hm hprl HRR hlen HLEN htot
  ·have HX : Hid (tableOK fs t = false) := hid (tableOK_len (by rw [hR]; intro h; apply hlen; rw [Int.mul_comm] at h; omega))
   have hne : ((t.cells.length : Int) != (pr : Int)) = true := by simp; omega
   rw [hR] at HQ ⊢
   clear hrows hR hpr
   go_enter Tryz.func33, Tryz.ntmps33
   go_wp2_with fail
   refine HQ.out.mono ?_
   rintro e w2 ⟨rfl, k2, b2⟩
   have HB := hid b2
   have p0 := cR w2 _ 0 _ _ _ k2
   have p1 := cR w2 _ 1 _ _ _ k2
   simp at p0 p1
   clear b2 k2
   go_wp2_with fail
   refine (validRows_any _ _).mono ?_
   rintro e w2 ⟨rfl, rfl⟩
   rw [decide_eq_true (show (0 : Int) ≤ (R : Int) ∧ (R : Int) ≤ 100 by omega)]
   go_wp2
   go_ret
   exact ⟨by rw [HX.out]; rfl, HB.out⟩
 ·have HX : Hid (tableOK fs t = false) := hid (by
   by_cases h0 : 0 ≤ t.rows
   ·exact tableOK_high (by omega)
   ·exact tableOK_low (by omega))
  have hd := decide_eq_false hrows
  clear hrows
  go_enter Tryz.func33, Tryz.ntmps33
  go_wp2_with fail
  refine HQ.out.mono ?_
  rintro e w2 ⟨rfl, k2, b2⟩
  have HB := hid b2
  have p0 := cR w2 _ 0 _ _ _ k2
  have p1 := cR w2 _ 1 _ _ _ k2
  simp at p0 p1
  clear b2 k2
  have HD := hid hd
  clear hd
  go_wp2_with fail
  refine (validRows_any _ _).mono ?_
  rintro e w2 ⟨rfl, rfl⟩
  rw [HD.out]
  go_wp2
  go_ret
  exact ⟨by rw [HX.out]; rfl, HB.out⟩
end Go.Proofs.YtfaehioeepolhabGreat
namespace Go.Proofs.YtfaehioeepolhabGreat
open Go.RowKit
def tabsOK (fs : List PF) (ts : List PT) : Bool := ts.all fun t => tableOK fs t
theorem tabsOK_no {fs : List PF} {ts : List PT} {k : Nat} (hk : k < ts.length) (h : tableOK fs ts[k] = false) : tabsOK fs ts = false := by
 unfold tabsOK
 rw [List.all_eq_false]
 exact ⟨ts[k], List.getElem_mem _, by simp [h]⟩
theorem tabsOK_yes {fs : List PF} {ts : List PT} (h : ∀ k, (hk : k < ts.length) → tableOK fs ts[k] = true) : tabsOK fs ts = true := by
 unfold tabsOK
 rw [List.all_eq_true]
 intro t ht
 obtain ⟨k, hk, rfl⟩ := List.getElem_of_mem ht
 exact h k hk
set_option maxRecDepth 100000 in
set_option maxHeartbeats 4000000 in
theorem validTables_any (fs : List PF) (ts : List PT) (a b : Option Addr) (c d : Nat) (w : World) (hr : RdSl cField w fs (.slice a fs.length c)) (hr2 : RdSl cTable w ts (.slice b ts.length d)) (ht : totL totT ts ≤ 1048576) :
  Calls Tryz.prog 77 #[.slice a fs.length c, .slice b ts.length d] w fun e w' => e = .returned (.bool (tabsOK fs ts)) ∧ Below w.heap.size w w' := by
 have HR := hid hr
 have HR2 := hid hr2
 clear hr hr2
 have hlen : ts.length ≤ 1048576 := by unfold totL at ht; omega
 go_enter Tryz.func77, Tryz.ntmps77
 go_wp2
 go_loopw [6, 9] (fun _ i wr => ∃ k : Nat, k ≤ ts.length ∧ i = .int .i64 k ∧ (∀ j, (hj : j < ts.length) → j < k → tableOK fs ts[j] = true) ∧ Below w.heap.size w wr) (fun _ i _ => ts.length - (intOf i).toNat)
 case atStart => exact ⟨0, Nat.zero_le _, rfl, fun j _ h => absurd h (by omega), Below.refl _ _⟩
 case round =>
  obtain ⟨k, hk, rfl, hall, hbe⟩ := hrel
  have HA := hid hall
  have HB := hid hbe
  clear hall hbe
  by_cases hlt : k < ts.length
  ·obtain ⟨bb, off, es, rfl, hes, hcs⟩ := (HR2.out.later HB.out).atN hlt
   obtain ⟨a0, c0, rfl, hrc, -⟩ := cTable_shape hes
   have d0 : wr.cell? ⟨bb, off + k * 2, none⟩ = some (.int .i64 ts[k].rows) := by have h := hcs 0 (by decide); rw [show cTable.n = 2 from rfl] at h; simpa [Nat.add_assoc] using h
   have d1 : wr.cell? ⟨bb, off + k * 2 + 1, none⟩ = some (.slice a0 ts[k].cells.length c0) := by have h := hcs 1 (by decide); rw [show cTable.n = 2 from rfl] at h; simpa [Nat.add_assoc] using h
   have hki : (k : Int) < (ts.length : Int) := by omega
   have hnl : totT ts[k] ≤ 1048576 := by have h := tot_at totT ts k hlt; unfold totL at ht; exact Nat.le_trans h (by omega)
   have HRC := hid hrc
   clear hes hcs hrc
   have HBX := hid (bN wr (.cells #[.int .i64 ts[k].rows, .slice a0 ts[k].cells.length c0] 51))
   have HK : Hid ((wr.alloc (.cells #[.int .i64 ts[k].rows, .slice a0 ts[k].cells.length c0] 51)).heap[wr.heap.size]? = some (.cells #[.int .i64 ts[k].rows, .slice a0 ts[k].cells.length c0] 51 (0, 0))) := hid (heap_alloc_new _ _)
   go_upto_region 4 with fail
   generalize (wr.alloc (.cells #[.int .i64 ts[k].rows, .slice a0 ts[k].cells.length c0] 51)) = W1 at *
   have e0 := cR _ _ 0 _ _ _ HK.out
   have e1 := cR _ _ 1 _ _ _ HK.out
   simp only [gA, gZ, gU] at e0 e1
   have HB1 := hid (bC HB.out HBX.out)
   go_wp2_with fail
   refine (implTable_any a a0 c c0 fs ts[k] W1 (HR.out.later HB1.out) (HRC.out.later HBX.out) hnl).mono ?_
   rintro e w2 ⟨rfl, b2⟩
   have HB2 := hid (bC HB1.out b2)
   clear b2 d0 d1 e0 e1
   cases hq : tableOK fs ts[k] with
   | false =>
    have HF := hid (tabsOK_no hlt hq)
    clear hq
    go_wp2
    go_ret
    exact ⟨by rw [HF.out]; rfl, HB2.out⟩
   | true =>
    have HA2 : Hid (∀ j, (hj : j < ts.length) → j < k + 1 → tableOK fs ts[j] = true) := hid (fun j hj h => by
     by_cases e : j = k
     ·subst e; exact hq
     ·exact HA.out j hj (by omega))
    clear hq
    go_wp2
    go_roundw
    case rel => exact ⟨k + 1, by omega, by go_num, HA2.out, HB2.out⟩
    case measure => simp [intOf]; omega
  ·obtain rfl : k = ts.length := by omega
   have HF := hid (tabsOK_yes (fun j hj => HA.out j hj hj))
   go_wp2
   go_ret
   exact ⟨by rw [HF.out]; rfl, HB.out⟩
set_option maxRecDepth 100000 in
set_option maxHeartbeats 4000000 in
theorem l6tablesOK_any (fs : List PF) (ts : List PT) (a b : Option Addr) (c d : Nat) (w : World) (hr : RdSl cField w fs (.slice a fs.length c)) (hr2 : RdSl cTable w ts (.slice b ts.length d)) (ht : totL totT ts ≤ 1048576) :
  Calls Tryz.prog 59 #[.slice a fs.length c, .slice b ts.length d] w fun e w' => e = .returned (.bool (decide (ts.length ≤ 20) && tabsOK fs ts)) ∧ Below w.heap.size w w' := by
 have HR := hid hr
 have HR2 := hid hr2
 clear hr hr2
 have hlen : ts.length ≤ 1048576 := by unfold totL at ht; omega
 by_cases h20 : ts.length ≤ 20
 ·rw [decide_eq_true h20, Bool.true_and]
  have h20t : decide ((20 : Int) < (ts.length : Int)) = false := decide_eq_false (by omega)
  clear h20
  go_enter Tryz.func59, Tryz.ntmps59
  go_wp2
  go_loopw [5] (fun i wr => ∃ k : Nat, k ≤ ts.length ∧ i = .int .i64 k ∧ (∀ j, (hj : j < ts.length) → j < k → tableOK fs ts[j] = true) ∧ Below w.heap.size w wr) (fun i _ => ts.length - (intOf i).toNat)
  case atStart => exact ⟨0, Nat.zero_le _, rfl, fun j _ h => absurd h (by omega), Below.refl _ _⟩
  case round =>
   obtain ⟨k, hk, rfl, hall, hbe⟩ := hrel
   have HA := hid hall
   have HB := hid hbe
   clear hall hbe
   by_cases hlt : k < ts.length
   ·obtain ⟨bb, off, es, rfl, hes, hcs⟩ := (HR2.out.later HB.out).atN hlt
    obtain ⟨a0, c0, rfl, hrc, -⟩ := cTable_shape hes
    have d0 : wr.cell? ⟨bb, off + k * 2, none⟩ = some (.int .i64 ts[k].rows) := by have h := hcs 0 (by decide); rw [show cTable.n = 2 from rfl] at h; simpa [Nat.add_assoc] using h
    have d1 : wr.cell? ⟨bb, off + k * 2 + 1, none⟩ = some (.slice a0 ts[k].cells.length c0) := by have h := hcs 1 (by decide); rw [show cTable.n = 2 from rfl] at h; simpa [Nat.add_assoc] using h
    have hki : (k : Int) < (ts.length : Int) := by omega
    have hnl : totT ts[k] ≤ 1048576 := by have h := tot_at totT ts k hlt; unfold totL at ht; exact Nat.le_trans h (by omega)
    have HRC := hid hrc
    clear hes hcs hrc
    go_wp2_with fail
    refine (specTable_any a a0 c c0 fs ts[k] wr (HR.out.later HB.out) HRC.out hnl).mono ?_
    rintro e w2 ⟨rfl, b2⟩
    have HB2 := hid (bC HB.out b2)
    clear b2 d0 d1
    cases hq : tableOK fs ts[k] with
    | false =>
     have HF := hid (tabsOK_no hlt hq)
     clear hq
     go_wp2
     go_ret
     exact ⟨by rw [HF.out]; rfl, HB2.out⟩
    | true =>
     have HA2 : Hid (∀ j, (hj : j < ts.length) → j < k + 1 → tableOK fs ts[j] = true) := hid (fun j hj h => by
      by_cases e : j = k
      ·subst e; exact hq
      ·exact HA.out j hj (by omega))
     clear hq
     go_wp2
     go_roundw
     case rel => exact ⟨k + 1, by omega, by go_num, HA2.out, HB2.out⟩
     case measure => simp [intOf]; omega
   ·obtain rfl : k = ts.length := by omega
    have HF := hid (tabsOK_yes (fun j hj => HA.out j hj hj))
    go_wp2
    go_ret
    exact ⟨by rw [HF.out]; rfl, HB.out⟩
 ·have h20t : decide ((20 : Int) < (ts.length : Int)) = true := decide_eq_true (by omega)
  rw [decide_eq_false h20]
  clear h20
  go_enter Tryz.func59, Tryz.ntmps59
  go_wp2
  go_ret
  exact ⟨rfl, Below.refl _ _⟩
end Go.Proofs.YtfaehioeepolhabGreat
namespace Go.Proofs.YtfaehioeepolhabGreat
open Go.RowKit Go.Maps
set_option maxHeartbeats 2000000 in
theorem specDict_any (a : Option Addr) (cap : Nat) (vs : List (List Nat)) (w : World) (hr : RdSl cSS w vs (.slice a vs.length cap)) (ht : totL List.length vs ≤ 1048576) :
  Calls Tryz.prog 110 #[.slice a vs.length cap] w fun e w' => e = .returned (.bool (dictOK vs)) ∧ Below w.heap.size w w' := by
 have HR := hid hr
 clear hr
 rw [totL_tot] at ht
 by_cases h1 : 40 < vs.length
 ·have HD := hid (dictOK_len (vs := vs) (by omega))
  go_enter Tryz.func110, Tryz.ntmps110
  go_wp2
  go_ret
  exact ⟨by rw [HD.out]; rfl, Below.refl _ _⟩
 go_enter Tryz.func110, Tryz.ntmps110
 go_wp2
 go_loopw [3, 4] (fun s i wr => ∃ k : Nat, k ≤ vs.length ∧ i = .int .i64 k ∧ s = .int .i64 ((tot (vs.take k) : Nat) : Int) ∧ dictTo vs k = true ∧ Below w.heap.size w wr) (fun _ i _ => vs.length - (intOf i).toNat)
 case atStart => exact ⟨0, Nat.zero_le _, rfl, by simp [tot], by simp [dictTo, tot], Below.refl _ _⟩
 case round =>
  obtain ⟨k, hk, rfl, rfl, hok, hbe⟩ := hrel
  have HB := hid hbe
  have HO := hid hok
  clear hbe hok
  by_cases hlt : k < vs.length
  ·obtain ⟨b, off, a', c', rfl, hcb, hrr⟩ := (HR.out.later HB.out).row hlt
   obtain ⟨_, _, e', -, -, -, hrd, hby⟩ := hrr.bytes
   simp only [Value.slice.injEq] at e'
   obtain ⟨rfl, -, rfl⟩ := e'
   have hki : (k : Int) < (vs.length : Int) := by omega
   have hkc : (k : Int) ≤ (cap : Int) := by
    obtain ⟨_, cap', e', hc, _⟩ := HR.out
    simp at e'
    omega
   have HTS := hid (tot_snoc vs k hlt)
   have h3 := tot_take vs k
   have h4 := len_le_tot vs k hlt
   have HQ : Hid (∀ n, Calls Tryz.prog 112 #[.slice (some ⟨b, off, none⟩) k cap, .slice a' vs[k].length c'] (wr.drewN n) fun e w' => e = .returned (.int .i64 (place (vs.take k) vs[k])) ∧ ∃ m, w' = (wr.drewN n).drewN m) := hid (fun n => by
    have hlen : (vs.take k).length = k := by simp; omega
    have h := l2place_any (some ⟨b, off, none⟩) a' cap c' (vs.take k) vs[k] (wr.drewN n) (by rw [hlen]; exact ((HR.out.later HB.out).later (below_drewN (Below.refl _ _) n)).take (by omega)) (hrd.later (below_drewN (Below.refl _ _) n)) hby (by omega)
    rw [hlen] at h
    refine h.mono ?_
    rintro e w' ⟨rfl, rfl⟩
    exact ⟨rfl, 0, rfl⟩)
   have HP := hid (place_neg (vs := vs.take k) (t := vs[k]))
   clear hrr hrd hby
   generalize tot (vs.take k) = t at *
   generalize place (vs.take k) vs[k] = p at *
   by_cases hbig : 4000 < t + vs[k].length
   ·have HX := hid (dictTo_bad hlt (.inl (by rw [HTS.out]; exact hbig)))
    have hd : decide ((4000 : Int) < (t : Int) + (vs[k].length : Int)) = true := decide_eq_true (by omega)
    go_wp2
    go_quiet (fail)
    go_wp2
    go_ret
    exact ⟨by rw [HX.out]; rfl, below_drewN HB.out _⟩
   ·have hd : decide ((4000 : Int) < (t : Int) + (vs[k].length : Int)) = false := decide_eq_false (by omega)
    go_wp2
    go_quiet ((go_at_call 112; exact Calls.quiet_of (HQ.out _)))
    by_cases hp : p < 0
    ·have HX := hid (dictTo_succ hlt HO.out (by rw [HTS.out]; omega) (HP.out.1 hp))
     go_wp2
     go_roundw
     case rel => exact ⟨k + 1, by omega, by go_num, by rw [HTS.out]; go_num, HX.out, below_drewN HB.out _⟩
     case measure => simp [intOf]; omega
    ·have HX := hid (dictTo_bad hlt (.inr (Classical.not_not.1 (fun h => hp (HP.out.2 h)))))
     go_wp2
     go_ret
     exact ⟨by rw [HX.out]; rfl, below_drewN HB.out _⟩
  ·obtain rfl : k = vs.length := by omega
   have HX : Hid (dictOK vs = true) := hid (by unfold dictOK; rw [decide_eq_true (show vs.length ≤ 40 by omega), HO.out]; rfl)
   go_wp2
   go_ret
   exact ⟨by rw [HX.out]; rfl, HB.out⟩
end Go.Proofs.YtfaehioeepolhabGreat
namespace Go.Proofs.YtfaehioeepolhabGreat
open Go.RowKit Go.Maps Go.WideMaps
set_option maxHeartbeats 1000000 in
theorem implDict_any (a : Option Addr) (cap : Nat) (vs : List (List Nat)) (w : World) (hr : RdSl cSS w vs (.slice a vs.length cap)) (ht : totL List.length vs ≤ 1048576) :
  Calls Tryz.prog 158 #[.slice a vs.length cap] w fun e w' => e = .returned (.bool (dictOK vs)) ∧ Below w.heap.size w w' := by
 have hlen : vs.length ≤ 1048576 := by unfold totL at ht; omega
 by_cases h1 : 40 < vs.length
 ·have HD := hid (dictOK_len (vs := vs) (by omega))
  go_enter Tryz.func158, Tryz.ntmps158
  go_wp2
  go_ret
  exact ⟨by rw [HD.out]; rfl, Below.refl _ _⟩
 have HQ := hid (bytesOfTexts_any a cap vs w hr ht)
 have HN := hid (newDict_any a cap vs w hr ht)
 have HOK := hid hr.allOK
 have HT : Hid (¬ tot vs ≤ 4000 → dictOK vs = false) := hid dictOK_tot
 have HC : Hid (tot vs ≤ 4000 → dictOK vs = decide (cnt vs vs.length = vs.length)) := hid (dictOK_cnt vs (by omega))
 have htot : tot vs ≤ 1048576 := by rw [totL_tot] at ht; omega
 clear hr ht
 generalize tot vs = t at *
 by_cases h2 : 4000 < t
 ·have HX := hid (HT.out (by omega))
  go_enter Tryz.func158, Tryz.ntmps158
  go_wp2_with fail
  refine HQ.out.mono ?_
  rintro e w ⟨rfl, rfl⟩
  go_wp2
  go_ret
  exact ⟨by rw [HX.out]; rfl, Below.refl _ _⟩
 ·have HX := hid (HC.out (by omega))
  go_enter Tryz.func158, Tryz.ntmps158
  go_wp2_with fail
  refine HQ.out.mono ?_
  rintro e w ⟨rfl, rfl⟩
  go_wp2_with fail
  refine HN.out.mono ?_
  rintro e w2 ⟨m, rfl, hm, ho, b2⟩
  have HS : Hid (Maps.size (dmap vs vs.length) = cnt vs vs.length) := hid (dmap_size HOK.out vs.length (Nat.le_refl _))
  have HO := hid ho
  have HB := hid b2
  clear ho b2
  have hfd := dictField1 (.slice a vs.length cap) (.map (some m)) w2
  have hln := HO.out.len Tryz.underlying153 3
  rw [HS.out] at hln
  have hcn := cnt_le vs vs.length
  generalize hc : cnt vs vs.length = c at *
  go_wp2
  go_ret
  exact ⟨by rw [HX.out]; simp; exact natBeq _ _, HB.out⟩
end Go.Proofs.YtfaehioeepolhabGreat
namespace Go.Proofs.YtfaehioeepolhabGreat
open Go.RowKit
def dOK (f : PF) (d : List (List Nat)) : Bool := dictOK d && (f.kind == 3 || d.length == 0)
def dictsOK (fs : List PF) (ds : List (List (List Nat))) : Bool := (List.range ds.length).all fun i => dOK (fs[i]?.getD ⟨[], 0, 0⟩) (ds[i]?.getD [])
def strOK (s : PStr) : Bool :=
 if s.opened = false then decide (s.fields.length = 0 ∧ s.next = 0 ∧ s.dicts.length = 0)
 else fieldsOK s.fields && decide (0 ≤ s.next ∧ s.next ≤ 1000000000 ∧ s.dicts.length = s.fields.length) && dictsOK s.fields s.dicts
theorem strOK_shut {s : PStr} (h : s.opened = false) : strOK s = decide (s.fields.length = 0 ∧ s.next = 0 ∧ s.dicts.length = 0) := by unfold strOK; rw [if_pos h]
theorem strOK_open {s : PStr} (h : s.opened = true) : strOK s = (fieldsOK s.fields && decide (0 ≤ s.next ∧ s.next ≤ 1000000000 ∧ s.dicts.length = s.fields.length) && dictsOK s.fields s.dicts) := by unfold strOK; rw [if_neg (by simp [h])]
theorem dictsOK_no {fs : List PF} {ds : List (List (List Nat))} {k : Nat} (hk : k < ds.length) (hf : k < fs.length) (h : dOK fs[k] ds[k] = false) : dictsOK fs ds = false := by
 unfold dictsOK
 rw [List.all_eq_false]
 exact ⟨k, List.mem_range.2 hk, by simp [hk, hf, h]⟩
theorem dictsOK_yes {fs : List PF} {ds : List (List (List Nat))} (hl : ds.length = fs.length) (h : ∀ k, (hk : k < ds.length) → (hf : k < fs.length) → dOK fs[k] ds[k] = true) : dictsOK fs ds = true := by
 unfold dictsOK
 rw [List.all_eq_true]
 intro k hk
 have hk' := List.mem_range.1 hk
 have := h k hk' (by omega)
 simpa [hk', show k < fs.length from by omega] using this
set_option maxHeartbeats 2000000 in
theorem specStr_any (s : PStr) (a b : Option Addr) (c d : Nat) (w : World) (hr : RdStr w s a c b d) (ht : tStr s ≤ 1048576) :
  Calls Tryz.prog 60 #[.agg #[.bool s.opened, .slice a s.fields.length c, .int .i64 s.next, .slice b s.dicts.length d]] w fun e w' => e = .returned (.bool (strOK s)) ∧ Below w.heap.size w w' := by
 have HR := hid hr
 have ht1 : totL fN s.fields ≤ 1048576 ∧ totL tS s.dicts ≤ 1048576 := by unfold tStr at ht; omega
 have hl1 : s.fields.length ≤ 1048576 ∧ s.dicts.length ≤ 1048576 := by unfold totL at ht1; omega
 clear hr
 cases ho : s.opened with
 | false =>
  have HE := hid (strOK_shut ho)
  clear ho
  by_cases h1 : s.fields.length = 0
  ·by_cases h2 : s.next = 0
   ·by_cases h3 : s.dicts.length = 0
    ·have HV : Hid (strOK s = true) := hid (by rw [HE.out]; exact decide_eq_true ⟨h1, h2, h3⟩)
     rw [h1, h2, h3, HV.out]
     go_enter Tryz.func60, Tryz.ntmps60
     go_wp2
     go_ret
     exact ⟨rfl, bN _ _⟩
    ·have HV : Hid (strOK s = false) := hid (by rw [HE.out]; exact decide_eq_false (fun h => h3 h.2.2))
     rw [h1, h2, HV.out]
     have h3' : ((s.dicts.length : Int) == 0) = false := by rw [beq_eq_false_iff_ne]; omega
     go_enter Tryz.func60, Tryz.ntmps60
     go_wp2
     go_ret
     exact ⟨rfl, bN _ _⟩
   ·have HV : Hid (strOK s = false) := hid (by rw [HE.out]; exact decide_eq_false (fun h => h2 h.2.1))
    rw [h1, HV.out]
    have h2' : (s.next == 0) = false := by simpa using h2
    go_enter Tryz.func60, Tryz.ntmps60
    go_wp2
    go_ret
    exact ⟨rfl, bN _ _⟩
  ·have HV : Hid (strOK s = false) := hid (by rw [HE.out]; exact decide_eq_false (fun h => h1 h.1))
   rw [HV.out]
   have h1' : ((s.fields.length : Int) == 0) = false := by rw [beq_eq_false_iff_ne]; omega
   go_enter Tryz.func60, Tryz.ntmps60
   go_wp2
   go_ret
   exact ⟨rfl, bN _ _⟩
 | true =>
  have HE := hid (strOK_open ho)
  clear ho
  have HQ := hid (specFields_any a c s.fields _ (HR.out.f.later (bN w (.cells #[.bool true, .slice a s.fields.length c, .int .i64 s.next, .slice b s.dicts.length d] 43))))
  cases hf : fieldsOK s.fields with
  | false =>
   have HV : Hid (strOK s = false) := hid (by rw [HE.out, hf]; simp)
   rw [hf] at HQ
   rw [HV.out]
   clear hf
   go_enter Tryz.func60, Tryz.ntmps60
   go_wp2_with fail
   refine HQ.out.mono ?_
   rintro e w2 ⟨rfl, b2⟩
   have HB2 := hid (bC (bN _ _) b2)
   clear b2
   go_wp2
   go_ret
   exact ⟨rfl, HB2.out⟩
  | true =>
   rw [hf] at HQ HE
   clear hf
   rw [Bool.true_and] at HE
   have HE2 : Hid (¬ (0 ≤ s.next ∧ s.next ≤ 1000000000 ∧ s.dicts.length = s.fields.length) → strOK s = false) := hid (fun h => by rw [HE.out, decide_eq_false h]; simp)
   have HE3 : Hid ((0 ≤ s.next ∧ s.next ≤ 1000000000 ∧ s.dicts.length = s.fields.length) → strOK s = dictsOK s.fields s.dicts) := hid (fun h => by rw [HE.out, decide_eq_true h]; simp)
   clear HE
   by_cases n1 : s.next < 0
   ·have HV := hid (HE2.out (by omega))
    rw [HV.out]
    go_enter Tryz.func60, Tryz.ntmps60
    go_wp2_with fail
    refine HQ.out.mono ?_
    rintro e w2 ⟨rfl, b2⟩
    have k1 := heap1 _ (by simpa using b2)
    have p2 := cR w2 _ 2 _ _ _ k1
    simp only [gA, gZ, gU] at p2
    have HB2 := hid (bC (bN _ _) b2)
    clear b2 k1
    go_wp2
    go_ret
    exact ⟨rfl, HB2.out⟩
   by_cases n2 : 1000000000 < s.next
   ·have HV := hid (HE2.out (by omega))
    rw [HV.out]
    go_enter Tryz.func60, Tryz.ntmps60
    go_wp2_with fail
    refine HQ.out.mono ?_
    rintro e w2 ⟨rfl, b2⟩
    have k1 := heap1 _ (by simpa using b2)
    have p2 := cR w2 _ 2 _ _ _ k1
    simp only [gA, gZ, gU] at p2
    have HB2 := hid (bC (bN _ _) b2)
    clear b2 k1
    go_wp2
    go_ret
    exact ⟨rfl, HB2.out⟩
   by_cases n3 : s.dicts.length = s.fields.length
   ·have HV := hid (HE3.out ⟨by omega, by omega, n3⟩)
    have HN3 := hid n3
    have n3' : ((s.dicts.length : Int) != (s.fields.length : Int)) = false := by simp; omega
    rw [HV.out]
    clear n3
    go_enter Tryz.func60, Tryz.ntmps60
    go_wp2_with fail
    refine HQ.out.mono ?_
    rintro e w2 ⟨rfl, b2⟩
    have k1 := heap1 _ (by simpa using b2)
    have p1 := cR w2 _ 1 _ _ _ k1
    have p2 := cR w2 _ 2 _ _ _ k1
    have p3 := cR w2 _ 3 _ _ _ k1
    simp only [gA, gZ, gU] at p1 p2 p3
    have HK := hid k1
    have HB2 := hid (bC (bN _ _) b2)
    clear b2 k1 HQ
    go_wp2
    go_loopw [3] (fun i wr => ∃ k : Nat, k ≤ s.dicts.length ∧ i = .int .i64 k ∧ (∀ j, (hj : j < s.dicts.length) → (hf : j < s.fields.length) → j < k → dOK s.fields[j] s.dicts[j] = true) ∧ wr.heap[w.heap.size]? = some (.cells #[.bool true, .slice a s.fields.length c, .int .i64 s.next, .slice b s.dicts.length d] 43 (0, 0)) ∧ Below w.heap.size w wr) (fun i _ => s.dicts.length - (intOf i).toNat)
    case atStart => exact ⟨0, Nat.zero_le _, rfl, fun j _ _ h => by omega, HK.out, HB2.out⟩
    case round =>
     obtain ⟨k, hk, rfl, hall, hkx, hbe⟩ := hrel
     have HALL := hid hall
     have HKx := hid hkx
     have HB := hid hbe
     clear hall hbe p1 p2 p3
     have p1 := cR wr _ 1 _ _ _ hkx
     have p3 := cR wr _ 3 _ _ _ hkx
     simp only [gA, gZ, gU] at p1 p3
     clear hkx
     by_cases hlt : k < s.dicts.length
     ·have hlf : k < s.fields.length := by have := HN3.out; omega
      have hki : (k : Int) < (s.dicts.length : Int) := by omega
      have hkf : (k : Int) < (s.fields.length : Int) := by omega
      obtain ⟨b', off, ad, cd, rfl, hcb, hrr⟩ := (HR.out.t.later HB.out).row3 hlt
      have htk : totL List.length s.dicts[k] ≤ 1048576 := by have h := tot_at tS s.dicts k hlt; unfold totL at ht1; exact Nat.le_trans h (by omega)
      have hln : s.dicts[k].length ≤ 1048576 := by unfold totL at htk; omega
      have HD := hid (specDict_any ad cd s.dicts[k] wr hrr htk)
      have HOK : Hid (dOK s.fields[k] s.dicts[k] = (dictOK s.dicts[k] && (s.fields[k].kind == 3 || s.dicts[k].length == 0))) := hid rfl
      have HNO : Hid (dOK s.fields[k] s.dicts[k] = false → dictsOK s.fields s.dicts = false) := hid (fun h => dictsOK_no hlt hlf h)
      have HYES : Hid (dOK s.fields[k] s.dicts[k] = true → ∀ j, (hj : j < s.dicts.length) → (hf : j < s.fields.length) → j < k + 1 → dOK s.fields[j] s.dicts[j] = true) := hid (fun h j hj hf hjk => by
       by_cases e : j = k
       ·subst e; exact h
       ·exact HALL.out j hj hf (by omega))
      obtain ⟨b2, o2, x0, x1, x2, e2, hes, d0, d1, d2⟩ := (HR.out.f.later HB.out).at3 rfl hlf
      obtain ⟨af, cf, e3⟩ := cField_shape hes
      simp only [List.cons.injEq, and_true] at e3
      obtain ⟨rfl, rfl, rfl⟩ := e3
      subst e2
      generalize hdx : s.dicts[k].length = dn at *
      generalize hkd : s.fields[k].kind = kd at *
      clear hes hrr htk
      cases hdk : dictOK s.dicts[k] with
      | false =>
       have HF := hid (HNO.out (by rw [HOK.out, hdk]; rfl))
       rw [hdk] at HD
       clear hdk
       go_wp2_with fail
       refine HD.out.mono ?_
       rintro e w3 ⟨rfl, b3⟩
       have HB3 := hid (bC HB.out b3)
       clear b3
       go_wp2
       go_ret
       exact ⟨by rw [HF.out]; first | done | rfl, HB3.out⟩
      | true =>
       rw [hdk] at HD HOK
       rw [Bool.true_and] at HOK
       clear hdk
       have hk2 : w.heap.size < wr.heap.size := (Array.getElem?_eq_some_iff.1 HKx.out).1
       go_wp2_with fail
       refine HD.out.mono ?_
       rintro e w3 ⟨rfl, b3⟩
       have kp : ∀ p v, wr.cell? p = some v → w3.cell? p = some v := fun p v h => (b3.cell (World.block_lt_of_cell? _ _ h)).trans h
       have p1' := kp _ _ p1
       have p3' := kp _ _ p3
       have hcb' := kp _ _ hcb
       have d1' := kp _ _ d1
       have HB3 := hid (bC HB.out b3)
       have HK3 := hid ((b3.block _ hk2).trans HKx.out)
       clear b3 p1 p3 hcb d0 d1 d2 kp
       by_cases hk3 : kd = 3
       ·have hk3' : (kd != 3) = false := by simpa using hk3
        have HY := hid (HYES.out (by rw [HOK.out, hk3]; rfl))
        clear hk3
        go_wp2
        go_roundw
        case rel => exact ⟨k + 1, by omega, by go_num, HY.out, HK3.out, HB3.out⟩
        case measure => simp [intOf]; omega
       ·have hk3' : (kd != 3) = true := by simpa using hk3
        by_cases hd0 : dn = 0
        ·have HY := hid (HYES.out (by rw [HOK.out, hd0]; simp))
         have hd0' : ¬ (0 : Int) < (dn : Int) := by omega
         clear hk3
         go_wp2
         go_roundw
         case rel => exact ⟨k + 1, by omega, by go_num, HY.out, HK3.out, HB3.out⟩
         case measure => simp [intOf]; omega
        ·have HF := hid (HNO.out (by rw [HOK.out]; simp [hk3, hd0]))
         have hd0' : (0 : Int) < (dn : Int) := by omega
         clear hk3
         go_wp2
         go_ret
         exact ⟨by rw [HF.out]; first | done | rfl, HB3.out⟩
     ·have HF := hid (dictsOK_yes HN3.out (fun j hj hf => HALL.out j hj hf (by omega)))
      have hki : ¬ (k : Int) < (s.dicts.length : Int) := by omega
      go_wp2
      go_ret
      exact ⟨by rw [HF.out]; first | done | rfl, HB.out⟩
   ·have HV := hid (HE2.out (by omega))
    rw [HV.out]
    have n3' : ((s.dicts.length : Int) != (s.fields.length : Int)) = true := by simp; omega
    clear n3
    go_enter Tryz.func60, Tryz.ntmps60
    go_wp2_with fail
    refine HQ.out.mono ?_
    rintro e w2 ⟨rfl, b2⟩
    have k1 := heap1 _ (by simpa using b2)
    have p1 := cR w2 _ 1 _ _ _ k1
    have p2 := cR w2 _ 2 _ _ _ k1
    have p3 := cR w2 _ 3 _ _ _ k1
    simp only [gA, gZ, gU] at p1 p2 p3
    have HB2 := hid (bC (bN _ _) b2)
    clear b2 k1
    go_wp2
    go_ret
    exact ⟨rfl, HB2.out⟩
end Go.Proofs.YtfaehioeepolhabGreat
