import Derived.Test.YtfaehioeepolhaaGreatJCrashReceiver27
import Derived.Test.YtfaehioeepolhaaGreatJCrashReceiver25
import Derived.Test.YtfaehioeepolhaaGreatJCrashReceiver5
import Derived.Test.YtfaehioeepolhaaGreatJCrashReceiver6
import Derived.Test.YtfaehioeepolhaaGreatJCrashReceiver21
import Derived.Carry
import Derived.Handy
import Derived.Test.YtfaehioeepolhaaGreatJCrashReceiver0
import Derived.Test.YtfaehioeepolhaaGreatJCrashReceiver8
namespace Go.Proofs.YtfaehioeepolhaaGreat
open Go.RowKit Go.Maps
set_option maxHeartbeats 8000000 in
theorem specTable_any (a a2 : Option Addr) (cap c2 : Nat) (fs : List PF) (t : PT) (w : World) (hr : RdSl cField w fs (.slice a fs.length cap)) (hr2 : RdSl cCell w t.cells (.slice a2 t.cells.length c2)) (ht : totT t ≤ 1048576) :
    Calls Tryz.prog 103 #[.slice a fs.length cap, .agg #[.int .i64 t.rows, .slice a2 t.cells.length c2]] w fun e w' => e = .returned (.bool (tableOK fs t)) ∧ Below w.heap.size w w' := by
  have HR := hid hr
  have HR2 := hid hr2
  have hcl : t.cells.length ≤ 1048576 := by unfold totT totL at ht; omega
  have HQ : Hid (Calls Tryz.prog 52 #[.slice a fs.length cap] (w.alloc (.cells #[.int .i64 t.rows, .slice a2 t.cells.length c2] 111)) fun e w' => e = .returned (.bool (fieldsOK fs)) ∧ w'.heap[w.heap.size]? = some (.cells #[.int .i64 t.rows, .slice a2 t.cells.length c2] 111 (0, 0)) ∧ Below w.heap.size w w') := hid (by
    have hb1 := below_new1 w (.cells #[.int .i64 t.rows, .slice a2 t.cells.length c2] 111)
    refine (specFields_any a cap fs _ (hr.later hb1)).mono ?_
    rintro e w' ⟨rfl, b⟩
    exact ⟨rfl, heap1 _ (b.mono (by simp)), hb1.trans (b.mono hb1.size)⟩)
  clear hr hr2
  cases hf : fieldsOK fs
  · have HX := hid (tableOK_fields (t := t) hf)
    rw [hf] at HQ
    go_enter Tryz.func103, Tryz.ntmps103
    go_wp2_with fail
    refine HQ.out.mono ?_
    rintro e w2 ⟨rfl, -, b2⟩
    have HB := hid b2
    clear b2
    go_wp2
    go_ret
    exact ⟨by rw [HX.out]; rfl, HB.out⟩
  rw [hf] at HQ
  have HF := hid hf
  have hfl := fields_len hf
  clear hf
  by_cases hrows : 0 ≤ t.rows ∧ t.rows ≤ 100
  · obtain ⟨R, hR⟩ : ∃ R : Nat, t.rows = (R : Int) := ⟨t.rows.toNat, by omega⟩
    have hR2 : R ≤ 100 := by omega
    obtain ⟨pr, hpr⟩ : ∃ pr : Nat, pr = fs.length * R := ⟨_, rfl⟩
    have hm : (fs.length : Int) * (R : Int) = (pr : Int) := by rw [hpr]; simp
    have hprl : pr ≤ 1200 := by rw [hpr]; exact Nat.le_trans (Nat.mul_le_mul hfl hR2) (by omega)
    have HPR := hid hpr
    have HRR := hid hR
    by_cases hlen : t.cells.length = pr
    · have HLEN : Hid (t.cells.length = fs.length * R) := hid (by rw [hlen, hpr])
      have htot : txt t.cells + t.cells.length ≤ 1048576 := by unfold totT totL at ht; unfold txt; omega
      rw [hR] at HQ ⊢
      exact specTable_main a a2 cap c2 fs t R pr w HR HR2 hcl HQ HF hfl hR2 hm hprl HRR hlen HLEN htot
    · have HX : Hid (tableOK fs t = false) := hid (tableOK_len (by rw [hR]; intro h; apply hlen; omega))
      have hne : ((t.cells.length : Int) != (pr : Int)) = true := by simp; omega
      rw [hR] at HQ ⊢
      clear hrows hR hpr
      go_enter Tryz.func103, Tryz.ntmps103
      go_wp2_with fail
      refine HQ.out.mono ?_
      rintro e w2 ⟨rfl, k2, b2⟩
      have HB := hid b2
      have p0 := cell_of_row w2 _ 0 _ _ _ k2
      have p1 := cell_of_row w2 _ 1 _ _ _ k2
      simp at p0 p1
      clear b2 k2
      have hRd : decide ((R : Int) < 0) = false := decide_eq_false (by omega)
      have hRd2 : decide ((100 : Int) < (R : Int)) = false := decide_eq_false (by omega)
      go_wp2
      go_ret
      exact ⟨by rw [HX.out]; rfl, HB.out⟩
  · by_cases h0 : t.rows < 0
    · have HX := hid (tableOK_low (fs := fs) h0)
      have hd : decide (t.rows < 0) = true := decide_eq_true h0
      clear hrows
      go_enter Tryz.func103, Tryz.ntmps103
      go_wp2_with fail
      refine HQ.out.mono ?_
      rintro e w2 ⟨rfl, k2, b2⟩
      have HB := hid b2
      have p0 := cell_of_row w2 _ 0 _ _ _ k2
      have p1 := cell_of_row w2 _ 1 _ _ _ k2
      simp at p0 p1
      clear b2 k2
      go_wp2
      go_ret
      exact ⟨by rw [HX.out]; rfl, HB.out⟩
    · have HX := hid (tableOK_high (fs := fs) (t := t) (by omega))
      have hd : decide (t.rows < 0) = false := decide_eq_false h0
      have hd2 : decide (100 < t.rows) = true := decide_eq_true (by omega)
      clear hrows
      go_enter Tryz.func103, Tryz.ntmps103
      go_wp2_with fail
      refine HQ.out.mono ?_
      rintro e w2 ⟨rfl, k2, b2⟩
      have HB := hid b2
      have p0 := cell_of_row w2 _ 0 _ _ _ k2
      have p1 := cell_of_row w2 _ 1 _ _ _ k2
      simp at p0 p1
      clear b2 k2
      go_wp2
      go_ret
      exact ⟨by rw [HX.out]; rfl, HB.out⟩
end Go.Proofs.YtfaehioeepolhaaGreat
namespace Go.Proofs.YtfaehioeepolhaaGreat
open Go.RowKit
set_option maxRecDepth 100000 in
set_option maxHeartbeats 2000000 in
theorem textsOfCells_any (a : Option Addr) (cap : Nat) (xs : List PC) (w : World) (hr : RdSl cCell w xs (.slice a xs.length cap)) (hl : xs.length ≤ 1048576) :
    Calls Tryz.prog 155 #[.slice a xs.length cap] w fun e w' => ∃ v, e = .returned v ∧ RdSl cSS w' (nn xs) v ∧ Below w.heap.size w w' := by
  obtain ⟨i0, hi, hz0, hz1, hz2⟩ := info_parts infoSlG
  have HR := hid hr
  clear hr
  go_enter Tryz.func155, Tryz.ntmps155
  go_wp2
  go_loopw [3, 5, 8] (fun v _ i wr => ∃ k : Nat, k ≤ xs.length ∧ i = .int .i64 k ∧ Gath w wr v (nn (xs.take k)) ∧ Below w.heap.size w wr) (fun _ _ i _ => xs.length - (intOf i).toNat)
  case atStart => exact ⟨0, Nat.zero_le _, rfl, by simpa [nn] using Gath.nil w, Below.refl _ _⟩
  case round =>
    obtain ⟨k, hk, rfl, hga, hbe⟩ := hrel
    have HG := hid hga
    have HB := hid hbe
    clear hga hbe
    by_cases hlt : k < xs.length
    · obtain ⟨b, off, v0, v1, v2, rfl, hes, d0, d1, d2⟩ := (HR.out.later HB.out).at3 rfl hlt
      obtain ⟨ax, cx, e⟩ := cCell_shape hes
      simp only [List.cons.injEq, and_true] at e
      obtain ⟨rfl, rfl, rfl⟩ := e
      have hT : RdSl cByte w xs[k].text (.slice ax xs[k].text.length cx) := by
        obtain ⟨b', off', y0, y1, y2, e', hy, q0, q1, q2⟩ := HR.out.at3 (k := k) rfl hlt
        simp only [Option.some.injEq, Addr.mk.injEq, and_true] at e'
        obtain ⟨rfl, rfl⟩ := e'
        have hlt2 := World.block_lt_of_cell? _ _ q2
        have e2 := (HB.out.cell (p := ⟨b, off + k * 3 + 2, none⟩) hlt2).symm.trans d2
        rw [q2] at e2
        obtain ⟨v, e3, hv, _⟩ := cCell_rd hy
        simp only [List.cons.injEq, and_true] at e3
        simp only [Option.some.injEq] at e2
        rw [← e2, e3.2.2]; exact hv
      have HT := hid hT
      have HS := hid (nn_snoc xs k hlt)
      have hnl := nn_len (xs.take k)
      have hnl2 : (xs.take k).length ≤ 1048576 := by simp; omega
      have hki : (k : Int) < (xs.length : Int) := by omega
      clear hes hT
      cases hnul : xs[k].null
      · have HS2 : Hid (nn (xs.take (k + 1)) = nn (xs.take k) ++ [xs[k].text]) := hid (by rw [HS.out, hnul]; rfl)
        obtain ⟨vals, how, hel⟩ := HG.out
        have hvl : vals.length = (nn (xs.take k)).length := by have := how.1; omega
        have HO := hid how
        have HEL := hid hel
        have HVL := hid hvl
        clear how hel hvl
        rw [hnul] at d0
        generalize nn (xs.take k) = L at *
        go_wp2_with (first | (at_builtin; refine wpList_append_own _ rfl _ _ 123 rfl w.heap.size 23 i0 (.slice none 0 0) 1 24 Tryz.underlying123 hi hz0 hz1 hz2 rfl (by decide) _ L.length _ rfl ((HO.out.alloc _).alloc _) ⟨wr.heap.size + 1, 0, none⟩ 1 1 [.slice ax xs[k].text.length cx] rfl rfl (by intro j u hj; have h := cell_one_new (wr.alloc (.cells #[.bool false, .int .i64 xs[k].num, .slice ax xs[k].text.length cx] 157)) (.slice ax xs[k].text.length cx) 23 j u hj; rw [show (wr.alloc (.cells #[.bool false, .int .i64 xs[k].num, .slice ax xs[k].text.length cx] 157)).heap.size = wr.heap.size + 1 from by simp] at h; exact h) (one_cell rfl) (by unfold maxLen; omega) (by omega) (by have := HB.out.size; simp; omega) ?_))
        intro v' w1 hown' hgrow _
        have HB1 : Hid (Below w.heap.size w w1) := hid (((HB.out.alloc HB.out.size _).alloc (by have := HB.out.size; simp; omega) _).grown hgrow (by have := HB.out.size; simp; omega) (fun k h => (World.ownsRow.lt HO.out k h).1))
        have HG1 : Hid (Gath w w1 v' (nn (xs.take (k + 1)))) := hid (by rw [HS2.out]; exact Gath.snoc HVL.out HEL.out hown' HT.out)
        clear hown' hgrow
        go_wp2
        go_roundw
        case rel => exact ⟨k + 1, by omega, by go_num, HG1.out, HB1.out⟩
        case measure => simp [intOf]; omega
      · have HS2 : Hid (nn (xs.take (k + 1)) = nn (xs.take k)) := hid (by rw [HS.out, hnul]; simp)
        rw [hnul] at d0
        go_wp2
        go_roundw
        case rel => exact ⟨k + 1, by omega, by go_num, by rw [HS2.out]; exact HG.out.kept (below_new1 _ _), HB.out.alloc HB.out.size _⟩
        case measure => simp [intOf]; omega
    · obtain rfl : k = xs.length := by omega
      have hF := HG.out.rd HB.out
      rw [List.take_length] at hF
      have HF := hid hF
      clear hF
      go_wp2
      go_ret
      exact ⟨_, rfl, HF.out, HB.out⟩
end Go.Proofs.YtfaehioeepolhaaGreat
namespace Go.Proofs.YtfaehioeepolhaaGreat
open Go.RowKit Go.Maps Go.WideMaps
theorem wf64 {n : Int} (h1 : -9223372036854775808 ≤ n) (h2 : n ≤ 9223372036854775807) : (Lit.int .i64 n).wf = true := by
  simp [Lit.wf, IntKind.min, IntKind.max, IntKind.bits, IntKind.signed]; omega
theorem dictField1 (x y : Value) (w : World) : (Instr.field 200 (.agg #[x, y]) 1).run Tryz.prog w = .ok y w := by kernel_rfl
theorem natBeq (a b : Nat) : ((a : Int) == (b : Int)) = decide (a = b) := by
  by_cases h : a = b
  · subst h; simp
  · rw [decide_eq_false h]; simp; omega
theorem keyed : Keyed Tryz.prog 9 := string_keyed Tryz.underlying9
set_option maxHeartbeats 1000000 in
theorem bytesOfTexts_any (a : Option Addr) (cap : Nat) (vs : List (List Nat)) (w : World) (hr : RdSl cSS w vs (.slice a vs.length cap)) (ht : totL List.length vs ≤ 1048576) :
    Calls Tryz.prog 154 #[.slice a vs.length cap] w fun e w' => e = .returned (.int .i64 ((tot vs : Nat) : Int)) ∧ w' = w := by
  have HR := hid hr
  clear hr
  rw [totL_tot] at ht
  go_enter Tryz.func154, Tryz.ntmps154
  go_wp2
  go_loop [3, 5, 8] (fun s _ i => ∃ k : Nat, k ≤ vs.length ∧ i = .int .i64 k ∧ s = .int .i64 ((tot (vs.take k) : Nat) : Int)) (fun _ _ i => vs.length - (intOf i).toNat)
  case atStart => exact ⟨0, Nat.zero_le _, rfl, by simp [tot]⟩
  case round =>
    obtain ⟨k, hk, rfl, rfl⟩ := hrel
    by_cases hlt : k < vs.length
    · obtain ⟨b, off, a', c', rfl, hcb, -⟩ := HR.out.row hlt
      have hki : (k : Int) < (vs.length : Int) := by omega
      have HTS := hid (tot_snoc vs k hlt)
      have h3 := tot_take vs k
      have h4 := len_le_tot vs k hlt
      generalize tot (vs.take k) = t at *
      go_wp2
      go_round
      case rel => exact ⟨k + 1, by omega, by go_num, by rw [HTS.out]; go_num⟩
      case measure => simp [intOf]; omega
    · obtain rfl : k = vs.length := by omega
      have HF : Hid (tot (vs.take vs.length) = tot vs) := hid (by rw [List.take_length])
      rw [HF.out]
      go_wp2
      go_ret
      exact ⟨rfl, rfl⟩
abbrev OwnsDict (w : World) (m : Nat) (vs : List (List Nat)) (k : Nat) : Prop := w.ownsMap Tryz.prog 9 (plainElem Tryz.prog 3) m k (dmap vs k)
set_option maxHeartbeats 2000000 in
theorem newDict_any (a : Option Addr) (cap : Nat) (vs : List (List Nat)) (w : World) (hr : RdSl cSS w vs (.slice a vs.length cap)) (ht : totL List.length vs ≤ 1048576) :
    Calls Tryz.prog 180 #[.slice a vs.length cap] w fun e w' => ∃ m, e = .returned (.agg #[.slice a vs.length cap, .map (some m)]) ∧ w.heap.size ≤ m ∧ OwnsDict w' m vs vs.length ∧ Below w.heap.size w w' := by
  have hmm := @run_makeMap Tryz.prog
  have HR := hid hr
  clear hr
  rw [totL_tot] at ht
  have HT := hid ht
  have hlen : vs.length ≤ 1048576 := by omega
  clear ht
  go_enter Tryz.func180, Tryz.ntmps180
  go_wp2
  go_loopw [4, 5, 9] (fun _ _ i wr => ∃ k : Nat, k ≤ vs.length ∧ i = .int .i64 k ∧ OwnsDict wr (w.heap.size + 1) vs k ∧ wr.heap[w.heap.size]? = some (.cells #[.slice none 0 0, .map none] 200 (0, 0)) ∧ Below w.heap.size w wr) (fun _ _ i _ => vs.length - (intOf i).toNat)
  case atStart => exact ⟨0, Nat.zero_le _, rfl, by have h := World.ownsMap_made (H := Unit) (w.alloc (.cells #[.slice none 0 0, .map none] 200)) Tryz.prog 9 (plainElem Tryz.prog 3); rw [show (w.alloc (.cells #[.slice none 0 0, .map none] 200)).heap.size = w.heap.size + 1 from by simp] at h; exact h, (heap2 (w := w) _ _ (Below.refl _ _)).1, below_new2 _ _ _⟩
  case round =>
    obtain ⟨k, hk, rfl, how, hblk, hbe⟩ := hrel
    have HO := hid how
    have HK := hid hblk
    have HB := hid hbe
    clear how hblk hbe
    by_cases hlt : k < vs.length
    · obtain ⟨b, off, a', c', rfl, hcb, hrr⟩ := (HR.out.later HB.out).row hlt
      obtain ⟨_, _, e', -, -, -, hrd, hby⟩ := hrr.bytes
      simp only [Value.slice.injEq] at e'
      obtain ⟨rfl, -, rfl⟩ := e'
      have hcv := run_bstr (P := Tryz.prog) (c := c') Tryz.underlying23 Tryz.underlying5 Tryz.underlying9 hrd
      have hkl : vs[k].length ≤ 1048576 := by have := len_le_tot vs k hlt; have := HT.out; omega
      have HKEY : Hid (keyOf Tryz.prog 9 (.string (bstr vs[k])) = some (skey vs[k])) := hid (keyOf_string_mk Tryz.underlying9 (by rw [bstr_size]; unfold maxLen; omega))
      have HVAL : Hid (plainElem (H := Unit) Tryz.prog 3 (.int .i64 (k : Int)) = some (.lit (.int .i64 (k : Int)), [])) := hid (plainElem_int Tryz.underlying3 (wf64 (by omega) (by omega)))
      have hki : (k : Int) < (vs.length : Int) := by omega
      clear hrr hrd hby
      go_wp2_with (first | (at_mapUpdate; refine wpList_mapUpdate_own _ rfl _ _ _ 198 rfl 9 3 keyed Tryz.underlying198 (plainElem Tryz.prog 3) (w.heap.size + 1) k (dmap vs k) rfl HO.out (by unfold maxLen; omega) _ _ _ rfl rfl HKEY.out _ [] HVAL.out ?_))
      intro w1 hown1 hgrow1
      have HO1 : Hid (OwnsDict w1 (w.heap.size + 1) vs (k + 1)) := hid (by unfold OwnsDict; rw [dmap_succ hlt]; exact hown1)
      have HK1 : Hid (w1.heap[w.heap.size]? = some (.cells #[.slice none 0 0, .map none] 200 (0, 0))) := hid ((hgrow1.block w.heap.size (by have := HB.out.size; have := HO.out.lt; omega) (by simp)).trans HK.out)
      have HB1 : Hid (Below w.heap.size w w1) := hid (HB.out.grown hgrow1 HB.out.size (fun j hj => by cases hj; omega))
      clear hown1 hgrow1
      go_wp2
      go_roundw
      case rel => exact ⟨k + 1, by omega, by go_num, HO1.out, HK1.out, HB1.out⟩
      case measure => simp [intOf]; omega
    · obtain rfl : k = vs.length := by omega
      have c0 := cell_of_row wr _ 0 _ _ _ HK.out
      have c1 := cell_of_row wr _ 1 _ _ _ HK.out
      have f0 := frozen_of_row wr _ 0 _ _ HK.out
      have f1 := frozen_of_row wr _ 1 _ _ HK.out
      simp at c0 c1
      go_wp2
      refine bodyPost_ret (results_cell_row rfl _ _ w.heap.size 200 #[.slice a vs.length cap, .map (some (w.heap.size + 1))] (0, 0) _ rfl (set2 HK.out) Tryz.underlying200 rfl (by kernel_rfl)) rfl ?_
      exact ⟨w.heap.size + 1, rfl, by omega, (HO.out.setCell (a := ⟨w.heap.size, 0, none⟩) (by simp) _).setCell (a := ⟨w.heap.size, 1, none⟩) (by simp) _, (HB.out.setCell (p := ⟨w.heap.size, 0, none⟩) (Nat.le_refl _) _).setCell (p := ⟨w.heap.size, 1, none⟩) (Nat.le_refl _) _⟩
end Go.Proofs.YtfaehioeepolhaaGreat
namespace Go.Proofs.YtfaehioeepolhaaGreat
open Go.RowKit Go.Maps
set_option maxHeartbeats 400000 in
theorem validRows_any (r : Int) (w : World) : Calls Tryz.prog 153 #[.int .i64 r] w fun e w' => e = .returned (.bool (decide (0 ≤ r ∧ r ≤ 100))) ∧ w' = w := by
  by_cases h0 : 0 ≤ r
  · by_cases h1 : r ≤ 100
    · rw [decide_eq_true ⟨h0, h1⟩]
      go_enter Tryz.func153, Tryz.ntmps153
      go_wp2
      go_ret
      exact ⟨by simp, rfl⟩
    · rw [decide_eq_false (fun h => h1 h.2)]
      go_enter Tryz.func153, Tryz.ntmps153
      go_wp2
      go_ret
      exact ⟨by simp, rfl⟩
  · rw [decide_eq_false (fun h => h0 h.1)]
    have hd : decide (0 ≤ r) = false := decide_eq_false h0
    go_enter Tryz.func153, Tryz.ntmps153
    go_wp2
    go_ret
    exact ⟨by simp; try omega, rfl⟩
set_option maxHeartbeats 1000000 in
theorem differentTexts_any (a : Option Addr) (cap : Nat) (xs : List PC) (w : World) (hr : RdSl cCell w xs (.slice a xs.length cap)) (hl : xs.length + tot (nn xs) ≤ 1048576) :
    Calls Tryz.prog 158 #[.slice a xs.length cap] w fun e w' => e = .returned (.int .i64 ((diff xs : Nat) : Int)) ∧ Below w.heap.size w w' := by
  have HQ := hid (textsOfCells_any a cap xs w hr (by omega))
  have hnl := nn_len xs
  clear hr
  go_enter Tryz.func158, Tryz.ntmps158
  go_wp2_with fail
  refine HQ.out.mono ?_
  rintro e w2 ⟨v, rfl, hv, b2⟩
  obtain ⟨a2, c2, rfl, -⟩ := id hv
  have HOK := hid hv.allOK
  have HN := hid (newDict_any a2 c2 (nn xs) w2 hv (by rw [totL_tot]; omega))
  have HB2 := hid b2
  clear hv b2
  go_wp2_with fail
  refine HN.out.mono ?_
  rintro e w3 ⟨m, rfl, hm, ho, b3⟩
  have HS : Hid (Maps.size (dmap (nn xs) (nn xs).length) = cnt (nn xs) (nn xs).length) := hid (dmap_size HOK.out (nn xs).length (Nat.le_refl _))
  have HB3 := hid (below_chain HB2.out b3)
  have hfd := dictField1 (.slice a2 (nn xs).length c2) (.map (some m)) w3
  have hln := ho.len Tryz.underlying198 3
  rw [HS.out] at hln
  clear ho b3
  have HD : Hid (diff xs = cnt (nn xs) (nn xs).length) := hid rfl
  generalize cnt (nn xs) (nn xs).length = c at *
  go_wp2
  go_ret
  exact ⟨by rw [HD.out]; rfl, HB3.out⟩
end Go.Proofs.YtfaehioeepolhaaGreat
namespace Go.Proofs.YtfaehioeepolhaaGreat
open Go.RowKit
theorem infoByteP : (Tryz.prog.info? 5).map (fun i => (i.zero, i.size, i.bytes)) = some (some (.int .u8 0), 1, 1) := by kernel_rfl
def PkiPost (w : World) (R : List Nat × Int) (e : Ending) (w' : World) : Prop :=
  ∃ a c, e = .returned (.tuple #[.slice a R.1.length c, .int .i64 R.2]) ∧ w'.ownsRow w.heap.size 5 1 (.slice a R.1.length c) R.1.length (byt R.1) ∧ Below w.heap.size w w'
theorem pkiPost_mk {w w' : World} {R : List Nat} {n c : Nat} {C : Int} {a : Option Addr} (hl : R.length = n) (ho : w'.ownsRow w.heap.size 5 1 (.slice a n c) n (byt R)) (hb : Below w.heap.size w w') :
    PkiPost w (R, C) (.returned (.tuple #[.slice a n c, .int .i64 C])) w' := by
  subst hl
  exact ⟨a, c, rfl, ho, hb⟩
theorem pkiPost_nil {w w' : World} (C : Int) (hb : Below w.heap.size w w') : PkiPost w ([], C) (.returned (.tuple #[.slice none 0 0, .int .i64 C])) w' :=
  ⟨none, 0, rfl, World.ownsRow_nil _ _ _ _, hb⟩
theorem byt_snoc (xs : List Nat) (d : Nat) : byt (xs ++ [d]) = byt xs ++ [.int .u8 (d : Int)] := by simp [byt]
end Go.Proofs.YtfaehioeepolhaaGreat
