import Derived.Test.YtfaehioeepolhaaGreatJValidReceiver32
import Derived.Test.YtfaehioeepolhaaGreatJValidReceiver30
import Derived.Test.YtfaehioeepolhaaGreatJValidReceiver6
namespace Go.Proofs.YtfaehioeepolhaaGreat
open Go.RowKit Go.Maps
set_option maxHeartbeats 8000000 in
theorem specTable_any (a a2 : Option Addr) (cap c2 : Nat) (fs : List PF) (t : PT) (w : World) (hr : RdSl cField w fs (.slice a fs.length cap)) (hr2 : RdSl cCell w t.cells (.slice a2 t.cells.length c2)) (ht : totT t ≤ 1048576) :
    Calls Tryz.prog 103 #[.slice a fs.length cap, .agg #[.int .i64 t.rows, .slice a2 t.cells.length c2]] w fun e w' => e = .returned (.bool (tableOK fs t)) ∧ Below w.heap.size w w' := by
  have HR := hid hr
  have HR2 := hid hr2
  have hcl : t.cells.length ≤ 1048576 := by unfold totT totL at ht; omega
  have HQ : Hid (Calls Tryz.prog 52 #[.slice a fs.length cap] (w.alloc (.cells #[.int .i64 t.rows, .slice a2 t.cells.length c2] 111)) fun e w' => e = .returned (.bool (fieldsOK fs)) ∧ w'.heap[w.heap.size]? = some (.cells #[.int .i64 t.rows, .slice a2 t.cells.length c2] 111 (0, 0)) ∧ Below w.heap.size w w') := hid (by
    have hb1 := below_new1 w (.cells #[.int .i64 t.rows, .slice a2 t.cells.length c2] 111)
    refine (specFields_any a cap fs _ (hr.later hb1)).mono ?_
    rintro e w' ⟨rfl, b⟩
    exact ⟨rfl, heap1 _ (b.mono (by simp)), hb1.trans (b.mono hb1.size)⟩)
  clear hr hr2
  cases hf : fieldsOK fs
  · have HX := hid (tableOK_fields (t := t) hf)
    rw [hf] at HQ
    go_enter Tryz.func103, Tryz.ntmps103
    go_wp2_with fail
    refine HQ.out.mono ?_
    rintro e w2 ⟨rfl, -, b2⟩
    have HB := hid b2
    clear b2
    go_wp2
    go_ret
    exact ⟨by rw [HX.out]; rfl, HB.out⟩
  rw [hf] at HQ
  have HF := hid hf
  have hfl := fields_len hf
  clear hf
  by_cases hrows : 0 ≤ t.rows ∧ t.rows ≤ 100
  · obtain ⟨R, hR⟩ : ∃ R : Nat, t.rows = (R : Int) := ⟨t.rows.toNat, by omega⟩
    have hR2 : R ≤ 100 := by omega
    obtain ⟨pr, hpr⟩ : ∃ pr : Nat, pr = fs.length * R := ⟨_, rfl⟩
    have hm : (fs.length : Int) * (R : Int) = (pr : Int) := by rw [hpr]; simp
    have hprl : pr ≤ 1200 := by rw [hpr]; exact Nat.le_trans (Nat.mul_le_mul hfl hR2) (by omega)
    have HPR := hid hpr
    have HRR := hid hR
    by_cases hlen : t.cells.length = pr
    · have HLEN : Hid (t.cells.length = fs.length * R) := hid (by rw [hlen, hpr])
      have htot : txt t.cells + t.cells.length ≤ 1048576 := by unfold totT totL at ht; unfold txt; omega
      rw [hR] at HQ ⊢
      exact specTable_main a a2 cap c2 fs t R pr w HR HR2 hcl HQ HF hfl hR2 hm hprl HRR hlen HLEN htot
    · have HX : Hid (tableOK fs t = false) := hid (tableOK_len (by rw [hR]; intro h; apply hlen; omega))
      have hne : ((t.cells.length : Int) != (pr : Int)) = true := by simp; omega
      rw [hR] at HQ ⊢
      clear hrows hR hpr
      go_enter Tryz.func103, Tryz.ntmps103
      go_wp2_with fail
      refine HQ.out.mono ?_
      rintro e w2 ⟨rfl, k2, b2⟩
      have HB := hid b2
      have p0 := cell_of_row w2 _ 0 _ _ _ k2
      have p1 := cell_of_row w2 _ 1 _ _ _ k2
      simp at p0 p1
      clear b2 k2
      have hRd : decide ((R : Int) < 0) = false := decide_eq_false (by omega)
      have hRd2 : decide ((100 : Int) < (R : Int)) = false := decide_eq_false (by omega)
      go_wp2
      go_ret
      exact ⟨by rw [HX.out]; rfl, HB.out⟩
  · by_cases h0 : t.rows < 0
    · have HX := hid (tableOK_low (fs := fs) h0)
      have hd : decide (t.rows < 0) = true := decide_eq_true h0
      clear hrows
      go_enter Tryz.func103, Tryz.ntmps103
      go_wp2_with fail
      refine HQ.out.mono ?_
      rintro e w2 ⟨rfl, k2, b2⟩
      have HB := hid b2
      have p0 := cell_of_row w2 _ 0 _ _ _ k2
      have p1 := cell_of_row w2 _ 1 _ _ _ k2
      simp at p0 p1
      clear b2 k2
      go_wp2
      go_ret
      exact ⟨by rw [HX.out]; rfl, HB.out⟩
    · have HX := hid (tableOK_high (fs := fs) (t := t) (by omega))
      have hd : decide (t.rows < 0) = false := decide_eq_false h0
      have hd2 : decide (100 < t.rows) = true := decide_eq_true (by omega)
      clear hrows
      go_enter Tryz.func103, Tryz.ntmps103
      go_wp2_with fail
      refine HQ.out.mono ?_
      rintro e w2 ⟨rfl, k2, b2⟩
      have HB := hid b2
      have p0 := cell_of_row w2 _ 0 _ _ _ k2
      have p1 := cell_of_row w2 _ 1 _ _ _ k2
      simp at p0 p1
      clear b2 k2
      go_wp2
      go_ret
      exact ⟨by rw [HX.out]; rfl, HB.out⟩
end Go.Proofs.YtfaehioeepolhaaGreat
namespace Go.Proofs.YtfaehioeepolhaaGreat
open Go.RowKit
set_option maxRecDepth 100000 in
set_option maxHeartbeats 2000000 in
theorem textsOfCells_any (a : Option Addr) (cap : Nat) (xs : List PC) (w : World) (hr : RdSl cCell w xs (.slice a xs.length cap)) (hl : xs.length ≤ 1048576) :
    Calls Tryz.prog 155 #[.slice a xs.length cap] w fun e w' => ∃ v, e = .returned v ∧ RdSl cSS w' (nn xs) v ∧ Below w.heap.size w w' := by
  obtain ⟨i0, hi, hz0, hz1, hz2⟩ := info_parts infoSlG
  have HR := hid hr
  clear hr
  go_enter Tryz.func155, Tryz.ntmps155
  go_wp2
  go_loopw [3, 5, 8] (fun v _ i wr => ∃ k : Nat, k ≤ xs.length ∧ i = .int .i64 k ∧ Gath w wr v (nn (xs.take k)) ∧ Below w.heap.size w wr) (fun _ _ i _ => xs.length - (intOf i).toNat)
  case atStart => exact ⟨0, Nat.zero_le _, rfl, by simpa [nn] using Gath.nil w, Below.refl _ _⟩
  case round =>
    obtain ⟨k, hk, rfl, hga, hbe⟩ := hrel
    have HG := hid hga
    have HB := hid hbe
    clear hga hbe
    by_cases hlt : k < xs.length
    · obtain ⟨b, off, v0, v1, v2, rfl, hes, d0, d1, d2⟩ := (HR.out.later HB.out).at3 rfl hlt
      obtain ⟨ax, cx, e⟩ := cCell_shape hes
      simp only [List.cons.injEq, and_true] at e
      obtain ⟨rfl, rfl, rfl⟩ := e
      have hT : RdSl cByte w xs[k].text (.slice ax xs[k].text.length cx) := by
        obtain ⟨b', off', y0, y1, y2, e', hy, q0, q1, q2⟩ := HR.out.at3 (k := k) rfl hlt
        simp only [Option.some.injEq, Addr.mk.injEq, and_true] at e'
        obtain ⟨rfl, rfl⟩ := e'
        have hlt2 := World.block_lt_of_cell? _ _ q2
        have e2 := (HB.out.cell (p := ⟨b, off + k * 3 + 2, none⟩) hlt2).symm.trans d2
        rw [q2] at e2
        obtain ⟨v, e3, hv, _⟩ := cCell_rd hy
        simp only [List.cons.injEq, and_true] at e3
        simp only [Option.some.injEq] at e2
        rw [← e2, e3.2.2]; exact hv
      have HT := hid hT
      have HS := hid (nn_snoc xs k hlt)
      have hnl := nn_len (xs.take k)
      have hnl2 : (xs.take k).length ≤ 1048576 := by simp; omega
      have hki : (k : Int) < (xs.length : Int) := by omega
      clear hes hT
      cases hnul : xs[k].null
      · have HS2 : Hid (nn (xs.take (k + 1)) = nn (xs.take k) ++ [xs[k].text]) := hid (by rw [HS.out, hnul]; rfl)
        obtain ⟨vals, how, hel⟩ := HG.out
        have hvl : vals.length = (nn (xs.take k)).length := by have := how.1; omega
        have HO := hid how
        have HEL := hid hel
        have HVL := hid hvl
        clear how hel hvl
        rw [hnul] at d0
        generalize nn (xs.take k) = L at *
        go_wp2_with (first | (at_builtin; refine wpList_append_own _ rfl _ _ 123 rfl w.heap.size 23 i0 (.slice none 0 0) 1 24 Tryz.underlying123 hi hz0 hz1 hz2 rfl (by decide) _ L.length _ rfl ((HO.out.alloc _).alloc _) ⟨wr.heap.size + 1, 0, none⟩ 1 1 [.slice ax xs[k].text.length cx] rfl rfl (by intro j u hj; have h := cell_one_new (wr.alloc (.cells #[.bool false, .int .i64 xs[k].num, .slice ax xs[k].text.length cx] 157)) (.slice ax xs[k].text.length cx) 23 j u hj; rw [show (wr.alloc (.cells #[.bool false, .int .i64 xs[k].num, .slice ax xs[k].text.length cx] 157)).heap.size = wr.heap.size + 1 from by simp] at h; exact h) (one_cell rfl) (by unfold maxLen; omega) (by omega) (by have := HB.out.size; simp; omega) ?_))
        intro v' w1 hown' hgrow _
        have HB1 : Hid (Below w.heap.size w w1) := hid (((HB.out.alloc HB.out.size _).alloc (by have := HB.out.size; simp; omega) _).grown hgrow (by have := HB.out.size; simp; omega) (fun k h => (World.ownsRow.lt HO.out k h).1))
        have HG1 : Hid (Gath w w1 v' (nn (xs.take (k + 1)))) := hid (by rw [HS2.out]; exact Gath.snoc HVL.out HEL.out hown' HT.out)
        clear hown' hgrow
        go_wp2
        go_roundw
        case rel => exact ⟨k + 1, by omega, by go_num, HG1.out, HB1.out⟩
        case measure => simp [intOf]; omega
      · have HS2 : Hid (nn (xs.take (k + 1)) = nn (xs.take k)) := hid (by rw [HS.out, hnul]; simp)
        rw [hnul] at d0
        go_wp2
        go_roundw
        case rel => exact ⟨k + 1, by omega, by go_num, by rw [HS2.out]; exact HG.out.kept (below_new1 _ _), HB.out.alloc HB.out.size _⟩
        case measure => simp [intOf]; omega
    · obtain rfl : k = xs.length := by omega
      have hF := HG.out.rd HB.out
      rw [List.take_length] at hF
      have HF := hid hF
      clear hF
      go_wp2
      go_ret
      exact ⟨_, rfl, HF.out, HB.out⟩
end Go.Proofs.YtfaehioeepolhaaGreat
