import Derived.Test.YtfaehioeepolhabGreatJCrashSender27
import Derived.Test.YtfaehioeepolhabGreatJCrashSender28
import Derived.Test.YtfaehioeepolhabGreatJCrashSender23
import Derived.Test.YtfaehioeepolhabGreatJCrashSender3
import Derived.Test.YtfaehioeepolhabGreatJCrashSender4
import Derived.Carry
import Derived.Handy
namespace Go.Proofs.YtfaehioeepolhabGreat
open Go.RowKit Go.Maps
theorem allTo_bad {f : PF} {cs : List PC} {k : Nat} (hk : k < cs.length) (h : cellOK f cs[k] = false) : cs.all (cellOK f) = false := by
 simp only [List.all_eq_false]
 exact ⟨cs[k], List.getElem_mem hk, by simp [h]⟩
theorem allTo_ok {f : PF} {cs : List PC} (h : ∀ k, (hk : k < cs.length) → cellOK f cs[k] = true) : cs.all (cellOK f) = true := by
 simp only [List.all_eq_true]
 intro x hx
 obtain ⟨k, hk, rfl⟩ := List.getElem_of_mem hx
 exact h k hk
set_option maxHeartbeats 8000000 in
theorem specTable_main (a a2 : Option Addr) (cap c2 : Nat) (fs : List PF) (t : PT) (R pr : Nat) (w : World) (HR : Hid (RdSl cField w fs (.slice a fs.length cap))) (HR2 : Hid (RdSl cCell w t.cells (.slice a2 t.cells.length c2))) (hcl : t.cells.length ≤ 1048576)
  (HQ : Hid (Calls Tryz.prog 57 #[.slice a fs.length cap] (w.alloc (.cells #[.int .i64 (R : Int), .slice a2 t.cells.length c2] 51)) fun e w' => e = .returned (.bool true) ∧ w'.heap[w.heap.size]? = some (.cells #[.int .i64 (R : Int), .slice a2 t.cells.length c2] 51 (0, 0)) ∧ Below w.heap.size w w'))
  (HF : Hid (fieldsOK fs = true)) (hfl : fs.length ≤ 12) (hR2 : R ≤ 100) (hm : (fs.length : Int) * (R : Int) = (pr : Int)) (hprl : pr ≤ 1200) (HRR : Hid (t.rows = (R : Int))) (hlen : t.cells.length = pr) (HLEN : Hid (t.cells.length = fs.length * R)) (htot : txt t.cells + t.cells.length ≤ 1048576) :
  Calls Tryz.prog 24 #[.slice a fs.length cap, .agg #[.int .i64 (R : Int), .slice a2 t.cells.length c2]] w fun e w' => e = .returned (.bool (tableOK fs t)) ∧ Below w.heap.size w w' := by
 have hne : ((t.cells.length : Int) != (pr : Int)) = false := by simp; omega
 clear hlen
 have HEND : Hid (colsTo fs t.cells R fs.length = true → tableOK fs t = decide (txt t.cells ≤ 4000)) := hid (fun h2 => tableOK_end HF.out HRR.out hR2 HLEN.out h2)
 have HNC : Hid (∀ k, k < fs.length → (k + 1) * R ≤ t.cells.length) := hid (fun k hk => by rw [HLEN.out]; exact Nat.mul_le_mul_right _ hk)
 have HTX : Hid (∀ k, txt (t.cells.take k) ≤ txt t.cells) := hid (fun k => txt_take _ _)
 have HTF : Hid (txt (t.cells.take (fs.length * R)) = txt t.cells) := hid (by rw [← HLEN.out, List.take_length])
 go_enter Tryz.func24, Tryz.ntmps24
 go_wp2_with fail
 refine HQ.out.mono ?_
 rintro e w2 ⟨rfl, k2, b2⟩
 have HB := hid b2
 have HK2 := hid k2
 have p0 := cR w2 _ 0 _ _ _ k2
 have p1 := cR w2 _ 1 _ _ _ k2
 simp at p0 p1
 have hRd : decide ((R : Int) < 0) = false := decide_eq_false (by omega)
 have hRd2 : decide ((100 : Int) < (R : Int)) = false := decide_eq_false (by omega)
 clear b2 k2
 go_wp2
 clear p0 p1
 go_loopw [5, 6, 7, 8] (fun s i _ _ wr => ∃ k : Nat, k ≤ fs.length ∧ i = .int .i64 k ∧ s = .int .i64 ((txt (t.cells.take (k * R)) : Nat) : Int) ∧ colsTo fs t.cells R k = true ∧ wr.heap[w.heap.size]? = some (.cells #[.int .i64 (R : Int), .slice a2 t.cells.length c2] 51 (0, 0)) ∧ Below w.heap.size w wr) (fun _ i _ _ _ => fs.length - (intOf i).toNat)
 case atStart => exact ⟨0, Nat.zero_le _, rfl, by simp [txt], rfl, HK2.out, HB.out⟩
 case round =>
  obtain ⟨k, hk, rfl, rfl, hcols, hblk, hbe⟩ := hrel
  have HC := hid hcols
  have HK := hid hblk
  have HBR := hid hbe
  clear hcols hblk hbe
  have p0 := cR wr _ 0 _ _ _ HK.out
  have p1 := cR wr _ 1 _ _ _ HK.out
  simp at p0 p1
  have hB : w.heap.size < wr.heap.size := (Array.getElem?_eq_some_iff.1 HK.out).1
  by_cases hlt : k < fs.length
  ·have hki : (k : Int) < (fs.length : Int) := by omega
   have HQ1 : Hid (Calls Tryz.prog 62 #[.agg #[.int .i64 (R : Int), .slice a2 t.cells.length c2], .int .i64 (k : Int)] wr fun e w' => ∃ a' cap', e = .returned (.slice a' R cap') ∧ RdSl cCell w' (col t.cells R k) (.slice a' R cap') ∧ Below wr.heap.size wr w') := hid (by
    have h := l2column_any t R k a2 c2 wr HRR.out (HR2.out.later HBR.out) hR2 (by omega) (HNC.out k hlt)
    rw [HRR.out] at h
    refine h.mono ?_
    rintro e w' ⟨a', cap', rfl, h1, h2⟩
    exact ⟨a', cap', rfl, h1.later h2, h2⟩)
   have hcolen := col_len (HNC.out k hlt)
   have HCL := hid hcolen
   have HAT : Hid (∀ i, (h : i < R) → (h2 : i < (col t.cells R k).length) → txt (t.cells.take (k * R + (i + 1))) = txt (t.cells.take (k * R + i)) + (col t.cells R k)[i].text.length) := hid (fun i h h2 => by
    have h3 := HNC.out k hlt
    have h4 := h3
    rw [Nat.add_mul, Nat.one_mul] at h4
    rw [← Nat.add_assoc, txt_snoc t.cells (k * R + i) (by omega), col_at h3 h])
   have hcw : fs[k].kind = 1 → widthOK fs[k].width = true := okTo_width HF.out hlt
   have HCW := hid hcw
   clear hcolen hcw
   go_wp2_with fail
   refine HQ1.out.mono ?_
   rintro e w4 ⟨a', cap', rfl, hcol, b4⟩
   have HCOL := hid hcol
   have HB4 := hid (HBR.out.trans (b4.mono HBR.out.size))
   have HK4 := hid ((b4.block w.heap.size hB).trans HK.out)
   clear hcol b4 p0 p1
   generalize hcc : col t.cells R k = cc at *
   go_wp2
   go_loopw [5, 8] (fun s j wq => ∃ i : Nat, i ≤ R ∧ j = .int .i64 i ∧ s = .int .i64 ((txt (t.cells.take (k * R + i)) : Nat) : Int) ∧ (∀ q, (h : q < cc.length) → q < i → cellOK fs[k] cc[q] = true) ∧ RdSl cCell wq cc (.slice a' R cap') ∧ wq.heap[w.heap.size]? = some (.cells #[.int .i64 (R : Int), .slice a2 t.cells.length c2] 51 (0, 0)) ∧ Below w.heap.size w wq) (fun _ j _ => R - (intOf j).toNat)
   case atStart => exact ⟨0, Nat.zero_le _, rfl, by simp, fun q _ h => by omega, HCOL.out, HK4.out, HB4.out⟩
   case round =>
    obtain ⟨i, hiR, rfl, rfl, hall, hcl2, hbk, hbq⟩ := hrel
    have HA := hid hall
    have HC2 := hid hcl2
    have HKQ := hid hbk
    have HBQ := hid hbq
    clear hall hcl2 hbk hbq
    have htx := HTX.out (k * R + i)
    by_cases hil : i < R
    ·obtain ⟨b1, o1, x0, x1, x2, rfl, hes1, d0, d1, d2⟩ := (HR.out.later HBQ.out).at3 (k := k) rfl hlt
     have hicc : i < cc.length := by rw [HCL.out]; exact hil
     obtain ⟨b2, o2, y0, y1, y2, rfl, hes2, g0, g1, g2⟩ := HC2.out.at3 (k := i) rfl hicc
     obtain ⟨ay, cy, e⟩ := cCell_shape hes2
     simp only [List.cons.injEq, and_true] at e
     obtain ⟨rfl, rfl, rfl⟩ := e
     have HQ2 : Hid (Calls Tryz.prog 63 #[.agg #[x0, x1, x2], .agg #[.bool cc[i].null, .int .i64 cc[i].num, .slice ay cc[i].text.length cy]] wr.drew fun e w' => e = .returned (.bool (cellOK fs[k] cc[i])) ∧ Hid (Below wr.heap.size wr w') ∧ w'.cell? ⟨b1, o1 + k * 3, none⟩ = some x0 ∧ w'.cell? ⟨b1, o1 + k * 3 + 1, none⟩ = some x1 ∧ w'.cell? ⟨b1, o1 + k * 3 + 2, none⟩ = some x2 ∧ w'.cell? ⟨b2, o2 + i * 3, none⟩ = some (.bool cc[i].null) ∧ w'.cell? ⟨b2, o2 + i * 3 + 1, none⟩ = some (.int .i64 cc[i].num) ∧ w'.cell? ⟨b2, o2 + i * 3 + 2, none⟩ = some (.slice ay cc[i].text.length cy)) := hid (by
      refine (l2cellOK_any fs[k] cc[i] _ _ wr.drew (cField.later hes1 (Below.refl _ _).drew) (cCell.later hes2 (Below.refl _ _).drew) HCW.out).mono ?_
      rintro e w' ⟨rfl, b⟩
      have kp : ∀ p v, wr.cell? p = some v → w'.cell? p = some v := fun p v h => (b.cell (World.block_lt_of_cell? _ _ h)).trans h
      exact ⟨rfl, hid ((Below.refl _ wr).drew.trans b), kp _ _ d0, kp _ _ d1, kp _ _ d2, kp _ _ g0, kp _ _ g1, kp _ _ g2⟩)
     have HAI := hid (HAT.out i hil hicc)
     have hii : (i : Int) < (R : Int) := by omega
     have htx2 := HTX.out (k * R + (i + 1))
     clear hes1 hes2
     generalize txt (t.cells.take (k * R + i)) = s at *
     cases hok : cellOK fs[k] cc[i]
     ·have HX : Hid (tableOK fs t = false) := hid (tableOK_col HRR.out hlt (by rw [hcc]; exact colOK_cells (allTo_bad hicc hok)))
      rw [hok] at HQ2
      go_wp2
      first | (go_region_held (fun w' => w'.cell? ⟨b1, o1 + k * 3, none⟩ = some x0 ∧ w'.cell? ⟨b1, o1 + k * 3 + 1, none⟩ = some x1 ∧ w'.cell? ⟨b1, o1 + k * 3 + 2, none⟩ = some x2 ∧ w'.cell? ⟨b2, o2 + i * 3, none⟩ = some (.bool cc[i].null) ∧ w'.cell? ⟨b2, o2 + i * 3 + 1, none⟩ = some (.int .i64 cc[i].num) ∧ w'.cell? ⟨b2, o2 + i * 3 + 2, none⟩ = some (.slice ay cc[i].text.length cy)) (go_keep) (first | (go_at_call 63; refine HQ2.out.mono ?_; rintro e w' ⟨rfl, hw', hd0, hd1, hd2, hg0, hg1, hg2⟩))) | fail
      go_wp2
      go_ret
      exact ⟨by rw [HX.out]; rfl, HBQ.out.trans (hw'.out.mono HBQ.out.size)⟩
     ·have HX : Hid (∀ q, (h : q < cc.length) → q < i + 1 → cellOK fs[k] cc[q] = true) := hid (fun q hq hqi => by
       by_cases e : q = i
       ·subst e; exact hok
       ·exact HA.out q hq (by omega))
      rw [hok] at HQ2
      have hsz : s + cc[i].text.length ≤ 1048576 := by rw [← HAI.out]; omega
      go_wp2
      first | (go_region_held (fun w' => w'.cell? ⟨b1, o1 + k * 3, none⟩ = some x0 ∧ w'.cell? ⟨b1, o1 + k * 3 + 1, none⟩ = some x1 ∧ w'.cell? ⟨b1, o1 + k * 3 + 2, none⟩ = some x2 ∧ w'.cell? ⟨b2, o2 + i * 3, none⟩ = some (.bool cc[i].null) ∧ w'.cell? ⟨b2, o2 + i * 3 + 1, none⟩ = some (.int .i64 cc[i].num) ∧ w'.cell? ⟨b2, o2 + i * 3 + 2, none⟩ = some (.slice ay cc[i].text.length cy)) (go_keep) (first | (go_at_call 63; refine HQ2.out.mono ?_; rintro e w' ⟨rfl, hw', hd0, hd1, hd2, hg0, hg1, hg2⟩))) | fail
      have HBW := hid (HBQ.out.trans (hw'.out.mono HBQ.out.size))
      have HKW := hid ((hw'.out.block w.heap.size (Array.getElem?_eq_some_iff.1 HKQ.out).1).trans HKQ.out)
      have HCW2 := hid (HC2.out.later hw'.out)
      go_wp2
      go_roundw
      case rel => exact ⟨i + 1, by omega, by go_num, by rw [HAI.out]; go_num, HX.out, HCW2.out, HKW.out, HBW.out⟩
      case measure => simp [intOf]; omega
    ·obtain rfl : i = R := by omega
     have HALL : Hid (cc.all (cellOK fs[k]) = true) := hid (allTo_ok (fun q hq => HA.out q hq (by rw [HCL.out] at hq; exact hq)))
     obtain ⟨b1, o1, x0, x1, x2, rfl, hes1, d0, d1, d2⟩ := (HR.out.later HBQ.out).at3 (k := k) rfl hlt
     obtain ⟨ax, cx, e⟩ := cField_shape hes1
     simp only [List.cons.injEq, and_true] at e
     obtain ⟨rfl, rfl, rfl⟩ := e
     have HTE : Hid (txt (t.cells.take (k * i + i)) = txt (t.cells.take ((k + 1) * i))) := hid (by rw [Nat.add_mul, Nat.one_mul])
     rw [HTE.out]
     clear hes1
     generalize hs : txt (t.cells.take ((k + 1) * i)) = s at *
     by_cases k3 : fs[k].kind = 3
     ·have K3 := hid k3
      have b3 : (fs[k].kind == 3) = true := by simpa using k3
      clear k3
      have HQ4 : Hid (Calls Tryz.prog 64 #[.slice a' i cap', .int .i64 40] wr fun e w' => ∃ a5 n5 c5, e = .returned (.slice a5 n5 c5) ∧ (40 < n5 ↔ 40 < diff cc) ∧ n5 ≤ 1048576 ∧ Below wr.heap.size wr w') := hid (by
       have h := l2texts_any a' cap' cc wr (by rw [HCL.out]; exact HC2.out) (by rw [HCL.out]; omega)
       rw [HCL.out] at h
       exact h)
      go_wp2_with fail
      refine HQ4.out.mono ?_
      rintro e w6 ⟨a5, n5, c5, rfl, hiff, hn5, b6⟩
      have HW6 := hid (HBQ.out.trans (b6.mono HBQ.out.size))
      have HK6 := hid ((b6.block w.heap.size (Array.getElem?_eq_some_iff.1 HKQ.out).1).trans HKQ.out)
      clear b6
      by_cases hdf : 40 < n5
      ·have HX : Hid (tableOK fs t = false) := hid (tableOK_col HRR.out hlt (by rw [hcc]; exact colOK_dict K3.out (hiff.1 hdf)))
       clear hiff
       go_wp2
       go_ret
       exact ⟨by rw [HX.out]; rfl, HW6.out⟩
      ·have HX : Hid (colsTo fs t.cells i (k + 1) = true) := hid (by rw [colsTo_succ hlt, HC.out, hcc, colOK_ok HALL.out (fun h => hdf (hiff.2 h.2))]; rfl)
       clear hiff
       go_wp2
       go_roundw
       case rel => exact ⟨k + 1, by omega, by go_num, by rw [hs], HX.out, HK6.out, HW6.out⟩
       case measure => simp [intOf]; omega
     ·have HX : Hid (colsTo fs t.cells i (k + 1) = true) := hid (by rw [colsTo_succ hlt, HC.out, hcc, colOK_ok HALL.out (fun h => k3 h.1)]; rfl)
      have b3 : (fs[k].kind == 3) = false := by simpa using k3
      clear k3
      go_wp2
      go_roundw
      case rel => exact ⟨k + 1, by omega, by go_num, by rw [hs], HX.out, HKQ.out, HBQ.out⟩
      case measure => simp [intOf]; omega
  ·obtain rfl : k = fs.length := by omega
   have HX := hid (HEND.out HC.out)
   rw [HTF.out]
   generalize txt t.cells = s at *
   go_wp2
   go_ret
   exact ⟨by rw [HX.out]; simp; omega, HBR.out⟩
set_option maxHeartbeats 8000000 in
theorem specTable_any (a a2 : Option Addr) (cap c2 : Nat) (fs : List PF) (t : PT) (w : World) (hr : RdSl cField w fs (.slice a fs.length cap)) (hr2 : RdSl cCell w t.cells (.slice a2 t.cells.length c2)) (ht : totT t ≤ 1048576) :
  Calls Tryz.prog 24 #[.slice a fs.length cap, .agg #[.int .i64 t.rows, .slice a2 t.cells.length c2]] w fun e w' => e = .returned (.bool (tableOK fs t)) ∧ Below w.heap.size w w' := by
 have HR := hid hr
 have HR2 := hid hr2
 have hcl : t.cells.length ≤ 1048576 := by unfold totT totL at ht; omega
 have HQ : Hid (Calls Tryz.prog 57 #[.slice a fs.length cap] (w.alloc (.cells #[.int .i64 t.rows, .slice a2 t.cells.length c2] 51)) fun e w' => e = .returned (.bool (fieldsOK fs)) ∧ w'.heap[w.heap.size]? = some (.cells #[.int .i64 t.rows, .slice a2 t.cells.length c2] 51 (0, 0)) ∧ Below w.heap.size w w') := hid (by
  have hb1 := bN w (.cells #[.int .i64 t.rows, .slice a2 t.cells.length c2] 51)
  refine (specFields_any a cap fs _ (hr.later hb1)).mono ?_
  rintro e w' ⟨rfl, b⟩
  exact ⟨rfl, heap1 _ (b.mono (by simp)), hb1.trans (b.mono hb1.size)⟩)
 clear hr hr2
 cases hf : fieldsOK fs
 ·have HX := hid (tableOK_fields (t := t) hf)
  rw [hf] at HQ
  go_enter Tryz.func24, Tryz.ntmps24
  go_wp2_with fail
  refine HQ.out.mono ?_
  rintro e w2 ⟨rfl, -, b2⟩
  have HB := hid b2
  clear b2
  go_wp2
  go_ret
  exact ⟨by rw [HX.out]; rfl, HB.out⟩
 rw [hf] at HQ
 have HF := hid hf
 have hfl := fields_len hf
 clear hf
 by_cases hrows : 0 ≤ t.rows ∧ t.rows ≤ 100
 ·obtain ⟨R, hR⟩ : ∃ R : Nat, t.rows = (R : Int) := ⟨t.rows.toNat, by omega⟩
  have hR2 : R ≤ 100 := by omega
  obtain ⟨pr, hpr⟩ : ∃ pr : Nat, pr = fs.length * R := ⟨_, rfl⟩
  have hm : (fs.length : Int) * (R : Int) = (pr : Int) := by rw [hpr]; simp
  have hprl : pr ≤ 1200 := by rw [hpr]; exact Nat.le_trans (Nat.mul_le_mul hfl hR2) (by omega)
  have HPR := hid hpr
  have HRR := hid hR
  by_cases hlen : t.cells.length = pr
  ·have HLEN : Hid (t.cells.length = fs.length * R) := hid (by rw [hlen, hpr])
   have htot : txt t.cells + t.cells.length ≤ 1048576 := by unfold totT totL at ht; unfold txt; omega
   rw [hR] at HQ ⊢
   exact specTable_main a a2 cap c2 fs t R pr w HR HR2 hcl HQ HF hfl hR2 hm hprl HRR hlen HLEN htot
  ·have HX : Hid (tableOK fs t = false) := hid (tableOK_len (by rw [hR]; intro h; apply hlen; omega))
   have hne : ((t.cells.length : Int) != (pr : Int)) = true := by simp; omega
   rw [hR] at HQ ⊢
   clear hrows hR hpr
   go_enter Tryz.func24, Tryz.ntmps24
   go_wp2_with fail
   refine HQ.out.mono ?_
   rintro e w2 ⟨rfl, k2, b2⟩
   have HB := hid b2
   have p0 := cR w2 _ 0 _ _ _ k2
   have p1 := cR w2 _ 1 _ _ _ k2
   simp at p0 p1
   clear b2 k2
   have hRd : decide ((R : Int) < 0) = false := decide_eq_false (by omega)
   have hRd2 : decide ((100 : Int) < (R : Int)) = false := decide_eq_false (by omega)
   go_wp2
   go_ret
   exact ⟨by rw [HX.out]; rfl, HB.out⟩
 ·by_cases h0 : t.rows < 0
  ·have HX := hid (tableOK_low (fs := fs) h0)
   have hd : decide (t.rows < 0) = true := decide_eq_true h0
   clear hrows
   go_enter Tryz.func24, Tryz.ntmps24
   go_wp2_with fail
   refine HQ.out.mono ?_
   rintro e w2 ⟨rfl, k2, b2⟩
   have HB := hid b2
   have p0 := cR w2 _ 0 _ _ _ k2
   have p1 := cR w2 _ 1 _ _ _ k2
   simp at p0 p1
   clear b2 k2
   go_wp2
   go_ret
   exact ⟨by rw [HX.out]; rfl, HB.out⟩
  ·have HX := hid (tableOK_high (fs := fs) (t := t) (by omega))
   have hd : decide (t.rows < 0) = false := decide_eq_false h0
   have hd2 : decide (100 < t.rows) = true := decide_eq_true (by omega)
   clear hrows
   go_enter Tryz.func24, Tryz.ntmps24
   go_wp2_with fail
   refine HQ.out.mono ?_
   rintro e w2 ⟨rfl, k2, b2⟩
   have HB := hid b2
   have p0 := cR w2 _ 0 _ _ _ k2
   have p1 := cR w2 _ 1 _ _ _ k2
   simp at p0 p1
   clear b2 k2
   go_wp2
   go_ret
   exact ⟨by rw [HX.out]; rfl, HB.out⟩
end Go.Proofs.YtfaehioeepolhabGreat
namespace Go.Proofs.YtfaehioeepolhabGreat
open Go.RowKit
set_option maxRecDepth 100000 in
set_option maxHeartbeats 2000000 in
theorem textsOfCells_any (a : Option Addr) (cap : Nat) (xs : List PC) (w : World) (hr : RdSl cCell w xs (.slice a xs.length cap)) (hl : xs.length ≤ 1048576) :
  Calls Tryz.prog 81 #[.slice a xs.length cap] w fun e w' => ∃ v, e = .returned v ∧ RdSl cSS w' (nn xs) v ∧ Below w.heap.size w w' := by
 obtain ⟨i0, hi, hz0, hz1, hz2⟩ := info_parts infoSlG
 have HR := hid hr
 clear hr
 go_enter Tryz.func81, Tryz.ntmps81
 go_wp2
 go_loopw [3, 5, 8] (fun v _ i wr => ∃ k : Nat, k ≤ xs.length ∧ i = .int .i64 k ∧ Gath w wr v (nn (xs.take k)) ∧ Below w.heap.size w wr) (fun _ _ i _ => xs.length - (intOf i).toNat)
 case atStart => exact ⟨0, Nat.zero_le _, rfl, by simpa [nn] using Gath.nil w, Below.refl _ _⟩
 case round =>
  obtain ⟨k, hk, rfl, hga, hbe⟩ := hrel
  have HG := hid hga
  have HB := hid hbe
  clear hga hbe
  by_cases hlt : k < xs.length
  ·obtain ⟨b, off, v0, v1, v2, rfl, hes, d0, d1, d2⟩ := (HR.out.later HB.out).at3 rfl hlt
   obtain ⟨ax, cx, e⟩ := cCell_shape hes
   simp only [List.cons.injEq, and_true] at e
   obtain ⟨rfl, rfl, rfl⟩ := e
   have hT : RdSl cByte w xs[k].text (.slice ax xs[k].text.length cx) := by
    obtain ⟨b', off', y0, y1, y2, e', hy, q0, q1, q2⟩ := HR.out.at3 (k := k) rfl hlt
    simp only [Option.some.injEq, Addr.mk.injEq, and_true] at e'
    obtain ⟨rfl, rfl⟩ := e'
    have hlt2 := World.block_lt_of_cell? _ _ q2
    have e2 := (HB.out.cell (p := ⟨b, off + k * 3 + 2, none⟩) hlt2).symm.trans d2
    rw [q2] at e2
    obtain ⟨v, e3, hv, _⟩ := cCell_rd hy
    simp only [List.cons.injEq, and_true] at e3
    simp only [Option.some.injEq] at e2
    rw [← e2, e3.2.2]; exact hv
   have HT := hid hT
   have HS := hid (nn_snoc xs k hlt)
   have hnl := nn_len (xs.take k)
   have hnl2 : (xs.take k).length ≤ 1048576 := by simp; omega
   have hki : (k : Int) < (xs.length : Int) := by omega
   clear hes hT
   cases hnul : xs[k].null
   ·have HS2 : Hid (nn (xs.take (k + 1)) = nn (xs.take k) ++ [xs[k].text]) := hid (by rw [HS.out, hnul]; rfl)
    obtain ⟨vals, how, hel⟩ := HG.out
    have hvl : vals.length = (nn (xs.take k)).length := by have := how.1; omega
    have HO := hid how
    have HEL := hid hel
    have HVL := hid hvl
    clear how hel hvl
    rw [hnul] at d0
    generalize nn (xs.take k) = L at *
    go_wp2_with (first | (at_builtin; refine wpList_append_own _ rfl _ _ 103 rfl w.heap.size 87 i0 (.slice none 0 0) 1 24 Tryz.underlying103 hi hz0 hz1 hz2 rfl (by decide) _ L.length _ rfl ((HO.out.alloc _).alloc _) ⟨wr.heap.size + 1, 0, none⟩ 1 1 [.slice ax xs[k].text.length cx] rfl rfl (by intro j u hj; have h := cell_one_new (wr.alloc (.cells #[.bool false, .int .i64 xs[k].num, .slice ax xs[k].text.length cx] 102)) (.slice ax xs[k].text.length cx) 87 j u hj; rw [show (wr.alloc (.cells #[.bool false, .int .i64 xs[k].num, .slice ax xs[k].text.length cx] 102)).heap.size = wr.heap.size + 1 from by simp] at h; exact h) (one_cell rfl) (by unfold maxLen; omega) (by omega) (by have := HB.out.size; simp; omega) ?_))
    intro v' w1 hown' hgrow _
    have HB1 : Hid (Below w.heap.size w w1) := hid (((HB.out.alloc HB.out.size _).alloc (by have := HB.out.size; simp; omega) _).grown hgrow (by have := HB.out.size; simp; omega) (fun k h => (World.ownsRow.lt HO.out k h).1))
    have HG1 : Hid (Gath w w1 v' (nn (xs.take (k + 1)))) := hid (by rw [HS2.out]; exact Gath.snoc HVL.out HEL.out hown' HT.out)
    clear hown' hgrow
    go_wp2
    go_roundw
    case rel => exact ⟨k + 1, by omega, by go_num, HG1.out, HB1.out⟩
    case measure => simp [intOf]; omega
   ·have HS2 : Hid (nn (xs.take (k + 1)) = nn (xs.take k)) := hid (by rw [HS.out, hnul]; simp)
    rw [hnul] at d0
    go_wp2
    go_roundw
    case rel => exact ⟨k + 1, by omega, by go_num, by rw [HS2.out]; exact HG.out.kept (bN _ _), HB.out.alloc HB.out.size _⟩
    case measure => simp [intOf]; omega
  ·obtain rfl : k = xs.length := by omega
   have hF := HG.out.rd HB.out
   rw [List.take_length] at hF
   have HF := hid hF
   clear hF
   go_wp2
   go_ret
   exact ⟨_, rfl, HF.out, HB.out⟩
end Go.Proofs.YtfaehioeepolhabGreat
namespace Go.Proofs.YtfaehioeepolhabGreat
open Go.RowKit Go.Maps Go.WideMaps
theorem wf64 {n : Int} (h1 : -9223372036854775808 ≤ n) (h2 : n ≤ 9223372036854775807) : (Lit.int .i64 n).wf = true := by
 simp [Lit.wf, IntKind.min, IntKind.max, IntKind.bits, IntKind.signed]; omega
theorem dictField1 (x y : Value) (w : World) : (Instr.field 155 (.agg #[x, y]) 1).run Tryz.prog w = .ok y w := by kernel_rfl
theorem natBeq (a b : Nat) : ((a : Int) == (b : Int)) = decide (a = b) := by
 by_cases h : a = b
 ·subst h; simp
 ·rw [decide_eq_false h]; simp; omega
theorem keyed : Keyed Tryz.prog 9 := string_keyed Tryz.underlying9
set_option maxHeartbeats 1000000 in
theorem bytesOfTexts_any (a : Option Addr) (cap : Nat) (vs : List (List Nat)) (w : World) (hr : RdSl cSS w vs (.slice a vs.length cap)) (ht : totL List.length vs ≤ 1048576) :
  Calls Tryz.prog 80 #[.slice a vs.length cap] w fun e w' => e = .returned (.int .i64 ((tot vs : Nat) : Int)) ∧ w' = w := by
 have HR := hid hr
 clear hr
 rw [totL_tot] at ht
 go_enter Tryz.func80, Tryz.ntmps80
 go_wp2
 go_loop [3, 5, 8] (fun s _ i => ∃ k : Nat, k ≤ vs.length ∧ i = .int .i64 k ∧ s = .int .i64 ((tot (vs.take k) : Nat) : Int)) (fun _ _ i => vs.length - (intOf i).toNat)
 case atStart => exact ⟨0, Nat.zero_le _, rfl, by simp [tot]⟩
 case round =>
  obtain ⟨k, hk, rfl, rfl⟩ := hrel
  by_cases hlt : k < vs.length
  ·obtain ⟨b, off, a', c', rfl, hcb, -⟩ := HR.out.row hlt
   have hki : (k : Int) < (vs.length : Int) := by omega
   have HTS := hid (tot_snoc vs k hlt)
   have h3 := tot_take vs k
   have h4 := len_le_tot vs k hlt
   generalize tot (vs.take k) = t at *
   go_wp2
   go_round
   case rel => exact ⟨k + 1, by omega, by go_num, by rw [HTS.out]; go_num⟩
   case measure => simp [intOf]; omega
  ·obtain rfl : k = vs.length := by omega
   have HF : Hid (tot (vs.take vs.length) = tot vs) := hid (by rw [List.take_length])
   rw [HF.out]
   go_wp2
   go_ret
   exact ⟨rfl, rfl⟩
abbrev OwnsDict (w : World) (m : Nat) (vs : List (List Nat)) (k : Nat) : Prop := w.ownsMap Tryz.prog 9 (plainElem Tryz.prog 3) m k (dmap vs k)
set_option maxHeartbeats 2000000 in
theorem newDict_any (a : Option Addr) (cap : Nat) (vs : List (List Nat)) (w : World) (hr : RdSl cSS w vs (.slice a vs.length cap)) (ht : totL List.length vs ≤ 1048576) :
  Calls Tryz.prog 126 #[.slice a vs.length cap] w fun e w' => ∃ m, e = .returned (.agg #[.slice a vs.length cap, .map (some m)]) ∧ w.heap.size ≤ m ∧ OwnsDict w' m vs vs.length ∧ Below w.heap.size w w' := by
 have hmm := @run_makeMap Tryz.prog
 have HR := hid hr
 clear hr
 rw [totL_tot] at ht
 have HT := hid ht
 have hlen : vs.length ≤ 1048576 := by omega
 clear ht
 go_enter Tryz.func126, Tryz.ntmps126
 go_wp2
 go_loopw [4, 5, 9] (fun _ _ i wr => ∃ k : Nat, k ≤ vs.length ∧ i = .int .i64 k ∧ OwnsDict wr (w.heap.size + 1) vs k ∧ wr.heap[w.heap.size]? = some (.cells #[.slice none 0 0, .map none] 155 (0, 0)) ∧ Below w.heap.size w wr) (fun _ _ i _ => vs.length - (intOf i).toNat)
 case atStart => exact ⟨0, Nat.zero_le _, rfl, by have h := World.ownsMap_made (H := Unit) (w.alloc (.cells #[.slice none 0 0, .map none] 155)) Tryz.prog 9 (plainElem Tryz.prog 3); rw [show (w.alloc (.cells #[.slice none 0 0, .map none] 155)).heap.size = w.heap.size + 1 from by simp] at h; exact h, (heap2 (w := w) _ _ (Below.refl _ _)).1, below_new2 _ _ _⟩
 case round =>
  obtain ⟨k, hk, rfl, how, hblk, hbe⟩ := hrel
  have HO := hid how
  have HK := hid hblk
  have HB := hid hbe
  clear how hblk hbe
  by_cases hlt : k < vs.length
  ·obtain ⟨b, off, a', c', rfl, hcb, hrr⟩ := (HR.out.later HB.out).row hlt
   obtain ⟨_, _, e', -, -, -, hrd, hby⟩ := hrr.bytes
   simp only [Value.slice.injEq] at e'
   obtain ⟨rfl, -, rfl⟩ := e'
   have hcv := run_bstr (P := Tryz.prog) (c := c') Tryz.underlying87 Tryz.underlying5 Tryz.underlying9 hrd
   have hkl : vs[k].length ≤ 1048576 := by have := len_le_tot vs k hlt; have := HT.out; omega
   have HKEY : Hid (keyOf Tryz.prog 9 (.string (bstr vs[k])) = some (skey vs[k])) := hid (keyOf_string_mk Tryz.underlying9 (by rw [bstr_size]; unfold maxLen; omega))
   have HVAL : Hid (plainElem (H := Unit) Tryz.prog 3 (.int .i64 (k : Int)) = some (.lit (.int .i64 (k : Int)), [])) := hid (plainElem_int Tryz.underlying3 (wf64 (by omega) (by omega)))
   have hki : (k : Int) < (vs.length : Int) := by omega
   clear hrr hrd hby
   go_wp2_with (first | (at_mapUpdate; refine wpList_mapUpdate_own _ rfl _ _ _ 153 rfl 9 3 keyed Tryz.underlying153 (plainElem Tryz.prog 3) (w.heap.size + 1) k (dmap vs k) rfl HO.out (by unfold maxLen; omega) _ _ _ rfl rfl HKEY.out _ [] HVAL.out ?_))
   intro w1 hown1 hgrow1
   have HO1 : Hid (OwnsDict w1 (w.heap.size + 1) vs (k + 1)) := hid (by unfold OwnsDict; rw [dmap_succ hlt]; exact hown1)
   have HK1 : Hid (w1.heap[w.heap.size]? = some (.cells #[.slice none 0 0, .map none] 155 (0, 0))) := hid ((hgrow1.block w.heap.size (by have := HB.out.size; have := HO.out.lt; omega) (by simp)).trans HK.out)
   have HB1 : Hid (Below w.heap.size w w1) := hid (HB.out.grown hgrow1 HB.out.size (fun j hj => by cases hj; omega))
   clear hown1 hgrow1
   go_wp2
   go_roundw
   case rel => exact ⟨k + 1, by omega, by go_num, HO1.out, HK1.out, HB1.out⟩
   case measure => simp [intOf]; omega
  ·obtain rfl : k = vs.length := by omega
   have c0 := cR wr _ 0 _ _ _ HK.out
   have c1 := cR wr _ 1 _ _ _ HK.out
   have f0 := fR wr _ 0 _ _ HK.out
   have f1 := fR wr _ 1 _ _ HK.out
   simp at c0 c1
   go_wp2
   refine bodyPost_ret (results_cell_row rfl _ _ w.heap.size 155 #[.slice a vs.length cap, .map (some (w.heap.size + 1))] (0, 0) _ rfl (set2 HK.out) Tryz.underlying155 rfl (by kernel_rfl)) rfl ?_
   exact ⟨w.heap.size + 1, rfl, by omega, (HO.out.setCell (a := ⟨w.heap.size, 0, none⟩) (by simp) _).setCell (a := ⟨w.heap.size, 1, none⟩) (by simp) _, (HB.out.setCell (p := ⟨w.heap.size, 0, none⟩) (Nat.le_refl _) _).setCell (p := ⟨w.heap.size, 1, none⟩) (Nat.le_refl _) _⟩
end Go.Proofs.YtfaehioeepolhabGreat
namespace Go.Proofs.YtfaehioeepolhabGreat
open Go.RowKit Go.Maps
set_option maxHeartbeats 400000 in
theorem validRows_any (r : Int) (w : World) : Calls Tryz.prog 79 #[.int .i64 r] w fun e w' => e = .returned (.bool (decide (0 ≤ r ∧ r ≤ 100))) ∧ w' = w := by
 by_cases h0 : 0 ≤ r
 ·by_cases h1 : r ≤ 100
  ·rw [decide_eq_true ⟨h0, h1⟩]
   go_enter Tryz.func79, Tryz.ntmps79
   go_wp2
   go_ret
   exact ⟨by simp, rfl⟩
  ·rw [decide_eq_false (fun h => h1 h.2)]
   go_enter Tryz.func79, Tryz.ntmps79
   go_wp2
   go_ret
   exact ⟨by simp, rfl⟩
 ·rw [decide_eq_false (fun h => h0 h.1)]
  have hd : decide (0 ≤ r) = false := decide_eq_false h0
  go_enter Tryz.func79, Tryz.ntmps79
  go_wp2
  go_ret
  exact ⟨by simp; try omega, rfl⟩
set_option maxHeartbeats 1000000 in
theorem differentTexts_any (a : Option Addr) (cap : Nat) (xs : List PC) (w : World) (hr : RdSl cCell w xs (.slice a xs.length cap)) (hl : xs.length + tot (nn xs) ≤ 1048576) :
  Calls Tryz.prog 84 #[.slice a xs.length cap] w fun e w' => e = .returned (.int .i64 ((diff xs : Nat) : Int)) ∧ Below w.heap.size w w' := by
 have HQ := hid (textsOfCells_any a cap xs w hr (by omega))
 have hnl := nn_len xs
 clear hr
 go_enter Tryz.func84, Tryz.ntmps84
 go_wp2_with fail
 refine HQ.out.mono ?_
 rintro e w2 ⟨v, rfl, hv, b2⟩
 obtain ⟨a2, c2, rfl, -⟩ := id hv
 have HOK := hid hv.allOK
 have HN := hid (newDict_any a2 c2 (nn xs) w2 hv (by rw [totL_tot]; omega))
 have HB2 := hid b2
 clear hv b2
 go_wp2_with fail
 refine HN.out.mono ?_
 rintro e w3 ⟨m, rfl, hm, ho, b3⟩
 have HS : Hid (Maps.size (dmap (nn xs) (nn xs).length) = cnt (nn xs) (nn xs).length) := hid (dmap_size HOK.out (nn xs).length (Nat.le_refl _))
 have HB3 := hid (bC HB2.out b3)
 have hfd := dictField1 (.slice a2 (nn xs).length c2) (.map (some m)) w3
 have hln := ho.len Tryz.underlying153 3
 rw [HS.out] at hln
 clear ho b3
 have HD : Hid (diff xs = cnt (nn xs) (nn xs).length) := hid rfl
 generalize cnt (nn xs) (nn xs).length = c at *
 go_wp2
 go_ret
 exact ⟨by rw [HD.out]; rfl, HB3.out⟩
end Go.Proofs.YtfaehioeepolhabGreat
