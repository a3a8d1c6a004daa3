import Derived.Test.YtfaehioeepolhaaGreatJCrashReceiver22
import Derived.Test.YtfaehioeepolhaaGreatJCrashReceiver23
import Derived.Test.YtfaehioeepolhaaGreatJCrashReceiver24
import Derived.Test.YtfaehioeepolhaaGreatJCrashReceiver25
import Derived.Test.YtfaehioeepolhaaGreatJCrashReceiver26
namespace Go.Proofs.YtfaehioeepolhaaGreat
open Go.RowKit Go.Maps
theorem allTo_bad {f : PF} {cs : List PC} {k : Nat} (hk : k < cs.length) (h : cellOK f cs[k] = false) : cs.all (cellOK f) = false := by
  simp only [List.all_eq_false]
  exact ⟨cs[k], List.getElem_mem hk, by simp [h]⟩
theorem allTo_ok {f : PF} {cs : List PC} (h : ∀ k, (hk : k < cs.length) → cellOK f cs[k] = true) : cs.all (cellOK f) = true := by
  simp only [List.all_eq_true]
  intro x hx
  obtain ⟨k, hk, rfl⟩ := List.getElem_of_mem hx
  exact h k hk
set_option maxHeartbeats 8000000 in
theorem specTable_main (a a2 : Option Addr) (cap c2 : Nat) (fs : List PF) (t : PT) (R pr : Nat) (w : World) (HR : Hid (RdSl cField w fs (.slice a fs.length cap))) (HR2 : Hid (RdSl cCell w t.cells (.slice a2 t.cells.length c2))) (hcl : t.cells.length ≤ 1048576)
    (HQ : Hid (Calls Tryz.prog 52 #[.slice a fs.length cap] (w.alloc (.cells #[.int .i64 (R : Int), .slice a2 t.cells.length c2] 111)) fun e w' => e = .returned (.bool true) ∧ w'.heap[w.heap.size]? = some (.cells #[.int .i64 (R : Int), .slice a2 t.cells.length c2] 111 (0, 0)) ∧ Below w.heap.size w w'))
    (HF : Hid (fieldsOK fs = true)) (hfl : fs.length ≤ 12) (hR2 : R ≤ 100) (hm : (fs.length : Int) * (R : Int) = (pr : Int)) (hprl : pr ≤ 1200) (HRR : Hid (t.rows = (R : Int))) (hlen : t.cells.length = pr) (HLEN : Hid (t.cells.length = fs.length * R)) (htot : txt t.cells + t.cells.length ≤ 1048576) :
    Calls Tryz.prog 103 #[.slice a fs.length cap, .agg #[.int .i64 (R : Int), .slice a2 t.cells.length c2]] w fun e w' => e = .returned (.bool (tableOK fs t)) ∧ Below w.heap.size w w' := by
  have hne : ((t.cells.length : Int) != (pr : Int)) = false := by simp; omega
  clear hlen
  have HEND : Hid (colsTo fs t.cells R fs.length = true → tableOK fs t = decide (txt t.cells ≤ 4000)) := hid (fun h2 => tableOK_end HF.out HRR.out hR2 HLEN.out h2)
  have HNC : Hid (∀ k, k < fs.length → (k + 1) * R ≤ t.cells.length) := hid (fun k hk => by rw [HLEN.out]; exact Nat.mul_le_mul_right _ hk)
  have HTX : Hid (∀ k, txt (t.cells.take k) ≤ txt t.cells) := hid (fun k => txt_take _ _)
  have HTF : Hid (txt (t.cells.take (fs.length * R)) = txt t.cells) := hid (by rw [← HLEN.out, List.take_length])
  go_enter Tryz.func103, Tryz.ntmps103
  go_wp2_with fail
  refine HQ.out.mono ?_
  rintro e w2 ⟨rfl, k2, b2⟩
  have HB := hid b2
  have HK2 := hid k2
  have p0 := cell_of_row w2 _ 0 _ _ _ k2
  have p1 := cell_of_row w2 _ 1 _ _ _ k2
  simp at p0 p1
  have hRd : decide ((R : Int) < 0) = false := decide_eq_false (by omega)
  have hRd2 : decide ((100 : Int) < (R : Int)) = false := decide_eq_false (by omega)
  clear b2 k2
  go_wp2
  clear p0 p1
  go_loopw [5, 6, 7, 8] (fun s i _ _ wr => ∃ k : Nat, k ≤ fs.length ∧ i = .int .i64 k ∧ s = .int .i64 ((txt (t.cells.take (k * R)) : Nat) : Int) ∧ colsTo fs t.cells R k = true ∧ wr.heap[w.heap.size]? = some (.cells #[.int .i64 (R : Int), .slice a2 t.cells.length c2] 111 (0, 0)) ∧ Below w.heap.size w wr) (fun _ i _ _ _ => fs.length - (intOf i).toNat)
  case atStart => exact ⟨0, Nat.zero_le _, rfl, by simp [txt], rfl, HK2.out, HB.out⟩
  case round =>
    obtain ⟨k, hk, rfl, rfl, hcols, hblk, hbe⟩ := hrel
    have HC := hid hcols
    have HK := hid hblk
    have HBR := hid hbe
    clear hcols hblk hbe
    have p0 := cell_of_row wr _ 0 _ _ _ HK.out
    have p1 := cell_of_row wr _ 1 _ _ _ HK.out
    simp at p0 p1
    have hB : w.heap.size < wr.heap.size := (Array.getElem?_eq_some_iff.1 HK.out).1
    by_cases hlt : k < fs.length
    · have hki : (k : Int) < (fs.length : Int) := by omega
      have HQ1 : Hid (Calls Tryz.prog 146 #[.agg #[.int .i64 (R : Int), .slice a2 t.cells.length c2], .int .i64 (k : Int)] wr fun e w' => ∃ a' cap', e = .returned (.slice a' R cap') ∧ RdSl cCell w' (col t.cells R k) (.slice a' R cap') ∧ Below wr.heap.size wr w') := hid (by
        have h := l2column_any t R k a2 c2 wr HRR.out (HR2.out.later HBR.out) hR2 (by omega) (HNC.out k hlt)
        rw [HRR.out] at h
        refine h.mono ?_
        rintro e w' ⟨a', cap', rfl, h1, h2⟩
        exact ⟨a', cap', rfl, h1.later h2, h2⟩)
      have hcolen := col_len (HNC.out k hlt)
      have HCL := hid hcolen
      have HAT : Hid (∀ i, (h : i < R) → (h2 : i < (col t.cells R k).length) → txt (t.cells.take (k * R + (i + 1))) = txt (t.cells.take (k * R + i)) + (col t.cells R k)[i].text.length) := hid (fun i h h2 => by
        have h3 := HNC.out k hlt
        have h4 := h3
        rw [Nat.add_mul, Nat.one_mul] at h4
        rw [← Nat.add_assoc, txt_snoc t.cells (k * R + i) (by omega), col_at h3 h])
      have hcw : fs[k].kind = 1 → widthOK fs[k].width = true := okTo_width HF.out hlt
      have HCW := hid hcw
      clear hcolen hcw
      go_wp2_with fail
      refine HQ1.out.mono ?_
      rintro e w4 ⟨a', cap', rfl, hcol, b4⟩
      have HCOL := hid hcol
      have HB4 := hid (HBR.out.trans (b4.mono HBR.out.size))
      have HK4 := hid ((b4.block w.heap.size hB).trans HK.out)
      clear hcol b4 p0 p1
      generalize hcc : col t.cells R k = cc at *
      go_wp2
      go_loopw [5, 8] (fun s j wq => ∃ i : Nat, i ≤ R ∧ j = .int .i64 i ∧ s = .int .i64 ((txt (t.cells.take (k * R + i)) : Nat) : Int) ∧ (∀ q, (h : q < cc.length) → q < i → cellOK fs[k] cc[q] = true) ∧ RdSl cCell wq cc (.slice a' R cap') ∧ wq.heap[w.heap.size]? = some (.cells #[.int .i64 (R : Int), .slice a2 t.cells.length c2] 111 (0, 0)) ∧ Below w.heap.size w wq) (fun _ j _ => R - (intOf j).toNat)
      case atStart => exact ⟨0, Nat.zero_le _, rfl, by simp, fun q _ h => by omega, HCOL.out, HK4.out, HB4.out⟩
      case round =>
        obtain ⟨i, hiR, rfl, rfl, hall, hcl2, hbk, hbq⟩ := hrel
        have HA := hid hall
        have HC2 := hid hcl2
        have HKQ := hid hbk
        have HBQ := hid hbq
        clear hall hcl2 hbk hbq
        have htx := HTX.out (k * R + i)
        by_cases hil : i < R
        · obtain ⟨b1, o1, x0, x1, x2, rfl, hes1, d0, d1, d2⟩ := (HR.out.later HBQ.out).at3 (k := k) rfl hlt
          have hicc : i < cc.length := by rw [HCL.out]; exact hil
          obtain ⟨b2, o2, y0, y1, y2, rfl, hes2, g0, g1, g2⟩ := HC2.out.at3 (k := i) rfl hicc
          obtain ⟨ay, cy, e⟩ := cCell_shape hes2
          simp only [List.cons.injEq, and_true] at e
          obtain ⟨rfl, rfl, rfl⟩ := e
          have HQ2 : Hid (Calls Tryz.prog 147 #[.agg #[x0, x1, x2], .agg #[.bool cc[i].null, .int .i64 cc[i].num, .slice ay cc[i].text.length cy]] wr.drew fun e w' => e = .returned (.bool (cellOK fs[k] cc[i])) ∧ Hid (Below wr.heap.size wr w') ∧ w'.cell? ⟨b1, o1 + k * 3, none⟩ = some x0 ∧ w'.cell? ⟨b1, o1 + k * 3 + 1, none⟩ = some x1 ∧ w'.cell? ⟨b1, o1 + k * 3 + 2, none⟩ = some x2 ∧ w'.cell? ⟨b2, o2 + i * 3, none⟩ = some (.bool cc[i].null) ∧ w'.cell? ⟨b2, o2 + i * 3 + 1, none⟩ = some (.int .i64 cc[i].num) ∧ w'.cell? ⟨b2, o2 + i * 3 + 2, none⟩ = some (.slice ay cc[i].text.length cy)) := hid (by
            refine (l2cellOK_any fs[k] cc[i] _ _ wr.drew (cField.later hes1 (Below.refl _ _).drew) (cCell.later hes2 (Below.refl _ _).drew) HCW.out).mono ?_
            rintro e w' ⟨rfl, b⟩
            have kp : ∀ p v, wr.cell? p = some v → w'.cell? p = some v := fun p v h => (b.cell (World.block_lt_of_cell? _ _ h)).trans h
            exact ⟨rfl, hid ((Below.refl _ wr).drew.trans b), kp _ _ d0, kp _ _ d1, kp _ _ d2, kp _ _ g0, kp _ _ g1, kp _ _ g2⟩)
          have HAI := hid (HAT.out i hil hicc)
          have hii : (i : Int) < (R : Int) := by omega
          have htx2 := HTX.out (k * R + (i + 1))
          clear hes1 hes2
          generalize txt (t.cells.take (k * R + i)) = s at *
          cases hok : cellOK fs[k] cc[i]
          · have HX : Hid (tableOK fs t = false) := hid (tableOK_col HRR.out hlt (by rw [hcc]; exact colOK_cells (allTo_bad hicc hok)))
            rw [hok] at HQ2
            go_wp2
            first | (go_region_held (fun w' => w'.cell? ⟨b1, o1 + k * 3, none⟩ = some x0 ∧ w'.cell? ⟨b1, o1 + k * 3 + 1, none⟩ = some x1 ∧ w'.cell? ⟨b1, o1 + k * 3 + 2, none⟩ = some x2 ∧ w'.cell? ⟨b2, o2 + i * 3, none⟩ = some (.bool cc[i].null) ∧ w'.cell? ⟨b2, o2 + i * 3 + 1, none⟩ = some (.int .i64 cc[i].num) ∧ w'.cell? ⟨b2, o2 + i * 3 + 2, none⟩ = some (.slice ay cc[i].text.length cy)) (go_keep) (first | (go_at_call 147; refine HQ2.out.mono ?_; rintro e w' ⟨rfl, hw', hd0, hd1, hd2, hg0, hg1, hg2⟩))) | fail
            go_wp2
            go_ret
            exact ⟨by rw [HX.out]; rfl, HBQ.out.trans (hw'.out.mono HBQ.out.size)⟩
          · have HX : Hid (∀ q, (h : q < cc.length) → q < i + 1 → cellOK fs[k] cc[q] = true) := hid (fun q hq hqi => by
              by_cases e : q = i
              · subst e; exact hok
              · exact HA.out q hq (by omega))
            rw [hok] at HQ2
            have hsz : s + cc[i].text.length ≤ 1048576 := by rw [← HAI.out]; omega
            go_wp2
            first | (go_region_held (fun w' => w'.cell? ⟨b1, o1 + k * 3, none⟩ = some x0 ∧ w'.cell? ⟨b1, o1 + k * 3 + 1, none⟩ = some x1 ∧ w'.cell? ⟨b1, o1 + k * 3 + 2, none⟩ = some x2 ∧ w'.cell? ⟨b2, o2 + i * 3, none⟩ = some (.bool cc[i].null) ∧ w'.cell? ⟨b2, o2 + i * 3 + 1, none⟩ = some (.int .i64 cc[i].num) ∧ w'.cell? ⟨b2, o2 + i * 3 + 2, none⟩ = some (.slice ay cc[i].text.length cy)) (go_keep) (first | (go_at_call 147; refine HQ2.out.mono ?_; rintro e w' ⟨rfl, hw', hd0, hd1, hd2, hg0, hg1, hg2⟩))) | fail
            have HBW := hid (HBQ.out.trans (hw'.out.mono HBQ.out.size))
            have HKW := hid ((hw'.out.block w.heap.size (Array.getElem?_eq_some_iff.1 HKQ.out).1).trans HKQ.out)
            have HCW2 := hid (HC2.out.later hw'.out)
            go_wp2
            go_roundw
            case rel => exact ⟨i + 1, by omega, by go_num, by rw [HAI.out]; go_num, HX.out, HCW2.out, HKW.out, HBW.out⟩
            case measure => simp [intOf]; omega
        · obtain rfl : i = R := by omega
          have HALL : Hid (cc.all (cellOK fs[k]) = true) := hid (allTo_ok (fun q hq => HA.out q hq (by rw [HCL.out] at hq; exact hq)))
          obtain ⟨b1, o1, x0, x1, x2, rfl, hes1, d0, d1, d2⟩ := (HR.out.later HBQ.out).at3 (k := k) rfl hlt
          obtain ⟨ax, cx, e⟩ := cField_shape hes1
          simp only [List.cons.injEq, and_true] at e
          obtain ⟨rfl, rfl, rfl⟩ := e
          have HTE : Hid (txt (t.cells.take (k * i + i)) = txt (t.cells.take ((k + 1) * i))) := hid (by rw [Nat.add_mul, Nat.one_mul])
          rw [HTE.out]
          clear hes1
          generalize hs : txt (t.cells.take ((k + 1) * i)) = s at *
          by_cases k3 : fs[k].kind = 3
          · have K3 := hid k3
            have b3 : (fs[k].kind == 3) = true := by simpa using k3
            clear k3
            have HQ4 : Hid (Calls Tryz.prog 148 #[.slice a' i cap', .int .i64 40] wr fun e w' => ∃ a5 n5 c5, e = .returned (.slice a5 n5 c5) ∧ (40 < n5 ↔ 40 < diff cc) ∧ n5 ≤ 1048576 ∧ Below wr.heap.size wr w') := hid (by
              have h := l2texts_any a' cap' cc wr (by rw [HCL.out]; exact HC2.out) (by rw [HCL.out]; omega)
              rw [HCL.out] at h
              exact h)
            go_wp2_with fail
            refine HQ4.out.mono ?_
            rintro e w6 ⟨a5, n5, c5, rfl, hiff, hn5, b6⟩
            have HW6 := hid (HBQ.out.trans (b6.mono HBQ.out.size))
            have HK6 := hid ((b6.block w.heap.size (Array.getElem?_eq_some_iff.1 HKQ.out).1).trans HKQ.out)
            clear b6
            by_cases hdf : 40 < n5
            · have HX : Hid (tableOK fs t = false) := hid (tableOK_col HRR.out hlt (by rw [hcc]; exact colOK_dict K3.out (hiff.1 hdf)))
              clear hiff
              go_wp2
              go_ret
              exact ⟨by rw [HX.out]; rfl, HW6.out⟩
            · have HX : Hid (colsTo fs t.cells i (k + 1) = true) := hid (by rw [colsTo_succ hlt, HC.out, hcc, colOK_ok HALL.out (fun h => hdf (hiff.2 h.2))]; rfl)
              clear hiff
              go_wp2
              go_roundw
              case rel => exact ⟨k + 1, by omega, by go_num, by rw [hs], HX.out, HK6.out, HW6.out⟩
              case measure => simp [intOf]; omega
          · have HX : Hid (colsTo fs t.cells i (k + 1) = true) := hid (by rw [colsTo_succ hlt, HC.out, hcc, colOK_ok HALL.out (fun h => k3 h.1)]; rfl)
            have b3 : (fs[k].kind == 3) = false := by simpa using k3
            clear k3
            go_wp2
            go_roundw
            case rel => exact ⟨k + 1, by omega, by go_num, by rw [hs], HX.out, HKQ.out, HBQ.out⟩
            case measure => simp [intOf]; omega
    · obtain rfl : k = fs.length := by omega
      have HX := hid (HEND.out HC.out)
      rw [HTF.out]
      generalize txt t.cells = s at *
      go_wp2
      go_ret
      exact ⟨by rw [HX.out]; simp; omega, HBR.out⟩
end Go.Proofs.YtfaehioeepolhaaGreat
