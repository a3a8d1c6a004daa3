import Derived.Test.YtfaehioeepolhaaGreatJValidReceiver27
import Derived.Test.YtfaehioeepolhaaGreatJValidReceiver34
import Derived.Test.YtfaehioeepolhaaGreatJValidReceiver39
import Derived.Test.YtfaehioeepolhaaGreatJValidReceiver40
namespace Go.Proofs.YtfaehioeepolhaaGreat
open Go.RowKit Go.Maps
set_option maxHeartbeats 8000000 in
theorem implTable_main (a a2 : Option Addr) (cap c2 : Nat) (fs : List PF) (t : PT) (R pr : Nat) (w : World) (HR : Hid (RdSl cField w fs (.slice a fs.length cap))) (HR2 : Hid (RdSl cCell w t.cells (.slice a2 t.cells.length c2))) (hcl : t.cells.length ≤ 1048576)
    (HQ : Hid (Calls Tryz.prog 57 #[.slice a fs.length cap] (w.alloc (.cells #[.int .i64 (R : Int), .slice a2 t.cells.length c2] 111)) fun e w' => e = .returned (.bool true) ∧ w'.heap[w.heap.size]? = some (.cells #[.int .i64 (R : Int), .slice a2 t.cells.length c2] 111 (0, 0)) ∧ Below w.heap.size w w'))
    (HF : Hid (fieldsOK fs = true)) (hfl : fs.length ≤ 12) (hR2 : R ≤ 100) (hm : (R : Int) * (fs.length : Int) = (pr : Int)) (hprl : pr ≤ 1200) (HRR : Hid (t.rows = (R : Int))) (hlen : t.cells.length = pr) (HLEN : Hid (t.cells.length = fs.length * R)) (htot : txt t.cells + t.cells.length ≤ 1048576) :
    Calls Tryz.prog 108 #[.slice a fs.length cap, .agg #[.int .i64 (R : Int), .slice a2 t.cells.length c2]] w fun e w' => e = .returned (.bool (tableOK fs t)) ∧ Below w.heap.size w w' := by
  have hnt := nn_tot t.cells
  have hnl := nn_len t.cells
  have hne : ((t.cells.length : Int) != (pr : Int)) = false := by simp; omega
  clear hlen
  have HEND : Hid (tot (nn t.cells) ≤ 4000 → colsTo fs t.cells R fs.length = true → tableOK fs t = true) := hid (fun h1 h2 => by
    rw [tableOK_end HF.out HRR.out hR2 HLEN.out h2, ← cols_txt HLEN.out h2]
    exact decide_eq_true h1)
  have HBIG : Hid (4000 < tot (nn t.cells) → tableOK fs t = false) := hid (fun h => tableOK_txt (by omega))
  have HTT : Hid ((nn t.cells).length + tot (nn t.cells) ≤ 1048576) := hid (by omega)
  have HNC : Hid (∀ k, k < fs.length → R + tot (nn (col t.cells R k)) ≤ 1048576 ∧ (k + 1) * R ≤ t.cells.length) := hid (fun k hk => by
    have h0 : (k + 1) * R ≤ t.cells.length := by rw [HLEN.out]; exact Nat.mul_le_mul_right _ hk
    refine ⟨?_, h0⟩
    rw [Nat.add_mul, Nat.one_mul] at h0
    have h1 := nn_tot (col t.cells R k)
    have h2 : txt (col t.cells R k) ≤ txt t.cells := by
      unfold col txt
      refine Nat.le_trans (sum_take (fun c : PC => c.text.length) _ R) ?_
      conv => rhs; rw [← List.take_append_drop (k * R) t.cells]
      rw [List.map_append, List.sum_append]; omega
    omega)
  go_enter Tryz.func108, Tryz.ntmps108
  go_wp2_with fail
  refine HQ.out.mono ?_
  rintro e w2 ⟨rfl, k2, b2⟩
  have HB := hid b2
  have HK2 := hid k2
  have p0 := cell_of_row w2 _ 0 _ _ _ k2
  have p1 := cell_of_row w2 _ 1 _ _ _ k2
  simp at p0 p1
  clear b2 k2
  go_wp2_with fail
  refine (validRows_any _ _).mono ?_
  rintro e w2 ⟨rfl, rfl⟩
  rw [decide_eq_true (show (0 : Int) ≤ (R : Int) ∧ (R : Int) ≤ 100 by omega)]
  go_wp2_with fail
  refine (textsOfCells_any a2 c2 t.cells w2 (HR2.out.later HB.out) (by omega)).mono ?_
  rintro e w3 ⟨v, rfl, hv, b3⟩
  obtain ⟨a3, c3, rfl, -⟩ := id hv
  have HQ3 := hid (bytesOfTexts_any a3 c3 (nn t.cells) w3 hv (by rw [totL_tot]; exact HTT.out))
  have HB3 := hid (below_chain HB.out b3)
  have HK3 := hid ((b3.block w.heap.size (Array.getElem?_eq_some_iff.1 HK2.out).1).trans HK2.out)
  clear hv b3
  go_wp2_with fail
  refine HQ3.out.mono ?_
  rintro e w3 ⟨rfl, rfl⟩
  generalize tot (nn t.cells) = tt at *
  by_cases hbig : 4000 < tt
  · have HX := hid (HBIG.out hbig)
    go_wp2
    go_ret
    exact ⟨by rw [HX.out]; rfl, HB3.out⟩
  clear p0 p1
  go_wp2
  go_loopw [5, 6, 7, 35] (fun _ _ _ i wr => ∃ k : Nat, k ≤ fs.length ∧ i = .int .i64 k ∧ colsTo fs t.cells R k = true ∧ wr.heap[w.heap.size]? = some (.cells #[.int .i64 (R : Int), .slice a2 t.cells.length c2] 111 (0, 0)) ∧ Below w.heap.size w wr) (fun _ _ _ i _ => fs.length - (intOf i).toNat)
  case atStart => exact ⟨0, Nat.zero_le _, rfl, rfl, HK3.out, HB3.out⟩
  case round =>
    obtain ⟨k, hk, rfl, hcols, hblk, hbe⟩ := hrel
    have HC := hid hcols
    have HK := hid hblk
    have HBR := hid hbe
    clear hcols hblk hbe
    have p0 := cell_of_row wr _ 0 _ _ _ HK.out
    have p1 := cell_of_row wr _ 1 _ _ _ HK.out
    simp at p0 p1
    have hB : w.heap.size < wr.heap.size := (Array.getElem?_eq_some_iff.1 HK.out).1
    by_cases hlt : k < fs.length
    · obtain ⟨b, off, v0, v1, v2, rfl, hes, d0, d1, d2⟩ := (HR.out.later HBR.out).at3 rfl hlt
      obtain ⟨ax, cx, e⟩ := cField_shape hes
      simp only [List.cons.injEq, and_true] at e
      obtain ⟨rfl, rfl, rfl⟩ := e
      have HE := hid hes
      have hki : (k : Int) < (fs.length : Int) := by omega
      clear hes
      have hbA := below_new1 wr (.cells #[.slice ax fs[k].name.length cx, .int .i64 fs[k].kind, .int .i64 fs[k].width] 98)
      have HQ1 : Hid (Calls Tryz.prog 156 #[.agg #[.int .i64 (R : Int), .slice a2 t.cells.length c2], .int .i64 (k : Int)] (wr.alloc (.cells #[.slice ax fs[k].name.length cx, .int .i64 fs[k].kind, .int .i64 fs[k].width] 98)) fun e w' => ∃ a' cap', e = .returned (.slice a' R cap') ∧ RdSl cCell w' (col t.cells R k) (.slice a' R cap') ∧ w'.heap[wr.heap.size]? = some (.cells #[.slice ax fs[k].name.length cx, .int .i64 fs[k].kind, .int .i64 fs[k].width] 98 (0, 0)) ∧ Below wr.heap.size wr w') := hid (by
        have h := cellsOfField_any t R k a2 c2 (wr.alloc (.cells #[.slice ax fs[k].name.length cx, .int .i64 fs[k].kind, .int .i64 fs[k].width] 98)) HRR.out ((HR2.out.later HBR.out).later hbA) hR2 (by omega) (HNC.out k hlt).2
        rw [HRR.out] at h
        refine h.mono ?_
        rintro e w' ⟨a', cap', rfl, h1, h2⟩
        exact ⟨a', cap', rfl, h1.later h2, heap1 _ (h2.mono (by simp)), hbA.trans (h2.mono hbA.size)⟩)
      clear hbA
      go_wp2_with fail
      refine HQ1.out.mono ?_
      rintro e w4 ⟨a', cap', rfl, hcol, hfb, b4⟩
      have HCOL := hid hcol
      have HFB := hid hfb
      have HB4 := hid b4
      have r0 := cell_of_row w4 _ 0 _ _ _ hfb
      have r1 := cell_of_row w4 _ 1 _ _ _ hfb
      have r2 := cell_of_row w4 _ 2 _ _ _ hfb
      simp at r0 r1 r2
      have hfs : wr.heap.size < w4.heap.size := (Array.getElem?_eq_some_iff.1 hfb).1
      clear hcol hfb b4
      have HQ2 : Hid (Calls Tryz.prog 157 #[.agg #[.slice ax fs[k].name.length cx, .int .i64 fs[k].kind, .int .i64 fs[k].width], .slice a' R cap'] w4 fun e w' => e = .returned (.bool ((col t.cells R k).all (cellOK fs[k]))) ∧ Below w4.heap.size w4 w') := hid (by
        have hl := col_len (HNC.out k hlt).2
        have h := validCells_any fs[k] _ a' cap' (col t.cells R k) w4 (cField.later HE.out HB4.out) (by rw [hl]; exact HCOL.out) (by omega)
        rw [hl] at h
        exact h)
      go_wp2_with fail
      refine HQ2.out.mono ?_
      rintro e w5 ⟨rfl, b5⟩
      have HB5 := hid b5
      have HW5 : Hid (Below w.heap.size w w5) := hid (HBR.out.trans ((HB4.out.trans (b5.mono HB4.out.size)).mono HBR.out.size))
      have HK5 := hid ((b5.block w.heap.size (by omega)).trans ((HB4.out.block w.heap.size hB).trans HK.out))
      have s1 := (b5.cell (p := ⟨wr.heap.size, 1, none⟩) hfs).trans r1
      clear b5
      cases hall : (col t.cells R k).all (cellOK fs[k])
      · have HX := hid (tableOK_col HRR.out hlt (colOK_cells hall))
        go_wp2
        go_ret
        exact ⟨by rw [HX.out]; rfl, HW5.out⟩
      · have HALL := hid hall
        clear hall
        by_cases k3 : fs[k].kind = 3
        · have K3 := hid k3
          have b3 : (fs[k].kind == 3) = true := by simpa using k3
          clear k3
          have HQ4 : Hid (Calls Tryz.prog 158 #[.slice a' R cap'] w5 fun e w' => e = .returned (.int .i64 ((diff (col t.cells R k) : Nat) : Int)) ∧ Below w5.heap.size w5 w') := hid (by
            have hl := col_len (HNC.out k hlt).2
            have h := differentTexts_any a' cap' (col t.cells R k) w5 (by rw [hl]; exact HCOL.out.later HB5.out) (by rw [hl]; exact (HNC.out k hlt).1)
            rw [hl] at h
            exact h)
          go_wp2_with fail
          refine HQ4.out.mono ?_
          rintro e w6 ⟨rfl, b6⟩
          have HW6 := hid (HW5.out.trans (b6.mono HW5.out.size))
          have HK6 := hid ((b6.block w.heap.size (Array.getElem?_eq_some_iff.1 HK5.out).1).trans HK5.out)
          clear b6
          by_cases hdf : 40 < diff (col t.cells R k)
          · have HX := hid (tableOK_col HRR.out hlt (colOK_dict K3.out hdf))
            generalize diff (col t.cells R k) = df at *
            go_wp2
            go_ret
            exact ⟨by rw [HX.out]; rfl, HW6.out⟩
          · have HX : Hid (colsTo fs t.cells R (k + 1) = true) := hid (by rw [colsTo_succ hlt, HC.out, colOK_ok HALL.out (fun h => hdf h.2)]; rfl)
            have hdl : diff (col t.cells R k) ≤ 40 := by omega
            generalize diff (col t.cells R k) = df at *
            go_wp2
            go_roundw
            case rel => exact ⟨k + 1, by omega, by go_num, HX.out, HK6.out, HW6.out⟩
            case measure => simp [intOf]; omega
        · have HX : Hid (colsTo fs t.cells R (k + 1) = true) := hid (by rw [colsTo_succ hlt, HC.out, colOK_ok HALL.out (fun h => k3 h.1)]; rfl)
          have b3 : (fs[k].kind == 3) = false := by simpa using k3
          clear k3
          go_wp2
          go_roundw
          case rel => exact ⟨k + 1, by omega, by go_num, HX.out, HK5.out, HW5.out⟩
          case measure => simp [intOf]; omega
    · obtain rfl : k = fs.length := by omega
      have HX := hid (HEND.out (by omega) HC.out)
      go_wp2
      go_ret
      exact ⟨by rw [HX.out]; rfl, HBR.out⟩
end Go.Proofs.YtfaehioeepolhaaGreat
