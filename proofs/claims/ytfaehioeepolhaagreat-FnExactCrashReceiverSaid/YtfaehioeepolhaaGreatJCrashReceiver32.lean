import Derived.Test.YtfaehioeepolhaaGreatJCrashReceiver31
import Derived.Deep.RegionWith
import Derived.Test.YtfaehioeepolhaaGreatJCrashReceiver22
import Derived.Test.YtfaehioeepolhaaGreatJCrashReceiver28
namespace Go.Proofs.YtfaehioeepolhaaGreat
open Go.RowKit
set_option maxHeartbeats 2000000 in
theorem nameTaken_any (a a2 : Option Addr) (cap c2 : Nat) (fs : List PF) (nm : List Nat) (w : World) (hr : RdSl cField w fs (.slice a fs.length cap)) (hr2 : Rd w a2 (byt nm)) (hb2 : ∀ x ∈ nm, x < 256) (hl : fs.length ≤ 1048576) :
    Calls Tryz.prog 106 #[.slice a fs.length cap, .slice a2 nm.length c2] w fun e w' => e = .returned (.bool (taken fs nm)) ∧ Below w.heap.size w w' := by
  have HR := hid hr
  have HR2 := hid hr2
  have HB2 := hid hb2
  clear hr hr2 hb2
  go_enter Tryz.func106, Tryz.ntmps106
  go_wp2
  go_loopw [6, 9] (fun _ i wr => ∃ k : Nat, k ≤ fs.length ∧ i = .int .i64 k ∧ (∀ j, (h : j < fs.length) → j < k → fs[j].name ≠ nm) ∧ Below w.heap.size w wr) (fun _ i _ => fs.length - (intOf i).toNat)
  case atStart => exact ⟨0, Nat.zero_le _, rfl, fun j _ h => by omega, Below.refl _ _⟩
  case round =>
    obtain ⟨k, hk, rfl, hall, hbe⟩ := hrel
    have HA := hid hall
    have HB := hid hbe
    clear hall hbe
    by_cases hlt : k < fs.length
    · obtain ⟨b, off, v0, v1, v2, rfl, hes, d0, d1, d2⟩ := (HR.out.later HB.out).at3 rfl hlt
      obtain ⟨v, e, hv, -⟩ := cField_rd hes
      obtain ⟨ax, cx, rfl, -, -, -, rx, bx⟩ := hv.bytes
      simp only [List.cons.injEq, and_true] at e
      obtain ⟨rfl, rfl, rfl⟩ := e
      have HQ : Hid (∀ o, Calls Tryz.prog 152 #[.slice ax fs[k].name.length cx, .slice a2 nm.length c2] (wr.alloc o) fun e w' => e = .returned (.bool (decide (fs[k].name = nm))) ∧ w' = wr.alloc o) := hid (fun o => bytesEqual_any ax a2 cx c2 _ _ _ (rx.later (below_new1 _ _)) ((HR2.out.later HB.out).later (below_new1 _ _)) bx HB2.out)
      have hki : (k : Int) < (fs.length : Int) := by omega
      clear hes hv rx bx
      go_wp2_with fail
      refine (HQ.out _).mono ?_
      rintro e w2 ⟨rfl, rfl⟩
      by_cases hs : fs[k].name = nm
      · have HX := hid (taken_at hlt hs)
        rw [decide_eq_true hs]
        go_wp2
        go_ret
        exact ⟨by rw [HX.out]; rfl, HB.out.alloc HB.out.size _⟩
      · rw [decide_eq_false hs]
        have HX : Hid (∀ j, (h : j < fs.length) → j < k + 1 → fs[j].name ≠ nm) := hid (fun j hj hjk => by
          by_cases e : j = k
          · subst e; exact hs
          · exact HA.out j hj (by omega))
        go_wp2
        go_roundw
        case rel => exact ⟨k + 1, by omega, by go_num, HX.out, HB.out.alloc HB.out.size _⟩
        case measure => simp [intOf]; omega
    · obtain rfl : k = fs.length := by omega
      have HF := hid (not_taken (fun j hj => HA.out j hj hj))
      go_wp2
      go_ret
      exact ⟨by rw [HF.out]; rfl, HB.out⟩
set_option maxHeartbeats 4000000 in
theorem implFields_any (a : Option Addr) (cap : Nat) (fs : List PF) (w : World) (hr : RdSl cField w fs (.slice a fs.length cap)) :
    Calls Tryz.prog 57 #[.slice a fs.length cap] w fun e w' => e = .returned (.bool (fieldsOK fs)) ∧ Below w.heap.size w w' := by
  have HR := hid hr
  clear hr
  by_cases h1 : fs.length < 1
  · have HD : Hid (fieldsOK fs = false) := hid (by simp [fieldsOK]; omega)
    go_enter Tryz.func57, Tryz.ntmps57
    go_wp2
    go_ret
    exact ⟨by rw [HD.out]; rfl, Below.refl _ _⟩
  by_cases h2 : 12 < fs.length
  · have HD : Hid (fieldsOK fs = false) := hid (by simp [fieldsOK]; omega)
    go_enter Tryz.func57, Tryz.ntmps57
    go_wp2
    go_ret
    exact ⟨by rw [HD.out]; rfl, Below.refl _ _⟩
  have HD : Hid (fieldsOK fs = okTo fs fs.length) := hid (by
    have e1 : decide (1 ≤ fs.length) = true := decide_eq_true (by omega)
    have e2 : decide (fs.length ≤ 12) = true := decide_eq_true (by omega)
    unfold fieldsOK; rw [e1, e2]; rfl)
  go_enter Tryz.func57, Tryz.ntmps57
  go_wp2
  go_loopw [3, 4, 15] (fun _ _ i wr => ∃ k : Nat, k ≤ fs.length ∧ i = .int .i64 k ∧ okTo fs k = true ∧ Below w.heap.size w wr) (fun _ _ i _ => fs.length - (intOf i).toNat)
  case atStart => exact ⟨0, Nat.zero_le _, rfl, rfl, Below.refl _ _⟩
  case round =>
    obtain ⟨i, hk, rfl, hok, hbe⟩ := hrel
    have HB := hid hbe
    have HO := hid hok
    clear hbe hok
    by_cases hlt : i < fs.length
    · obtain ⟨b, off, v0, v1, v2, rfl, hes, d0, d1, d2⟩ := (HR.out.later HB.out).at3 rfl hlt
      have HE := hid hes
      obtain ⟨v, e, hv, -⟩ := cField_rd hes
      obtain ⟨ax, cx, rfl, -, -, -, rx, bx⟩ := hv.bytes
      simp only [List.cons.injEq, and_true] at e
      obtain ⟨rfl, rfl, rfl⟩ := e
      have hki : (i : Int) < (fs.length : Int) := by omega
      have hki2 : (i : Int) ≤ (cap : Int) := by
        obtain ⟨_, cap', e', hc, _⟩ := HR.out
        simp at e'
        omega
      have HW : Hid (Below w.heap.size w (wr.alloc (.cells #[.slice ax fs[i].name.length cx, .int .i64 fs[i].kind, .int .i64 fs[i].width] 98))) := hid (HB.out.alloc HB.out.size _)
      have HQ1 : Hid (Calls Tryz.prog 105 #[.agg #[.slice ax fs[i].name.length cx, .int .i64 fs[i].kind, .int .i64 fs[i].width]] (wr.alloc (.cells #[.slice ax fs[i].name.length cx, .int .i64 fs[i].kind, .int .i64 fs[i].width] 98)).drew fun e w' => e = .returned (.bool (fieldOK fs[i])) ∧ Hid (Below w.heap.size w w' ∧ Below wr.heap.size wr w') ∧ w'.cell? ⟨wr.heap.size, 0, none⟩ = some (.slice ax fs[i].name.length cx) ∧ w'.cell? ⟨wr.heap.size, 1, none⟩ = some (.int .i64 fs[i].kind) ∧ w'.cell? ⟨wr.heap.size, 2, none⟩ = some (.int .i64 fs[i].width)) := hid (by
        have hbw := below_new1 wr (.cells #[.slice ax fs[i].name.length cx, .int .i64 fs[i].kind, .int .i64 fs[i].width] 98)
        refine (validField_any fs[i] _ _ (cField.later HE.out hbw.drew)).mono ?_
        rintro e w' ⟨rfl, b⟩
        have kp : ∀ p v, (wr.alloc (.cells #[.slice ax fs[i].name.length cx, .int .i64 fs[i].kind, .int .i64 fs[i].width] 98)).cell? p = some v → w'.cell? p = some v := fun p v h => (b.cell (World.block_lt_of_cell? _ _ h)).trans h
        have b' : Below wr.heap.size wr w' := hbw.drew.trans (b.mono hbw.size)
        exact ⟨rfl, hid ⟨HB.out.trans (b'.mono HB.out.size), b'⟩, kp _ _ (by simp), kp _ _ (by simp), kp _ _ (by simp)⟩)
      have HQ2 : Hid (∀ w', Hid (Below w.heap.size w w' ∧ Below wr.heap.size wr w') → Calls Tryz.prog 106 #[.slice (some ⟨b, off, none⟩) i cap, .slice ax fs[i].name.length cx] w' fun e w2 => e = .returned (.bool (taken (fs.take i) fs[i].name)) ∧ Hid (Below w.heap.size w w2) ∧ (w'.cell? ⟨wr.heap.size, 0, none⟩ = some (.slice ax fs[i].name.length cx) → w2.cell? ⟨wr.heap.size, 0, none⟩ = some (.slice ax fs[i].name.length cx))) := hid (fun w' hw' => by
        have hlen : (fs.take i).length = i := by simp; omega
        have h := nameTaken_any (some ⟨b, off, none⟩) ax cap cx (fs.take i) fs[i].name w' (by rw [hlen]; exact (HR.out.later hw'.out.1).take (by omega)) (rx.later hw'.out.2) bx (by omega)
        rw [hlen] at h
        refine h.mono ?_
        rintro e w2 ⟨rfl, b2⟩
        exact ⟨rfl, hid (hw'.out.1.trans (b2.mono hw'.out.1.size)), fun h => (b2.cell (World.block_lt_of_cell? _ _ h)).trans h⟩)
      have HRX := hid rx
      clear hes hv rx bx
      cases hf : fieldOK fs[i]
      · have HX := hid (fieldsOK_bad hlt (.inl hf))
        rw [hf] at HQ1
        clear hf
        go_wp2
        first | (go_region_with (first | (go_at_call 105; refine HQ1.out.mono ?_; rintro e w' ⟨rfl, hw', hc0, hc1, hc2⟩))) | fail
        all_goals (go_wp2; go_ret; exact ⟨by rw [HX.out]; rfl, hw'.out.1⟩)
      · rw [hf] at HQ1
        have HF := hid hf
        clear hf
        cases htk : taken (fs.take i) fs[i].name
        · have HX : Hid (okTo fs (i + 1) = true) := hid (by rw [okTo_succ hlt, HO.out, HF.out, htk]; rfl)
          rw [htk] at HQ2
          clear htk
          go_wp2
          first | (go_region_with (first | (go_at_call 105; refine HQ1.out.mono ?_; rintro e w' ⟨rfl, hw', hc0, hc1, hc2⟩) | (go_at_call 106; refine (HQ2.out _ hw').mono ?_; rintro e w2 ⟨rfl, hw2, hc3⟩))) | fail
          all_goals (go_wp2; go_roundw)
          all_goals first | exact ⟨i + 1, by omega, by go_num, HX.out, hw2.out⟩ | (simp [intOf]; omega)
        · have HX := hid (fieldsOK_bad hlt (.inr htk))
          rw [htk] at HQ2
          clear htk
          go_wp2
          first | (go_region_with (first | (go_at_call 105; refine HQ1.out.mono ?_; rintro e w' ⟨rfl, hw', hc0, hc1, hc2⟩) | (go_at_call 106; refine (HQ2.out _ hw').mono ?_; rintro e w2 ⟨rfl, hw2, hc3⟩))) | fail
          all_goals (go_wp2; go_ret; exact ⟨by rw [HX.out]; rfl, hw2.out⟩)
    · obtain rfl : i = fs.length := by omega
      have HX : Hid (fieldsOK fs = true) := hid (by rw [HD.out]; exact HO.out)
      go_wp2
      go_ret
      exact ⟨by rw [HX.out]; rfl, HB.out⟩
end Go.Proofs.YtfaehioeepolhaaGreat
namespace Go.Proofs.YtfaehioeepolhaaGreat
open Go.RowKit Go.Maps
set_option maxHeartbeats 8000000 in
theorem implTable_main (a a2 : Option Addr) (cap c2 : Nat) (fs : List PF) (t : PT) (R pr : Nat) (w : World) (HR : Hid (RdSl cField w fs (.slice a fs.length cap))) (HR2 : Hid (RdSl cCell w t.cells (.slice a2 t.cells.length c2))) (hcl : t.cells.length ≤ 1048576)
    (HQ : Hid (Calls Tryz.prog 57 #[.slice a fs.length cap] (w.alloc (.cells #[.int .i64 (R : Int), .slice a2 t.cells.length c2] 111)) fun e w' => e = .returned (.bool true) ∧ w'.heap[w.heap.size]? = some (.cells #[.int .i64 (R : Int), .slice a2 t.cells.length c2] 111 (0, 0)) ∧ Below w.heap.size w w'))
    (HF : Hid (fieldsOK fs = true)) (hfl : fs.length ≤ 12) (hR2 : R ≤ 100) (hm : (R : Int) * (fs.length : Int) = (pr : Int)) (hprl : pr ≤ 1200) (HRR : Hid (t.rows = (R : Int))) (hlen : t.cells.length = pr) (HLEN : Hid (t.cells.length = fs.length * R)) (htot : txt t.cells + t.cells.length ≤ 1048576) :
    Calls Tryz.prog 108 #[.slice a fs.length cap, .agg #[.int .i64 (R : Int), .slice a2 t.cells.length c2]] w fun e w' => e = .returned (.bool (tableOK fs t)) ∧ Below w.heap.size w w' := by
  have hnt := nn_tot t.cells
  have hnl := nn_len t.cells
  have hne : ((t.cells.length : Int) != (pr : Int)) = false := by simp; omega
  clear hlen
  have HEND : Hid (tot (nn t.cells) ≤ 4000 → colsTo fs t.cells R fs.length = true → tableOK fs t = true) := hid (fun h1 h2 => by
    rw [tableOK_end HF.out HRR.out hR2 HLEN.out h2, ← cols_txt HLEN.out h2]
    exact decide_eq_true h1)
  have HBIG : Hid (4000 < tot (nn t.cells) → tableOK fs t = false) := hid (fun h => tableOK_txt (by omega))
  have HTT : Hid ((nn t.cells).length + tot (nn t.cells) ≤ 1048576) := hid (by omega)
  have HNC : Hid (∀ k, k < fs.length → R + tot (nn (col t.cells R k)) ≤ 1048576 ∧ (k + 1) * R ≤ t.cells.length) := hid (fun k hk => by
    have h0 : (k + 1) * R ≤ t.cells.length := by rw [HLEN.out]; exact Nat.mul_le_mul_right _ hk
    refine ⟨?_, h0⟩
    rw [Nat.add_mul, Nat.one_mul] at h0
    have h1 := nn_tot (col t.cells R k)
    have h2 : txt (col t.cells R k) ≤ txt t.cells := by
      unfold col txt
      refine Nat.le_trans (sum_take (fun c : PC => c.text.length) _ R) ?_
      conv => rhs; rw [← List.take_append_drop (k * R) t.cells]
      rw [List.map_append, List.sum_append]; omega
    omega)
  go_enter Tryz.func108, Tryz.ntmps108
  go_wp2_with fail
  refine HQ.out.mono ?_
  rintro e w2 ⟨rfl, k2, b2⟩
  have HB := hid b2
  have HK2 := hid k2
  have p0 := cell_of_row w2 _ 0 _ _ _ k2
  have p1 := cell_of_row w2 _ 1 _ _ _ k2
  simp at p0 p1
  clear b2 k2
  go_wp2_with fail
  refine (validRows_any _ _).mono ?_
  rintro e w2 ⟨rfl, rfl⟩
  rw [decide_eq_true (show (0 : Int) ≤ (R : Int) ∧ (R : Int) ≤ 100 by omega)]
  go_wp2_with fail
  refine (textsOfCells_any a2 c2 t.cells w2 (HR2.out.later HB.out) (by omega)).mono ?_
  rintro e w3 ⟨v, rfl, hv, b3⟩
  obtain ⟨a3, c3, rfl, -⟩ := id hv
  have HQ3 := hid (bytesOfTexts_any a3 c3 (nn t.cells) w3 hv (by rw [totL_tot]; exact HTT.out))
  have HB3 := hid (below_chain HB.out b3)
  have HK3 := hid ((b3.block w.heap.size (Array.getElem?_eq_some_iff.1 HK2.out).1).trans HK2.out)
  clear hv b3
  go_wp2_with fail
  refine HQ3.out.mono ?_
  rintro e w3 ⟨rfl, rfl⟩
  generalize tot (nn t.cells) = tt at *
  by_cases hbig : 4000 < tt
  · have HX := hid (HBIG.out hbig)
    go_wp2
    go_ret
    exact ⟨by rw [HX.out]; rfl, HB3.out⟩
  clear p0 p1
  go_wp2
  go_loopw [5, 6, 7, 35] (fun _ _ _ i wr => ∃ k : Nat, k ≤ fs.length ∧ i = .int .i64 k ∧ colsTo fs t.cells R k = true ∧ wr.heap[w.heap.size]? = some (.cells #[.int .i64 (R : Int), .slice a2 t.cells.length c2] 111 (0, 0)) ∧ Below w.heap.size w wr) (fun _ _ _ i _ => fs.length - (intOf i).toNat)
  case atStart => exact ⟨0, Nat.zero_le _, rfl, rfl, HK3.out, HB3.out⟩
  case round =>
    obtain ⟨k, hk, rfl, hcols, hblk, hbe⟩ := hrel
    have HC := hid hcols
    have HK := hid hblk
    have HBR := hid hbe
    clear hcols hblk hbe
    have p0 := cell_of_row wr _ 0 _ _ _ HK.out
    have p1 := cell_of_row wr _ 1 _ _ _ HK.out
    simp at p0 p1
    have hB : w.heap.size < wr.heap.size := (Array.getElem?_eq_some_iff.1 HK.out).1
    by_cases hlt : k < fs.length
    · obtain ⟨b, off, v0, v1, v2, rfl, hes, d0, d1, d2⟩ := (HR.out.later HBR.out).at3 rfl hlt
      obtain ⟨ax, cx, e⟩ := cField_shape hes
      simp only [List.cons.injEq, and_true] at e
      obtain ⟨rfl, rfl, rfl⟩ := e
      have HE := hid hes
      have hki : (k : Int) < (fs.length : Int) := by omega
      clear hes
      have hbA := below_new1 wr (.cells #[.slice ax fs[k].name.length cx, .int .i64 fs[k].kind, .int .i64 fs[k].width] 98)
      have HQ1 : Hid (Calls Tryz.prog 156 #[.agg #[.int .i64 (R : Int), .slice a2 t.cells.length c2], .int .i64 (k : Int)] (wr.alloc (.cells #[.slice ax fs[k].name.length cx, .int .i64 fs[k].kind, .int .i64 fs[k].width] 98)) fun e w' => ∃ a' cap', e = .returned (.slice a' R cap') ∧ RdSl cCell w' (col t.cells R k) (.slice a' R cap') ∧ w'.heap[wr.heap.size]? = some (.cells #[.slice ax fs[k].name.length cx, .int .i64 fs[k].kind, .int .i64 fs[k].width] 98 (0, 0)) ∧ Below wr.heap.size wr w') := hid (by
        have h := cellsOfField_any t R k a2 c2 (wr.alloc (.cells #[.slice ax fs[k].name.length cx, .int .i64 fs[k].kind, .int .i64 fs[k].width] 98)) HRR.out ((HR2.out.later HBR.out).later hbA) hR2 (by omega) (HNC.out k hlt).2
        rw [HRR.out] at h
        refine h.mono ?_
        rintro e w' ⟨a', cap', rfl, h1, h2⟩
        exact ⟨a', cap', rfl, h1.later h2, heap1 _ (h2.mono (by simp)), hbA.trans (h2.mono hbA.size)⟩)
      clear hbA
      go_wp2_with fail
      refine HQ1.out.mono ?_
      rintro e w4 ⟨a', cap', rfl, hcol, hfb, b4⟩
      have HCOL := hid hcol
      have HFB := hid hfb
      have HB4 := hid b4
      have r0 := cell_of_row w4 _ 0 _ _ _ hfb
      have r1 := cell_of_row w4 _ 1 _ _ _ hfb
      have r2 := cell_of_row w4 _ 2 _ _ _ hfb
      simp at r0 r1 r2
      have hfs : wr.heap.size < w4.heap.size := (Array.getElem?_eq_some_iff.1 hfb).1
      clear hcol hfb b4
      have HQ2 : Hid (Calls Tryz.prog 157 #[.agg #[.slice ax fs[k].name.length cx, .int .i64 fs[k].kind, .int .i64 fs[k].width], .slice a' R cap'] w4 fun e w' => e = .returned (.bool ((col t.cells R k).all (cellOK fs[k]))) ∧ Below w4.heap.size w4 w') := hid (by
        have hl := col_len (HNC.out k hlt).2
        have h := validCells_any fs[k] _ a' cap' (col t.cells R k) w4 (cField.later HE.out HB4.out) (by rw [hl]; exact HCOL.out) (by omega)
        rw [hl] at h
        exact h)
      go_wp2_with fail
      refine HQ2.out.mono ?_
      rintro e w5 ⟨rfl, b5⟩
      have HB5 := hid b5
      have HW5 : Hid (Below w.heap.size w w5) := hid (HBR.out.trans ((HB4.out.trans (b5.mono HB4.out.size)).mono HBR.out.size))
      have HK5 := hid ((b5.block w.heap.size (by omega)).trans ((HB4.out.block w.heap.size hB).trans HK.out))
      have s1 := (b5.cell (p := ⟨wr.heap.size, 1, none⟩) hfs).trans r1
      clear b5
      cases hall : (col t.cells R k).all (cellOK fs[k])
      · have HX := hid (tableOK_col HRR.out hlt (colOK_cells hall))
        go_wp2
        go_ret
        exact ⟨by rw [HX.out]; rfl, HW5.out⟩
      · have HALL := hid hall
        clear hall
        by_cases k3 : fs[k].kind = 3
        · have K3 := hid k3
          have b3 : (fs[k].kind == 3) = true := by simpa using k3
          clear k3
          have HQ4 : Hid (Calls Tryz.prog 158 #[.slice a' R cap'] w5 fun e w' => e = .returned (.int .i64 ((diff (col t.cells R k) : Nat) : Int)) ∧ Below w5.heap.size w5 w') := hid (by
            have hl := col_len (HNC.out k hlt).2
            have h := differentTexts_any a' cap' (col t.cells R k) w5 (by rw [hl]; exact HCOL.out.later HB5.out) (by rw [hl]; exact (HNC.out k hlt).1)
            rw [hl] at h
            exact h)
          go_wp2_with fail
          refine HQ4.out.mono ?_
          rintro e w6 ⟨rfl, b6⟩
          have HW6 := hid (HW5.out.trans (b6.mono HW5.out.size))
          have HK6 := hid ((b6.block w.heap.size (Array.getElem?_eq_some_iff.1 HK5.out).1).trans HK5.out)
          clear b6
          by_cases hdf : 40 < diff (col t.cells R k)
          · have HX := hid (tableOK_col HRR.out hlt (colOK_dict K3.out hdf))
            generalize diff (col t.cells R k) = df at *
            go_wp2
            go_ret
            exact ⟨by rw [HX.out]; rfl, HW6.out⟩
          · have HX : Hid (colsTo fs t.cells R (k + 1) = true) := hid (by rw [colsTo_succ hlt, HC.out, colOK_ok HALL.out (fun h => hdf h.2)]; rfl)
            have hdl : diff (col t.cells R k) ≤ 40 := by omega
            generalize diff (col t.cells R k) = df at *
            go_wp2
            go_roundw
            case rel => exact ⟨k + 1, by omega, by go_num, HX.out, HK6.out, HW6.out⟩
            case measure => simp [intOf]; omega
        · have HX : Hid (colsTo fs t.cells R (k + 1) = true) := hid (by rw [colsTo_succ hlt, HC.out, colOK_ok HALL.out (fun h => k3 h.1)]; rfl)
          have b3 : (fs[k].kind == 3) = false := by simpa using k3
          clear k3
          go_wp2
          go_roundw
          case rel => exact ⟨k + 1, by omega, by go_num, HX.out, HK5.out, HW5.out⟩
          case measure => simp [intOf]; omega
    · obtain rfl : k = fs.length := by omega
      have HX := hid (HEND.out (by omega) HC.out)
      go_wp2
      go_ret
      exact ⟨by rw [HX.out]; rfl, HBR.out⟩
end Go.Proofs.YtfaehioeepolhaaGreat
