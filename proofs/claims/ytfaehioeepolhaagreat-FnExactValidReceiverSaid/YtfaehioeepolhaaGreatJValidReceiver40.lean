import Derived.Test.YtfaehioeepolhaaGreatJValidReceiver38
import Derived.Test.YtfaehioeepolhaaGreatJValidReceiver39
import Derived.Deep.RegionWith
namespace Go.Proofs.YtfaehioeepolhaaGreat
open Go.RowKit
set_option maxHeartbeats 2000000 in
theorem nameTaken_any (a a2 : Option Addr) (cap c2 : Nat) (fs : List PF) (nm : List Nat) (w : World) (hr : RdSl cField w fs (.slice a fs.length cap)) (hr2 : Rd w a2 (byt nm)) (hb2 : ∀ x ∈ nm, x < 256) (hl : fs.length ≤ 1048576) :
    Calls Tryz.prog 106 #[.slice a fs.length cap, .slice a2 nm.length c2] w fun e w' => e = .returned (.bool (taken fs nm)) ∧ Below w.heap.size w w' := by
  have HR := hid hr
  have HR2 := hid hr2
  have HB2 := hid hb2
  clear hr hr2 hb2
  go_enter Tryz.func106, Tryz.ntmps106
  go_wp2
  go_loopw [6, 9] (fun _ i wr => ∃ k : Nat, k ≤ fs.length ∧ i = .int .i64 k ∧ (∀ j, (h : j < fs.length) → j < k → fs[j].name ≠ nm) ∧ Below w.heap.size w wr) (fun _ i _ => fs.length - (intOf i).toNat)
  case atStart => exact ⟨0, Nat.zero_le _, rfl, fun j _ h => by omega, Below.refl _ _⟩
  case round =>
    obtain ⟨k, hk, rfl, hall, hbe⟩ := hrel
    have HA := hid hall
    have HB := hid hbe
    clear hall hbe
    by_cases hlt : k < fs.length
    · obtain ⟨b, off, v0, v1, v2, rfl, hes, d0, d1, d2⟩ := (HR.out.later HB.out).at3 rfl hlt
      obtain ⟨v, e, hv, -⟩ := cField_rd hes
      obtain ⟨ax, cx, rfl, -, -, -, rx, bx⟩ := hv.bytes
      simp only [List.cons.injEq, and_true] at e
      obtain ⟨rfl, rfl, rfl⟩ := e
      have HQ : Hid (∀ o, Calls Tryz.prog 152 #[.slice ax fs[k].name.length cx, .slice a2 nm.length c2] (wr.alloc o) fun e w' => e = .returned (.bool (decide (fs[k].name = nm))) ∧ w' = wr.alloc o) := hid (fun o => bytesEqual_any ax a2 cx c2 _ _ _ (rx.later (below_new1 _ _)) ((HR2.out.later HB.out).later (below_new1 _ _)) bx HB2.out)
      have hki : (k : Int) < (fs.length : Int) := by omega
      clear hes hv rx bx
      go_wp2_with fail
      refine (HQ.out _).mono ?_
      rintro e w2 ⟨rfl, rfl⟩
      by_cases hs : fs[k].name = nm
      · have HX := hid (taken_at hlt hs)
        rw [decide_eq_true hs]
        go_wp2
        go_ret
        exact ⟨by rw [HX.out]; rfl, HB.out.alloc HB.out.size _⟩
      · rw [decide_eq_false hs]
        have HX : Hid (∀ j, (h : j < fs.length) → j < k + 1 → fs[j].name ≠ nm) := hid (fun j hj hjk => by
          by_cases e : j = k
          · subst e; exact hs
          · exact HA.out j hj (by omega))
        go_wp2
        go_roundw
        case rel => exact ⟨k + 1, by omega, by go_num, HX.out, HB.out.alloc HB.out.size _⟩
        case measure => simp [intOf]; omega
    · obtain rfl : k = fs.length := by omega
      have HF := hid (not_taken (fun j hj => HA.out j hj hj))
      go_wp2
      go_ret
      exact ⟨by rw [HF.out]; rfl, HB.out⟩
set_option maxHeartbeats 4000000 in
theorem implFields_any (a : Option Addr) (cap : Nat) (fs : List PF) (w : World) (hr : RdSl cField w fs (.slice a fs.length cap)) :
    Calls Tryz.prog 57 #[.slice a fs.length cap] w fun e w' => e = .returned (.bool (fieldsOK fs)) ∧ Below w.heap.size w w' := by
  have HR := hid hr
  clear hr
  by_cases h1 : fs.length < 1
  · have HD : Hid (fieldsOK fs = false) := hid (by simp [fieldsOK]; omega)
    go_enter Tryz.func57, Tryz.ntmps57
    go_wp2
    go_ret
    exact ⟨by rw [HD.out]; rfl, Below.refl _ _⟩
  by_cases h2 : 12 < fs.length
  · have HD : Hid (fieldsOK fs = false) := hid (by simp [fieldsOK]; omega)
    go_enter Tryz.func57, Tryz.ntmps57
    go_wp2
    go_ret
    exact ⟨by rw [HD.out]; rfl, Below.refl _ _⟩
  have HD : Hid (fieldsOK fs = okTo fs fs.length) := hid (by
    have e1 : decide (1 ≤ fs.length) = true := decide_eq_true (by omega)
    have e2 : decide (fs.length ≤ 12) = true := decide_eq_true (by omega)
    unfold fieldsOK; rw [e1, e2]; rfl)
  go_enter Tryz.func57, Tryz.ntmps57
  go_wp2
  go_loopw [3, 4, 15] (fun _ _ i wr => ∃ k : Nat, k ≤ fs.length ∧ i = .int .i64 k ∧ okTo fs k = true ∧ Below w.heap.size w wr) (fun _ _ i _ => fs.length - (intOf i).toNat)
  case atStart => exact ⟨0, Nat.zero_le _, rfl, rfl, Below.refl _ _⟩
  case round =>
    obtain ⟨i, hk, rfl, hok, hbe⟩ := hrel
    have HB := hid hbe
    have HO := hid hok
    clear hbe hok
    by_cases hlt : i < fs.length
    · obtain ⟨b, off, v0, v1, v2, rfl, hes, d0, d1, d2⟩ := (HR.out.later HB.out).at3 rfl hlt
      have HE := hid hes
      obtain ⟨v, e, hv, -⟩ := cField_rd hes
      obtain ⟨ax, cx, rfl, -, -, -, rx, bx⟩ := hv.bytes
      simp only [List.cons.injEq, and_true] at e
      obtain ⟨rfl, rfl, rfl⟩ := e
      have hki : (i : Int) < (fs.length : Int) := by omega
      have hki2 : (i : Int) ≤ (cap : Int) := by
        obtain ⟨_, cap', e', hc, _⟩ := HR.out
        simp at e'
        omega
      have HW : Hid (Below w.heap.size w (wr.alloc (.cells #[.slice ax fs[i].name.length cx, .int .i64 fs[i].kind, .int .i64 fs[i].width] 98))) := hid (HB.out.alloc HB.out.size _)
      have HQ1 : Hid (Calls Tryz.prog 105 #[.agg #[.slice ax fs[i].name.length cx, .int .i64 fs[i].kind, .int .i64 fs[i].width]] (wr.alloc (.cells #[.slice ax fs[i].name.length cx, .int .i64 fs[i].kind, .int .i64 fs[i].width] 98)).drew fun e w' => e = .returned (.bool (fieldOK fs[i])) ∧ Hid (Below w.heap.size w w' ∧ Below wr.heap.size wr w') ∧ w'.cell? ⟨wr.heap.size, 0, none⟩ = some (.slice ax fs[i].name.length cx) ∧ w'.cell? ⟨wr.heap.size, 1, none⟩ = some (.int .i64 fs[i].kind) ∧ w'.cell? ⟨wr.heap.size, 2, none⟩ = some (.int .i64 fs[i].width)) := hid (by
        have hbw := below_new1 wr (.cells #[.slice ax fs[i].name.length cx, .int .i64 fs[i].kind, .int .i64 fs[i].width] 98)
        refine (validField_any fs[i] _ _ (cField.later HE.out hbw.drew)).mono ?_
        rintro e w' ⟨rfl, b⟩
        have kp : ∀ p v, (wr.alloc (.cells #[.slice ax fs[i].name.length cx, .int .i64 fs[i].kind, .int .i64 fs[i].width] 98)).cell? p = some v → w'.cell? p = some v := fun p v h => (b.cell (World.block_lt_of_cell? _ _ h)).trans h
        have b' : Below wr.heap.size wr w' := hbw.drew.trans (b.mono hbw.size)
        exact ⟨rfl, hid ⟨HB.out.trans (b'.mono HB.out.size), b'⟩, kp _ _ (by simp), kp _ _ (by simp), kp _ _ (by simp)⟩)
      have HQ2 : Hid (∀ w', Hid (Below w.heap.size w w' ∧ Below wr.heap.size wr w') → Calls Tryz.prog 106 #[.slice (some ⟨b, off, none⟩) i cap, .slice ax fs[i].name.length cx] w' fun e w2 => e = .returned (.bool (taken (fs.take i) fs[i].name)) ∧ Hid (Below w.heap.size w w2) ∧ (w'.cell? ⟨wr.heap.size, 0, none⟩ = some (.slice ax fs[i].name.length cx) → w2.cell? ⟨wr.heap.size, 0, none⟩ = some (.slice ax fs[i].name.length cx))) := hid (fun w' hw' => by
        have hlen : (fs.take i).length = i := by simp; omega
        have h := nameTaken_any (some ⟨b, off, none⟩) ax cap cx (fs.take i) fs[i].name w' (by rw [hlen]; exact (HR.out.later hw'.out.1).take (by omega)) (rx.later hw'.out.2) bx (by omega)
        rw [hlen] at h
        refine h.mono ?_
        rintro e w2 ⟨rfl, b2⟩
        exact ⟨rfl, hid (hw'.out.1.trans (b2.mono hw'.out.1.size)), fun h => (b2.cell (World.block_lt_of_cell? _ _ h)).trans h⟩)
      have HRX := hid rx
      clear hes hv rx bx
      cases hf : fieldOK fs[i]
      · have HX := hid (fieldsOK_bad hlt (.inl hf))
        rw [hf] at HQ1
        clear hf
        go_wp2
        first | (go_region_with (first | (go_at_call 105; refine HQ1.out.mono ?_; rintro e w' ⟨rfl, hw', hc0, hc1, hc2⟩))) | fail
        all_goals (go_wp2; go_ret; exact ⟨by rw [HX.out]; rfl, hw'.out.1⟩)
      · rw [hf] at HQ1
        have HF := hid hf
        clear hf
        cases htk : taken (fs.take i) fs[i].name
        · have HX : Hid (okTo fs (i + 1) = true) := hid (by rw [okTo_succ hlt, HO.out, HF.out, htk]; rfl)
          rw [htk] at HQ2
          clear htk
          go_wp2
          first | (go_region_with (first | (go_at_call 105; refine HQ1.out.mono ?_; rintro e w' ⟨rfl, hw', hc0, hc1, hc2⟩) | (go_at_call 106; refine (HQ2.out _ hw').mono ?_; rintro e w2 ⟨rfl, hw2, hc3⟩))) | fail
          all_goals (go_wp2; go_roundw)
          all_goals first | exact ⟨i + 1, by omega, by go_num, HX.out, hw2.out⟩ | (simp [intOf]; omega)
        · have HX := hid (fieldsOK_bad hlt (.inr htk))
          rw [htk] at HQ2
          clear htk
          go_wp2
          first | (go_region_with (first | (go_at_call 105; refine HQ1.out.mono ?_; rintro e w' ⟨rfl, hw', hc0, hc1, hc2⟩) | (go_at_call 106; refine (HQ2.out _ hw').mono ?_; rintro e w2 ⟨rfl, hw2, hc3⟩))) | fail
          all_goals (go_wp2; go_ret; exact ⟨by rw [HX.out]; rfl, hw2.out⟩)
    · obtain rfl : i = fs.length := by omega
      have HX : Hid (fieldsOK fs = true) := hid (by rw [HD.out]; exact HO.out)
      go_wp2
      go_ret
      exact ⟨by rw [HX.out]; rfl, HB.out⟩
end Go.Proofs.YtfaehioeepolhaaGreat
