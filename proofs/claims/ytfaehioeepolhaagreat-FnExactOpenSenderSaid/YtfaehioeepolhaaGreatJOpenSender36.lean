import Derived.Test.YtfaehioeepolhaaGreatJOpenSender35
import Derived.Test.YtfaehioeepolhaaGreatJOpenSender27
import Derived.Deep.RegionWith
namespace Go.Proofs.YtfaehioeepolhaaGreat
open Go.RowKit
set_option maxHeartbeats 2000000 in
theorem validName_any (a : Option Addr) (cap : Nat) (xs : List Nat) (w : World) (hr : Rd w a (byt xs)) :
    Calls Tryz.prog 150 #[.slice a xs.length cap] w fun e w' => e = .returned (.bool (nameOK xs)) ∧ w' = w := by
  by_cases h1 : xs.length < 1
  · have HD : Hid (nameOK xs = false) := hid (by simp [nameOK]; omega)
    rw [HD.out]
    go_enter Tryz.func150, Tryz.ntmps150
    go_wp2
    go_ret
    exact ⟨rfl, rfl⟩
  by_cases h2 : 20 < xs.length
  · have HD : Hid (nameOK xs = false) := hid (by simp [nameOK]; omega)
    rw [HD.out]
    go_enter Tryz.func150, Tryz.ntmps150
    go_wp2
    go_ret
    exact ⟨rfl, rfl⟩
  have HD : Hid (nameOK xs = xs.all nameB) := hid (by
    have e1 : decide (1 ≤ xs.length) = true := decide_eq_true (by omega)
    have e2 : decide (xs.length ≤ 20) = true := decide_eq_true (by omega)
    unfold nameOK; rw [e1, e2]; rfl)
  rw [HD.out]
  have HC : Hid (∀ i, (h : i < xs.length) → ∃ b off, a = some ⟨b, off, none⟩ ∧ w.cell? ⟨b, off + i, none⟩ = some (.int .u8 ((xs[i] : Nat) : Int))) := hid (by
    rcases hr with h | ⟨b, off, rfl, hc⟩
    · have : xs = [] := by simpa [byt] using h
      subst this; simp at h1
    · exact fun i h => ⟨b, off, rfl, rdByte hc i h⟩)
  clear hr
  go_enter Tryz.func150, Tryz.ntmps150
  go_wp2
  go_loop [4, 15] (fun c i => ∃ k : Nat, k ≤ xs.length ∧ i = .int .i64 k ∧ ∀ j, (h : j < xs.length) → j < k → nameB xs[j] = true) (fun _ i => xs.length - (intOf i).toNat)
  case atStart => exact ⟨0, Nat.zero_le _, rfl, fun j _ h => by omega⟩
  case round =>
    obtain ⟨k, hk, rfl, hall⟩ := hrel
    have HA := hid hall
    clear hall
    by_cases hlt : k < xs.length
    · obtain ⟨b, off, rfl, hcell⟩ := HC.out k hlt
      have hki : (k : Int) < (xs.length : Int) := by omega
      go_wp2_with fail
      refine (nameByte_any xs[k] w).mono ?_
      rintro e w ⟨rfl, rfl⟩
      cases hn : nameB xs[k]
      · have HX := hid (all_bad hlt hn)
        go_wp2
        go_ret
        exact ⟨by rw [HX.out]; rfl, rfl⟩
      · have HX : Hid (∀ j, (h : j < xs.length) → j < k + 1 → nameB xs[j] = true) := hid (fun j hj hjk => by
          by_cases e : j = k
          · subst e; exact hn
          · exact HA.out j hj (by omega))
        go_wp2
        go_round
        case rel => exact ⟨k + 1, by omega, by go_num, HX.out⟩
        case measure => simp [intOf]; omega
    · obtain rfl : k = xs.length := by omega
      have HF := hid (all_ok (fun j hj => HA.out j hj hj))
      go_wp2
      go_ret
      exact ⟨by rw [HF.out]; rfl, rfl⟩
set_option maxHeartbeats 1000000 in
theorem fitsWidth_any (n width : Int) (w : World) (hn : IntIn n) (hw : IntIn width) :
    Calls Tryz.prog 183 #[.int .i64 n, .int .i64 width] w fun e w' => e = .returned (.bool (fitsW n width)) ∧ Below w.heap.size w w' := by
  have HQ : Hid (Calls Tryz.prog 194 #[.slice (some ⟨w.heap.size, 0, none⟩) 1 1, .int .i64 width] (w.alloc (.cells #[.int .i64 n] 3)) (PkiPost (w.alloc (.cells #[.int .i64 n] 3)) (pki [n] width))) := hid (implPki_any (some ⟨w.heap.size, 0, none⟩) 1 [n] width _ (.inr ⟨w.heap.size, 0, rfl, fun i hi => by
      have : i = 0 := by simpa [ints] using hi
      subst this
      simp [ints]⟩) (by simp; exact hn) (by simp) (by simp) hw)
  have HD : Hid (fitsW n width = ((pki [n] width).2 == 0)) := hid rfl
  generalize pki [n] width = R at *
  go_enter Tryz.func183, Tryz.ntmps183
  go_wp2_with fail
  refine HQ.out.mono ?_
  rintro e w1 ⟨a1, c1, rfl, o1, b1⟩
  have HB : Hid (Below w.heap.size w w1) := hid ((below_new1 w _).trans (b1.mono (by simp)))
  clear o1 b1
  go_wp2
  go_ret
  exact ⟨by rw [HD.out]; rfl, HB.out⟩
set_option maxHeartbeats 400000 in
theorem validWidth_any (width : Int) (w : World) (hw : IntIn width) :
    Calls Tryz.prog 151 #[.int .i64 width] w fun e w' => e = .returned (.bool (widthOK width)) ∧ Below w.heap.size w w' := by
  go_enter Tryz.func151, Tryz.ntmps151
  go_wp2_with fail
  refine (fitsWidth_any 0 width w (by unfold IntIn; omega) hw).mono ?_
  rintro e w1 ⟨rfl, b1⟩
  have HB := hid b1
  clear b1
  rw [fitsW_zero]
  generalize hq : widthOK width = q
  go_wp2
  go_ret
  exact ⟨by rw [hq]; rfl, HB.out⟩
set_option maxHeartbeats 1000000 in
theorem validField_any (f : PF) (cs : List Value) (w : World) (hr : cField.rd w f cs) :
    Calls Tryz.prog 105 #[val cs] w fun e w' => e = .returned (.bool (fieldOK f)) ∧ Below w.heap.size w w' := by
  obtain ⟨v, rfl, hv, hik, hiw⟩ := cField_rd hr
  obtain ⟨a, cap, rfl, _, _, _, hrd, hby⟩ := hv.bytes
  simp only [val]
  have HK : Hid (Calls Tryz.prog 150 #[.slice a f.name.length cap] (w.alloc (.cells #[.slice a f.name.length cap, .int .i64 f.kind, .int .i64 f.width] 98)) fun e w' => e = .returned (.bool (nameOK f.name)) ∧ w' = w.alloc (.cells #[.slice a f.name.length cap, .int .i64 f.kind, .int .i64 f.width] 98)) := hid (validName_any a cap f.name _ (hrd.later (below_new1 _ _)))
  have HF : Hid (fieldOK f = (nameOK f.name && kindOK f)) := hid rfl
  have HKK : Hid (kindOK f = if f.kind = 1 then widthOK f.width else decide (0 ≤ f.kind) && decide (f.kind ≤ 3) && decide (f.width = 0)) := hid rfl
  have HIW := hid hiw
  clear hr hrd hv hik hiw
  cases hn : nameOK f.name
  · have HX : Hid (fieldOK f = false) := hid (by rw [HF.out, hn]; rfl)
    go_enter Tryz.func105, Tryz.ntmps105
    go_wp2_with fail
    refine HK.out.mono ?_
    rintro e w2 ⟨rfl, rfl⟩
    rw [hn]
    go_wp2
    go_ret
    exact ⟨by rw [HX.out]; rfl, below_new1 _ _⟩
  · by_cases h1 : f.kind = 1
    · have HX : Hid (fieldOK f = widthOK f.width) := hid (by rw [HF.out, hn, HKK.out, if_pos h1]; rfl)
      have H1 := hid h1
      clear h1
      go_enter Tryz.func105, Tryz.ntmps105
      go_wp2_with fail
      refine HK.out.mono ?_
      rintro e w2 ⟨rfl, rfl⟩
      rw [hn]
      have h1 := H1.out
      go_wp2_with fail
      refine (validWidth_any f.width _ HIW.out).mono ?_
      rintro e w2 ⟨rfl, b2⟩
      have HB : Hid (Below w.heap.size w w2) := hid ((below_new1 w _).trans (b2.mono (by simp)))
      clear b2
      generalize widthOK f.width = q at *
      go_wp2
      go_ret
      exact ⟨by rw [HX.out]; rfl, HB.out⟩
    · have HX : Hid (fieldOK f = (decide (0 ≤ f.kind) && decide (f.kind ≤ 3) && decide (f.width = 0))) := hid (by rw [HF.out, hn, HKK.out, if_neg h1]; rfl)
      by_cases h2 : f.kind = 0 ∨ f.kind = 2 ∨ f.kind = 3
      · have HY : Hid (fieldOK f = decide (f.width = 0)) := hid (by rw [HX.out, decide_eq_true (show 0 ≤ f.kind by omega), decide_eq_true (show f.kind ≤ 3 by omega)]; rfl)
        rcases h2 with h2 | h2 | h2
        all_goals
          have H2 := hid h2
          clear h2 h1
          go_enter Tryz.func105, Tryz.ntmps105
          go_wp2_with fail
          refine HK.out.mono ?_
          rintro e w2 ⟨rfl, rfl⟩
          rw [hn]
          have h2 := H2.out
          go_wp2
          go_ret
          exact ⟨by rw [HY.out]; rfl, below_new1 _ _⟩
      · have HY : Hid (fieldOK f = false) := hid (by
          rw [HX.out]
          by_cases e : 0 ≤ f.kind
          · rw [decide_eq_false (show ¬ f.kind ≤ 3 by omega)]; simp
          · rw [decide_eq_false e]; rfl)
        have e0 : (f.kind == 0) = false := by simp; omega
        have e1 : (f.kind == 1) = false := by simp; omega
        have e2 : (f.kind == 2) = false := by simp; omega
        have e3 : (f.kind == 3) = false := by simp; omega
        clear h1 h2
        go_enter Tryz.func105, Tryz.ntmps105
        go_wp2_with fail
        refine HK.out.mono ?_
        rintro e w2 ⟨rfl, rfl⟩
        rw [hn]
        go_wp2
        go_ret
        exact ⟨by rw [HY.out]; rfl, below_new1 _ _⟩
end Go.Proofs.YtfaehioeepolhaaGreat
namespace Go.Proofs.YtfaehioeepolhaaGreat
open Go.RowKit
set_option maxHeartbeats 400000 in
theorem bytesEqual_any (a1 a2 : Option Addr) (c1 c2 : Nat) (xs ys : List Nat) (w : World) (h1 : Rd w a1 (byt xs)) (h2 : Rd w a2 (byt ys)) (hx : ∀ x ∈ xs, x < 256) (hy : ∀ x ∈ ys, x < 256) :
    Calls Tryz.prog 152 #[.slice a1 xs.length c1, .slice a2 ys.length c2] w fun e w' => e = .returned (.bool (decide (xs = ys))) ∧ w' = w := by
  have e1 := run_bstr (P := Tryz.prog) (c := c1) Tryz.underlying23 Tryz.underlying5 Tryz.underlying9 h1
  have e2 := run_bstr (P := Tryz.prog) (c := c2) Tryz.underlying23 Tryz.underlying5 Tryz.underlying9 h2
  have HD : Hid (decide (xs = ys) = ((bstr xs).toList == (bstr ys).toList)) := hid (bstr_beq hx hy)
  rw [HD.out]
  clear h1 h2
  generalize bstr xs = s at *
  generalize bstr ys = t at *
  go_enter Tryz.func152, Tryz.ntmps152
  go_wp2
  go_ret
  exact ⟨rfl, rfl⟩
end Go.Proofs.YtfaehioeepolhaaGreat
namespace Go.Proofs.YtfaehioeepolhaaGreat
open Go.RowKit
set_option maxHeartbeats 2000000 in
theorem nameTaken_any (a a2 : Option Addr) (cap c2 : Nat) (fs : List PF) (nm : List Nat) (w : World) (hr : RdSl cField w fs (.slice a fs.length cap)) (hr2 : Rd w a2 (byt nm)) (hb2 : ∀ x ∈ nm, x < 256) (hl : fs.length ≤ 1048576) :
    Calls Tryz.prog 106 #[.slice a fs.length cap, .slice a2 nm.length c2] w fun e w' => e = .returned (.bool (taken fs nm)) ∧ Below w.heap.size w w' := by
  have HR := hid hr
  have HR2 := hid hr2
  have HB2 := hid hb2
  clear hr hr2 hb2
  go_enter Tryz.func106, Tryz.ntmps106
  go_wp2
  go_loopw [6, 9] (fun _ i wr => ∃ k : Nat, k ≤ fs.length ∧ i = .int .i64 k ∧ (∀ j, (h : j < fs.length) → j < k → fs[j].name ≠ nm) ∧ Below w.heap.size w wr) (fun _ i _ => fs.length - (intOf i).toNat)
  case atStart => exact ⟨0, Nat.zero_le _, rfl, fun j _ h => by omega, Below.refl _ _⟩
  case round =>
    obtain ⟨k, hk, rfl, hall, hbe⟩ := hrel
    have HA := hid hall
    have HB := hid hbe
    clear hall hbe
    by_cases hlt : k < fs.length
    · obtain ⟨b, off, v0, v1, v2, rfl, hes, d0, d1, d2⟩ := (HR.out.later HB.out).at3 rfl hlt
      obtain ⟨v, e, hv, -⟩ := cField_rd hes
      obtain ⟨ax, cx, rfl, -, -, -, rx, bx⟩ := hv.bytes
      simp only [List.cons.injEq, and_true] at e
      obtain ⟨rfl, rfl, rfl⟩ := e
      have HQ : Hid (∀ o, Calls Tryz.prog 152 #[.slice ax fs[k].name.length cx, .slice a2 nm.length c2] (wr.alloc o) fun e w' => e = .returned (.bool (decide (fs[k].name = nm))) ∧ w' = wr.alloc o) := hid (fun o => bytesEqual_any ax a2 cx c2 _ _ _ (rx.later (below_new1 _ _)) ((HR2.out.later HB.out).later (below_new1 _ _)) bx HB2.out)
      have hki : (k : Int) < (fs.length : Int) := by omega
      clear hes hv rx bx
      go_wp2_with fail
      refine (HQ.out _).mono ?_
      rintro e w2 ⟨rfl, rfl⟩
      by_cases hs : fs[k].name = nm
      · have HX := hid (taken_at hlt hs)
        rw [decide_eq_true hs]
        go_wp2
        go_ret
        exact ⟨by rw [HX.out]; rfl, HB.out.alloc HB.out.size _⟩
      · rw [decide_eq_false hs]
        have HX : Hid (∀ j, (h : j < fs.length) → j < k + 1 → fs[j].name ≠ nm) := hid (fun j hj hjk => by
          by_cases e : j = k
          · subst e; exact hs
          · exact HA.out j hj (by omega))
        go_wp2
        go_roundw
        case rel => exact ⟨k + 1, by omega, by go_num, HX.out, HB.out.alloc HB.out.size _⟩
        case measure => simp [intOf]; omega
    · obtain rfl : k = fs.length := by omega
      have HF := hid (not_taken (fun j hj => HA.out j hj hj))
      go_wp2
      go_ret
      exact ⟨by rw [HF.out]; rfl, HB.out⟩
set_option maxHeartbeats 4000000 in
theorem implFields_any (a : Option Addr) (cap : Nat) (fs : List PF) (w : World) (hr : RdSl cField w fs (.slice a fs.length cap)) :
    Calls Tryz.prog 57 #[.slice a fs.length cap] w fun e w' => e = .returned (.bool (fieldsOK fs)) ∧ Below w.heap.size w w' := by
  have HR := hid hr
  clear hr
  by_cases h1 : fs.length < 1
  · have HD : Hid (fieldsOK fs = false) := hid (by simp [fieldsOK]; omega)
    go_enter Tryz.func57, Tryz.ntmps57
    go_wp2
    go_ret
    exact ⟨by rw [HD.out]; rfl, Below.refl _ _⟩
  by_cases h2 : 12 < fs.length
  · have HD : Hid (fieldsOK fs = false) := hid (by simp [fieldsOK]; omega)
    go_enter Tryz.func57, Tryz.ntmps57
    go_wp2
    go_ret
    exact ⟨by rw [HD.out]; rfl, Below.refl _ _⟩
  have HD : Hid (fieldsOK fs = okTo fs fs.length) := hid (by
    have e1 : decide (1 ≤ fs.length) = true := decide_eq_true (by omega)
    have e2 : decide (fs.length ≤ 12) = true := decide_eq_true (by omega)
    unfold fieldsOK; rw [e1, e2]; rfl)
  go_enter Tryz.func57, Tryz.ntmps57
  go_wp2
  go_loopw [3, 4, 15] (fun _ _ i wr => ∃ k : Nat, k ≤ fs.length ∧ i = .int .i64 k ∧ okTo fs k = true ∧ Below w.heap.size w wr) (fun _ _ i _ => fs.length - (intOf i).toNat)
  case atStart => exact ⟨0, Nat.zero_le _, rfl, rfl, Below.refl _ _⟩
  case round =>
    obtain ⟨i, hk, rfl, hok, hbe⟩ := hrel
    have HB := hid hbe
    have HO := hid hok
    clear hbe hok
    by_cases hlt : i < fs.length
    · obtain ⟨b, off, v0, v1, v2, rfl, hes, d0, d1, d2⟩ := (HR.out.later HB.out).at3 rfl hlt
      have HE := hid hes
      obtain ⟨v, e, hv, -⟩ := cField_rd hes
      obtain ⟨ax, cx, rfl, -, -, -, rx, bx⟩ := hv.bytes
      simp only [List.cons.injEq, and_true] at e
      obtain ⟨rfl, rfl, rfl⟩ := e
      have hki : (i : Int) < (fs.length : Int) := by omega
      have hki2 : (i : Int) ≤ (cap : Int) := by
        obtain ⟨_, cap', e', hc, _⟩ := HR.out
        simp at e'
        omega
      have HW : Hid (Below w.heap.size w (wr.alloc (.cells #[.slice ax fs[i].name.length cx, .int .i64 fs[i].kind, .int .i64 fs[i].width] 98))) := hid (HB.out.alloc HB.out.size _)
      have HQ1 : Hid (Calls Tryz.prog 105 #[.agg #[.slice ax fs[i].name.length cx, .int .i64 fs[i].kind, .int .i64 fs[i].width]] (wr.alloc (.cells #[.slice ax fs[i].name.length cx, .int .i64 fs[i].kind, .int .i64 fs[i].width] 98)).drew fun e w' => e = .returned (.bool (fieldOK fs[i])) ∧ Hid (Below w.heap.size w w' ∧ Below wr.heap.size wr w') ∧ w'.cell? ⟨wr.heap.size, 0, none⟩ = some (.slice ax fs[i].name.length cx) ∧ w'.cell? ⟨wr.heap.size, 1, none⟩ = some (.int .i64 fs[i].kind) ∧ w'.cell? ⟨wr.heap.size, 2, none⟩ = some (.int .i64 fs[i].width)) := hid (by
        have hbw := below_new1 wr (.cells #[.slice ax fs[i].name.length cx, .int .i64 fs[i].kind, .int .i64 fs[i].width] 98)
        refine (validField_any fs[i] _ _ (cField.later HE.out hbw.drew)).mono ?_
        rintro e w' ⟨rfl, b⟩
        have kp : ∀ p v, (wr.alloc (.cells #[.slice ax fs[i].name.length cx, .int .i64 fs[i].kind, .int .i64 fs[i].width] 98)).cell? p = some v → w'.cell? p = some v := fun p v h => (b.cell (World.block_lt_of_cell? _ _ h)).trans h
        have b' : Below wr.heap.size wr w' := hbw.drew.trans (b.mono hbw.size)
        exact ⟨rfl, hid ⟨HB.out.trans (b'.mono HB.out.size), b'⟩, kp _ _ (by simp), kp _ _ (by simp), kp _ _ (by simp)⟩)
      have HQ2 : Hid (∀ w', Hid (Below w.heap.size w w' ∧ Below wr.heap.size wr w') → Calls Tryz.prog 106 #[.slice (some ⟨b, off, none⟩) i cap, .slice ax fs[i].name.length cx] w' fun e w2 => e = .returned (.bool (taken (fs.take i) fs[i].name)) ∧ Hid (Below w.heap.size w w2) ∧ (w'.cell? ⟨wr.heap.size, 0, none⟩ = some (.slice ax fs[i].name.length cx) → w2.cell? ⟨wr.heap.size, 0, none⟩ = some (.slice ax fs[i].name.length cx))) := hid (fun w' hw' => by
        have hlen : (fs.take i).length = i := by simp; omega
        have h := nameTaken_any (some ⟨b, off, none⟩) ax cap cx (fs.take i) fs[i].name w' (by rw [hlen]; exact (HR.out.later hw'.out.1).take (by omega)) (rx.later hw'.out.2) bx (by omega)
        rw [hlen] at h
        refine h.mono ?_
        rintro e w2 ⟨rfl, b2⟩
        exact ⟨rfl, hid (hw'.out.1.trans (b2.mono hw'.out.1.size)), fun h => (b2.cell (World.block_lt_of_cell? _ _ h)).trans h⟩)
      have HRX := hid rx
      clear hes hv rx bx
      cases hf : fieldOK fs[i]
      · have HX := hid (fieldsOK_bad hlt (.inl hf))
        rw [hf] at HQ1
        clear hf
        go_wp2
        first | (go_region_with (first | (go_at_call 105; refine HQ1.out.mono ?_; rintro e w' ⟨rfl, hw', hc0, hc1, hc2⟩))) | fail
        all_goals (go_wp2; go_ret; exact ⟨by rw [HX.out]; rfl, hw'.out.1⟩)
      · rw [hf] at HQ1
        have HF := hid hf
        clear hf
        cases htk : taken (fs.take i) fs[i].name
        · have HX : Hid (okTo fs (i + 1) = true) := hid (by rw [okTo_succ hlt, HO.out, HF.out, htk]; rfl)
          rw [htk] at HQ2
          clear htk
          go_wp2
          first | (go_region_with (first | (go_at_call 105; refine HQ1.out.mono ?_; rintro e w' ⟨rfl, hw', hc0, hc1, hc2⟩) | (go_at_call 106; refine (HQ2.out _ hw').mono ?_; rintro e w2 ⟨rfl, hw2, hc3⟩))) | fail
          all_goals (go_wp2; go_roundw)
          all_goals first | exact ⟨i + 1, by omega, by go_num, HX.out, hw2.out⟩ | (simp [intOf]; omega)
        · have HX := hid (fieldsOK_bad hlt (.inr htk))
          rw [htk] at HQ2
          clear htk
          go_wp2
          first | (go_region_with (first | (go_at_call 105; refine HQ1.out.mono ?_; rintro e w' ⟨rfl, hw', hc0, hc1, hc2⟩) | (go_at_call 106; refine (HQ2.out _ hw').mono ?_; rintro e w2 ⟨rfl, hw2, hc3⟩))) | fail
          all_goals (go_wp2; go_ret; exact ⟨by rw [HX.out]; rfl, hw2.out⟩)
    · obtain rfl : i = fs.length := by omega
      have HX : Hid (fieldsOK fs = true) := hid (by rw [HD.out]; exact HO.out)
      go_wp2
      go_ret
      exact ⟨by rw [HX.out]; rfl, HB.out⟩
end Go.Proofs.YtfaehioeepolhaaGreat
