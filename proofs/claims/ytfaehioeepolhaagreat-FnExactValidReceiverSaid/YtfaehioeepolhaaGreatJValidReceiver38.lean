import Derived.Test.YtfaehioeepolhaaGreatJValidReceiver37
namespace Go.Proofs.YtfaehioeepolhaaGreat
open Go.RowKit
set_option maxHeartbeats 2000000 in
theorem validName_any (a : Option Addr) (cap : Nat) (xs : List Nat) (w : World) (hr : Rd w a (byt xs)) :
    Calls Tryz.prog 150 #[.slice a xs.length cap] w fun e w' => e = .returned (.bool (nameOK xs)) ∧ w' = w := by
  by_cases h1 : xs.length < 1
  · have HD : Hid (nameOK xs = false) := hid (by simp [nameOK]; omega)
    rw [HD.out]
    go_enter Tryz.func150, Tryz.ntmps150
    go_wp2
    go_ret
    exact ⟨rfl, rfl⟩
  by_cases h2 : 20 < xs.length
  · have HD : Hid (nameOK xs = false) := hid (by simp [nameOK]; omega)
    rw [HD.out]
    go_enter Tryz.func150, Tryz.ntmps150
    go_wp2
    go_ret
    exact ⟨rfl, rfl⟩
  have HD : Hid (nameOK xs = xs.all nameB) := hid (by
    have e1 : decide (1 ≤ xs.length) = true := decide_eq_true (by omega)
    have e2 : decide (xs.length ≤ 20) = true := decide_eq_true (by omega)
    unfold nameOK; rw [e1, e2]; rfl)
  rw [HD.out]
  have HC : Hid (∀ i, (h : i < xs.length) → ∃ b off, a = some ⟨b, off, none⟩ ∧ w.cell? ⟨b, off + i, none⟩ = some (.int .u8 ((xs[i] : Nat) : Int))) := hid (by
    rcases hr with h | ⟨b, off, rfl, hc⟩
    · have : xs = [] := by simpa [byt] using h
      subst this; simp at h1
    · exact fun i h => ⟨b, off, rfl, rdByte hc i h⟩)
  clear hr
  go_enter Tryz.func150, Tryz.ntmps150
  go_wp2
  go_loop [4, 15] (fun c i => ∃ k : Nat, k ≤ xs.length ∧ i = .int .i64 k ∧ ∀ j, (h : j < xs.length) → j < k → nameB xs[j] = true) (fun _ i => xs.length - (intOf i).toNat)
  case atStart => exact ⟨0, Nat.zero_le _, rfl, fun j _ h => by omega⟩
  case round =>
    obtain ⟨k, hk, rfl, hall⟩ := hrel
    have HA := hid hall
    clear hall
    by_cases hlt : k < xs.length
    · obtain ⟨b, off, rfl, hcell⟩ := HC.out k hlt
      have hki : (k : Int) < (xs.length : Int) := by omega
      go_wp2_with fail
      refine (nameByte_any xs[k] w).mono ?_
      rintro e w ⟨rfl, rfl⟩
      cases hn : nameB xs[k]
      · have HX := hid (all_bad hlt hn)
        go_wp2
        go_ret
        exact ⟨by rw [HX.out]; rfl, rfl⟩
      · have HX : Hid (∀ j, (h : j < xs.length) → j < k + 1 → nameB xs[j] = true) := hid (fun j hj hjk => by
          by_cases e : j = k
          · subst e; exact hn
          · exact HA.out j hj (by omega))
        go_wp2
        go_round
        case rel => exact ⟨k + 1, by omega, by go_num, HX.out⟩
        case measure => simp [intOf]; omega
    · obtain rfl : k = xs.length := by omega
      have HF := hid (all_ok (fun j hj => HA.out j hj hj))
      go_wp2
      go_ret
      exact ⟨by rw [HF.out]; rfl, rfl⟩
set_option maxHeartbeats 1000000 in
theorem fitsWidth_any (n width : Int) (w : World) (hn : IntIn n) (hw : IntIn width) :
    Calls Tryz.prog 183 #[.int .i64 n, .int .i64 width] w fun e w' => e = .returned (.bool (fitsW n width)) ∧ Below w.heap.size w w' := by
  have HQ : Hid (Calls Tryz.prog 194 #[.slice (some ⟨w.heap.size, 0, none⟩) 1 1, .int .i64 width] (w.alloc (.cells #[.int .i64 n] 3)) (PkiPost (w.alloc (.cells #[.int .i64 n] 3)) (pki [n] width))) := hid (implPki_any (some ⟨w.heap.size, 0, none⟩) 1 [n] width _ (.inr ⟨w.heap.size, 0, rfl, fun i hi => by
      have : i = 0 := by simpa [ints] using hi
      subst this
      simp [ints]⟩) (by simp; exact hn) (by simp) (by simp) hw)
  have HD : Hid (fitsW n width = ((pki [n] width).2 == 0)) := hid rfl
  generalize pki [n] width = R at *
  go_enter Tryz.func183, Tryz.ntmps183
  go_wp2_with fail
  refine HQ.out.mono ?_
  rintro e w1 ⟨a1, c1, rfl, o1, b1⟩
  have HB : Hid (Below w.heap.size w w1) := hid ((below_new1 w _).trans (b1.mono (by simp)))
  clear o1 b1
  go_wp2
  go_ret
  exact ⟨by rw [HD.out]; rfl, HB.out⟩
set_option maxHeartbeats 400000 in
theorem validWidth_any (width : Int) (w : World) (hw : IntIn width) :
    Calls Tryz.prog 151 #[.int .i64 width] w fun e w' => e = .returned (.bool (widthOK width)) ∧ Below w.heap.size w w' := by
  go_enter Tryz.func151, Tryz.ntmps151
  go_wp2_with fail
  refine (fitsWidth_any 0 width w (by unfold IntIn; omega) hw).mono ?_
  rintro e w1 ⟨rfl, b1⟩
  have HB := hid b1
  clear b1
  rw [fitsW_zero]
  generalize hq : widthOK width = q
  go_wp2
  go_ret
  exact ⟨by rw [hq]; rfl, HB.out⟩
set_option maxHeartbeats 1000000 in
theorem validField_any (f : PF) (cs : List Value) (w : World) (hr : cField.rd w f cs) :
    Calls Tryz.prog 105 #[val cs] w fun e w' => e = .returned (.bool (fieldOK f)) ∧ Below w.heap.size w w' := by
  obtain ⟨v, rfl, hv, hik, hiw⟩ := cField_rd hr
  obtain ⟨a, cap, rfl, _, _, _, hrd, hby⟩ := hv.bytes
  simp only [val]
  have HK : Hid (Calls Tryz.prog 150 #[.slice a f.name.length cap] (w.alloc (.cells #[.slice a f.name.length cap, .int .i64 f.kind, .int .i64 f.width] 98)) fun e w' => e = .returned (.bool (nameOK f.name)) ∧ w' = w.alloc (.cells #[.slice a f.name.length cap, .int .i64 f.kind, .int .i64 f.width] 98)) := hid (validName_any a cap f.name _ (hrd.later (below_new1 _ _)))
  have HF : Hid (fieldOK f = (nameOK f.name && kindOK f)) := hid rfl
  have HKK : Hid (kindOK f = if f.kind = 1 then widthOK f.width else decide (0 ≤ f.kind) && decide (f.kind ≤ 3) && decide (f.width = 0)) := hid rfl
  have HIW := hid hiw
  clear hr hrd hv hik hiw
  cases hn : nameOK f.name
  · have HX : Hid (fieldOK f = false) := hid (by rw [HF.out, hn]; rfl)
    go_enter Tryz.func105, Tryz.ntmps105
    go_wp2_with fail
    refine HK.out.mono ?_
    rintro e w2 ⟨rfl, rfl⟩
    rw [hn]
    go_wp2
    go_ret
    exact ⟨by rw [HX.out]; rfl, below_new1 _ _⟩
  · by_cases h1 : f.kind = 1
    · have HX : Hid (fieldOK f = widthOK f.width) := hid (by rw [HF.out, hn, HKK.out, if_pos h1]; rfl)
      have H1 := hid h1
      clear h1
      go_enter Tryz.func105, Tryz.ntmps105
      go_wp2_with fail
      refine HK.out.mono ?_
      rintro e w2 ⟨rfl, rfl⟩
      rw [hn]
      have h1 := H1.out
      go_wp2_with fail
      refine (validWidth_any f.width _ HIW.out).mono ?_
      rintro e w2 ⟨rfl, b2⟩
      have HB : Hid (Below w.heap.size w w2) := hid ((below_new1 w _).trans (b2.mono (by simp)))
      clear b2
      generalize widthOK f.width = q at *
      go_wp2
      go_ret
      exact ⟨by rw [HX.out]; rfl, HB.out⟩
    · have HX : Hid (fieldOK f = (decide (0 ≤ f.kind) && decide (f.kind ≤ 3) && decide (f.width = 0))) := hid (by rw [HF.out, hn, HKK.out, if_neg h1]; rfl)
      by_cases h2 : f.kind = 0 ∨ f.kind = 2 ∨ f.kind = 3
      · have HY : Hid (fieldOK f = decide (f.width = 0)) := hid (by rw [HX.out, decide_eq_true (show 0 ≤ f.kind by omega), decide_eq_true (show f.kind ≤ 3 by omega)]; rfl)
        rcases h2 with h2 | h2 | h2
        all_goals
          have H2 := hid h2
          clear h2 h1
          go_enter Tryz.func105, Tryz.ntmps105
          go_wp2_with fail
          refine HK.out.mono ?_
          rintro e w2 ⟨rfl, rfl⟩
          rw [hn]
          have h2 := H2.out
          go_wp2
          go_ret
          exact ⟨by rw [HY.out]; rfl, below_new1 _ _⟩
      · have HY : Hid (fieldOK f = false) := hid (by
          rw [HX.out]
          by_cases e : 0 ≤ f.kind
          · rw [decide_eq_false (show ¬ f.kind ≤ 3 by omega)]; simp
          · rw [decide_eq_false e]; rfl)
        have e0 : (f.kind == 0) = false := by simp; omega
        have e1 : (f.kind == 1) = false := by simp; omega
        have e2 : (f.kind == 2) = false := by simp; omega
        have e3 : (f.kind == 3) = false := by simp; omega
        clear h1 h2
        go_enter Tryz.func105, Tryz.ntmps105
        go_wp2_with fail
        refine HK.out.mono ?_
        rintro e w2 ⟨rfl, rfl⟩
        rw [hn]
        go_wp2
        go_ret
        exact ⟨by rw [HY.out]; rfl, below_new1 _ _⟩
end Go.Proofs.YtfaehioeepolhaaGreat
