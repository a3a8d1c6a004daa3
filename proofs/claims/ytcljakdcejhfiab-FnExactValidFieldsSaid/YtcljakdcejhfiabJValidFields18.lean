import Derived.Test.YtcljakdcejhfiabJValidFields17
namespace Go.Proofs.Ytcljakdcejhfiab
open Go.RowKit
theorem taken_none {fs : List PF} {i : Nat} (hi : i < fs.length) (h : ∀ k, (hk : k < fs.length) → k < i → fs[k].name ≠ fs[i].name) : taken (fs.take i) fs[i].name = false :=
  not_taken (fun k hk => by
    have hk' : k < i := by simp at hk; omega
    simp only [List.getElem_take]
    exact h k (by omega) hk')
theorem taken_some {fs : List PF} {i k : Nat} (hi : i < fs.length) (hk : k < i) (h : fs[k].name = fs[i].name) : taken (fs.take i) fs[i].name = true :=
  taken_at (k := k) (by simp; omega) (by simpa using h)
set_option maxHeartbeats 4000000 in
theorem specFields_any (a : Option Addr) (cap : Nat) (fs : List PF) (w : World) (hr : RdSl cField w fs (.slice a fs.length cap)) :
    Calls Try.prog 25 #[.slice a fs.length cap] w fun e w' => e = .returned (.bool (fieldsOK fs)) ∧ Below w.heap.size w w' := by
  have HR := hid hr
  clear hr
  by_cases h1 : fs.length < 1
  · have HD : Hid (fieldsOK fs = false) := hid (by simp [fieldsOK]; omega)
    go_enter Try.func25, Try.ntmps25
    go_wp2
    go_ret
    exact ⟨by rw [HD.out]; rfl, Below.refl _ _⟩
  by_cases h2 : 12 < fs.length
  · have HD : Hid (fieldsOK fs = false) := hid (by simp [fieldsOK]; omega)
    go_enter Try.func25, Try.ntmps25
    go_wp2
    go_ret
    exact ⟨by rw [HD.out]; rfl, Below.refl _ _⟩
  have HD : Hid (fieldsOK fs = okTo fs fs.length) := hid (by
    have e1 : decide (1 ≤ fs.length) = true := decide_eq_true (by omega)
    have e2 : decide (fs.length ≤ 12) = true := decide_eq_true (by omega)
    unfold fieldsOK; rw [e1, e2]; rfl)
  go_enter Try.func25, Try.ntmps25
  go_wp2
  go_loopw [3, 4] (fun i _ wr => ∃ k : Nat, k ≤ fs.length ∧ i = .int .i64 k ∧ okTo fs k = true ∧ Below w.heap.size w wr) (fun i _ _ => fs.length - (intOf i).toNat)
  case atStart => exact ⟨0, Nat.zero_le _, rfl, rfl, Below.refl _ _⟩
  case round =>
    obtain ⟨i, hk, rfl, hok, hbe⟩ := hrel
    have HB := hid hbe
    have HO := hid hok
    clear hbe hok
    by_cases hlt : i < fs.length
    · obtain ⟨b, off, v0, v1, v2, rfl, hes, d0, d1, d2⟩ := (HR.out.later HB.out).at3 rfl hlt
      have HE := hid hes
      have hki : (i : Int) < (fs.length : Int) := by omega
      clear hes
      go_wp2_with fail
      refine (l2fieldOK_any fs[i] _ wr HE.out).mono ?_
      rintro e w2 ⟨rfl, b2⟩
      have HB2 := hid (HB.out.trans (b2.mono HB.out.size))
      cases hf : fieldOK fs[i]
      · have HX := hid (fieldsOK_bad hlt (.inl hf))
        clear b2 hf
        go_wp2
        go_ret
        exact ⟨by rw [HX.out]; rfl, HB2.out⟩
      · have HF := hid hf
        clear b2 hf d0 d1 d2
        go_wp2
        go_loopw [4] (fun j wq => ∃ k : Nat, k ≤ i ∧ j = .int .i64 k ∧ (∀ q, (h : q < fs.length) → q < k → fs[q].name ≠ fs[i].name) ∧ Below w.heap.size w wq) (fun j _ => i - (intOf j).toNat)
        case atStart => exact ⟨0, Nat.zero_le _, rfl, fun q _ h => by omega, HB2.out⟩
        case round =>
          obtain ⟨k, hki2, rfl, hne, hbq⟩ := hrel
          have HBQ := hid hbq
          have HNE := hid hne
          clear hbq hne
          by_cases hlk : k < i
          · have RQ := HR.out.later HBQ.out
            obtain ⟨b', off', x0, x1, x2, e', hx, p0, -, -⟩ := RQ.at3 (k := k) rfl (by omega)
            simp only [Option.some.injEq, Addr.mk.injEq, and_true] at e'
            obtain ⟨rfl, rfl⟩ := e'
            obtain ⟨b', off', y0, y1, y2, e', hy, q0, -, -⟩ := RQ.at3 (k := i) rfl hlt
            simp only [Option.some.injEq, Addr.mk.injEq, and_true] at e'
            obtain ⟨rfl, rfl⟩ := e'
            obtain ⟨vx, ex, hvx, -⟩ := cField_rd hx
            obtain ⟨vy, ey, hvy, -⟩ := cField_rd hy
            obtain ⟨ax, cx, rfl, -, -, -, rx, bx⟩ := hvx.bytes
            obtain ⟨ay, cy, rfl, -, -, -, ry, by_⟩ := hvy.bytes
            simp only [List.cons.injEq] at ex ey
            obtain ⟨rfl, -⟩ := ex
            obtain ⟨rfl, -⟩ := ey
            have HQ : Hid (∀ n, Calls Try.prog 53 #[.slice ax fs[k].name.length cx, .slice ay fs[i].name.length cy] (wr.drewN n) fun e w' => e = .returned (.bool (decide (fs[k].name = fs[i].name))) ∧ ∃ m, w' = (wr.drewN n).drewN m) := hid (fun n => by
              refine (l1same_any ax ay cx cy _ _ _ (rx.later (below_drewN (Below.refl _ _) n)) (ry.later (below_drewN (Below.refl _ _) n)) bx by_).mono ?_
              rintro e w' ⟨rfl, rfl⟩
              exact ⟨rfl, 0, rfl⟩)
            have hkk : (k : Int) < (i : Int) := by omega
            have hkl : (k : Int) < (fs.length : Int) := by omega
            clear hvx hvy rx ry bx by_ hx hy RQ
            go_wp2
            go_quiet ((go_at_call 53; exact Calls.quiet_of (HQ.out _)))
            by_cases hsame : fs[k].name = fs[i].name
            · have HX := hid (fieldsOK_bad hlt (.inr (taken_some hlt hlk hsame)))
              rw [decide_eq_true hsame]
              go_wp2
              go_ret
              exact ⟨by rw [HX.out]; rfl, below_drewN HBQ.out _⟩
            · rw [decide_eq_false hsame]
              have HNN : Hid (∀ q, (h : q < fs.length) → q < k + 1 → fs[q].name ≠ fs[i].name) := hid (fun q hq hqk => by
                by_cases e : q = k
                · subst e; exact hsame
                · exact HNE.out q hq (by omega))
              go_wp2
              go_roundw
              case rel => exact ⟨k + 1, by omega, by go_num, HNN.out, below_drewN HBQ.out _⟩
              case measure => simp [intOf]; omega
          · obtain rfl : k = i := by omega
            have HX : Hid (okTo fs (k + 1) = true) := hid (by rw [okTo_succ hlt, HO.out, HF.out, taken_none hlt HNE.out]; rfl)
            go_wp2
            go_roundw
            case rel => exact ⟨k + 1, by omega, by go_num, HX.out, HBQ.out⟩
            case measure => simp [intOf]; omega
    · obtain rfl : i = fs.length := by omega
      have HX : Hid (fieldsOK fs = true) := hid (by rw [HD.out]; exact HO.out)
      go_wp2
      go_ret
      exact ⟨by rw [HX.out]; rfl, HB.out⟩
end Go.Proofs.Ytcljakdcejhfiab
