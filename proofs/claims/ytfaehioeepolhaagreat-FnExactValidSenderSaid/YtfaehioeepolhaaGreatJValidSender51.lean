import Derived.Test.YtfaehioeepolhaaGreatJValidSender44
namespace Go.Proofs.YtfaehioeepolhaaGreat
open Go.RowKit
set_option maxRecDepth 100000 in
set_option maxHeartbeats 8000000 in
theorem eqFuncField_any (fs gs : List PF) (a b : Option Addr) (c d : Nat) (w : World) (hr : RdSl cField w fs (.slice a fs.length c)) (hr2 : RdSl cField w gs (.slice b gs.length d)) (hl1 : fs.length ≤ 1048576) :
    Calls Tryz.prog 109 #[.slice a fs.length c, .slice b gs.length d, .func (.func 110) #[] #[]] w fun e w' => e = .returned (.bool (sameFs fs gs)) ∧ Below w.heap.size w w' := by
  have HR := hid hr
  have HR2 := hid hr2
  clear hr hr2
  by_cases hl : fs.length = gs.length
  rotate_left
  · have HF := hid (sameFs_len hl)
    have f0 : ((fs.length : Int) != (gs.length : Int)) = true := by simp; omega
    clear hl
    go_enter Tryz.func109, Tryz.ntmps109
    go_wp2
    go_ret
    exact ⟨by rw [HF.out]; rfl, Below.refl _ _⟩
  · have f0 : ((fs.length : Int) != (gs.length : Int)) = false := by simp; omega
    have HL := hid hl
    clear hl
    go_enter Tryz.func109, Tryz.ntmps109
    go_wp2
    go_loopw [7, 8, 9, 17] (fun _ _ _ i wr => ∃ k : Nat, k ≤ fs.length ∧ i = .int .i64 k ∧ (∀ j, (h1 : j < fs.length) → (h2 : j < gs.length) → j < k → fs[j] = gs[j]) ∧ Below w.heap.size w wr) (fun _ _ _ i _ => fs.length - (intOf i).toNat)
    case atStart => exact ⟨0, Nat.zero_le _, rfl, fun j _ _ h => absurd h (by omega), Below.refl _ _⟩
    case round =>
      obtain ⟨k, hk, rfl, hall, hbe⟩ := hrel
      have HA := hid hall
      have HB := hid hbe
      clear hall hbe
      by_cases hlt : k < fs.length
      · have hlt2 : k < gs.length := by have := HL.out; omega
        obtain ⟨bb, off, x0, x1, x2, rfl, hx, p0, p1, p2⟩ := (HR.out.later HB.out).at3 (k := k) rfl hlt
        obtain ⟨vx, ex, hvx, -⟩ := cField_rd hx
        obtain ⟨ax, cx, rfl, -, -, -, -, -⟩ := hvx.bytes
        simp only [List.cons.injEq, and_true] at ex
        obtain ⟨rfl, rfl, rfl⟩ := ex
        have HX := hid hvx
        obtain ⟨bb', off', y0, y1, y2, rfl, hy, q0, q1, q2⟩ := (HR2.out.later (below_chain HB.out (below_new1 wr (.cells #[.slice ax fs[k].name.length cx, .int .i64 fs[k].kind, .int .i64 fs[k].width] 98)))).at3 (k := k) rfl hlt2
        obtain ⟨vy, ey, hvy, -⟩ := cField_rd hy
        obtain ⟨ay, cy, rfl, -, -, -, -, -⟩ := hvy.bytes
        simp only [List.cons.injEq, and_true] at ey
        obtain ⟨rfl, rfl, rfl⟩ := ey
        have HY := hid hvy
        have hki : (k : Int) < (fs.length : Int) := by omega
        have hki2 : (k : Int) < (gs.length : Int) := by omega
        clear hvx hvy hx hy
        have HB1 := hid (below_new2 wr (.cells #[.slice ax fs[k].name.length cx, .int .i64 fs[k].kind, .int .i64 fs[k].width] 98) (.cells #[.slice ay gs[k].name.length cy, .int .i64 gs[k].kind, .int .i64 gs[k].width] 98))
        have HB2 := hid (below_new1 (wr.alloc (.cells #[.slice ax fs[k].name.length cx, .int .i64 fs[k].kind, .int .i64 fs[k].width] 98)) (.cells #[.slice ay gs[k].name.length cy, .int .i64 gs[k].kind, .int .i64 gs[k].width] 98))
        have HK1 : Hid (((wr.alloc (.cells #[.slice ax fs[k].name.length cx, .int .i64 fs[k].kind, .int .i64 fs[k].width] 98)).alloc (.cells #[.slice ay gs[k].name.length cy, .int .i64 gs[k].kind, .int .i64 gs[k].width] 98)).heap[wr.heap.size]? = some (.cells #[.slice ax fs[k].name.length cx, .int .i64 fs[k].kind, .int .i64 fs[k].width] 98 (0, 0))) := hid (heap2 _ _ (Below.refl _ _)).1
        have HK2 : Hid (((wr.alloc (.cells #[.slice ax fs[k].name.length cx, .int .i64 fs[k].kind, .int .i64 fs[k].width] 98)).alloc (.cells #[.slice ay gs[k].name.length cy, .int .i64 gs[k].kind, .int .i64 gs[k].width] 98)).heap[wr.heap.size + 1]? = some (.cells #[.slice ay gs[k].name.length cy, .int .i64 gs[k].kind, .int .i64 gs[k].width] 98 (0, 0))) := hid (heap2 _ _ (Below.refl _ _)).2
        have HX2 : Hid (RdSl cByte ((wr.alloc (.cells #[.slice ax fs[k].name.length cx, .int .i64 fs[k].kind, .int .i64 fs[k].width] 98)).alloc (.cells #[.slice ay gs[k].name.length cy, .int .i64 gs[k].kind, .int .i64 gs[k].width] 98)) fs[k].name (.slice ax fs[k].name.length cx)) := hid (HX.out.later HB1.out)
        have HY2 : Hid (RdSl cByte ((wr.alloc (.cells #[.slice ax fs[k].name.length cx, .int .i64 fs[k].kind, .int .i64 fs[k].width] 98)).alloc (.cells #[.slice ay gs[k].name.length cy, .int .i64 gs[k].kind, .int .i64 gs[k].width] 98)) gs[k].name (.slice ay gs[k].name.length cy)) := hid (HY.out.later HB2.out)
        have HB3 := hid (below_chain HB.out HB1.out)
        clear HB1 HB2 HX HY
        go_upto_region 7 with fail
        generalize ((wr.alloc (.cells #[.slice ax fs[k].name.length cx, .int .i64 fs[k].kind, .int .i64 fs[k].width] 98)).alloc (.cells #[.slice ay gs[k].name.length cy, .int .i64 gs[k].kind, .int .i64 gs[k].width] 98)) = W2 at *
        clear p0 p1 p2 q0 q1 q2
        have e0 := cell_of_row _ _ 0 _ _ _ HK1.out
        have e1 := cell_of_row _ _ 1 _ _ _ HK1.out
        have e2 := cell_of_row _ _ 2 _ _ _ HK1.out
        have g0 := cell_of_row _ _ 0 _ _ _ HK2.out
        have g1 := cell_of_row _ _ 1 _ _ _ HK2.out
        have g2 := cell_of_row _ _ 2 _ _ _ HK2.out
        simp only [List.getElem?_toArray, List.getElem?_cons_zero, List.getElem?_cons_succ] at e0 e1 e2 g0 g1 g2
        go_wp2_with fail
        refine (sameField_any fs[k] gs[k] ax ay cx cy W2 HX2.out HY2.out).mono ?_
        rintro e w3 ⟨rfl, b3⟩
        have HB4 := hid (below_chain HB3.out b3)
        clear b3 e0 e1 e2 g0 g1 g2
        by_cases hq : fs[k] = gs[k]
        · rw [eqPF_yes hq]
          have HA2 : Hid (∀ j, (h1 : j < fs.length) → (h2 : j < gs.length) → j < k + 1 → fs[j] = gs[j]) := hid (fun j h1 h2 h => by
            by_cases e : j = k
            · subst e; exact hq
            · exact HA.out j h1 h2 (by omega))
          clear hq
          go_wp2
          go_roundw
          case rel => exact ⟨k + 1, by omega, by go_num, HA2.out, HB4.out⟩
          case measure => simp [intOf]; omega
        · rw [eqPF_no hq]
          have HF := hid (sameFs_at hlt hlt2 hq)
          clear hq
          go_wp2
          go_ret
          exact ⟨by rw [HF.out]; rfl, HB4.out⟩
      · obtain rfl : k = fs.length := by omega
        have HF := hid (sameFs_all HL.out (fun j h1 h2 => HA.out j h1 h2 h1))
        go_wp2
        go_ret
        exact ⟨by rw [HF.out]; rfl, HB.out⟩
end Go.Proofs.YtfaehioeepolhaaGreat
