import Derived.Test.YtfaehioeepolhaaGreatJValidSender29
import Derived.Test.YtfaehioeepolhaaGreatJValidSender38
import Derived.Deep.DeepCutAuto
namespace Go.Proofs.YtfaehioeepolhaaGreat
open Go.RowKit
theorem pf_ext {f g : PF} (h1 : f.name = g.name) (h2 : f.kind = g.kind) (h3 : f.width = g.width) : f = g := by cases f; cases g; simp_all
def pfT (f : PF) : List Nat × Int × Int := (f.name, f.kind, f.width)
theorem pfT_inj {f g : PF} (h : pfT f = pfT g) : f = g := by
  unfold pfT at h
  simp only [Prod.mk.injEq] at h
  exact pf_ext h.1 h.2.1 h.2.2
def eqPF (f g : PF) : Bool := decide (pfT f = pfT g)
theorem eqPF_yes {f g : PF} (h : f = g) : eqPF f g = true := decide_eq_true (by rw [h])
theorem eqPF_no {f g : PF} (h : f ≠ g) : eqPF f g = false := decide_eq_false (fun e => h (pfT_inj e))
def sameFs (fs gs : List PF) : Bool := decide (fs.map pfT = gs.map pfT)
theorem sameFs_len {fs gs : List PF} (h : fs.length ≠ gs.length) : sameFs fs gs = false := decide_eq_false (fun e => h (by have := congrArg List.length e; simpa using this))
theorem sameFs_at {fs gs : List PF} {k : Nat} (h1 : k < fs.length) (h2 : k < gs.length) (h : fs[k] ≠ gs[k]) : sameFs fs gs = false := decide_eq_false (fun e => h (by
  have := congrArg (fun l : List (List Nat × Int × Int) => l[k]?) e
  simp only [List.getElem?_map, List.getElem?_eq_getElem h1, List.getElem?_eq_getElem h2, Option.map_some, Option.some.injEq] at this
  exact pfT_inj this))
theorem sameFs_all {fs gs : List PF} (hl : fs.length = gs.length) (h : ∀ k, (h1 : k < fs.length) → (h2 : k < gs.length) → fs[k] = gs[k]) : sameFs fs gs = true := decide_eq_true (by rw [List.ext_getElem hl h])
set_option maxRecDepth 100000 in
set_option maxHeartbeats 8000000 in
theorem l6sameFields_any (fs gs : List PF) (a b : Option Addr) (c d : Nat) (w : World) (hr : RdSl cField w fs (.slice a fs.length c)) (hr2 : RdSl cField w gs (.slice b gs.length d)) (hl1 : fs.length ≤ 1048576) :
    Calls Tryz.prog 55 #[.slice a fs.length c, .slice b gs.length d] w fun e w' => e = .returned (.bool (sameFs fs gs)) ∧ Below w.heap.size w w' := by
  have HR := hid hr
  have HR2 := hid hr2
  clear hr hr2
  by_cases hl : fs.length = gs.length
  rotate_left
  · have HF := hid (sameFs_len hl)
    have f0 : ((fs.length : Int) != (gs.length : Int)) = true := by simp; omega
    clear hl
    go_enter Tryz.func55, Tryz.ntmps55
    go_wp2
    go_ret
    exact ⟨by rw [HF.out]; rfl, Below.refl _ _⟩
  · have f0 : ((fs.length : Int) != (gs.length : Int)) = false := by simp; omega
    have HL := hid hl
    clear hl
    go_enter Tryz.func55, Tryz.ntmps55
    go_wp2
    go_loopw [5] (fun i wr => ∃ k : Nat, k ≤ fs.length ∧ i = .int .i64 k ∧ (∀ j, (h1 : j < fs.length) → (h2 : j < gs.length) → j < k → fs[j] = gs[j]) ∧ Below w.heap.size w wr) (fun i _ => fs.length - (intOf i).toNat)
    case atStart => exact ⟨0, Nat.zero_le _, rfl, fun j _ _ h => absurd h (by omega), Below.refl _ _⟩
    case round =>
      obtain ⟨k, hk, rfl, hall, hbe⟩ := hrel
      have HA := hid hall
      have HB := hid hbe
      clear hall hbe
      by_cases hlt : k < fs.length
      · have hlt2 : k < gs.length := by have := HL.out; omega
        obtain ⟨bb, off, x0, x1, x2, rfl, hx, p0, p1, p2⟩ := (HR.out.later HB.out).at3 (k := k) rfl hlt
        obtain ⟨bb', off', y0, y1, y2, rfl, hy, q0, q1, q2⟩ := (HR2.out.later HB.out).at3 (k := k) rfl hlt2
        obtain ⟨vx, ex, hvx, -⟩ := cField_rd hx
        obtain ⟨vy, ey, hvy, -⟩ := cField_rd hy
        obtain ⟨ax, cx, rfl, -, -, -, rx, bx⟩ := hvx.bytes
        obtain ⟨ay, cy, rfl, -, -, -, ry, by_⟩ := hvy.bytes
        simp only [List.cons.injEq, and_true] at ex ey
        obtain ⟨rfl, rfl, rfl⟩ := ex
        obtain ⟨rfl, rfl, rfl⟩ := ey
        have HQ : Hid (∀ n, Calls Tryz.prog 101 #[.slice ax fs[k].name.length cx, .slice ay gs[k].name.length cy] (wr.drewN n) fun e w' => e = .returned (.bool (decide (fs[k].name = gs[k].name))) ∧ ∃ m, w' = (wr.drewN n).drewN m) := hid (fun n => by
          refine (l1same_any ax ay cx cy _ _ _ (rx.later (below_drewN (Below.refl _ _) n)) (ry.later (below_drewN (Below.refl _ _) n)) bx by_).mono ?_
          rintro e w' ⟨rfl, rfl⟩
          exact ⟨rfl, 0, rfl⟩)
        have hki : (k : Int) < (fs.length : Int) := by omega
        have hki2 : (k : Int) < (gs.length : Int) := by omega
        clear hvx hvy rx ry bx by_ hx hy
        by_cases e0 : fs[k].name = gs[k].name
        · rw [decide_eq_true e0] at HQ
          by_cases e1 : fs[k].kind = gs[k].kind
          · have m1 : (fs[k].kind != gs[k].kind) = false := by simpa using e1
            by_cases e2 : fs[k].width = gs[k].width
            · have m2 : (fs[k].width != gs[k].width) = false := by simpa using e2
              have HA2 : Hid (∀ j, (h1 : j < fs.length) → (h2 : j < gs.length) → j < k + 1 → fs[j] = gs[j]) := hid (fun j h1 h2 h => by
                by_cases e : j = k
                · subst e; exact pf_ext e0 e1 e2
                · exact HA.out j h1 h2 (by omega))
              clear e0 e1 e2
              go_wp2
              go_quiet ((go_at_call 101; exact Calls.quiet_of (HQ.out _)))
              go_wp2
              go_roundw
              case rel => exact ⟨k + 1, by omega, by go_num, HA2.out, below_drewN HB.out _⟩
              case measure => simp [intOf]; omega
            · have m2 : (fs[k].width != gs[k].width) = true := by simpa using e2
              have HF := hid (sameFs_at hlt hlt2 (fun h => e2 (by rw [h])))
              clear e0 e1 e2
              go_wp2
              go_quiet ((go_at_call 101; exact Calls.quiet_of (HQ.out _)))
              go_wp2
              go_ret
              exact ⟨by rw [HF.out]; rfl, below_drewN HB.out _⟩
          · have m1 : (fs[k].kind != gs[k].kind) = true := by simpa using e1
            have HF := hid (sameFs_at hlt hlt2 (fun h => e1 (by rw [h])))
            clear e0 e1
            go_wp2
            go_quiet ((go_at_call 101; exact Calls.quiet_of (HQ.out _)))
            go_wp2
            go_ret
            exact ⟨by rw [HF.out]; rfl, below_drewN HB.out _⟩
        · rw [decide_eq_false e0] at HQ
          have HF := hid (sameFs_at hlt hlt2 (fun h => e0 (by rw [h])))
          clear e0
          go_wp2
          go_quiet ((go_at_call 101; exact Calls.quiet_of (HQ.out _)))
          go_wp2
          go_ret
          exact ⟨by rw [HF.out]; rfl, below_drewN HB.out _⟩
      · obtain rfl : k = fs.length := by omega
        have HF := hid (sameFs_all HL.out (fun j h1 h2 => HA.out j h1 h2 h1))
        go_wp2
        go_ret
        exact ⟨by rw [HF.out]; rfl, HB.out⟩
set_option maxRecDepth 100000 in
set_option maxHeartbeats 4000000 in
theorem sameField_any (f g : PF) (a b : Option Addr) (c d : Nat) (w : World) (h1 : RdSl cByte w f.name (.slice a f.name.length c)) (h2 : RdSl cByte w g.name (.slice b g.name.length d)) :
    Calls Tryz.prog 110 #[.agg #[.slice a f.name.length c, .int .i64 f.kind, .int .i64 f.width], .agg #[.slice b g.name.length d, .int .i64 g.kind, .int .i64 g.width]] w fun e w' => e = .returned (.bool (eqPF f g)) ∧ Below w.heap.size w w' := by
  obtain ⟨_, _, e1, -, -, -, rx, bx⟩ := h1.bytes
  obtain ⟨_, _, e2, -, -, -, ry, by_⟩ := h2.bytes
  simp only [Value.slice.injEq] at e1 e2
  obtain ⟨rfl, -, rfl⟩ := e1
  obtain ⟨rfl, -, rfl⟩ := e2
  have HX := hid rx
  have HY := hid ry
  have HBX := hid bx
  have HBY := hid by_
  clear h1 h2 rx ry bx by_
  have HK0 : Hid (((w.alloc (.cells #[.slice a f.name.length c, .int .i64 f.kind, .int .i64 f.width] 98)).alloc (.cells #[.slice b g.name.length d, .int .i64 g.kind, .int .i64 g.width] 98)).heap[w.heap.size]? = some (.cells #[.slice a f.name.length c, .int .i64 f.kind, .int .i64 f.width] 98 (0, 0))) := hid (heap2 _ _ (Below.refl _ _)).1
  have HK1 : Hid (((w.alloc (.cells #[.slice a f.name.length c, .int .i64 f.kind, .int .i64 f.width] 98)).alloc (.cells #[.slice b g.name.length d, .int .i64 g.kind, .int .i64 g.width] 98)).heap[w.heap.size + 1]? = some (.cells #[.slice b g.name.length d, .int .i64 g.kind, .int .i64 g.width] 98 (0, 0))) := hid (heap2 _ _ (Below.refl _ _)).2
  have HB0 := hid (below_new2 w (.cells #[.slice a f.name.length c, .int .i64 f.kind, .int .i64 f.width] 98) (.cells #[.slice b g.name.length d, .int .i64 g.kind, .int .i64 g.width] 98))
  go_enter Tryz.func110, Tryz.ntmps110
  go_upto_region 1 with fail
  generalize ((w.alloc (.cells #[.slice a f.name.length c, .int .i64 f.kind, .int .i64 f.width] 98)).alloc (.cells #[.slice b g.name.length d, .int .i64 g.kind, .int .i64 g.width] 98)) = W0 at *
  have p0 := cell_of_row _ _ 0 _ _ _ HK0.out
  have p1 := cell_of_row _ _ 1 _ _ _ HK0.out
  have p2 := cell_of_row _ _ 2 _ _ _ HK0.out
  have q0 := cell_of_row _ _ 0 _ _ _ HK1.out
  have q1 := cell_of_row _ _ 1 _ _ _ HK1.out
  have q2 := cell_of_row _ _ 2 _ _ _ HK1.out
  simp only [List.getElem?_toArray, List.getElem?_cons_zero, List.getElem?_cons_succ] at p0 p1 p2 q0 q1 q2
  go_wp2_with fail
  refine (bytesEqual_any a b c d f.name g.name W0 (HX.out.later HB0.out) (HY.out.later HB0.out) HBX.out HBY.out).mono ?_
  rintro e w2 ⟨rfl, hw2⟩
  subst w2
  by_cases e0 : f.name = g.name
  · rw [decide_eq_true e0]
    by_cases e1 : f.kind = g.kind
    · have m1 : (f.kind == g.kind) = true := beq_iff_eq.2 e1
      by_cases e2 : f.width = g.width
      · have m2 : (f.width == g.width) = true := beq_iff_eq.2 e2
        have HF : Hid (eqPF f g = true) := hid (eqPF_yes (pf_ext e0 e1 e2))
        clear e0 e1 e2
        go_wp2
        go_ret
        exact ⟨by rw [HF.out]; rfl, HB0.out⟩
      · have m2 : (f.width == g.width) = false := beq_false_of_ne e2
        have HF : Hid (eqPF f g = false) := hid (eqPF_no (fun h => e2 (by rw [h])))
        clear e0 e1 e2
        go_wp2
        go_ret
        exact ⟨by rw [HF.out]; rfl, HB0.out⟩
    · have m1 : (f.kind == g.kind) = false := beq_false_of_ne e1
      have HF : Hid (eqPF f g = false) := hid (eqPF_no (fun h => e1 (by rw [h])))
      clear e0 e1
      go_wp2
      go_ret
      exact ⟨by rw [HF.out]; rfl, HB0.out⟩
  · rw [decide_eq_false e0]
    have HF : Hid (eqPF f g = false) := hid (eqPF_no (fun h => e0 (by rw [h])))
    clear e0
    go_wp2
    go_ret
    exact ⟨by rw [HF.out]; rfl, HB0.out⟩
end Go.Proofs.YtfaehioeepolhaaGreat
