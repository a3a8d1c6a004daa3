import Derived.Test.YtfaehioeepolhabGreatJCrashSender23
import Derived.Test.YtfaehioeepolhabGreatJCrashSender31
import Derived.Deep.DeepCutAuto
import Derived.Test.YtfaehioeepolhabGreatJCrashSender11
import Derived.Test.YtfaehioeepolhabGreatJCrashSender32
import Derived.Test.YtfaehioeepolhabGreatJCrashSender19
import Derived.Test.YtfaehioeepolhabGreatJCrashSender25
namespace Go.Proofs.YtfaehioeepolhabGreat
open Go.RowKit
theorem pf_ext {f g : PF} (h1 : f.name = g.name) (h2 : f.kind = g.kind) (h3 : f.width = g.width) : f = g := by cases f; cases g; simp_all
def pfT (f : PF) : List Nat × Int × Int := (f.name, f.kind, f.width)
theorem pfT_inj {f g : PF} (h : pfT f = pfT g) : f = g := by
 unfold pfT at h
 simp only [Prod.mk.injEq] at h
 exact pf_ext h.1 h.2.1 h.2.2
def eqPF (f g : PF) : Bool := decide (pfT f = pfT g)
theorem eqPF_yes {f g : PF} (h : f = g) : eqPF f g = true := decide_eq_true (by rw [h])
theorem eqPF_no {f g : PF} (h : f ≠ g) : eqPF f g = false := decide_eq_false (fun e => h (pfT_inj e))
def sameFs (fs gs : List PF) : Bool := decide (fs.map pfT = gs.map pfT)
theorem sameFs_len {fs gs : List PF} (h : fs.length ≠ gs.length) : sameFs fs gs = false := decide_eq_false (fun e => h (by have := congrArg List.length e; simpa using this))
theorem sameFs_at {fs gs : List PF} {k : Nat} (h1 : k < fs.length) (h2 : k < gs.length) (h : fs[k] ≠ gs[k]) : sameFs fs gs = false := decide_eq_false (fun e => h (by
 have := congrArg (fun l : List (List Nat × Int × Int) => l[k]?) e
 simp only [List.getElem?_map, List.getElem?_eq_getElem h1, List.getElem?_eq_getElem h2, Option.map_some, Option.some.injEq] at this
 exact pfT_inj this))
theorem sameFs_all {fs gs : List PF} (hl : fs.length = gs.length) (h : ∀ k, (h1 : k < fs.length) → (h2 : k < gs.length) → fs[k] = gs[k]) : sameFs fs gs = true := decide_eq_true (by rw [List.ext_getElem hl h])
set_option maxRecDepth 100000 in
set_option maxHeartbeats 8000000 in
theorem l6sameFields_any (fs gs : List PF) (a b : Option Addr) (c d : Nat) (w : World) (hr : RdSl cField w fs (.slice a fs.length c)) (hr2 : RdSl cField w gs (.slice b gs.length d)) (hl1 : fs.length ≤ 1048576) :
  Calls Tryz.prog 61 #[.slice a fs.length c, .slice b gs.length d] w fun e w' => e = .returned (.bool (sameFs fs gs)) ∧ Below w.heap.size w w' := by
 have HR := hid hr
 have HR2 := hid hr2
 clear hr hr2
 by_cases hl : fs.length = gs.length
 rotate_left
 ·have HF := hid (sameFs_len hl)
  have f0 : ((fs.length : Int) != (gs.length : Int)) = true := by simp; omega
  clear hl
  go_enter Tryz.func61, Tryz.ntmps61
  go_wp2
  go_ret
  exact ⟨by rw [HF.out]; rfl, Below.refl _ _⟩
 ·have f0 : ((fs.length : Int) != (gs.length : Int)) = false := by simp; omega
  have HL := hid hl
  clear hl
  go_enter Tryz.func61, Tryz.ntmps61
  go_wp2
  go_loopw [5] (fun i wr => ∃ k : Nat, k ≤ fs.length ∧ i = .int .i64 k ∧ (∀ j, (h1 : j < fs.length) → (h2 : j < gs.length) → j < k → fs[j] = gs[j]) ∧ Below w.heap.size w wr) (fun i _ => fs.length - (intOf i).toNat)
  case atStart => exact ⟨0, Nat.zero_le _, rfl, fun j _ _ h => absurd h (by omega), Below.refl _ _⟩
  case round =>
   obtain ⟨k, hk, rfl, hall, hbe⟩ := hrel
   have HA := hid hall
   have HB := hid hbe
   clear hall hbe
   by_cases hlt : k < fs.length
   ·have hlt2 : k < gs.length := by have := HL.out; omega
    obtain ⟨bb, off, x0, x1, x2, rfl, hx, p0, p1, p2⟩ := (HR.out.later HB.out).at3 (k := k) rfl hlt
    obtain ⟨bb', off', y0, y1, y2, rfl, hy, q0, q1, q2⟩ := (HR2.out.later HB.out).at3 (k := k) rfl hlt2
    obtain ⟨vx, ex, hvx, -⟩ := cField_rd hx
    obtain ⟨vy, ey, hvy, -⟩ := cField_rd hy
    obtain ⟨ax, cx, rfl, -, -, -, rx, bx⟩ := hvx.bytes
    obtain ⟨ay, cy, rfl, -, -, -, ry, by_⟩ := hvy.bytes
    simp only [List.cons.injEq, and_true] at ex ey
    obtain ⟨rfl, rfl, rfl⟩ := ex
    obtain ⟨rfl, rfl, rfl⟩ := ey
    have HQ : Hid (∀ n, Calls Tryz.prog 108 #[.slice ax fs[k].name.length cx, .slice ay gs[k].name.length cy] (wr.drewN n) fun e w' => e = .returned (.bool (decide (fs[k].name = gs[k].name))) ∧ ∃ m, w' = (wr.drewN n).drewN m) := hid (fun n => by
     refine (l1same_any ax ay cx cy _ _ _ (rx.later (below_drewN (Below.refl _ _) n)) (ry.later (below_drewN (Below.refl _ _) n)) bx by_).mono ?_
     rintro e w' ⟨rfl, rfl⟩
     exact ⟨rfl, 0, rfl⟩)
    have hki : (k : Int) < (fs.length : Int) := by omega
    have hki2 : (k : Int) < (gs.length : Int) := by omega
    clear hvx hvy rx ry bx by_ hx hy
    by_cases e0 : fs[k].name = gs[k].name
    ·rw [decide_eq_true e0] at HQ
     by_cases e1 : fs[k].kind = gs[k].kind
     ·have m1 : (fs[k].kind != gs[k].kind) = false := by simpa using e1
      by_cases e2 : fs[k].width = gs[k].width
      ·have m2 : (fs[k].width != gs[k].width) = false := by simpa using e2
       have HA2 : Hid (∀ j, (h1 : j < fs.length) → (h2 : j < gs.length) → j < k + 1 → fs[j] = gs[j]) := hid (fun j h1 h2 h => by
        by_cases e : j = k
        ·subst e; exact pf_ext e0 e1 e2
        ·exact HA.out j h1 h2 (by omega))
       clear e0 e1 e2
       go_wp2
       go_quiet ((go_at_call 108; exact Calls.quiet_of (HQ.out _)))
       go_wp2
       go_roundw
       case rel => exact ⟨k + 1, by omega, by go_num, HA2.out, below_drewN HB.out _⟩
       case measure => simp [intOf]; omega
      ·have m2 : (fs[k].width != gs[k].width) = true := by simpa using e2
       have HF := hid (sameFs_at hlt hlt2 (fun h => e2 (by rw [h])))
       clear e0 e1 e2
       go_wp2
       go_quiet ((go_at_call 108; exact Calls.quiet_of (HQ.out _)))
       go_wp2
       go_ret
       exact ⟨by rw [HF.out]; rfl, below_drewN HB.out _⟩
     ·have m1 : (fs[k].kind != gs[k].kind) = true := by simpa using e1
      have HF := hid (sameFs_at hlt hlt2 (fun h => e1 (by rw [h])))
      clear e0 e1
      go_wp2
      go_quiet ((go_at_call 108; exact Calls.quiet_of (HQ.out _)))
      go_wp2
      go_ret
      exact ⟨by rw [HF.out]; rfl, below_drewN HB.out _⟩
    ·rw [decide_eq_false e0] at HQ
     have HF := hid (sameFs_at hlt hlt2 (fun h => e0 (by rw [h])))
     clear e0
     go_wp2
     go_quiet ((go_at_call 108; exact Calls.quiet_of (HQ.out _)))
     go_wp2
     go_ret
     exact ⟨by rw [HF.out]; rfl, below_drewN HB.out _⟩
   ·obtain rfl : k = fs.length := by omega
    have HF := hid (sameFs_all HL.out (fun j h1 h2 => HA.out j h1 h2 h1))
    go_wp2
    go_ret
    exact ⟨by rw [HF.out]; rfl, HB.out⟩
set_option maxRecDepth 100000 in
set_option maxHeartbeats 4000000 in
theorem sameField_any (f g : PF) (a b : Option Addr) (c d : Nat) (w : World) (h1 : RdSl cByte w f.name (.slice a f.name.length c)) (h2 : RdSl cByte w g.name (.slice b g.name.length d)) :
  Calls Tryz.prog 124 #[.agg #[.slice a f.name.length c, .int .i64 f.kind, .int .i64 f.width], .agg #[.slice b g.name.length d, .int .i64 g.kind, .int .i64 g.width]] w fun e w' => e = .returned (.bool (eqPF f g)) ∧ Below w.heap.size w w' := by
 obtain ⟨_, _, e1, -, -, -, rx, bx⟩ := h1.bytes
 obtain ⟨_, _, e2, -, -, -, ry, by_⟩ := h2.bytes
 simp only [Value.slice.injEq] at e1 e2
 obtain ⟨rfl, -, rfl⟩ := e1
 obtain ⟨rfl, -, rfl⟩ := e2
 have HX := hid rx
 have HY := hid ry
 have HBX := hid bx
 have HBY := hid by_
 clear h1 h2 rx ry bx by_
 have HK0 : Hid (((w.alloc (.cells #[.slice a f.name.length c, .int .i64 f.kind, .int .i64 f.width] 101)).alloc (.cells #[.slice b g.name.length d, .int .i64 g.kind, .int .i64 g.width] 101)).heap[w.heap.size]? = some (.cells #[.slice a f.name.length c, .int .i64 f.kind, .int .i64 f.width] 101 (0, 0))) := hid (heap2 _ _ (Below.refl _ _)).1
 have HK1 : Hid (((w.alloc (.cells #[.slice a f.name.length c, .int .i64 f.kind, .int .i64 f.width] 101)).alloc (.cells #[.slice b g.name.length d, .int .i64 g.kind, .int .i64 g.width] 101)).heap[w.heap.size + 1]? = some (.cells #[.slice b g.name.length d, .int .i64 g.kind, .int .i64 g.width] 101 (0, 0))) := hid (heap2 _ _ (Below.refl _ _)).2
 have HB0 := hid (below_new2 w (.cells #[.slice a f.name.length c, .int .i64 f.kind, .int .i64 f.width] 101) (.cells #[.slice b g.name.length d, .int .i64 g.kind, .int .i64 g.width] 101))
 go_enter Tryz.func124, Tryz.ntmps124
 go_upto_region 1 with fail
 generalize ((w.alloc (.cells #[.slice a f.name.length c, .int .i64 f.kind, .int .i64 f.width] 101)).alloc (.cells #[.slice b g.name.length d, .int .i64 g.kind, .int .i64 g.width] 101)) = W0 at *
 have p0 := cR _ _ 0 _ _ _ HK0.out
 have p1 := cR _ _ 1 _ _ _ HK0.out
 have p2 := cR _ _ 2 _ _ _ HK0.out
 have q0 := cR _ _ 0 _ _ _ HK1.out
 have q1 := cR _ _ 1 _ _ _ HK1.out
 have q2 := cR _ _ 2 _ _ _ HK1.out
 simp only [gA, gZ, gU] at p0 p1 p2 q0 q1 q2
 go_wp2_with fail
 refine (bytesEqual_any a b c d f.name g.name W0 (HX.out.later HB0.out) (HY.out.later HB0.out) HBX.out HBY.out).mono ?_
 rintro e w2 ⟨rfl, hw2⟩
 subst w2
 by_cases e0 : f.name = g.name
 ·rw [decide_eq_true e0]
  by_cases e1 : f.kind = g.kind
  ·have m1 : (f.kind == g.kind) = true := beq_iff_eq.2 e1
   by_cases e2 : f.width = g.width
   ·have m2 : (f.width == g.width) = true := beq_iff_eq.2 e2
    have HF : Hid (eqPF f g = true) := hid (eqPF_yes (pf_ext e0 e1 e2))
    clear e0 e1 e2
    go_wp2
    go_ret
    exact ⟨by rw [HF.out]; rfl, HB0.out⟩
   ·have m2 : (f.width == g.width) = false := beq_false_of_ne e2
    have HF : Hid (eqPF f g = false) := hid (eqPF_no (fun h => e2 (by rw [h])))
    clear e0 e1 e2
    go_wp2
    go_ret
    exact ⟨by rw [HF.out]; rfl, HB0.out⟩
  ·have m1 : (f.kind == g.kind) = false := beq_false_of_ne e1
   have HF : Hid (eqPF f g = false) := hid (eqPF_no (fun h => e1 (by rw [h])))
   clear e0 e1
   go_wp2
   go_ret
   exact ⟨by rw [HF.out]; rfl, HB0.out⟩
 ·rw [decide_eq_false e0]
  have HF : Hid (eqPF f g = false) := hid (eqPF_no (fun h => e0 (by rw [h])))
  clear e0
  go_wp2
  go_ret
  exact ⟨by rw [HF.out]; rfl, HB0.out⟩
abbrev SndE (r : PSnd) : Prop := 1 ≤ r.epoch ∧ r.epoch ≤ 1000000000 ∧ r.out.epoch = r.epoch
abbrev SndB (r : PSnd) : Prop := 0 ≤ r.base ∧ r.base ≤ 1000000000 - (r.tables.length : Int)
abbrev SndP (r : PSnd) : Prop := 0 ≤ r.pushed ∧ r.pushed ≤ (r.tables.length : Int)
def sndS (r : PSnd) : Bool := strOK r.str && (r.str.opened && (sameFs r.str.fields r.fields && decide (r.str.next = r.base + r.pushed)))
def sndOK (r : PSnd) : Bool := fieldsOK r.fields && (decide (SndE r) && (outOK r.out && (decide (SndB r) && ((decide (r.tables.length ≤ 20) && tabsOK r.fields r.tables) && (decide (SndP r) && sndS r)))))
theorem outOK_epoch {o : PO} (h : outOK o = true) : 1 ≤ o.epoch ∧ o.epoch ≤ 1000000000 := by
 by_cases k : OutH o
 ·exact ⟨k.1, k.2.1⟩
 ·rw [outOK_head k] at h; cases h
theorem sndOK_of {r : PSnd} (h : sndOK r = true) : fieldsOK r.fields = true ∧ SndE r ∧ outOK r.out = true ∧ SndB r ∧ r.tables.length ≤ 20 ∧ tabsOK r.fields r.tables = true ∧ SndP r ∧ sndS r = true := by
 unfold sndOK at h
 simp only [Bool.and_eq_true, decide_eq_true_eq] at h
 obtain ⟨h0, h1, h2, h3, ⟨h4, h5⟩, h6, h7⟩ := h
 exact ⟨h0, h1, h2, h3, h4, h5, h6, h7⟩
theorem sndOK_no {r : PSnd} (h : ¬ (fieldsOK r.fields = true ∧ SndE r ∧ outOK r.out = true ∧ SndB r ∧ r.tables.length ≤ 20 ∧ tabsOK r.fields r.tables = true ∧ SndP r ∧ sndS r = true)) : sndOK r = false := by
 cases k : sndOK r with
 | false => rfl
 | true => exact absurd (sndOK_of k) h
theorem sndOK_last {r : PSnd} (h0 : fieldsOK r.fields = true) (h1 : SndE r) (h2 : outOK r.out = true) (h3 : SndB r) (h4 : r.tables.length ≤ 20) (h5 : tabsOK r.fields r.tables = true) (h6 : SndP r) : sndOK r = sndS r := by
 unfold sndOK
 rw [h0, decide_eq_true h1, h2, decide_eq_true h3, decide_eq_true h4, h5, decide_eq_true h6]
 rfl
theorem sndS_no {r : PSnd} (h : ¬ (strOK r.str = true ∧ r.str.opened = true ∧ sameFs r.str.fields r.fields = true ∧ r.str.next = r.base + r.pushed)) : sndS r = false := by
 cases k : sndS r with
 | false => rfl
 | true =>
  unfold sndS at k
  simp only [Bool.and_eq_true, decide_eq_true_eq] at k
  exact absurd k h
theorem sndS_yes {r : PSnd} (h : strOK r.str = true ∧ r.str.opened = true ∧ sameFs r.str.fields r.fields = true ∧ r.str.next = r.base + r.pushed) : sndS r = true := by
 unfold sndS
 rw [h.1, h.2.1, h.2.2.1, decide_eq_true h.2.2.2]
 rfl
def SndFits (r : PSnd) : Prop := totL fN r.fields ≤ 1048576 ∧ totL totT r.tables ≤ 1048576 ∧ totL wN r.out.wait ≤ 1048576 ∧ tStr r.str ≤ 1048576
theorem sndFits_of {r : PSnd} (h : tSnd r ≤ 1048576) : SndFits r := by unfold tSnd at h; unfold SndFits; omega
set_option maxRecDepth 100000 in
set_option maxHeartbeats 4000000 in
theorem eqSenderF_any (r : PSnd) (a0 a3 a1 a2 b2 : Option Addr) (c0 c3 c1 c2 d2 : Nat) (a0x a3x a1x a2x b2x : Option Addr) (c0x c3x c1x c2x d2x : Nat) (w : World) (h1 : RdSnd w r a0 c0 a3 c3 a1 c1 a2 c2 b2 d2) (h2 : RdSnd w r a0x c0x a3x c3x a1x c1x a2x c2x b2x d2x) (ht : SndFits r) :
  Calls Tryz.prog 11 #[.agg #[.slice a0 r.fields.length c0, .int .i64 r.epoch, .int .i64 r.base, .slice a3 r.tables.length c3, .int .i64 r.pushed, .int .i64 r.out.epoch, .int .i64 r.out.next, .int .i64 r.out.now, .slice a1 r.out.wait.length c1, .bool r.str.opened, .slice a2 r.str.fields.length c2, .int .i64 r.str.next, .slice b2 r.str.dicts.length d2], .agg #[.slice a0x r.fields.length c0x, .int .i64 r.epoch, .int .i64 r.base, .slice a3x r.tables.length c3x, .int .i64 r.pushed, .int .i64 r.out.epoch, .int .i64 r.out.next, .int .i64 r.out.now, .slice a1x r.out.wait.length c1x, .bool r.str.opened, .slice a2x r.str.fields.length c2x, .int .i64 r.str.next, .slice b2x r.str.dicts.length d2x]] w fun e w' => e = .returned (.bool true) ∧ Below w.heap.size w w' := by
 have H1 := hid h1
 have H2 := hid h2
 clear h1 h2
 have HT : Hid (totL fN r.fields ≤ 1048576 ∧ totL totT r.tables ≤ 1048576 ∧ totL wN r.out.wait ≤ 1048576 ∧ tStr r.str ≤ 1048576) := hid ht
 have n0 : (r.epoch != r.epoch) = false := by simp
 have n1 : (r.base != r.base) = false := by simp
 have n2 : (r.pushed != r.pushed) = false := by simp
 have HK0 : Hid (((w.alloc (.cells #[.slice a0 r.fields.length c0, .int .i64 r.epoch, .int .i64 r.base, .slice a3 r.tables.length c3, .int .i64 r.pushed, .int .i64 r.out.epoch, .int .i64 r.out.next, .int .i64 r.out.now, .slice a1 r.out.wait.length c1, .bool r.str.opened, .slice a2 r.str.fields.length c2, .int .i64 r.str.next, .slice b2 r.str.dicts.length d2] 45)).alloc (.cells #[.slice a0x r.fields.length c0x, .int .i64 r.epoch, .int .i64 r.base, .slice a3x r.tables.length c3x, .int .i64 r.pushed, .int .i64 r.out.epoch, .int .i64 r.out.next, .int .i64 r.out.now, .slice a1x r.out.wait.length c1x, .bool r.str.opened, .slice a2x r.str.fields.length c2x, .int .i64 r.str.next, .slice b2x r.str.dicts.length d2x] 45)).heap[w.heap.size]? = some (.cells #[.slice a0 r.fields.length c0, .int .i64 r.epoch, .int .i64 r.base, .slice a3 r.tables.length c3, .int .i64 r.pushed, .int .i64 r.out.epoch, .int .i64 r.out.next, .int .i64 r.out.now, .slice a1 r.out.wait.length c1, .bool r.str.opened, .slice a2 r.str.fields.length c2, .int .i64 r.str.next, .slice b2 r.str.dicts.length d2] 45 (0, 0))) := hid (heap2 _ _ (Below.refl _ _)).1
 have HL0 : Hid (((w.alloc (.cells #[.slice a0 r.fields.length c0, .int .i64 r.epoch, .int .i64 r.base, .slice a3 r.tables.length c3, .int .i64 r.pushed, .int .i64 r.out.epoch, .int .i64 r.out.next, .int .i64 r.out.now, .slice a1 r.out.wait.length c1, .bool r.str.opened, .slice a2 r.str.fields.length c2, .int .i64 r.str.next, .slice b2 r.str.dicts.length d2] 45)).alloc (.cells #[.slice a0x r.fields.length c0x, .int .i64 r.epoch, .int .i64 r.base, .slice a3x r.tables.length c3x, .int .i64 r.pushed, .int .i64 r.out.epoch, .int .i64 r.out.next, .int .i64 r.out.now, .slice a1x r.out.wait.length c1x, .bool r.str.opened, .slice a2x r.str.fields.length c2x, .int .i64 r.str.next, .slice b2x r.str.dicts.length d2x] 45)).heap[w.heap.size + 1]? = some (.cells #[.slice a0x r.fields.length c0x, .int .i64 r.epoch, .int .i64 r.base, .slice a3x r.tables.length c3x, .int .i64 r.pushed, .int .i64 r.out.epoch, .int .i64 r.out.next, .int .i64 r.out.now, .slice a1x r.out.wait.length c1x, .bool r.str.opened, .slice a2x r.str.fields.length c2x, .int .i64 r.str.next, .slice b2x r.str.dicts.length d2x] 45 (0, 0))) := hid (heap2 _ _ (Below.refl _ _)).2
 have HB0 := hid (below_new2 w (.cells #[.slice a0 r.fields.length c0, .int .i64 r.epoch, .int .i64 r.base, .slice a3 r.tables.length c3, .int .i64 r.pushed, .int .i64 r.out.epoch, .int .i64 r.out.next, .int .i64 r.out.now, .slice a1 r.out.wait.length c1, .bool r.str.opened, .slice a2 r.str.fields.length c2, .int .i64 r.str.next, .slice b2 r.str.dicts.length d2] 45) (.cells #[.slice a0x r.fields.length c0x, .int .i64 r.epoch, .int .i64 r.base, .slice a3x r.tables.length c3x, .int .i64 r.pushed, .int .i64 r.out.epoch, .int .i64 r.out.next, .int .i64 r.out.now, .slice a1x r.out.wait.length c1x, .bool r.str.opened, .slice a2x r.str.fields.length c2x, .int .i64 r.str.next, .slice b2x r.str.dicts.length d2x] 45))
 go_enter Tryz.func11, Tryz.ntmps11
 go_upto_region 1 with fail
 generalize ((w.alloc (.cells #[.slice a0 r.fields.length c0, .int .i64 r.epoch, .int .i64 r.base, .slice a3 r.tables.length c3, .int .i64 r.pushed, .int .i64 r.out.epoch, .int .i64 r.out.next, .int .i64 r.out.now, .slice a1 r.out.wait.length c1, .bool r.str.opened, .slice a2 r.str.fields.length c2, .int .i64 r.str.next, .slice b2 r.str.dicts.length d2] 45)).alloc (.cells #[.slice a0x r.fields.length c0x, .int .i64 r.epoch, .int .i64 r.base, .slice a3x r.tables.length c3x, .int .i64 r.pushed, .int .i64 r.out.epoch, .int .i64 r.out.next, .int .i64 r.out.now, .slice a1x r.out.wait.length c1x, .bool r.str.opened, .slice a2x r.str.fields.length c2x, .int .i64 r.str.next, .slice b2x r.str.dicts.length d2x] 45)) = w0 at *
 have p0 := cR _ _ 0 _ _ _ HK0.out
 simp only [gA, gZ] at p0
 have q0 := cR _ _ 0 _ _ _ HL0.out
 simp only [gA, gZ] at q0
 go_wp2_with fail
 refine (eqFieldS_any a0 a0x c0 c0x r.fields w0 (H1.out.f.later HB0.out) (H2.out.f.later HB0.out) HT.out.1).mono ?_
 rintro e w1 ⟨rfl, b1⟩
 have HK1 := hid (boxSd HK0.out b1)
 have HL1 := hid (boxSd HL0.out b1)
 have HB1 := hid (bC HB0.out b1)
 clear b1 p0 q0
 have p1 := cR _ _ 1 _ _ _ HK1.out
 have p2 := cR _ _ 2 _ _ _ HK1.out
 have p3 := cR _ _ 3 _ _ _ HK1.out
 simp only [gA, gZ, gU] at p1 p2 p3
 have q1 := cR _ _ 1 _ _ _ HL1.out
 have q2 := cR _ _ 2 _ _ _ HL1.out
 have q3 := cR _ _ 3 _ _ _ HL1.out
 simp only [gA, gZ, gU] at q1 q2 q3
 go_wp2_with fail
 refine (eqTableS_any a3 a3x c3 c3x r.tables w1 (H1.out.t.later HB1.out) (H2.out.t.later HB1.out) HT.out.2.1).mono ?_
 rintro e w2 ⟨rfl, b2⟩
 have HK2 := hid (boxSd HK1.out b2)
 have HL2 := hid (boxSd HL1.out b2)
 have HB2 := hid (bC HB1.out b2)
 clear b2 p1 p2 p3 q1 q2 q3
 have p4 := cR _ _ 4 _ _ _ HK2.out
 have p5 := cR _ _ 5 _ _ _ HK2.out
 have p6 := cR _ _ 6 _ _ _ HK2.out
 have p7 := cR _ _ 7 _ _ _ HK2.out
 have p8 := cR _ _ 8 _ _ _ HK2.out
 simp only [gA, gZ, gU] at p4 p5 p6 p7 p8
 have q4 := cR _ _ 4 _ _ _ HL2.out
 have q5 := cR _ _ 5 _ _ _ HL2.out
 have q6 := cR _ _ 6 _ _ _ HL2.out
 have q7 := cR _ _ 7 _ _ _ HL2.out
 have q8 := cR _ _ 8 _ _ _ HL2.out
 simp only [gA, gZ, gU] at q4 q5 q6 q7 q8
 go_wp2_with fail
 refine (eqLinkOut_any r.out a1 a1x c1 c1x w2 (H1.out.o.later HB2.out) (H2.out.o.later HB2.out) HT.out.2.2.1).mono ?_
 rintro e w3 ⟨rfl, b3⟩
 have HK3 := hid (boxSd HK2.out b3)
 have HL3 := hid (boxSd HL2.out b3)
 have HB3 := hid (bC HB2.out b3)
 clear b3 p4 p5 p6 p7 p8 q4 q5 q6 q7 q8
 have p9 := cR _ _ 9 _ _ _ HK3.out
 have p10 := cR _ _ 10 _ _ _ HK3.out
 have p11 := cR _ _ 11 _ _ _ HK3.out
 have p12 := cR _ _ 12 _ _ _ HK3.out
 simp only [gA, gZ, gU] at p9 p10 p11 p12
 have q9 := cR _ _ 9 _ _ _ HL3.out
 have q10 := cR _ _ 10 _ _ _ HL3.out
 have q11 := cR _ _ 11 _ _ _ HL3.out
 have q12 := cR _ _ 12 _ _ _ HL3.out
 simp only [gA, gZ, gU] at q9 q10 q11 q12
 go_wp2_with fail
 refine (eqStream_any r.str a2 b2 a2x b2x c2 d2 c2x d2x w3 (H1.out.s.later HB3.out) (H2.out.s.later HB3.out) HT.out.2.2.2).mono ?_
 rintro e w4 ⟨rfl, b4⟩
 have HK4 := hid (boxSd HK3.out b4)
 have HL4 := hid (boxSd HL3.out b4)
 have HB4 := hid (bC HB3.out b4)
 clear b4 p9 p10 p11 p12 q9 q10 q11 q12
 go_wp2
 go_ret
 exact ⟨rfl, HB4.out⟩
def csR (r : PSnd) : PSnd := if sndOK r = true then (if r.epoch = 1000000000 then r else bgR r.fields (r.epoch + 1) r.base r.tables) else zSnd
def csK (r : PSnd) : Int := if sndOK r = true then (if r.epoch = 1000000000 then 6 else 0) else 1
theorem cs_no {r : PSnd} (h : sndOK r = false) : csR r = zSnd ∧ csK r = 1 := by unfold csR csK; rw [h]; exact ⟨rfl, rfl⟩
theorem cs_end {r : PSnd} (h : sndOK r = true) (he : r.epoch = 1000000000) : csR r = r ∧ csK r = 6 := by unfold csR csK; rw [h, if_pos rfl, if_pos rfl, if_pos he, if_pos he]; exact ⟨rfl, rfl⟩
theorem cs_yes {r : PSnd} (h : sndOK r = true) (he : ¬ r.epoch = 1000000000) : csR r = bgR r.fields (r.epoch + 1) r.base r.tables ∧ csK r = 0 := by unfold csR csK; rw [h, if_pos rfl, if_pos rfl, if_neg he, if_neg he]; exact ⟨rfl, rfl⟩
theorem bg_fits {fs : List PF} (e b : Int) (ts : List PT) (h : fieldsOK fs = true) (ht : totL totT ts ≤ 1048576) : SndFits (bgR fs e b ts) := by
 have h1 := fld_small h
 have h2 := startS_tot b h
 have h3 := push0_tot e (startB fs b) (startB_len fs b)
 refine ⟨?_, ht, ?_, ?_⟩
 ·show totL fN fs ≤ 1048576
  omega
 ·show totL wN (pushO ⟨e, 0, 0, []⟩ (startB fs b)).wait ≤ 1048576
  omega
 ·show tStr (startS fs b) ≤ 1048576
  omega
theorem cs_fits (r : PSnd) (ht : tSnd r ≤ 1048576) : SndFits (csR r) := by
 cases hok : sndOK r with
 | false =>
  rw [(cs_no hok).1]
  exact ⟨by decide, by decide, by decide, by decide⟩
 | true =>
  by_cases he : r.epoch = 1000000000
  ·rw [(cs_end hok he).1]
   exact sndFits_of ht
  ·rw [(cs_yes hok he).1]
   exact bg_fits _ _ _ (sndOK_of hok).1 (sndFits_of ht).2.1
end Go.Proofs.YtfaehioeepolhabGreat
