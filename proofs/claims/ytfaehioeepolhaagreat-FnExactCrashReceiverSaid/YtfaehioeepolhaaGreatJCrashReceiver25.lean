import Derived.Test.YtfaehioeepolhaaGreatJCrashReceiver24
import Derived.Test.YtfaehioeepolhaaGreatJCrashReceiver22
import Derived.Test.YtfaehioeepolhaaGreatJCrashReceiver6
import Derived.Test.YtfaehioeepolhaaGreatJCrashReceiver21
import Derived.Handy
namespace Go.Proofs.YtfaehioeepolhaaGreat
open Go.RowKit
theorem taken_none {fs : List PF} {i : Nat} (hi : i < fs.length) (h : ∀ k, (hk : k < fs.length) → k < i → fs[k].name ≠ fs[i].name) : taken (fs.take i) fs[i].name = false :=
  not_taken (fun k hk => by
    have hk' : k < i := by simp at hk; omega
    simp only [List.getElem_take]
    exact h k (by omega) hk')
theorem taken_some {fs : List PF} {i k : Nat} (hi : i < fs.length) (hk : k < i) (h : fs[k].name = fs[i].name) : taken (fs.take i) fs[i].name = true :=
  taken_at (k := k) (by simp; omega) (by simpa using h)
set_option maxHeartbeats 4000000 in
theorem specFields_any (a : Option Addr) (cap : Nat) (fs : List PF) (w : World) (hr : RdSl cField w fs (.slice a fs.length cap)) :
    Calls Tryz.prog 52 #[.slice a fs.length cap] w fun e w' => e = .returned (.bool (fieldsOK fs)) ∧ Below w.heap.size w w' := by
  have HR := hid hr
  clear hr
  by_cases h1 : fs.length < 1
  · have HD : Hid (fieldsOK fs = false) := hid (by simp [fieldsOK]; omega)
    go_enter Tryz.func52, Tryz.ntmps52
    go_wp2
    go_ret
    exact ⟨by rw [HD.out]; rfl, Below.refl _ _⟩
  by_cases h2 : 12 < fs.length
  · have HD : Hid (fieldsOK fs = false) := hid (by simp [fieldsOK]; omega)
    go_enter Tryz.func52, Tryz.ntmps52
    go_wp2
    go_ret
    exact ⟨by rw [HD.out]; rfl, Below.refl _ _⟩
  have HD : Hid (fieldsOK fs = okTo fs fs.length) := hid (by
    have e1 : decide (1 ≤ fs.length) = true := decide_eq_true (by omega)
    have e2 : decide (fs.length ≤ 12) = true := decide_eq_true (by omega)
    unfold fieldsOK; rw [e1, e2]; rfl)
  go_enter Tryz.func52, Tryz.ntmps52
  go_wp2
  go_loopw [3, 4] (fun i _ wr => ∃ k : Nat, k ≤ fs.length ∧ i = .int .i64 k ∧ okTo fs k = true ∧ Below w.heap.size w wr) (fun i _ _ => fs.length - (intOf i).toNat)
  case atStart => exact ⟨0, Nat.zero_le _, rfl, rfl, Below.refl _ _⟩
  case round =>
    obtain ⟨i, hk, rfl, hok, hbe⟩ := hrel
    have HB := hid hbe
    have HO := hid hok
    clear hbe hok
    by_cases hlt : i < fs.length
    · obtain ⟨b, off, v0, v1, v2, rfl, hes, d0, d1, d2⟩ := (HR.out.later HB.out).at3 rfl hlt
      have HE := hid hes
      have hki : (i : Int) < (fs.length : Int) := by omega
      clear hes
      go_wp2_with fail
      refine (l2fieldOK_any fs[i] _ wr HE.out).mono ?_
      rintro e w2 ⟨rfl, b2⟩
      have HB2 := hid (HB.out.trans (b2.mono HB.out.size))
      cases hf : fieldOK fs[i]
      · have HX := hid (fieldsOK_bad hlt (.inl hf))
        clear b2 hf
        go_wp2
        go_ret
        exact ⟨by rw [HX.out]; rfl, HB2.out⟩
      · have HF := hid hf
        clear b2 hf d0 d1 d2
        go_wp2
        go_loopw [4] (fun j wq => ∃ k : Nat, k ≤ i ∧ j = .int .i64 k ∧ (∀ q, (h : q < fs.length) → q < k → fs[q].name ≠ fs[i].name) ∧ Below w.heap.size w wq) (fun j _ => i - (intOf j).toNat)
        case atStart => exact ⟨0, Nat.zero_le _, rfl, fun q _ h => by omega, HB2.out⟩
        case round =>
          obtain ⟨k, hki2, rfl, hne, hbq⟩ := hrel
          have HBQ := hid hbq
          have HNE := hid hne
          clear hbq hne
          by_cases hlk : k < i
          · have RQ := HR.out.later HBQ.out
            obtain ⟨b', off', x0, x1, x2, e', hx, p0, -, -⟩ := RQ.at3 (k := k) rfl (by omega)
            simp only [Option.some.injEq, Addr.mk.injEq, and_true] at e'
            obtain ⟨rfl, rfl⟩ := e'
            obtain ⟨b', off', y0, y1, y2, e', hy, q0, -, -⟩ := RQ.at3 (k := i) rfl hlt
            simp only [Option.some.injEq, Addr.mk.injEq, and_true] at e'
            obtain ⟨rfl, rfl⟩ := e'
            obtain ⟨vx, ex, hvx, -⟩ := cField_rd hx
            obtain ⟨vy, ey, hvy, -⟩ := cField_rd hy
            obtain ⟨ax, cx, rfl, -, -, -, rx, bx⟩ := hvx.bytes
            obtain ⟨ay, cy, rfl, -, -, -, ry, by_⟩ := hvy.bytes
            simp only [List.cons.injEq] at ex ey
            obtain ⟨rfl, -⟩ := ex
            obtain ⟨rfl, -⟩ := ey
            have HQ : Hid (∀ n, Calls Tryz.prog 101 #[.slice ax fs[k].name.length cx, .slice ay fs[i].name.length cy] (wr.drewN n) fun e w' => e = .returned (.bool (decide (fs[k].name = fs[i].name))) ∧ ∃ m, w' = (wr.drewN n).drewN m) := hid (fun n => by
              refine (l1same_any ax ay cx cy _ _ _ (rx.later (below_drewN (Below.refl _ _) n)) (ry.later (below_drewN (Below.refl _ _) n)) bx by_).mono ?_
              rintro e w' ⟨rfl, rfl⟩
              exact ⟨rfl, 0, rfl⟩)
            have hkk : (k : Int) < (i : Int) := by omega
            have hkl : (k : Int) < (fs.length : Int) := by omega
            clear hvx hvy rx ry bx by_ hx hy RQ
            go_wp2
            go_quiet ((go_at_call 101; exact Calls.quiet_of (HQ.out _)))
            by_cases hsame : fs[k].name = fs[i].name
            · have HX := hid (fieldsOK_bad hlt (.inr (taken_some hlt hlk hsame)))
              rw [decide_eq_true hsame]
              go_wp2
              go_ret
              exact ⟨by rw [HX.out]; rfl, below_drewN HBQ.out _⟩
            · rw [decide_eq_false hsame]
              have HNN : Hid (∀ q, (h : q < fs.length) → q < k + 1 → fs[q].name ≠ fs[i].name) := hid (fun q hq hqk => by
                by_cases e : q = k
                · subst e; exact hsame
                · exact HNE.out q hq (by omega))
              go_wp2
              go_roundw
              case rel => exact ⟨k + 1, by omega, by go_num, HNN.out, below_drewN HBQ.out _⟩
              case measure => simp [intOf]; omega
          · obtain rfl : k = i := by omega
            have HX : Hid (okTo fs (k + 1) = true) := hid (by rw [okTo_succ hlt, HO.out, HF.out, taken_none hlt HNE.out]; rfl)
            go_wp2
            go_roundw
            case rel => exact ⟨k + 1, by omega, by go_num, HX.out, HBQ.out⟩
            case measure => simp [intOf]; omega
    · obtain rfl : i = fs.length := by omega
      have HX : Hid (fieldsOK fs = true) := hid (by rw [HD.out]; exact HO.out)
      go_wp2
      go_ret
      exact ⟨by rw [HX.out]; rfl, HB.out⟩
end Go.Proofs.YtfaehioeepolhaaGreat
namespace Go.Proofs.YtfaehioeepolhaaGreat
open Go.RowKit
def Gath (w wr : World) (v : Value) (xss : List (List Nat)) : Prop :=
  ∃ vals : List Value, wr.ownsRow w.heap.size 23 1 v xss.length vals ∧ ∀ i, (h : i < xss.length) → ∃ u, vals[i]? = some u ∧ RdSl cByte w xss[i] u
theorem Gath.nil (w : World) : Gath w w (.slice none 0 0) [] := ⟨[], World.ownsRow_nil _ _ _ _, fun i h => by simp at h⟩
theorem Gath.kept {w wr w' : World} {v : Value} {xss : List (List Nat)} (h : Gath w wr v xss) (hb : Below wr.heap.size wr w') : Gath w w' v xss := by
  obtain ⟨vals, ho, hi⟩ := h
  exact ⟨vals, own_later ho hb, hi⟩
theorem Gath.rd {w wr : World} {v : Value} {xss : List (List Nat)} (h : Gath w wr v xss) (hb : Below w.heap.size w wr) : RdSl cSS wr xss v := by
  obtain ⟨vals, ho, hi⟩ := h
  have hvl : vals.length = xss.length := by have := ho.1; omega
  rcases ho.2 with ⟨rfl, h0⟩ | ⟨g, cap, cur, rfl, hg, hh, hn, hm, r⟩
  · obtain rfl := List.length_eq_zero_iff.1 h0
    exact RdSl.empty none
  · refine ⟨_, cap, rfl, hn, hm, (fun h => by cases h), .inr ⟨g, 0, rfl, fun i h => ?_⟩⟩
    obtain ⟨u, hu, hr⟩ := hi i h
    refine ⟨[u], ⟨u, rfl, hr.later hb⟩, fun j hj => ?_⟩
    have hj0 : j = 0 := by simpa using hj
    subst hj0
    have := World.ownsRow.cellAt ho i (by omega)
    rw [show 0 + (i * cSS.n + 0) = i from by simp [cSl], this, hu]; rfl
theorem Gath.snoc {w w1 : World} {v' u : Value} {xss : List (List Nat)} {t : List Nat} {vals : List Value} (hl : vals.length = xss.length) (hi : ∀ i, (h : i < xss.length) → ∃ u, vals[i]? = some u ∧ RdSl cByte w xss[i] u)
    (ho : w1.ownsRow w.heap.size 23 1 v' (xss.length + 1) (vals ++ [u])) (hu : RdSl cByte w t u) : Gath w w1 v' (xss ++ [t]) := by
  refine ⟨vals ++ [u], by simpa using ho, fun i h => ?_⟩
  by_cases e : i < xss.length
  · obtain ⟨u', h1, h2⟩ := hi i e
    exact ⟨u', by rw [List.getElem?_append_left (by omega)]; exact h1, by rw [List.getElem_append_left e]; exact h2⟩
  · have hie : i = xss.length := by simp at h; omega
    subst hie
    exact ⟨u, by simp [← hl], by simpa using hu⟩
theorem infoSlG : (Tryz.prog.info? 23).map (fun i => (i.zero, i.size, i.bytes)) = some (some (.slice none 0 0), 1, 24) := by kernel_rfl
theorem nn_len (cs : List PC) : (nn cs).length ≤ cs.length := by unfold nn; rw [List.length_map]; exact List.length_filter_le _ _
end Go.Proofs.YtfaehioeepolhaaGreat
namespace Go.Proofs.YtfaehioeepolhaaGreat
open Go.RowKit Go.Maps
set_option maxHeartbeats 1000000 in
theorem l2place_any (a a2 : Option Addr) (cap c2 : Nat) (vs : List (List Nat)) (t : List Nat) (w : World) (hr : RdSl cSS w vs (.slice a vs.length cap)) (hr2 : Rd w a2 (byt t)) (hb2 : ∀ x ∈ t, x < 256) (hl : vs.length ≤ 1048576) :
    Calls Tryz.prog 135 #[.slice a vs.length cap, .slice a2 t.length c2] w fun e w' => e = .returned (.int .i64 (place vs t)) ∧ w' = w := by
  have HR := hid hr
  have HR2 := hid hr2
  have HB2 := hid hb2
  clear hr hr2 hb2
  go_enter Tryz.func135, Tryz.ntmps135
  go_wp2
  go_loop [5] (fun i => ∃ k : Nat, k ≤ vs.length ∧ i = .int .i64 k ∧ ∀ q, (h : q < vs.length) → q < k → vs[q] ≠ t) (fun i => vs.length - (intOf i).toNat)
  case atStart => exact ⟨0, Nat.zero_le _, rfl, fun q _ h => by omega⟩
  case round =>
    obtain ⟨k, hk, rfl, hall⟩ := hrel
    have HA := hid hall
    clear hall
    by_cases hlt : k < vs.length
    · obtain ⟨b, off, a', c', rfl, hcb, hrr⟩ := HR.out.row hlt
      obtain ⟨_, _, e', -, -, -, hrd, hby⟩ := hrr.bytes
      simp only [Value.slice.injEq] at e'
      obtain ⟨rfl, -, rfl⟩ := e'
      have HRD := hid hrd
      have HBY := hid hby
      have hki : (k : Int) < (vs.length : Int) := by omega
      clear hrr hrd hby
      go_wp2_with fail
      refine (l1same_any a' a2 c' c2 _ _ w HRD.out HR2.out HBY.out HB2.out).mono ?_
      rintro e w ⟨rfl, rfl⟩
      by_cases hs : vs[k] = t
      · have HX := hid (place_at hlt hs (fun q hq h => HA.out q hq h))
        rw [decide_eq_true hs]
        go_wp2
        go_ret
        exact ⟨by rw [HX.out]; rfl, rfl⟩
      · rw [decide_eq_false hs]
        have HX : Hid (∀ q, (h : q < vs.length) → q < k + 1 → vs[q] ≠ t) := hid (fun q hq hqk => by
          by_cases e : q = k
          · subst e; exact hs
          · exact HA.out q hq (by omega))
        go_wp2
        go_round
        case rel => exact ⟨k + 1, by omega, by go_num, HX.out⟩
        case measure => simp [intOf]; omega
    · obtain rfl : k = vs.length := by omega
      have HX := hid (place_none (fun q hq => HA.out q hq hq))
      go_wp2
      go_ret
      exact ⟨by rw [HX.out]; rfl, rfl⟩
end Go.Proofs.YtfaehioeepolhaaGreat
