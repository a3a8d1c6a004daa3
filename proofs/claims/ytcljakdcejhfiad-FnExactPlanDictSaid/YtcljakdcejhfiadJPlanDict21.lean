import Derived.Test.YtcljakdcejhfiadJPlanDict20
import Derived.Test.YtcljakdcejhfiadJPlanDict5
import Derived.Test.YtcljakdcejhfiadJPlanDict16
import Derived.Test.YtcljakdcejhfiadJPlanDict17
import Derived.Handy
namespace Go.Proofs.Ytcljakdcejhfiad
open Go.RowKit
def Gath (w wr : World) (v : Value) (xss : List (List Nat)) : Prop :=
  ∃ vals : List Value, wr.ownsRow w.heap.size 69 1 v xss.length vals ∧ ∀ i, (h : i < xss.length) → ∃ u, vals[i]? = some u ∧ RdSl cByte w xss[i] u
theorem Gath.nil (w : World) : Gath w w (.slice none 0 0) [] := ⟨[], World.ownsRow_nil _ _ _ _, fun i h => by simp at h⟩
theorem Gath.kept {w wr w' : World} {v : Value} {xss : List (List Nat)} (h : Gath w wr v xss) (hb : Below wr.heap.size wr w') : Gath w w' v xss := by
  obtain ⟨vals, ho, hi⟩ := h
  exact ⟨vals, own_later ho hb, hi⟩
theorem Gath.rd {w wr : World} {v : Value} {xss : List (List Nat)} (h : Gath w wr v xss) (hb : Below w.heap.size w wr) : RdSl cSS wr xss v := by
  obtain ⟨vals, ho, hi⟩ := h
  have hvl : vals.length = xss.length := by have := ho.1; omega
  rcases ho.2 with ⟨rfl, h0⟩ | ⟨g, cap, cur, rfl, hg, hh, hn, hm, r⟩
  · obtain rfl := List.length_eq_zero_iff.1 h0
    exact RdSl.empty none
  · refine ⟨_, cap, rfl, hn, hm, (fun h => by cases h), .inr ⟨g, 0, rfl, fun i h => ?_⟩⟩
    obtain ⟨u, hu, hr⟩ := hi i h
    refine ⟨[u], ⟨u, rfl, hr.later hb⟩, fun j hj => ?_⟩
    have hj0 : j = 0 := by simpa using hj
    subst hj0
    have := World.ownsRow.cellAt ho i (by omega)
    rw [show 0 + (i * cSS.n + 0) = i from by simp [cSl], this, hu]; rfl
theorem Gath.snoc {w w1 : World} {v' u : Value} {xss : List (List Nat)} {t : List Nat} {vals : List Value} (hl : vals.length = xss.length) (hi : ∀ i, (h : i < xss.length) → ∃ u, vals[i]? = some u ∧ RdSl cByte w xss[i] u)
    (ho : w1.ownsRow w.heap.size 69 1 v' (xss.length + 1) (vals ++ [u])) (hu : RdSl cByte w t u) : Gath w w1 v' (xss ++ [t]) := by
  refine ⟨vals ++ [u], by simpa using ho, fun i h => ?_⟩
  by_cases e : i < xss.length
  · obtain ⟨u', h1, h2⟩ := hi i e
    exact ⟨u', by rw [List.getElem?_append_left (by omega)]; exact h1, by rw [List.getElem_append_left e]; exact h2⟩
  · have hie : i = xss.length := by simp at h; omega
    subst hie
    exact ⟨u, by simp [← hl], by simpa using hu⟩
theorem infoSlG : (Try.prog.info? 69).map (fun i => (i.zero, i.size, i.bytes)) = some (some (.slice none 0 0), 1, 24) := by kernel_rfl
theorem nn_len (cs : List PC) : (nn cs).length ≤ cs.length := by unfold nn; rw [List.length_map]; exact List.length_filter_le _ _
end Go.Proofs.Ytcljakdcejhfiad
namespace Go.Proofs.Ytcljakdcejhfiad
open Go.RowKit
set_option maxHeartbeats 400000 in
theorem l1same_any (a1 a2 : Option Addr) (c1 c2 : Nat) (xs ys : List Nat) (w : World) (h1 : Rd w a1 (byt xs)) (h2 : Rd w a2 (byt ys)) (hx : ∀ x ∈ xs, x < 256) (hy : ∀ x ∈ ys, x < 256) :
    Calls Try.prog 96 #[.slice a1 xs.length c1, .slice a2 ys.length c2] w fun e w' => e = .returned (.bool (decide (xs = ys))) ∧ w' = w := by
  have e1 := run_bstr (P := Try.prog) (c := c1) Try.underlying69 Try.underlying5 Try.underlying9 h1
  have e2 := run_bstr (P := Try.prog) (c := c2) Try.underlying69 Try.underlying5 Try.underlying9 h2
  have HD : Hid (decide (xs = ys) = ((bstr xs).toList == (bstr ys).toList)) := hid (bstr_beq hx hy)
  rw [HD.out]
  clear h1 h2
  generalize bstr xs = s at *
  generalize bstr ys = t at *
  go_enter Try.func96, Try.ntmps96
  go_wp2
  go_ret
  exact ⟨rfl, rfl⟩
end Go.Proofs.Ytcljakdcejhfiad
namespace Go.Proofs.Ytcljakdcejhfiad
open Go.RowKit Go.Maps
set_option maxHeartbeats 1000000 in
theorem l2place_any (a a2 : Option Addr) (cap c2 : Nat) (vs : List (List Nat)) (t : List Nat) (w : World) (hr : RdSl cSS w vs (.slice a vs.length cap)) (hr2 : Rd w a2 (byt t)) (hb2 : ∀ x ∈ t, x < 256) (hl : vs.length ≤ 1048576) :
    Calls Try.prog 75 #[.slice a vs.length cap, .slice a2 t.length c2] w fun e w' => e = .returned (.int .i64 (place vs t)) ∧ w' = w := by
  have HR := hid hr
  have HR2 := hid hr2
  have HB2 := hid hb2
  clear hr hr2 hb2
  go_enter Try.func75, Try.ntmps75
  go_wp2
  go_loop [5] (fun i => ∃ k : Nat, k ≤ vs.length ∧ i = .int .i64 k ∧ ∀ q, (h : q < vs.length) → q < k → vs[q] ≠ t) (fun i => vs.length - (intOf i).toNat)
  case atStart => exact ⟨0, Nat.zero_le _, rfl, fun q _ h => by omega⟩
  case round =>
    obtain ⟨k, hk, rfl, hall⟩ := hrel
    have HA := hid hall
    clear hall
    by_cases hlt : k < vs.length
    · obtain ⟨b, off, a', c', rfl, hcb, hrr⟩ := HR.out.row hlt
      obtain ⟨_, _, e', -, -, -, hrd, hby⟩ := hrr.bytes
      simp only [Value.slice.injEq] at e'
      obtain ⟨rfl, -, rfl⟩ := e'
      have HRD := hid hrd
      have HBY := hid hby
      have hki : (k : Int) < (vs.length : Int) := by omega
      clear hrr hrd hby
      go_wp2_with fail
      refine (l1same_any a' a2 c' c2 _ _ w HRD.out HR2.out HBY.out HB2.out).mono ?_
      rintro e w ⟨rfl, rfl⟩
      by_cases hs : vs[k] = t
      · have HX := hid (place_at hlt hs (fun q hq h => HA.out q hq h))
        rw [decide_eq_true hs]
        go_wp2
        go_ret
        exact ⟨by rw [HX.out]; rfl, rfl⟩
      · rw [decide_eq_false hs]
        have HX : Hid (∀ q, (h : q < vs.length) → q < k + 1 → vs[q] ≠ t) := hid (fun q hq hqk => by
          by_cases e : q = k
          · subst e; exact hs
          · exact HA.out q hq (by omega))
        go_wp2
        go_round
        case rel => exact ⟨k + 1, by omega, by go_num, HX.out⟩
        case measure => simp [intOf]; omega
    · obtain rfl : k = vs.length := by omega
      have HX := hid (place_none (fun q hq => HA.out q hq hq))
      go_wp2
      go_ret
      exact ⟨by rw [HX.out]; rfl, rfl⟩
end Go.Proofs.Ytcljakdcejhfiad
