import Derived.Test.YtcljakdcejhfiabJApplyDict6
import Derived.Test.YtcljakdcejhfiabJApplyDict19
import Derived.Test.YtcljakdcejhfiabJApplyDict17
import Derived.Handy
namespace Go.Proofs.Ytcljakdcejhfiab
open Go.RowKit Go.Maps
set_option maxHeartbeats 1000000 in
theorem l2place_any (a a2 : Option Addr) (cap c2 : Nat) (vs : List (List Nat)) (t : List Nat) (w : World) (hr : RdSl cSS w vs (.slice a vs.length cap)) (hr2 : Rd w a2 (byt t)) (hb2 : ∀ x ∈ t, x < 256) (hl : vs.length ≤ 1048576) :
    Calls Try.prog 83 #[.slice a vs.length cap, .slice a2 t.length c2] w fun e w' => e = .returned (.int .i64 (place vs t)) ∧ w' = w := by
  have HR := hid hr
  have HR2 := hid hr2
  have HB2 := hid hb2
  clear hr hr2 hb2
  go_enter Try.func83, Try.ntmps83
  go_wp2
  go_loop [5] (fun i => ∃ k : Nat, k ≤ vs.length ∧ i = .int .i64 k ∧ ∀ q, (h : q < vs.length) → q < k → vs[q] ≠ t) (fun i => vs.length - (intOf i).toNat)
  case atStart => exact ⟨0, Nat.zero_le _, rfl, fun q _ h => by omega⟩
  case round =>
    obtain ⟨k, hk, rfl, hall⟩ := hrel
    have HA := hid hall
    clear hall
    by_cases hlt : k < vs.length
    · obtain ⟨b, off, a', c', rfl, hcb, hrr⟩ := HR.out.row hlt
      obtain ⟨_, _, e', -, -, -, hrd, hby⟩ := hrr.bytes
      simp only [Value.slice.injEq] at e'
      obtain ⟨rfl, -, rfl⟩ := e'
      have HRD := hid hrd
      have HBY := hid hby
      have hki : (k : Int) < (vs.length : Int) := by omega
      clear hrr hrd hby
      go_wp2_with fail
      refine (l1same_any a' a2 c' c2 _ _ w HRD.out HR2.out HBY.out HB2.out).mono ?_
      rintro e w ⟨rfl, rfl⟩
      by_cases hs : vs[k] = t
      · have HX := hid (place_at hlt hs (fun q hq h => HA.out q hq h))
        rw [decide_eq_true hs]
        go_wp2
        go_ret
        exact ⟨by rw [HX.out]; rfl, rfl⟩
      · rw [decide_eq_false hs]
        have HX : Hid (∀ q, (h : q < vs.length) → q < k + 1 → vs[q] ≠ t) := hid (fun q hq hqk => by
          by_cases e : q = k
          · subst e; exact hs
          · exact HA.out q hq (by omega))
        go_wp2
        go_round
        case rel => exact ⟨k + 1, by omega, by go_num, HX.out⟩
        case measure => simp [intOf]; omega
    · obtain rfl : k = vs.length := by omega
      have HX := hid (place_none (fun q hq => HA.out q hq hq))
      go_wp2
      go_ret
      exact ⟨by rw [HX.out]; rfl, rfl⟩
end Go.Proofs.Ytcljakdcejhfiab
