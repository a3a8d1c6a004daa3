import Derived.Test.YtcljakdcejhfiabJApplyDict20
namespace Go.Proofs.Ytcljakdcejhfiab
open Go.RowKit Go.Maps
set_option maxHeartbeats 2000000 in
theorem specDict_any (a : Option Addr) (cap : Nat) (vs : List (List Nat)) (w : World) (hr : RdSl cSS w vs (.slice a vs.length cap)) (ht : totL List.length vs ≤ 1048576) :
    Calls Try.prog 70 #[.slice a vs.length cap] w fun e w' => e = .returned (.bool (dictOK vs)) ∧ Below w.heap.size w w' := by
  have HR := hid hr
  clear hr
  rw [totL_tot] at ht
  by_cases h1 : 40 < vs.length
  · have HD := hid (dictOK_len (vs := vs) (by omega))
    go_enter Try.func70, Try.ntmps70
    go_wp2
    go_ret
    exact ⟨by rw [HD.out]; rfl, Below.refl _ _⟩
  go_enter Try.func70, Try.ntmps70
  go_wp2
  go_loopw [3, 4] (fun s i wr => ∃ k : Nat, k ≤ vs.length ∧ i = .int .i64 k ∧ s = .int .i64 ((tot (vs.take k) : Nat) : Int) ∧ dictTo vs k = true ∧ Below w.heap.size w wr) (fun _ i _ => vs.length - (intOf i).toNat)
  case atStart => exact ⟨0, Nat.zero_le _, rfl, by simp [tot], by simp [dictTo, tot], Below.refl _ _⟩
  case round =>
    obtain ⟨k, hk, rfl, rfl, hok, hbe⟩ := hrel
    have HB := hid hbe
    have HO := hid hok
    clear hbe hok
    by_cases hlt : k < vs.length
    · obtain ⟨b, off, a', c', rfl, hcb, hrr⟩ := (HR.out.later HB.out).row hlt
      obtain ⟨_, _, e', -, -, -, hrd, hby⟩ := hrr.bytes
      simp only [Value.slice.injEq] at e'
      obtain ⟨rfl, -, rfl⟩ := e'
      have hki : (k : Int) < (vs.length : Int) := by omega
      have hkc : (k : Int) ≤ (cap : Int) := by
        obtain ⟨_, cap', e', hc, _⟩ := HR.out
        simp at e'
        omega
      have HTS := hid (tot_snoc vs k hlt)
      have h3 := tot_take vs k
      have h4 := len_le_tot vs k hlt
      have HQ : Hid (∀ n, Calls Try.prog 83 #[.slice (some ⟨b, off, none⟩) k cap, .slice a' vs[k].length c'] (wr.drewN n) fun e w' => e = .returned (.int .i64 (place (vs.take k) vs[k])) ∧ ∃ m, w' = (wr.drewN n).drewN m) := hid (fun n => by
        have hlen : (vs.take k).length = k := by simp; omega
        have h := l2place_any (some ⟨b, off, none⟩) a' cap c' (vs.take k) vs[k] (wr.drewN n) (by rw [hlen]; exact ((HR.out.later HB.out).later (below_drewN (Below.refl _ _) n)).take (by omega)) (hrd.later (below_drewN (Below.refl _ _) n)) hby (by omega)
        rw [hlen] at h
        refine h.mono ?_
        rintro e w' ⟨rfl, rfl⟩
        exact ⟨rfl, 0, rfl⟩)
      have HP := hid (place_neg (vs := vs.take k) (t := vs[k]))
      clear hrr hrd hby
      generalize tot (vs.take k) = t at *
      generalize place (vs.take k) vs[k] = p at *
      by_cases hbig : 4000 < t + vs[k].length
      · have HX := hid (dictTo_bad hlt (.inl (by rw [HTS.out]; exact hbig)))
        have hd : decide ((4000 : Int) < (t : Int) + (vs[k].length : Int)) = true := decide_eq_true (by omega)
        go_wp2
        go_quiet (fail)
        go_wp2
        go_ret
        exact ⟨by rw [HX.out]; rfl, below_drewN HB.out _⟩
      · have hd : decide ((4000 : Int) < (t : Int) + (vs[k].length : Int)) = false := decide_eq_false (by omega)
        go_wp2
        go_quiet ((go_at_call 83; exact Calls.quiet_of (HQ.out _)))
        by_cases hp : p < 0
        · have HX := hid (dictTo_succ hlt HO.out (by rw [HTS.out]; omega) (HP.out.1 hp))
          go_wp2
          go_roundw
          case rel => exact ⟨k + 1, by omega, by go_num, by rw [HTS.out]; go_num, HX.out, below_drewN HB.out _⟩
          case measure => simp [intOf]; omega
        · have HX := hid (dictTo_bad hlt (.inr (Classical.not_not.1 (fun h => hp (HP.out.2 h)))))
          go_wp2
          go_ret
          exact ⟨by rw [HX.out]; rfl, below_drewN HB.out _⟩
    · obtain rfl : k = vs.length := by omega
      have HX : Hid (dictOK vs = true) := hid (by unfold dictOK; rw [decide_eq_true (show vs.length ≤ 40 by omega), HO.out]; rfl)
      go_wp2
      go_ret
      exact ⟨by rw [HX.out]; rfl, HB.out⟩
end Go.Proofs.Ytcljakdcejhfiab
