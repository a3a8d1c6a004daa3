import Derived.Test.YtcljakdcejhfiabJValidFields13
import Derived.Test.YtcljakdcejhfiabJValidFields14
import Derived.Test.YtcljakdcejhfiabJValidFields16
import Derived.Handy
import Derived.Deep.RegionHeld
namespace Go.Proofs.Ytcljakdcejhfiab
open Go.RowKit
set_option maxHeartbeats 2000000 in
theorem l2nameOK_any (a : Option Addr) (cap : Nat) (xs : List Nat) (w : World) (hr : Rd w a (byt xs)) (hb : ∀ x ∈ xs, x < 256) :
    Calls Try.prog 79 #[.slice a xs.length cap] w fun e w' => e = .returned (.bool (nameOK xs)) ∧ w' = w := by
  by_cases h1 : xs.length < 1
  · have HD : Hid (nameOK xs = false) := hid (by simp [nameOK]; omega)
    rw [HD.out]
    go_enter Try.func79, Try.ntmps79
    go_wp2
    go_ret
    exact ⟨rfl, rfl⟩
  by_cases h2 : 20 < xs.length
  · have HD : Hid (nameOK xs = false) := hid (by simp [nameOK]; omega)
    rw [HD.out]
    go_enter Try.func79, Try.ntmps79
    go_wp2
    go_ret
    exact ⟨rfl, rfl⟩
  have HD : Hid (nameOK xs = xs.all nameB) := hid (by
    have e1 : decide (1 ≤ xs.length) = true := decide_eq_true (by omega)
    have e2 : decide (xs.length ≤ 20) = true := decide_eq_true (by omega)
    unfold nameOK; rw [e1, e2]; rfl)
  rw [HD.out]
  have HC : Hid (∀ i, (h : i < xs.length) → ∃ b off, a = some ⟨b, off, none⟩ ∧ w.cell? ⟨b, off + i, none⟩ = some (.int .u8 ((xs[i] : Nat) : Int))) := hid (by
    rcases hr with h | ⟨b, off, rfl, hc⟩
    · have : xs = [] := by simpa [byt] using h
      subst this; simp at h1
    · exact fun i h => ⟨b, off, rfl, rdByte hc i h⟩)
  clear hr
  go_enter Try.func79, Try.ntmps79
  go_wp2
  go_loop [3, 4] (fun i c => ∃ k : Nat, k ≤ xs.length ∧ i = .int .i64 k ∧ ∀ j, (h : j < xs.length) → j < k → nameB xs[j] = true) (fun i _ => xs.length - (intOf i).toNat)
  case atStart => exact ⟨0, Nat.zero_le _, rfl, fun j _ h => by omega⟩
  case round =>
    obtain ⟨k, hk, rfl, hall⟩ := hrel
    have HA := hid hall
    clear hall
    by_cases hlt : k < xs.length
    · obtain ⟨b, off, rfl, hcell⟩ := HC.out k hlt
      have hx := hb _ (List.getElem_mem hlt)
      have hki : (k : Int) < (xs.length : Int) := by omega
      have HBAD : Hid (nameB xs[k] = false → xs.all nameB = false) := hid (fun h => all_bad hlt h)
      have HGOOD : Hid (nameB xs[k] = true → ∀ j, (h : j < xs.length) → j < k + 1 → nameB xs[j] = true) := hid (fun h j hj hjk => by
        by_cases e : j = k
        · subst e; exact h
        · exact HA.out j hj (by omega))
      generalize hc : xs[k] = c at *
      rcases nameB_split c with ⟨hs, hn⟩ | ⟨hs, hn⟩
      · have HX := hid (HBAD.out hn)
        clear hn
        rcases hs with h | h | h | h | h <;> (go_wp2 <;> first | (go_ret; exact ⟨by rw [HX.out]; rfl, rfl⟩) | (exfalso; omega) | (exfalso; simp_all; omega))
      · have HX := hid (HGOOD.out hn)
        clear hn
        rcases hs with h | h | h | h <;> (go_wp2 <;> first | (exfalso; omega) | (go_round <;> first | exact ⟨k + 1, by omega, by go_num, HX.out⟩ | (simp [intOf]; omega)) | (exfalso; simp_all; omega))
    · obtain rfl : k = xs.length := by omega
      have HF := hid (all_ok (fun j hj => HA.out j hj hj))
      go_wp2
      go_ret
      exact ⟨by rw [HF.out]; rfl, rfl⟩
set_option maxHeartbeats 1000000 in
theorem l2fieldOK_any (f : PF) (cs : List Value) (w : World) (hr : cField.rd w f cs) :
    Calls Try.prog 52 #[val cs] w fun e w' => e = .returned (.bool (fieldOK f)) ∧ Below w.heap.size w w' := by
  obtain ⟨v, rfl, hv, _⟩ := cField_rd hr
  obtain ⟨a, cap, rfl, _, _, _, hrd, hby⟩ := hv.bytes
  simp only [val]
  have HK : Hid (Calls Try.prog 79 #[.slice a f.name.length cap] (w.alloc (.cells #[.slice a f.name.length cap, .int .i64 f.kind, .int .i64 f.width] 81)) fun e w' => e = .returned (.bool (nameOK f.name)) ∧ w' = w.alloc (.cells #[.slice a f.name.length cap, .int .i64 f.kind, .int .i64 f.width] 81)) := hid (l2nameOK_any a cap f.name _ (hrd.later (below_new1 _ _)) hby)
  have HF : Hid (fieldOK f = (nameOK f.name && kindOK f)) := hid rfl
  have HKK : Hid (kindOK f = if f.kind = 1 then widthOK f.width else decide (0 ≤ f.kind) && decide (f.kind ≤ 3) && decide (f.width = 0)) := hid rfl
  clear hr hrd hv
  cases hn : nameOK f.name
  · have HX : Hid (fieldOK f = false) := hid (by rw [HF.out, hn]; rfl)
    go_enter Try.func52, Try.ntmps52
    go_wp2_with fail
    refine HK.out.mono ?_
    rintro e w2 ⟨rfl, rfl⟩
    rw [hn]
    go_wp2
    go_ret
    exact ⟨by rw [HX.out]; rfl, below_new1 _ _⟩
  · by_cases h1 : f.kind = 1
    · have HX : Hid (fieldOK f = widthOK f.width) := hid (by rw [HF.out, hn, HKK.out, if_pos h1]; rfl)
      have H1 := hid h1
      clear h1
      go_enter Try.func52, Try.ntmps52
      go_wp2_with fail
      refine HK.out.mono ?_
      rintro e w2 ⟨rfl, rfl⟩
      rw [hn]
      have h1 := H1.out
      go_wp2_with fail
      refine (l1width_any f.width _).mono ?_
      rintro e w2 ⟨rfl, rfl⟩
      generalize hwd : decide (f.width = 1 ∨ f.width = 2 ∨ f.width = 4 ∨ f.width = 8) = wd
      go_wp2
      go_ret
      exact ⟨by rw [HX.out, show widthOK f.width = wd from hwd]; rfl, below_new1 _ _⟩
    · by_cases h2 : f.kind < 0
      · have HX : Hid (fieldOK f = false) := hid (by rw [HF.out, hn, HKK.out, if_neg h1, decide_eq_false (show ¬ 0 ≤ f.kind by omega)]; rfl)
        go_enter Try.func52, Try.ntmps52
        go_wp2_with fail
        refine HK.out.mono ?_
        rintro e w2 ⟨rfl, rfl⟩
        rw [hn]
        go_wp2
        go_ret
        exact ⟨by rw [HX.out]; rfl, below_new1 _ _⟩
      · by_cases h3 : 3 < f.kind
        · have HX : Hid (fieldOK f = false) := hid (by rw [HF.out, hn, HKK.out, if_neg h1, decide_eq_false (show ¬ f.kind ≤ 3 by omega)]; simp)
          go_enter Try.func52, Try.ntmps52
          go_wp2_with fail
          refine HK.out.mono ?_
          rintro e w2 ⟨rfl, rfl⟩
          rw [hn]
          go_wp2
          go_ret
          exact ⟨by rw [HX.out]; rfl, below_new1 _ _⟩
        · have HX : Hid (fieldOK f = decide (f.width = 0)) := hid (by rw [HF.out, hn, HKK.out, if_neg h1, decide_eq_true (show 0 ≤ f.kind by omega), decide_eq_true (show f.kind ≤ 3 by omega)]; rfl)
          go_enter Try.func52, Try.ntmps52
          go_wp2_with fail
          refine HK.out.mono ?_
          rintro e w2 ⟨rfl, rfl⟩
          rw [hn]
          go_wp2
          go_ret
          exact ⟨by rw [HX.out]; rfl, below_new1 _ _⟩
end Go.Proofs.Ytcljakdcejhfiab
