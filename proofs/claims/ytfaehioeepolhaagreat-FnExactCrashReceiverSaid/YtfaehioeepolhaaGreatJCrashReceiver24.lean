import Derived.Test.YtfaehioeepolhaaGreatJCrashReceiver22
import Derived.Test.YtfaehioeepolhaaGreatJCrashReceiver5
import Derived.Test.YtfaehioeepolhaaGreatJCrashReceiver0
import Derived.Test.YtfaehioeepolhaaGreatJCrashReceiver21
import Derived.Handy
import Derived.Deep.RegionHeld
namespace Go.Proofs.YtfaehioeepolhaaGreat
open Go.RowKit
set_option maxHeartbeats 2000000 in
theorem l2column_any (t : PT) (R c : Nat) (a : Option Addr) (cap : Nat) (w : World) (hR : t.rows = (R : Int)) (hr : RdSl cCell w t.cells (.slice a t.cells.length cap)) (hRl : R ≤ 100) (hc : c < 12) (hlen : (c + 1) * R ≤ t.cells.length) :
    Calls Tryz.prog 146 #[.agg #[.int .i64 t.rows, .slice a t.cells.length cap], .int .i64 (c : Int)] w fun e w' => ∃ a' cap', e = .returned (.slice a' R cap') ∧ RdSl cCell w (col t.cells R c) (.slice a' R cap') ∧ Below w.heap.size w w' := by
  have hcap : t.cells.length ≤ cap ∧ cap ≤ maxLen := by
    obtain ⟨a', cap', e', g1, g2, _⟩ := hr
    simp at e'
    omega
  have HR := hid hr
  obtain ⟨lo, hlo⟩ : ∃ lo, lo = c * R := ⟨_, rfl⟩
  obtain ⟨hi, hhi⟩ : ∃ hi, hi = (c + 1) * R := ⟨_, rfl⟩
  have hsum : hi = lo + R := by rw [hlo, hhi, Nat.add_mul, Nat.one_mul]
  have hlo2 : lo ≤ 1200 := by rw [hlo]; exact Nat.le_trans (Nat.mul_le_mul (show c ≤ 12 by omega) hRl) (by omega)
  have m1 : (c : Int) * (R : Int) = (lo : Int) := by rw [hlo]; simp
  have m2 : ((c : Int) + 1) * (R : Int) = (hi : Int) := by rw [hhi]; simp
  rw [← hhi] at hlen
  have HL := hid hlo
  rw [hR]
  clear hr hlo hhi hR
  have H1 : Hid (RdSl cCell w (col t.cells R c) (.slice (a.map fun x => x.add (lo * 3)) R (cap - lo))) := hid (by
    have h := HR.out.cut (lo := lo) (R := R) (by omega)
    rw [HL.out] at h ⊢
    exact h)
  have H2 : Hid (R = 0 → col t.cells R c = []) := hid (fun h => by subst h; simp [col])
  unfold maxLen at hcap
  go_enter Tryz.func146, Tryz.ntmps146
  by_cases hz : cap = lo
  · subst hz
    have h0 : R = 0 := by omega
    have H0 := hid h0
    clear h0
    go_wp2
    go_ret
    refine ⟨a, 0, by simp, ?_, below_new1 _ _⟩
    rw [H2.out H0.out, H0.out]
    exact RdSl.empty a
  · go_wp2
    all_goals first
      | (exfalso; omega)
      | (go_ret; exact ⟨a.map fun x => x.add (lo * 3), cap - lo, by simp, H1.out, below_new1 _ _⟩)
end Go.Proofs.YtfaehioeepolhaaGreat
namespace Go.Proofs.YtfaehioeepolhaaGreat
open Go.RowKit
set_option maxHeartbeats 400000 in
theorem l1width_any (n : Int) (w : World) :
    Calls Tryz.prog 145 #[.int .i64 n] w fun e w' => e = .returned (.bool (decide (n = 1 ∨ n = 2 ∨ n = 4 ∨ n = 8))) ∧ w' = w := by
  by_cases h1 : n = 1
  · subst h1
    go_enter Tryz.func145, Tryz.ntmps145
    go_wp2
    go_ret
    exact ⟨rfl, rfl⟩
  by_cases h2 : n = 2
  · subst h2
    go_enter Tryz.func145, Tryz.ntmps145
    go_wp2
    go_ret
    exact ⟨rfl, rfl⟩
  by_cases h4 : n = 4
  · subst h4
    go_enter Tryz.func145, Tryz.ntmps145
    go_wp2
    go_ret
    exact ⟨rfl, rfl⟩
  by_cases h8 : n = 8
  · subst h8
    go_enter Tryz.func145, Tryz.ntmps145
    go_wp2
    go_ret
    exact ⟨rfl, rfl⟩
  have e1 : (n == 1) = false := by simpa using h1
  have e2 : (n == 2) = false := by simpa using h2
  have e4 : (n == 4) = false := by simpa using h4
  have e8 : (n == 8) = false := by simpa using h8
  have HF : Hid (decide (n = 1 ∨ n = 2 ∨ n = 4 ∨ n = 8) = false) := hid (by simp [h1, h2, h4, h8])
  rw [HF.out]
  clear h1 h2 h4 h8 HF
  go_enter Tryz.func145, Tryz.ntmps145
  go_wp2
  go_ret
  exact ⟨rfl, rfl⟩
end Go.Proofs.YtfaehioeepolhaaGreat
namespace Go.Proofs.YtfaehioeepolhaaGreat
open Go.RowKit
set_option maxHeartbeats 400000 in
theorem l1same_any (a1 a2 : Option Addr) (c1 c2 : Nat) (xs ys : List Nat) (w : World) (h1 : Rd w a1 (byt xs)) (h2 : Rd w a2 (byt ys)) (hx : ∀ x ∈ xs, x < 256) (hy : ∀ x ∈ ys, x < 256) :
    Calls Tryz.prog 101 #[.slice a1 xs.length c1, .slice a2 ys.length c2] w fun e w' => e = .returned (.bool (decide (xs = ys))) ∧ w' = w := by
  have e1 := run_bstr (P := Tryz.prog) (c := c1) Tryz.underlying23 Tryz.underlying5 Tryz.underlying9 h1
  have e2 := run_bstr (P := Tryz.prog) (c := c2) Tryz.underlying23 Tryz.underlying5 Tryz.underlying9 h2
  have HD : Hid (decide (xs = ys) = ((bstr xs).toList == (bstr ys).toList)) := hid (bstr_beq hx hy)
  rw [HD.out]
  clear h1 h2
  generalize bstr xs = s at *
  generalize bstr ys = t at *
  go_enter Tryz.func101, Tryz.ntmps101
  go_wp2
  go_ret
  exact ⟨rfl, rfl⟩
end Go.Proofs.YtfaehioeepolhaaGreat
namespace Go.Proofs.YtfaehioeepolhaaGreat
open Go.RowKit
set_option maxHeartbeats 2000000 in
theorem l2nameOK_any (a : Option Addr) (cap : Nat) (xs : List Nat) (w : World) (hr : Rd w a (byt xs)) (hb : ∀ x ∈ xs, x < 256) :
    Calls Tryz.prog 144 #[.slice a xs.length cap] w fun e w' => e = .returned (.bool (nameOK xs)) ∧ w' = w := by
  by_cases h1 : xs.length < 1
  · have HD : Hid (nameOK xs = false) := hid (by simp [nameOK]; omega)
    rw [HD.out]
    go_enter Tryz.func144, Tryz.ntmps144
    go_wp2
    go_ret
    exact ⟨rfl, rfl⟩
  by_cases h2 : 20 < xs.length
  · have HD : Hid (nameOK xs = false) := hid (by simp [nameOK]; omega)
    rw [HD.out]
    go_enter Tryz.func144, Tryz.ntmps144
    go_wp2
    go_ret
    exact ⟨rfl, rfl⟩
  have HD : Hid (nameOK xs = xs.all nameB) := hid (by
    have e1 : decide (1 ≤ xs.length) = true := decide_eq_true (by omega)
    have e2 : decide (xs.length ≤ 20) = true := decide_eq_true (by omega)
    unfold nameOK; rw [e1, e2]; rfl)
  rw [HD.out]
  have HC : Hid (∀ i, (h : i < xs.length) → ∃ b off, a = some ⟨b, off, none⟩ ∧ w.cell? ⟨b, off + i, none⟩ = some (.int .u8 ((xs[i] : Nat) : Int))) := hid (by
    rcases hr with h | ⟨b, off, rfl, hc⟩
    · have : xs = [] := by simpa [byt] using h
      subst this; simp at h1
    · exact fun i h => ⟨b, off, rfl, rdByte hc i h⟩)
  clear hr
  go_enter Tryz.func144, Tryz.ntmps144
  go_wp2
  go_loop [3, 4] (fun i c => ∃ k : Nat, k ≤ xs.length ∧ i = .int .i64 k ∧ ∀ j, (h : j < xs.length) → j < k → nameB xs[j] = true) (fun i _ => xs.length - (intOf i).toNat)
  case atStart => exact ⟨0, Nat.zero_le _, rfl, fun j _ h => by omega⟩
  case round =>
    obtain ⟨k, hk, rfl, hall⟩ := hrel
    have HA := hid hall
    clear hall
    by_cases hlt : k < xs.length
    · obtain ⟨b, off, rfl, hcell⟩ := HC.out k hlt
      have hx := hb _ (List.getElem_mem hlt)
      have hki : (k : Int) < (xs.length : Int) := by omega
      have HBAD : Hid (nameB xs[k] = false → xs.all nameB = false) := hid (fun h => all_bad hlt h)
      have HGOOD : Hid (nameB xs[k] = true → ∀ j, (h : j < xs.length) → j < k + 1 → nameB xs[j] = true) := hid (fun h j hj hjk => by
        by_cases e : j = k
        · subst e; exact h
        · exact HA.out j hj (by omega))
      generalize hc : xs[k] = c at *
      rcases nameB_split c with ⟨hs, hn⟩ | ⟨hs, hn⟩
      · have HX := hid (HBAD.out hn)
        clear hn
        rcases hs with h | h | h | h | h <;> (go_wp2 <;> first | (go_ret; exact ⟨by rw [HX.out]; rfl, rfl⟩) | (exfalso; omega) | (exfalso; simp_all; omega))
      · have HX := hid (HGOOD.out hn)
        clear hn
        rcases hs with h | h | h | h <;> (go_wp2 <;> first | (exfalso; omega) | (go_round <;> first | exact ⟨k + 1, by omega, by go_num, HX.out⟩ | (simp [intOf]; omega)) | (exfalso; simp_all; omega))
    · obtain rfl : k = xs.length := by omega
      have HF := hid (all_ok (fun j hj => HA.out j hj hj))
      go_wp2
      go_ret
      exact ⟨by rw [HF.out]; rfl, rfl⟩
set_option maxHeartbeats 1000000 in
theorem l2fieldOK_any (f : PF) (cs : List Value) (w : World) (hr : cField.rd w f cs) :
    Calls Tryz.prog 100 #[val cs] w fun e w' => e = .returned (.bool (fieldOK f)) ∧ Below w.heap.size w w' := by
  obtain ⟨v, rfl, hv, _⟩ := cField_rd hr
  obtain ⟨a, cap, rfl, _, _, _, hrd, hby⟩ := hv.bytes
  simp only [val]
  have HK : Hid (Calls Tryz.prog 144 #[.slice a f.name.length cap] (w.alloc (.cells #[.slice a f.name.length cap, .int .i64 f.kind, .int .i64 f.width] 98)) fun e w' => e = .returned (.bool (nameOK f.name)) ∧ w' = w.alloc (.cells #[.slice a f.name.length cap, .int .i64 f.kind, .int .i64 f.width] 98)) := hid (l2nameOK_any a cap f.name _ (hrd.later (below_new1 _ _)) hby)
  have HF : Hid (fieldOK f = (nameOK f.name && kindOK f)) := hid rfl
  have HKK : Hid (kindOK f = if f.kind = 1 then widthOK f.width else decide (0 ≤ f.kind) && decide (f.kind ≤ 3) && decide (f.width = 0)) := hid rfl
  clear hr hrd hv
  cases hn : nameOK f.name
  · have HX : Hid (fieldOK f = false) := hid (by rw [HF.out, hn]; rfl)
    go_enter Tryz.func100, Tryz.ntmps100
    go_wp2_with fail
    refine HK.out.mono ?_
    rintro e w2 ⟨rfl, rfl⟩
    rw [hn]
    go_wp2
    go_ret
    exact ⟨by rw [HX.out]; rfl, below_new1 _ _⟩
  · by_cases h1 : f.kind = 1
    · have HX : Hid (fieldOK f = widthOK f.width) := hid (by rw [HF.out, hn, HKK.out, if_pos h1]; rfl)
      have H1 := hid h1
      clear h1
      go_enter Tryz.func100, Tryz.ntmps100
      go_wp2_with fail
      refine HK.out.mono ?_
      rintro e w2 ⟨rfl, rfl⟩
      rw [hn]
      have h1 := H1.out
      go_wp2_with fail
      refine (l1width_any f.width _).mono ?_
      rintro e w2 ⟨rfl, rfl⟩
      generalize hwd : decide (f.width = 1 ∨ f.width = 2 ∨ f.width = 4 ∨ f.width = 8) = wd
      go_wp2
      go_ret
      exact ⟨by rw [HX.out, show widthOK f.width = wd from hwd]; rfl, below_new1 _ _⟩
    · by_cases h2 : f.kind < 0
      · have HX : Hid (fieldOK f = false) := hid (by rw [HF.out, hn, HKK.out, if_neg h1, decide_eq_false (show ¬ 0 ≤ f.kind by omega)]; rfl)
        go_enter Tryz.func100, Tryz.ntmps100
        go_wp2_with fail
        refine HK.out.mono ?_
        rintro e w2 ⟨rfl, rfl⟩
        rw [hn]
        go_wp2
        go_ret
        exact ⟨by rw [HX.out]; rfl, below_new1 _ _⟩
      · by_cases h3 : 3 < f.kind
        · have HX : Hid (fieldOK f = false) := hid (by rw [HF.out, hn, HKK.out, if_neg h1, decide_eq_false (show ¬ f.kind ≤ 3 by omega)]; simp)
          go_enter Tryz.func100, Tryz.ntmps100
          go_wp2_with fail
          refine HK.out.mono ?_
          rintro e w2 ⟨rfl, rfl⟩
          rw [hn]
          go_wp2
          go_ret
          exact ⟨by rw [HX.out]; rfl, below_new1 _ _⟩
        · have HX : Hid (fieldOK f = decide (f.width = 0)) := hid (by rw [HF.out, hn, HKK.out, if_neg h1, decide_eq_true (show 0 ≤ f.kind by omega), decide_eq_true (show f.kind ≤ 3 by omega)]; rfl)
          go_enter Tryz.func100, Tryz.ntmps100
          go_wp2_with fail
          refine HK.out.mono ?_
          rintro e w2 ⟨rfl, rfl⟩
          rw [hn]
          go_wp2
          go_ret
          exact ⟨by rw [HX.out]; rfl, below_new1 _ _⟩
end Go.Proofs.YtfaehioeepolhaaGreat
