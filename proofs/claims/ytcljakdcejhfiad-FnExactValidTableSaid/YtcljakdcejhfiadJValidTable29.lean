import Derived.Test.YtcljakdcejhfiadJValidTable25
import Derived.Test.YtcljakdcejhfiadJValidTable13
import Derived.Test.YtcljakdcejhfiadJValidTable0
import Derived.Test.YtcljakdcejhfiadJValidTable19
namespace Go.Proofs.Ytcljakdcejhfiad
open Go.RowKit
set_option maxHeartbeats 2000000 in
theorem l2column_any (t : PT) (R c : Nat) (a : Option Addr) (cap : Nat) (w : World) (hR : t.rows = (R : Int)) (hr : RdSl cCell w t.cells (.slice a t.cells.length cap)) (hRl : R ≤ 100) (hc : c < 12) (hlen : (c + 1) * R ≤ t.cells.length) :
    Calls Try.prog 47 #[.agg #[.int .i64 t.rows, .slice a t.cells.length cap], .int .i64 (c : Int)] w fun e w' => ∃ a' cap', e = .returned (.slice a' R cap') ∧ RdSl cCell w (col t.cells R c) (.slice a' R cap') ∧ Below w.heap.size w w' := by
  have hcap : t.cells.length ≤ cap ∧ cap ≤ maxLen := by
    obtain ⟨a', cap', e', g1, g2, _⟩ := hr
    simp at e'
    omega
  have HR := hid hr
  obtain ⟨lo, hlo⟩ : ∃ lo, lo = c * R := ⟨_, rfl⟩
  obtain ⟨hi, hhi⟩ : ∃ hi, hi = (c + 1) * R := ⟨_, rfl⟩
  have hsum : hi = lo + R := by rw [hlo, hhi, Nat.add_mul, Nat.one_mul]
  have hlo2 : lo ≤ 1200 := by rw [hlo]; exact Nat.le_trans (Nat.mul_le_mul (show c ≤ 12 by omega) hRl) (by omega)
  have m1 : (c : Int) * (R : Int) = (lo : Int) := by rw [hlo]; simp
  have m2 : ((c : Int) + 1) * (R : Int) = (hi : Int) := by rw [hhi]; simp
  rw [← hhi] at hlen
  have HL := hid hlo
  rw [hR]
  clear hr hlo hhi hR
  have H1 : Hid (RdSl cCell w (col t.cells R c) (.slice (a.map fun x => x.add (lo * 3)) R (cap - lo))) := hid (by
    have h := HR.out.cut (lo := lo) (R := R) (by omega)
    rw [HL.out] at h ⊢
    exact h)
  have H2 : Hid (R = 0 → col t.cells R c = []) := hid (fun h => by subst h; simp [col])
  unfold maxLen at hcap
  go_enter Try.func47, Try.ntmps47
  by_cases hz : cap = lo
  · subst hz
    have h0 : R = 0 := by omega
    have H0 := hid h0
    clear h0
    go_wp2
    go_ret
    refine ⟨a, 0, by simp, ?_, below_new1 _ _⟩
    rw [H2.out H0.out, H0.out]
    exact RdSl.empty a
  · go_wp2
    all_goals first
      | (exfalso; omega)
      | (go_ret; exact ⟨a.map fun x => x.add (lo * 3), cap - lo, by simp, H1.out, below_new1 _ _⟩)
end Go.Proofs.Ytcljakdcejhfiad
namespace Go.Proofs.Ytcljakdcejhfiad
open Go.RowKit
set_option maxHeartbeats 400000 in
theorem l1width_any (n : Int) (w : World) :
    Calls Try.prog 131 #[.int .i64 n] w fun e w' => e = .returned (.bool (decide (n = 1 ∨ n = 2 ∨ n = 4 ∨ n = 8))) ∧ w' = w := by
  by_cases h1 : n = 1
  · subst h1
    go_enter Try.func131, Try.ntmps131
    go_wp2
    go_ret
    exact ⟨rfl, rfl⟩
  by_cases h2 : n = 2
  · subst h2
    go_enter Try.func131, Try.ntmps131
    go_wp2
    go_ret
    exact ⟨rfl, rfl⟩
  by_cases h4 : n = 4
  · subst h4
    go_enter Try.func131, Try.ntmps131
    go_wp2
    go_ret
    exact ⟨rfl, rfl⟩
  by_cases h8 : n = 8
  · subst h8
    go_enter Try.func131, Try.ntmps131
    go_wp2
    go_ret
    exact ⟨rfl, rfl⟩
  have e1 : (n == 1) = false := by simpa using h1
  have e2 : (n == 2) = false := by simpa using h2
  have e4 : (n == 4) = false := by simpa using h4
  have e8 : (n == 8) = false := by simpa using h8
  have HF : Hid (decide (n = 1 ∨ n = 2 ∨ n = 4 ∨ n = 8) = false) := hid (by simp [h1, h2, h4, h8])
  rw [HF.out]
  clear h1 h2 h4 h8 HF
  go_enter Try.func131, Try.ntmps131
  go_wp2
  go_ret
  exact ⟨rfl, rfl⟩
end Go.Proofs.Ytcljakdcejhfiad
namespace Go.Proofs.Ytcljakdcejhfiad
open Go.RowKit
set_option maxHeartbeats 400000 in
theorem l1same_any (a1 a2 : Option Addr) (c1 c2 : Nat) (xs ys : List Nat) (w : World) (h1 : Rd w a1 (byt xs)) (h2 : Rd w a2 (byt ys)) (hx : ∀ x ∈ xs, x < 256) (hy : ∀ x ∈ ys, x < 256) :
    Calls Try.prog 96 #[.slice a1 xs.length c1, .slice a2 ys.length c2] w fun e w' => e = .returned (.bool (decide (xs = ys))) ∧ w' = w := by
  have e1 := run_bstr (P := Try.prog) (c := c1) Try.underlying69 Try.underlying5 Try.underlying9 h1
  have e2 := run_bstr (P := Try.prog) (c := c2) Try.underlying69 Try.underlying5 Try.underlying9 h2
  have HD : Hid (decide (xs = ys) = ((bstr xs).toList == (bstr ys).toList)) := hid (bstr_beq hx hy)
  rw [HD.out]
  clear h1 h2
  generalize bstr xs = s at *
  generalize bstr ys = t at *
  go_enter Try.func96, Try.ntmps96
  go_wp2
  go_ret
  exact ⟨rfl, rfl⟩
end Go.Proofs.Ytcljakdcejhfiad
