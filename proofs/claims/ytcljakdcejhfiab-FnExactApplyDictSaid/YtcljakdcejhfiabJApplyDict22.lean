import Derived.Test.YtcljakdcejhfiabJApplyDict15
import Derived.Test.YtcljakdcejhfiabJApplyDict18
import Derived.Test.YtcljakdcejhfiabJApplyDict21
namespace Go.Proofs.Ytcljakdcejhfiab
open Go.RowKit
def AppPost (w : World) (R : List (List Nat)) (C : Int) (e : Ending) (w' : World) : Prop :=
  ∃ a c, e = .returned (.tuple #[.slice a R.length c, .int .i64 C]) ∧ RdSl cSS w' R (.slice a R.length c) ∧ Below w.heap.size w w'
theorem appPost_nil {w w' : World} {R : List (List Nat)} {C C' : Int} (hb : Below w.heap.size w w') (hR : R = []) (hC : C = C') : AppPost w R C (.returned (.tuple #[.slice none 0 0, .int .i64 C'])) w' := by
  subst hR hC
  exact ⟨none, 0, rfl, RdSl.empty none, hb⟩
set_option maxHeartbeats 2000000 in
theorem specApply_any (a1 a2 : Option Addr) (c1 c2 : Nat) (vs fs : List (List Nat)) (act : Int) (w : World) (h1 : RdSl cSS w vs (.slice a1 vs.length c1)) (h2 : RdSl cSS w fs (.slice a2 fs.length c2)) (_ha : IntIn act) (ht : totL List.length vs + totL List.length fs ≤ 1048576) :
    Calls Try.prog 38 #[.slice a1 vs.length c1, .int .i64 act, .slice a2 fs.length c2] w (AppPost w (applyV vs act fs) (applyC vs act fs)) := by
  have H1 := hid h1
  have H2 := hid h2
  clear h1 h2
  have hl2 : fs.length ≤ 1048576 := by unfold totL at ht; omega
  go_enter Try.func38, Try.ntmps38
  go_wp2_with fail
  refine (specDict_any a1 c1 vs w H1.out (by omega)).mono ?_
  rintro e w1 ⟨rfl, b1⟩
  have HB1 := hid b1
  clear b1
  cases hd : dictOK vs
  · have HC := hid (applyC_bad (fs := fs) (act := act) (.inl hd))
    go_wp2
    go_ret2
    exact appPost_nil HB1.out (applyV_no (by rw [HC.out]; decide)) HC.out
  have HD := hid hd
  by_cases hn : act < 0
  · have HC := hid (applyC_bad (vs := vs) (fs := fs) (act := act) (.inr (.inl hn)))
    go_wp2
    go_ret2
    exact appPost_nil HB1.out (applyV_no (by rw [HC.out]; decide)) HC.out
  by_cases hp : 2 < act
  · have HC := hid (applyC_bad (vs := vs) (fs := fs) (act := act) (.inr (.inr hp)))
    go_wp2
    go_ret2
    exact appPost_nil HB1.out (applyV_no (by rw [HC.out]; decide)) HC.out
  have hact : act = 0 ∨ act = 1 ∨ act = 2 := by omega
  by_cases hf : fitsD act fs = false
  · have HC := hid (applyC_corrupt HD.out (by omega) (by omega) (.inl hf))
    rcases hact with rfl | rfl | rfl
    · have hz : 0 < fs.length := by simp [fitsD] at hf; cases fs <;> simp_all
      go_wp2
      go_ret2
      exact appPost_nil HB1.out (applyV_no (by rw [HC.out]; decide)) HC.out
    · have hz : fs.length = 0 := by simp [fitsD] at hf; simp [hf]
      go_wp2
      go_ret2
      exact appPost_nil HB1.out (applyV_no (by rw [HC.out]; decide)) HC.out
    · simp [fitsD] at hf
  have hf2 : fitsD act fs = true := by simpa using hf
  have HF := hid hf2
  clear hf hf2
  by_cases h40 : 40 < fs.length
  · have HC := hid (applyC_corrupt (fs := fs) HD.out (show 0 ≤ act by omega) (by omega) (.inr (dictOK_len (by unfold nextD; split <;> (try rw [List.length_append]) <;> omega))))
    have HF0 : Hid (act = 0 → fs.length = 0) := hid (fun h => by have := HF.out; subst h; simpa [fitsD] using this)
    have h01 : act = 1 ∨ act = 2 := by
      rcases hact with h | h
      · have := HF0.out h; omega
      · exact h
    rcases h01 with rfl | rfl
    · go_wp2
      go_ret2
      exact appPost_nil HB1.out (applyV_no (by rw [HC.out]; decide)) HC.out
    · go_wp2
      go_ret2
      exact appPost_nil HB1.out (applyV_no (by rw [HC.out]; decide)) HC.out
  rcases hact with rfl | rfl | rfl
  · have hz : fs.length ≤ 0 := by have := HF.out; simp [fitsD] at this; simp [this]
    obtain ⟨ys, hys⟩ : ∃ ys, ys = vs ++ fs := ⟨_, rfl⟩
    have HNX : Hid (nextD vs 0 fs = ys) := hid (by rw [hys]; simp [nextD])
    have hty : totL List.length ys ≤ 1048576 := by rw [hys]; simp [totL] at ht ⊢; omega
    have HYS := hid hys
    clear hys
    go_wp2_with fail
    refine (l3join_any a1 a2 c1 c2 vs fs w1 (H1.out.later HB1.out) (H2.out.later HB1.out) (by omega) (by omega)).mono ?_
    rintro e w2 ⟨v2, rfl, x2, b2⟩
    rw [← HYS.out] at x2
    obtain ⟨a3, c3, rfl⟩ := x2.len
    have HX := hid x2.rd
    have HB2 := hid (below_chain HB1.out b2)
    clear x2 b2
    go_wp2_with fail
    refine (specDict_any a3 c3 ys w2 HX.out hty).mono ?_
    rintro e w3 ⟨rfl, b3⟩
    have HB3 := hid (below_chain HB2.out b3)
    have HX3 := hid (HX.out.later b3)
    clear b3
    cases hdn : dictOK ys
    · have HC := hid (applyC_corrupt (act := 0) (fs := fs) HD.out (by omega) (by omega) (.inr (by rw [HNX.out]; exact hdn)))
      go_wp2
      go_ret2
      exact appPost_nil HB3.out (applyV_no (by rw [HC.out]; decide)) HC.out
    · have HC := hid (applyC_ok (act := 0) (fs := fs) HD.out (by omega) (by omega) HF.out (by rw [HNX.out]; exact hdn))
      go_wp2
      go_ret2
      rw [applyV_ok HC.out, HC.out, HNX.out]
      exact ⟨a3, c3, rfl, HX3.out, HB3.out⟩
  · have hz : fs.length ≠ 0 := by have := HF.out; simpa [fitsD] using this
    obtain ⟨ys, hys⟩ : ∃ ys, ys = vs ++ fs := ⟨_, rfl⟩
    have HNX : Hid (nextD vs 1 fs = ys) := hid (by rw [hys]; simp [nextD])
    have hty : totL List.length ys ≤ 1048576 := by rw [hys]; simp [totL] at ht ⊢; omega
    have HYS := hid hys
    clear hys
    go_wp2_with fail
    refine (l3join_any a1 a2 c1 c2 vs fs w1 (H1.out.later HB1.out) (H2.out.later HB1.out) (by omega) (by omega)).mono ?_
    rintro e w2 ⟨v2, rfl, x2, b2⟩
    rw [← HYS.out] at x2
    obtain ⟨a3, c3, rfl⟩ := x2.len
    have HX := hid x2.rd
    have HB2 := hid (below_chain HB1.out b2)
    clear x2 b2
    go_wp2_with fail
    refine (specDict_any a3 c3 ys w2 HX.out hty).mono ?_
    rintro e w3 ⟨rfl, b3⟩
    have HB3 := hid (below_chain HB2.out b3)
    have HX3 := hid (HX.out.later b3)
    clear b3
    cases hdn : dictOK ys
    · have HC := hid (applyC_corrupt (act := 1) (fs := fs) HD.out (by omega) (by omega) (.inr (by rw [HNX.out]; exact hdn)))
      go_wp2
      go_ret2
      exact appPost_nil HB3.out (applyV_no (by rw [HC.out]; decide)) HC.out
    · have HC := hid (applyC_ok (act := 1) (fs := fs) HD.out (by omega) (by omega) HF.out (by rw [HNX.out]; exact hdn))
      go_wp2
      go_ret2
      rw [applyV_ok HC.out, HC.out, HNX.out]
      exact ⟨a3, c3, rfl, HX3.out, HB3.out⟩
  · have HNX : Hid (nextD vs 2 fs = fs) := hid (by simp [nextD])
    go_wp2_with fail
    refine (l3join_any a1 a2 c1 c2 vs fs w1 (H1.out.later HB1.out) (H2.out.later HB1.out) (by omega) (by omega)).mono ?_
    rintro e w2 ⟨v2, rfl, x2, b2⟩
    obtain ⟨a3, c3, rfl⟩ := x2.len
    have HB2 := hid (below_chain HB1.out b2)
    clear x2 b2
    go_wp2_with fail
    refine (l3texts_any a2 c2 fs w2 (H2.out.later HB2.out) (by omega)).mono ?_
    rintro e w4 ⟨v4, rfl, x4, b4⟩
    obtain ⟨a4, c4, rfl⟩ := x4.len
    have HX := hid x4.rd
    have HB4 := hid (below_chain HB2.out b4)
    clear x4 b4
    go_wp2_with fail
    refine (specDict_any a4 c4 fs w4 HX.out (by omega)).mono ?_
    rintro e w3 ⟨rfl, b3⟩
    have HB3 := hid (below_chain HB4.out b3)
    have HX3 := hid (HX.out.later b3)
    clear b3
    cases hdn : dictOK fs
    · have HC := hid (applyC_corrupt (act := 2) (fs := fs) HD.out (by omega) (by omega) (.inr (by rw [HNX.out]; exact hdn)))
      go_wp2
      go_ret2
      exact appPost_nil HB3.out (applyV_no (by rw [HC.out]; decide)) HC.out
    · have HC := hid (applyC_ok (act := 2) (fs := fs) HD.out (by omega) (by omega) HF.out (by rw [HNX.out]; exact hdn))
      go_wp2
      go_ret2
      rw [applyV_ok HC.out, HC.out, HNX.out]
      exact ⟨a4, c4, rfl, HX3.out, HB3.out⟩
end Go.Proofs.Ytcljakdcejhfiab
