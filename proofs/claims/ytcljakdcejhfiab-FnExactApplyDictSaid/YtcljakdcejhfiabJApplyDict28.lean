import Derived.Test.YtcljakdcejhfiabJApplyDict25
import Derived.Test.YtcljakdcejhfiabJApplyDict27
namespace Go.Proofs.Ytcljakdcejhfiab
open Go.RowKit
def AppOwn (w : World) (R : List (List Nat)) (C : Int) (e : Ending) (w' : World) : Prop :=
  ∃ a c bs, e = .returned (.tuple #[.slice a R.length c, .int .i64 C]) ∧ OwnSl cSS 24 w' R (.slice a R.length c) bs ∧ (∀ b ∈ bs, w.heap.size ≤ b) ∧ bs.Nodup ∧ Below w.heap.size w w'
theorem appOwn_nil {w w' : World} {R : List (List Nat)} {C C' : Int} (hb : Below w.heap.size w w') (hR : R = []) (hC : C = C') : AppOwn w R C (.returned (.tuple #[.slice none 0 0, .int .i64 C'])) w' := by
  subst hR hC
  exact ⟨none, 0, [], rfl, .inl ⟨rfl, rfl, rfl⟩, by simp, by simp, hb⟩
theorem nextI_fits {vs fs : List (List Nat)} {act : Int} (h0 : 0 ≤ act) (h2 : act ≤ 2) (hf : fitsD act fs = true) : nextI vs act fs = nextD vs act fs := by
  unfold nextI nextD
  have : act = 0 ∨ act = 1 ∨ act = 2 := by omega
  rcases this with rfl | rfl | rfl
  · have hz : fs = [] := by simpa [fitsD] using hf
    subst hz; simp
  · simp
  · simp
set_option maxRecDepth 100000 in
set_option maxHeartbeats 2000000 in
theorem implApply_any (a1 a2 : Option Addr) (c1 c2 : Nat) (vs fs : List (List Nat)) (act : Int) (w : World) (h1 : RdSl cSS w vs (.slice a1 vs.length c1)) (h2 : RdSl cSS w fs (.slice a2 fs.length c2)) (_ha : IntIn act) (ht : totL List.length vs + totL List.length fs ≤ 1048576) :
    Calls Try.prog 39 #[.slice a1 vs.length c1, .int .i64 act, .slice a2 fs.length c2] w (AppOwn w (applyV vs act fs) (applyC vs act fs)) := by
  have H1 := hid h1
  have H2 := hid h2
  clear h1 h2
  have hl1 : vs.length ≤ 1048576 := by unfold totL at ht; omega
  have hl2 : fs.length ≤ 1048576 := by unfold totL at ht; omega
  by_cases hn : act < 0
  · have HC := hid (applyC_bad (vs := vs) (fs := fs) (act := act) (.inr (.inl hn)))
    go_enter Try.func39, Try.ntmps39
    go_wp2
    go_ret2
    exact appOwn_nil (Below.refl _ _) (applyV_no (by rw [HC.out]; decide)) HC.out
  by_cases hp : 2 < act
  · have HC := hid (applyC_bad (vs := vs) (fs := fs) (act := act) (.inr (.inr hp)))
    go_enter Try.func39, Try.ntmps39
    go_wp2
    go_ret2
    exact appOwn_nil (Below.refl _ _) (applyV_no (by rw [HC.out]; decide)) HC.out
  go_enter Try.func39, Try.ntmps39
  go_wp2_with fail
  refine (implDict_any a1 c1 vs w H1.out (by omega)).mono ?_
  rintro e w1 ⟨rfl, b1⟩
  have HB1 := hid b1
  clear b1
  cases hd : dictOK vs
  · have HC := hid (applyC_bad (fs := fs) (act := act) (.inl hd))
    go_wp2
    go_ret2
    exact appOwn_nil HB1.out (applyV_no (by rw [HC.out]; decide)) HC.out
  have HD := hid hd
  clear hd
  go_wp2_with fail
  refine (nextTexts_any a1 a2 c1 c2 vs fs act w1 (H1.out.later HB1.out) (H2.out.later HB1.out) hl1 hl2).mono ?_
  rintro e w2 ⟨v2, rfl, r2, b2⟩
  obtain ⟨a3, c3, rfl, -⟩ := id r2
  have HR2 := hid r2
  have HB2 := hid (below_chain HB1.out b2)
  clear r2 b2
  go_wp2_with fail
  refine (freshFits_any a2 c2 fs act w2 hl2).mono ?_
  rintro e w ⟨rfl, rfl⟩
  cases hf : fitsD act fs
  · have HC := hid (applyC_corrupt (act := act) (fs := fs) HD.out (by omega) (by omega) (.inl hf))
    generalize nextI vs act fs = ys at *
    go_wp2
    go_ret2
    exact appOwn_nil HB2.out (applyV_no (by rw [HC.out]; decide)) HC.out
  have HX := hid (nextI_fits (vs := vs) (show 0 ≤ act by omega) (by omega) hf)
  have hty : totL List.length (nextI vs act fs) ≤ 1048576 := by
    rw [HX.out]
    unfold nextD
    split
    · omega
    · simp [totL] at ht ⊢; omega
  have HF := hid hf
  clear hf
  generalize nextI vs act fs = ys at *
  go_wp2_with fail
  refine (implDict_any a3 c3 ys w HR2.out hty).mono ?_
  rintro e w4 ⟨rfl, b4⟩
  have HB4 := hid (below_chain HB2.out b4)
  have HR4 := hid (HR2.out.later b4)
  clear b4
  cases hdn : dictOK ys
  · have HC := hid (applyC_corrupt (act := act) (fs := fs) HD.out (by omega) (by omega) (.inr (by rw [← HX.out]; exact hdn)))
    go_wp2
    go_ret2
    exact appOwn_nil HB4.out (applyV_no (by rw [HC.out]; decide)) HC.out
  have HC := hid (applyC_ok (act := act) (fs := fs) HD.out (by omega) (by omega) HF.out (by rw [← HX.out]; exact hdn))
  clear hdn
  go_wp2_with fail
  refine (copyTexts_any a3 c3 ys w4 HR4.out hty).mono ?_
  rintro e w5 ⟨v5, bs, rfl, o5, l5, n5, b5⟩
  obtain ⟨a5, c5, rfl, -⟩ := id o5.rd
  have HO5 := hid o5
  have HL5 := hid l5
  have HN5 := hid n5
  have HB5 := hid (below_chain HB4.out b5)
  have hsz := HB4.out.size
  clear o5 l5 n5 b5
  go_wp2
  go_ret2
  rw [applyV_ok HC.out, HC.out, ← HX.out]
  exact ⟨a5, c5, bs, rfl, HO5.out, fun b hb => Nat.le_trans hsz (HL5.out b hb), HN5.out, HB5.out⟩
end Go.Proofs.Ytcljakdcejhfiab
