import Derived.Test.YtcljakdcejhfiadJPlanDict23
namespace Go.Proofs.Ytcljakdcejhfiad
open Go.RowKit
def noPlan : PP := ⟨0, [], []⟩
def planOfP (vs : List (List Nat)) (act : Int) (fs : List (List Nat)) : PP := if applyC vs act fs = 0 then ⟨act, fs, nextD vs act fs⟩ else noPlan
def planOfC (vs : List (List Nat)) (act : Int) (fs : List (List Nat)) : Int := if applyC vs act fs = 0 then 0 else 2
theorem inOK_no {vs : List (List Nat)} {cs : List PC} (h : dictOK vs = false ∨ ¬ cs.length ≤ 100 ∨ cs.all (cellOK cell3) = false) : inOK vs cs = false := by
  unfold inOK
  rcases h with h | h | h <;> simp [h]
theorem plan_bad {vs : List (List Nat)} {cs : List PC} (h : inOK vs cs = false) : planP vs cs = noPlan ∧ planC vs cs = 1 := by
  unfold planP planC
  simp [h, noPlan]
theorem plan_keep {vs : List (List Nat)} {cs : List PC} (h : inOK vs cs = true) (hl : lack vs (nn cs) = []) : planP vs cs = planOfP vs 0 [] ∧ planC vs cs = planOfC vs 0 [] := by
  have hc : applyC vs 0 [] = 0 := applyC_ok (dictOK_in h) (by omega) (by omega) (by simp [fitsD]) (by simpa [nextD] using dictOK_in h)
  unfold planP planC planOfP planOfC
  simp [h, hl, hc, nextD]
theorem plan_delta {vs : List (List Nat)} {cs : List PC} (h : inOK vs cs = true) (hl : lack vs (nn cs) ≠ []) (hc : applyC vs 1 (lack vs (nn cs)) = 0) : planP vs cs = planOfP vs 1 (lack vs (nn cs)) ∧ planC vs cs = 0 := by
  have hd := applyC_zero hc
  have hd2 : dictOK (vs ++ lack vs (nn cs)) = true := by simpa [nextD] using hd
  unfold planP planC planOfP
  simp [h, hl, hc, hd2, nextD]
theorem plan_else {vs : List (List Nat)} {cs : List PC} (h : inOK vs cs = true) (hl : lack vs (nn cs) ≠ []) (hc : applyC vs 1 (lack vs (nn cs)) ≠ 0) : planP vs cs = planOfP vs 2 (lack [] (nn cs)) ∧ planC vs cs = planOfC vs 2 (lack [] (nn cs)) := by
  have hd2 : ¬ dictOK (vs ++ lack vs (nn cs)) = true := fun hd => hc (applyC_ok (dictOK_in h) (by omega) (by omega) (by simp [fitsD, hl]) (by simpa [nextD] using hd))
  rw [lack_none]
  by_cases hn : dictOK (ddv (nn cs)) = true
  · have h2 : applyC vs 2 (ddv (nn cs)) = 0 := applyC_ok (dictOK_in h) (by omega) (by omega) (by simp [fitsD]) (by simpa [nextD] using hn)
    unfold planP planC planOfP planOfC
    simp [h, hl, hd2, hn, h2, nextD]
  · have h2 : applyC vs 2 (ddv (nn cs)) ≠ 0 := fun hc2 => hn (by have := applyC_zero hc2; simpa [nextD] using this)
    unfold planP planC planOfP planOfC
    simp [h, hl, hd2, hn, h2, noPlan]
end Go.Proofs.Ytcljakdcejhfiad
