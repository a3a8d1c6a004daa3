import Derived.Test.YtcljakdcejhfiabJApplyDict17
namespace Go.Proofs.Ytcljakdcejhfiab
open Go.RowKit
def nextD (vs : List (List Nat)) (act : Int) (fs : List (List Nat)) : List (List Nat) := if act = 2 then fs else vs ++ fs
def fitsD (act : Int) (fs : List (List Nat)) : Bool := (!decide (act = 0) || decide (fs.length = 0)) && (!decide (act = 1) || !decide (fs.length = 0))
def applyC (vs : List (List Nat)) (act : Int) (fs : List (List Nat)) : Int :=
  if dictOK vs = true ∧ 0 ≤ act ∧ act ≤ 2 then (if (fitsD act fs && dictOK (nextD vs act fs)) = true then 0 else 3) else 1
def applyV (vs : List (List Nat)) (act : Int) (fs : List (List Nat)) : List (List Nat) := if applyC vs act fs = 0 then nextD vs act fs else []
theorem applyC_bad {vs : List (List Nat)} {act : Int} {fs : List (List Nat)} (h : dictOK vs = false ∨ act < 0 ∨ 2 < act) : applyC vs act fs = 1 := by
  unfold applyC
  rw [if_neg]
  rintro ⟨h1, h2, h3⟩
  rcases h with h | h | h
  · rw [h] at h1; cases h1
  · omega
  · omega
theorem applyC_corrupt {vs : List (List Nat)} {act : Int} {fs : List (List Nat)} (h1 : dictOK vs = true) (h2 : 0 ≤ act) (h3 : act ≤ 2) (h : fitsD act fs = false ∨ dictOK (nextD vs act fs) = false) : applyC vs act fs = 3 := by
  unfold applyC
  rw [if_pos ⟨h1, h2, h3⟩, if_neg]
  rcases h with h | h <;> simp [h]
theorem applyC_ok {vs : List (List Nat)} {act : Int} {fs : List (List Nat)} (h1 : dictOK vs = true) (h2 : 0 ≤ act) (h3 : act ≤ 2) (h4 : fitsD act fs = true) (h5 : dictOK (nextD vs act fs) = true) : applyC vs act fs = 0 := by
  unfold applyC
  rw [if_pos ⟨h1, h2, h3⟩, if_pos (by rw [h4, h5]; rfl)]
theorem applyV_no {vs : List (List Nat)} {act : Int} {fs : List (List Nat)} (h : applyC vs act fs ≠ 0) : applyV vs act fs = [] := by unfold applyV; rw [if_neg h]
theorem applyV_ok {vs : List (List Nat)} {act : Int} {fs : List (List Nat)} (h : applyC vs act fs = 0) : applyV vs act fs = nextD vs act fs := by unfold applyV; rw [if_pos h]
theorem applyC_zero {vs : List (List Nat)} {act : Int} {fs : List (List Nat)} (h : applyC vs act fs = 0) : dictOK (nextD vs act fs) = true := by
  unfold applyC at h
  split at h
  · split at h
    · rename_i h2
      simp only [Bool.and_eq_true] at h2
      exact h2.2
    · cases h
  · cases h
theorem dictOK_small {vs : List (List Nat)} (h : dictOK vs = true) : vs.length ≤ 40 ∧ tot vs ≤ 4000 := by
  simp only [dictOK, dictTo, Bool.and_eq_true, decide_eq_true_eq, List.take_length] at h
  exact ⟨h.1, h.2.1⟩
theorem applyV_small (vs : List (List Nat)) (act : Int) (fs : List (List Nat)) : (applyV vs act fs).length ≤ 40 ∧ tot (applyV vs act fs) ≤ 4000 := by
  by_cases h : applyC vs act fs = 0
  · rw [applyV_ok h]; exact dictOK_small (applyC_zero h)
  · rw [applyV_no h]; simp [tot]
end Go.Proofs.Ytcljakdcejhfiab
