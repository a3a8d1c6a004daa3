import Derived.Test.YtcljakdcejhfiadJPlanDict20
import Derived.Test.YtcljakdcejhfiadJPlanDict22
namespace Go.Proofs.Ytcljakdcejhfiad
open Go.RowKit
def lack (vs ts : List (List Nat)) : List (List Nat) := (ddv ts).filter fun t => !decide (t ∈ vs)
theorem mem_lack (vs ts : List (List Nat)) (t : List Nat) : t ∈ lack vs ts ↔ t ∈ ts ∧ t ∉ vs := by
  unfold lack
  rw [List.mem_filter, mem_ddv]; simp
theorem lack_snoc (vs ts : List (List Nat)) (t : List Nat) : lack vs (ts ++ [t]) = if t ∈ vs ∨ t ∈ lack vs ts then lack vs ts else lack vs ts ++ [t] := by
  by_cases h1 : t ∈ vs
  · rw [if_pos (.inl h1)]
    unfold lack
    rw [ddv_snoc]
    split
    · rfl
    · rw [List.filter_append]; simp [h1]
  · by_cases h2 : t ∈ ts
    · rw [if_pos (.inr ((mem_lack vs ts t).2 ⟨h2, h1⟩))]
      unfold lack
      rw [ddv_snoc, if_pos ((mem_ddv t ts).2 h2)]
    · rw [if_neg (by rw [mem_lack]; rintro (h | h); exact h1 h; exact h2 h.1)]
      unfold lack
      rw [ddv_snoc, if_neg (fun h => h2 ((mem_ddv t ts).1 h)), List.filter_append]; simp [h1]
theorem lack_none (ts : List (List Nat)) : lack [] ts = ddv ts := by
  unfold lack
  rw [List.filter_eq_self]; simp
theorem tot_filter (p : List Nat → Bool) (ts : List (List Nat)) : tot (ts.filter p) ≤ tot ts := by
  induction ts with
  | nil => simp
  | cons t ts ih =>
    rw [List.filter_cons]
    split <;> (simp [tot] at ih ⊢; omega)
theorem tot_ddv (ts : List (List Nat)) : tot (ddv ts) ≤ tot ts ∧ (ddv ts).length ≤ ts.length := by
  refine snoc_ind (p := fun ts => tot (ddv ts) ≤ tot ts ∧ (ddv ts).length ≤ ts.length) ?_ ?_ ts
  · simp [ddv]
  · intro vs t ih
    rw [ddv_snoc, tot_append]
    split
    · simp; omega
    · rw [tot_append]; simp; omega
theorem lack_small (vs ts : List (List Nat)) : tot (lack vs ts) ≤ tot ts ∧ (lack vs ts).length ≤ ts.length := by
  have h1 := tot_ddv ts
  have h2 := tot_filter (fun t => !decide (t ∈ vs)) (ddv ts)
  have h3 := List.length_filter_le (fun t => !decide (t ∈ vs)) (ddv ts)
  unfold lack
  omega
theorem tot_nn (cs : List PC) : tot (nn cs) ≤ txt cs ∧ (nn cs).length ≤ cs.length := by
  induction cs with
  | nil => simp [nn, tot, txt]
  | cons c cs ih =>
    unfold nn at ih ⊢
    rw [List.filter_cons]
    split <;> (simp [tot, txt] at ih ⊢; omega)
structure PP where
  act : Int
  fresh : List (List Nat)
  values : List (List Nat)
def cell3 : PF := ⟨[100], 3, 0⟩
theorem cellOK3 (f : PF) (c : PC) (h : f.kind = 3) : cellOK f c = cellOK cell3 c := by
  unfold cellOK; rw [h]; rfl
theorem cellsOK3 (f : PF) (cs : List PC) (h : f.kind = 3) : cs.all (cellOK f) = cs.all (cellOK cell3) := by
  congr 1; funext c; exact cellOK3 f c h
def inOK (vs : List (List Nat)) (cs : List PC) : Bool := dictOK vs && (decide (cs.length ≤ 100) && cs.all (cellOK cell3))
def planP (vs : List (List Nat)) (cs : List PC) : PP :=
  if inOK vs cs = true then
    (if lack vs (nn cs) = [] then ⟨0, [], vs⟩
    else if dictOK (vs ++ lack vs (nn cs)) = true then ⟨1, lack vs (nn cs), vs ++ lack vs (nn cs)⟩
    else if dictOK (ddv (nn cs)) = true then ⟨2, ddv (nn cs), ddv (nn cs)⟩
    else ⟨0, [], []⟩)
  else ⟨0, [], []⟩
def planC (vs : List (List Nat)) (cs : List PC) : Int :=
  if inOK vs cs = true then
    (if lack vs (nn cs) = [] then 0
    else if dictOK (vs ++ lack vs (nn cs)) = true then 0
    else if dictOK (ddv (nn cs)) = true then 0
    else 2)
  else 1
theorem dictOK_part {vs fs : List (List Nat)} (h : dictOK (vs ++ fs) = true) : fs.length ≤ 40 ∧ tot fs ≤ 4000 := by
  have := dictOK_small h
  rw [tot_append, List.length_append] at this
  omega
theorem dictOK_in {vs : List (List Nat)} {cs : List PC} (h : inOK vs cs = true) : dictOK vs = true := by
  simp only [inOK, Bool.and_eq_true] at h
  exact h.1
theorem planP_small (vs : List (List Nat)) (cs : List PC) : ((planP vs cs).fresh.length ≤ 40 ∧ tot (planP vs cs).fresh ≤ 4000) ∧ ((planP vs cs).values.length ≤ 40 ∧ tot (planP vs cs).values ≤ 4000) ∧ 0 ≤ (planP vs cs).act ∧ (planP vs cs).act ≤ 2 := by
  unfold planP
  split
  · rename_i h
    split
    · exact ⟨by simp [tot], dictOK_small (dictOK_in h), by simp, by simp⟩
    split
    · rename_i h2
      exact ⟨dictOK_part h2, dictOK_small h2, by simp, by simp⟩
    split
    · rename_i h2
      exact ⟨dictOK_small h2, dictOK_small h2, by simp, by simp⟩
    · simp [tot]
  · simp [tot]
end Go.Proofs.Ytcljakdcejhfiad
