import Derived.Test.YtcljakdcejhfiadJPlanDict16
import Derived.Test.YtcljakdcejhfiadJPlanDict7
import Derived.Test.YtcljakdcejhfiadJPlanDict17
import Derived.Test.YtcljakdcejhfiadJPlanDict19
namespace Go.Proofs.Ytcljakdcejhfiad
def cellOK (f : PF) (c : PC) : Bool :=
  if c.null = true then (c.num == 0) && ((c.text.length : Int) == 0)
  else if f.kind = 0 then ((c.num == 0) || (c.num == 1)) && ((c.text.length : Int) == 0)
  else if f.kind = 1 then fitsW c.num f.width && ((c.text.length : Int) == 0)
  else (c.num == 0)
theorem cellOK_null {f : PF} {c : PC} (h : c.null = true) : cellOK f c = ((c.num == 0) && ((c.text.length : Int) == 0)) := by unfold cellOK; rw [if_pos h]
theorem cellOK_bool {f : PF} {c : PC} (h : c.null = false) (hk : f.kind = 0) : cellOK f c = (((c.num == 0) || (c.num == 1)) && ((c.text.length : Int) == 0)) := by unfold cellOK; rw [if_neg (by simp [h]), if_pos hk]
theorem cellOK_int {f : PF} {c : PC} (h : c.null = false) (hk : f.kind = 1) : cellOK f c = (fitsW c.num f.width && ((c.text.length : Int) == 0)) := by unfold cellOK; rw [if_neg (by simp [h]), if_neg (by omega), if_pos hk]
theorem cellOK_text {f : PF} {c : PC} (h : c.null = false) (h0 : f.kind ≠ 0) (h1 : f.kind ≠ 1) : cellOK f c = (c.num == 0) := by unfold cellOK; rw [if_neg (by simp [h]), if_neg h0, if_neg h1]
def nn (cs : List PC) : List (List Nat) := (cs.filter fun c => !c.null).map (·.text)
theorem nn_snoc (cs : List PC) (k : Nat) (h : k < cs.length) : nn (cs.take (k + 1)) = nn (cs.take k) ++ (if cs[k].null then [] else [cs[k].text]) := by
  unfold nn
  rw [List.take_succ_eq_append_getElem h, List.filter_append, List.map_append]
  cases hc : cs[k].null <;> simp [hc]
def ddv (vs : List (List Nat)) : List (List Nat) := vs.foldl (fun acc t => if t ∈ acc then acc else acc ++ [t]) []
theorem ddv_snoc (vs : List (List Nat)) (t : List Nat) : ddv (vs ++ [t]) = if t ∈ ddv vs then ddv vs else ddv vs ++ [t] := by unfold ddv; rw [List.foldl_append]; rfl
theorem snoc_ind {p : List (List Nat) → Prop} (h0 : p []) (h1 : ∀ vs t, p vs → p (vs ++ [t])) (vs : List (List Nat)) : p vs := by
  have key : ∀ n, ∀ vs : List (List Nat), vs.length = n → p vs := by
    intro n
    induction n with
    | zero => intro vs h; rw [List.length_eq_zero_iff.1 h]; exact h0
    | succ n ih =>
      intro vs h
      have hne : vs ≠ [] := by intro e; simp [e] at h
      rw [← List.dropLast_concat_getLast hne]
      exact h1 _ _ (ih _ (by simp [h]))
  exact key _ vs rfl
theorem mem_ddv (t : List Nat) (vs : List (List Nat)) : t ∈ ddv vs ↔ t ∈ vs := by
  refine snoc_ind (p := fun vs => t ∈ ddv vs ↔ t ∈ vs) (by simp [ddv]) (fun vs s ih => ?_) vs
  · rw [ddv_snoc]
    by_cases h : s ∈ ddv vs
    · rw [if_pos h, ih]
      simp only [List.mem_append, List.mem_singleton]
      constructor
      · exact .inl
      · rintro (h2 | rfl)
        · exact h2
        · exact ih.1 h
    · rw [if_neg h]; simp [ih]
def txt (cs : List PC) : Nat := (cs.map fun c => c.text.length).sum
end Go.Proofs.Ytcljakdcejhfiad
