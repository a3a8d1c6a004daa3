import Derived.Test.YtcljakdcejhfiadJValidTable18
import Derived.Test.YtcljakdcejhfiadJValidTable6
import Derived.Test.YtcljakdcejhfiadJValidTable21
import Derived.Test.YtcljakdcejhfiadJValidTable24
namespace Go.Proofs.Ytcljakdcejhfiad
def cellOK (f : PF) (c : PC) : Bool :=
  if c.null = true then (c.num == 0) && ((c.text.length : Int) == 0)
  else if f.kind = 0 then ((c.num == 0) || (c.num == 1)) && ((c.text.length : Int) == 0)
  else if f.kind = 1 then fitsW c.num f.width && ((c.text.length : Int) == 0)
  else (c.num == 0)
theorem cellOK_null {f : PF} {c : PC} (h : c.null = true) : cellOK f c = ((c.num == 0) && ((c.text.length : Int) == 0)) := by unfold cellOK; rw [if_pos h]
theorem cellOK_bool {f : PF} {c : PC} (h : c.null = false) (hk : f.kind = 0) : cellOK f c = (((c.num == 0) || (c.num == 1)) && ((c.text.length : Int) == 0)) := by unfold cellOK; rw [if_neg (by simp [h]), if_pos hk]
theorem cellOK_int {f : PF} {c : PC} (h : c.null = false) (hk : f.kind = 1) : cellOK f c = (fitsW c.num f.width && ((c.text.length : Int) == 0)) := by unfold cellOK; rw [if_neg (by simp [h]), if_neg (by omega), if_pos hk]
theorem cellOK_text {f : PF} {c : PC} (h : c.null = false) (h0 : f.kind ≠ 0) (h1 : f.kind ≠ 1) : cellOK f c = (c.num == 0) := by unfold cellOK; rw [if_neg (by simp [h]), if_neg h0, if_neg h1]
theorem null_text {f : PF} {c : PC} (h : c.null = true) (ho : cellOK f c = true) : c.text = [] := by
  rw [cellOK_null h] at ho
  simp at ho
  exact ho.2
def nn (cs : List PC) : List (List Nat) := (cs.filter fun c => !c.null).map (·.text)
theorem nn_snoc (cs : List PC) (k : Nat) (h : k < cs.length) : nn (cs.take (k + 1)) = nn (cs.take k) ++ (if cs[k].null then [] else [cs[k].text]) := by
  unfold nn
  rw [List.take_succ_eq_append_getElem h, List.filter_append, List.map_append]
  cases hc : cs[k].null <;> simp [hc]
def ddv (vs : List (List Nat)) : List (List Nat) := vs.foldl (fun acc t => if t ∈ acc then acc else acc ++ [t]) []
theorem ddv_snoc (vs : List (List Nat)) (t : List Nat) : ddv (vs ++ [t]) = if t ∈ ddv vs then ddv vs else ddv vs ++ [t] := by unfold ddv; rw [List.foldl_append]; rfl
theorem snoc_ind {p : List (List Nat) → Prop} (h0 : p []) (h1 : ∀ vs t, p vs → p (vs ++ [t])) (vs : List (List Nat)) : p vs := by
  have key : ∀ n, ∀ vs : List (List Nat), vs.length = n → p vs := by
    intro n
    induction n with
    | zero => intro vs h; rw [List.length_eq_zero_iff.1 h]; exact h0
    | succ n ih =>
      intro vs h
      have hne : vs ≠ [] := by intro e; simp [e] at h
      rw [← List.dropLast_concat_getLast hne]
      exact h1 _ _ (ih _ (by simp [h]))
  exact key _ vs rfl
theorem mem_ddv (t : List Nat) (vs : List (List Nat)) : t ∈ ddv vs ↔ t ∈ vs := by
  refine snoc_ind (p := fun vs => t ∈ ddv vs ↔ t ∈ vs) (by simp [ddv]) (fun vs s ih => ?_) vs
  · rw [ddv_snoc]
    by_cases h : s ∈ ddv vs
    · rw [if_pos h, ih]
      simp only [List.mem_append, List.mem_singleton]
      constructor
      · exact .inl
      · rintro (h2 | rfl)
        · exact h2
        · exact ih.1 h
    · rw [if_neg h]; simp [ih]
theorem cnt_left (vs ws : List (List Nat)) : ∀ k, k ≤ vs.length → cnt (vs ++ ws) k = cnt vs k
  | 0, _ => rfl
  | k + 1, hk => by
    have hlt : k < vs.length := hk
    have e1 : (vs ++ ws)[k]? = some vs[k] := by rw [List.getElem?_append_left hlt, List.getElem?_eq_getElem hlt]
    have e2 : vs[k]? = some vs[k] := List.getElem?_eq_getElem hlt
    have e3 : (vs ++ ws).take k = vs.take k := List.take_append_of_le_length (by omega)
    simp only [cnt, e1, e2, e3, cnt_left vs ws k (by omega)]
theorem cnt_snoc (vs : List (List Nat)) (t : List Nat) : cnt (vs ++ [t]) (vs.length + 1) = cnt vs vs.length + if t ∈ vs then 0 else 1 := by
  have e1 : (vs ++ [t])[vs.length]? = some t := by simp
  have e3 : (vs ++ [t]).take vs.length = vs := by simp
  simp only [cnt, e1, e3, cnt_left vs [t] vs.length (Nat.le_refl _)]
theorem ddv_len (vs : List (List Nat)) : (ddv vs).length = cnt vs vs.length := by
  refine snoc_ind (p := fun vs => (ddv vs).length = cnt vs vs.length) rfl (fun vs s ih => ?_) vs
  · rw [ddv_snoc, List.length_append, List.length_singleton, cnt_snoc]
    by_cases h : s ∈ vs
    · rw [if_pos ((mem_ddv s vs).2 h), if_pos h, ih]; rfl
    · rw [if_neg (fun e => h ((mem_ddv s vs).1 e)), if_neg h, List.length_append, ih]; rfl
theorem ddv_mono (vs ws : List (List Nat)) : (ddv vs).length ≤ (ddv (vs ++ ws)).length := by
  refine snoc_ind (p := fun ws => (ddv vs).length ≤ (ddv (vs ++ ws)).length) (by simp) (fun ws s ih => ?_) ws
  · rw [← List.append_assoc, ddv_snoc]
    split
    · exact ih
    · rw [List.length_append]; omega
def diff (cs : List PC) : Nat := cnt (nn cs) (nn cs).length
def colOK (f : PF) (cs : List PC) : Bool := cs.all (cellOK f) && !(decide (f.kind = 3) && decide (40 < diff cs))
def col (cells : List PC) (rows c : Nat) : List PC := (cells.drop (c * rows)).take rows
def colsTo (fs : List PF) (cells : List PC) (rows : Nat) : Nat → Bool
  | 0 => true
  | k + 1 => colsTo fs cells rows k && (match fs[k]? with | some f => colOK f (col cells rows k) | none => true)
theorem colsTo_succ {fs : List PF} {cells : List PC} {rows k : Nat} (hk : k < fs.length) : colsTo fs cells rows (k + 1) = (colsTo fs cells rows k && colOK fs[k] (col cells rows k)) := by simp [colsTo, hk]
theorem colsTo_bad {fs : List PF} {cells : List PC} {rows k : Nat} (h : colsTo fs cells rows k = false) : ∀ m, k ≤ m → colsTo fs cells rows m = false := by
  intro m hm
  induction m with
  | zero => have : k = 0 := by omega
            subst this; exact h
  | succ m ih =>
    by_cases e : k = m + 1
    · subst e; exact h
    · simp [colsTo, ih (by omega)]
def txt (cs : List PC) : Nat := (cs.map fun c => c.text.length).sum
end Go.Proofs.Ytcljakdcejhfiad
