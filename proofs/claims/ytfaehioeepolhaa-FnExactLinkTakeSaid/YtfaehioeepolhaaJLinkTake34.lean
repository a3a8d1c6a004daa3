import Derived.Test.YtfaehioeepolhaaJLinkTake33
namespace Go.Proofs.Ytfaehioeepolhaa
open Go.RowKit
def insS (p : PP) (a : List PP × Bool) (x : PP) : List PP × Bool := if (!a.2 && decide (p.seq < x.seq)) = true then (a.1 ++ [p] ++ [x], true) else (a.1 ++ [x], a.2)
def insK (p : PP) (xs : List PP) (k : Nat) : List PP × Bool := (xs.take k).foldl (insS p) ([], false)
theorem insK_succ (p : PP) (xs : List PP) (k : Nat) (hk : k < xs.length) : insK p xs (k + 1) = insS p (insK p xs k) xs[k] := by
  unfold insK
  rw [List.take_succ_eq_append_getElem hk, List.foldl_append]
  rfl
theorem insK_len (p : PP) (xs : List PP) : ∀ k, k ≤ xs.length → (insK p xs k).1.length = k + (if (insK p xs k).2 then 1 else 0)
  | 0, _ => rfl
  | k + 1, h => by
    have ih := insK_len p xs k (by omega)
    rw [insK_succ p xs k (by omega)]
    unfold insS
    cases hb : (insK p xs k).2 <;> rw [hb] at ih <;> simp only [Bool.not_false, Bool.not_true, Bool.true_and, Bool.false_and, Bool.false_eq_true, if_false, if_true] at ih ⊢
    · by_cases hd : decide (p.seq < xs[k].seq) = true
      · rw [if_pos hd]; simp; omega
      · rw [if_neg hd]; simp; omega
    · simp; omega
theorem insK_mem (p : PP) (xs : List PP) : ∀ k, k ≤ xs.length → ∀ x ∈ (insK p xs k).1, x = p ∨ x ∈ xs
  | 0, _ => by intro x hx; simp [insK] at hx
  | k + 1, h => by
    have ih := insK_mem p xs k (by omega)
    rw [insK_succ p xs k (by omega)]
    intro x hx
    have hm : xs[k] ∈ xs := List.getElem_mem _
    unfold insS at hx
    split at hx
    · simp only [List.mem_append, List.mem_cons, List.not_mem_nil, or_false] at hx
      rcases hx with (h1 | rfl) | rfl
      · exact ih x h1
      · exact .inl rfl
      · exact .inr hm
    · simp only [List.mem_append, List.mem_cons, List.not_mem_nil, or_false] at hx
      rcases hx with h1 | rfl
      · exact ih x h1
      · exact .inr hm
def takeAll (s : PI) (p : PP) : List PP := if (insK p s.held s.held.length).2 = true then (insK p s.held s.held.length).1 else (insK p s.held s.held.length).1 ++ [p]
theorem takeAll_len (s : PI) (p : PP) : (takeAll s p).length = s.held.length + 1 := by
  have h := insK_len p s.held _ (Nat.le_refl _)
  unfold takeAll
  cases hb : (insK p s.held s.held.length).2 <;> rw [hb] at h <;> simp at h ⊢ <;> omega
theorem takeAll_mem {s : PI} {p x : PP} (h : x ∈ takeAll s p) : x = p ∨ x ∈ s.held := by
  unfold takeAll at h
  split at h
  · exact insK_mem p s.held _ (Nat.le_refl _) x h
  · rcases List.mem_append.1 h with h | h
    · exact insK_mem p s.held _ (Nat.le_refl _) x h
    · exact .inl (by simpa using h)
def stepT (a : List Nat × List (List Nat)) (x : PP) : List Nat × List (List Nat) := if x.last then ([], a.2 ++ [a.1 ++ x.data]) else (a.1 ++ x.data, a.2)
def ptK (s : PI) (l : List PP) (d : Nat) : List Nat × List (List Nat) := (l.take d).foldl stepT (s.part, [])
theorem ptK_zero (s : PI) (l : List PP) : ptK s l 0 = (s.part, []) := rfl
theorem ptK_succ (s : PI) (l : List PP) (d : Nat) (hd : d < l.length) : ptK s l (d + 1) = stepT (ptK s l d) l[d] := by
  unfold ptK
  rw [List.take_succ_eq_append_getElem hd, List.foldl_append]
  rfl
theorem ptK_last (s : PI) (l : List PP) (d : Nat) (hd : d < l.length) (h : l[d].last = true) : ptK s l (d + 1) = ([], (ptK s l d).2 ++ [(ptK s l d).1 ++ l[d].data]) := by rw [ptK_succ s l d hd]; unfold stepT; rw [h]; rfl
theorem ptK_more (s : PI) (l : List PP) (d : Nat) (hd : d < l.length) (h : l[d].last = false) : ptK s l (d + 1) = ((ptK s l d).1 ++ l[d].data, (ptK s l d).2) := by rw [ptK_succ s l d hd]; unfold stepT; rw [h]; rfl
theorem ptK_msgs (s : PI) (l : List PP) : ∀ d, d ≤ l.length → (ptK s l d).2.length ≤ d
  | 0, _ => by simp [ptK]
  | d + 1, h => by
    have ih := ptK_msgs s l d (by omega)
    rw [ptK_succ s l d (by omega)]
    unfold stepT
    split
    · simp; omega
    · simp; omega
def runT (s : PI) (l : List PP) : Nat → Nat → Option Nat
  | 0, d => some d
  | f + 1, d => match l[d]? with
    | none => some d
    | some x => if x.seq = s.expect + (d : Int) then (if (ptK s l d).1.length + x.data.length ≤ 20000 then runT s l f (d + 1) else none) else some d
def takeD (s : PI) (p : PP) : Option Nat := runT s (takeAll s p) (takeAll s p).length 0
theorem runT_end (s : PI) (l : List PP) (d : Nat) (h : l.length ≤ d) : runT s l (l.length - d) d = some d := by rw [show l.length - d = 0 from by omega]; rfl
theorem runT_stop (s : PI) (l : List PP) (d : Nat) (h : d < l.length) (hs : ¬ l[d].seq = s.expect + (d : Int)) : runT s l (l.length - d) d = some d := by
  rw [show l.length - d = (l.length - (d + 1)) + 1 from by omega]
  unfold runT
  rw [List.getElem?_eq_getElem h]
  simp only
  rw [if_neg hs]
theorem runT_go (s : PI) (l : List PP) (d : Nat) (h : d < l.length) (hs : l[d].seq = s.expect + (d : Int)) (hf : (ptK s l d).1.length + l[d].data.length ≤ 20000) : runT s l (l.length - d) d = runT s l (l.length - (d + 1)) (d + 1) := by
  conv => lhs; rw [show l.length - d = (l.length - (d + 1)) + 1 from by omega]
  conv => lhs; unfold runT
  rw [List.getElem?_eq_getElem h]
  simp only
  rw [if_pos hs, if_pos hf]
theorem runT_bad (s : PI) (l : List PP) (d : Nat) (h : d < l.length) (hs : l[d].seq = s.expect + (d : Int)) (hf : ¬ (ptK s l d).1.length + l[d].data.length ≤ 20000) : runT s l (l.length - d) d = none := by
  rw [show l.length - d = (l.length - (d + 1)) + 1 from by omega]
  unfold runT
  rw [List.getElem?_eq_getElem h]
  simp only
  rw [if_pos hs, if_neg hf]
def oldB (s : PI) (p : PP) : Bool := decide (p.seq < s.expect) || (decide (s.expect + 8 ≤ p.seq) || s.held.any fun x => decide (x.seq = p.seq))
def takeOK (s : PI) (p : PP) : Bool := inOK s && dataB p s.epoch
def noIn : PI := ⟨0, 0, [], []⟩
def takeI (s : PI) (p : PP) : PI := if takeOK s p = true then (if oldB s p = true then s else match takeD s p with | none => s | some d => ⟨s.epoch, s.expect + (d : Int), (takeAll s p).drop d, (ptK s (takeAll s p) d).1⟩) else noIn
def takeG (s : PI) (p : PP) : List (List Nat) := if takeOK s p = true then (if oldB s p = true then [] else match takeD s p with | none => [] | some d => (ptK s (takeAll s p) d).2) else []
def takeC (s : PI) (p : PP) : Int := if takeOK s p = true then (if oldB s p = true then 4 else match takeD s p with | none => 3 | some _ => 0) else 1
theorem take_no {s : PI} {p : PP} (h : takeOK s p = false) : takeI s p = noIn ∧ takeG s p = [] ∧ takeC s p = 1 := by unfold takeI takeG takeC; simp [h]
theorem take_old {s : PI} {p : PP} (h : takeOK s p = true) (ho : oldB s p = true) : takeI s p = s ∧ takeG s p = [] ∧ takeC s p = 4 := by unfold takeI takeG takeC; simp [h, ho]
theorem take_bad {s : PI} {p : PP} (h : takeOK s p = true) (ho : oldB s p = false) (hd : takeD s p = none) : takeI s p = s ∧ takeG s p = [] ∧ takeC s p = 3 := by unfold takeI takeG takeC; simp [h, ho, hd]
theorem take_yes {s : PI} {p : PP} {d : Nat} (h : takeOK s p = true) (ho : oldB s p = false) (hd : takeD s p = some d) : takeI s p = ⟨s.epoch, s.expect + (d : Int), (takeAll s p).drop d, (ptK s (takeAll s p) d).1⟩ ∧ takeG s p = (ptK s (takeAll s p) d).2 ∧ takeC s p = 0 := by unfold takeI takeG takeC; simp [h, ho, hd]
theorem oldB_low {s : PI} {p : PP} (h : p.seq < s.expect) : oldB s p = true := by unfold oldB; rw [decide_eq_true h]; rfl
theorem oldB_high {s : PI} {p : PP} (h : s.expect + 8 ≤ p.seq) : oldB s p = true := by unfold oldB; rw [decide_eq_true h]; simp
theorem oldB_at {s : PI} {p : PP} {k : Nat} (hk : k < s.held.length) (h : s.held[k].seq = p.seq) : oldB s p = true := by
  unfold oldB
  rw [Bool.or_eq_true, Bool.or_eq_true]
  refine .inr (.inr ?_)
  rw [List.any_eq_true]
  exact ⟨s.held[k], List.getElem_mem _, by simpa using h⟩
theorem oldB_none {s : PI} {p : PP} (h1 : ¬ p.seq < s.expect) (h2 : ¬ s.expect + 8 ≤ p.seq) (h : ∀ k, (hk : k < s.held.length) → s.held[k].seq ≠ p.seq) : oldB s p = false := by
  unfold oldB
  rw [decide_eq_false h1, decide_eq_false h2, Bool.false_or, Bool.false_or, List.any_eq_false]
  intro x hx
  obtain ⟨k, hk, rfl⟩ := List.getElem_of_mem hx
  simpa using h k hk
theorem dataB_of {p : PP} {e : Int} (h : dataB p e = true) : 1 ≤ p.data.length ∧ p.data.length ≤ 100 ∧ 0 ≤ p.seq ∧ p.seq ≤ 1000000000000 := by
  unfold dataB at h
  rw [Bool.and_eq_true, Bool.and_eq_true] at h
  have h1 := of_decide_eq_true h.1
  have h2 := of_decide_eq_true h.2.1
  unfold PktOK at h1
  omega
theorem takeOK_of {s : PI} {p : PP} (h : takeOK s p = true) : inOK s = true ∧ dataB p s.epoch = true := by unfold takeOK at h; simpa using h
theorem takeAll_data {s : PI} {p : PP} (h : takeOK s p = true) : ∀ x ∈ takeAll s p, dataB x s.epoch = true := by
  intro x hx
  rcases takeAll_mem hx with rfl | hx
  · exact (takeOK_of h).2
  · obtain ⟨k, hk, rfl⟩ := List.getElem_of_mem hx
    have := (inOK_of (takeOK_of h).1).2 k hk
    unfold inW at this
    rw [Bool.and_eq_true] at this
    exact this.1
end Go.Proofs.Ytfaehioeepolhaa
