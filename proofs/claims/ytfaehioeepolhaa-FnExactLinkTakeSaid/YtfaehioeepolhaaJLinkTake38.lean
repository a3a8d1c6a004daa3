import Derived.Test.YtfaehioeepolhaaJLinkTake34
import Derived.Test.YtfaehioeepolhaaJLinkTake37
namespace Go.Proofs.Ytfaehioeepolhaa
open Go.RowKit Go.Maps Go.WideMaps
def ins (p : PP) : List PP → List PP
  | [] => [p]
  | x :: xs => if p.seq < x.seq then p :: x :: xs else x :: ins p xs
theorem insF_true (p : PP) : ∀ (xs acc : List PP), xs.foldl (insS p) (acc, true) = (acc ++ xs, true)
  | [], acc => by simp
  | x :: xs, acc => by
    rw [List.foldl_cons, show insS p (acc, true) x = (acc ++ [x], true) from rfl, insF_true p xs]
    simp
theorem insF (p : PP) : ∀ (xs acc : List PP), (if (xs.foldl (insS p) (acc, false)).2 = true then (xs.foldl (insS p) (acc, false)).1 else (xs.foldl (insS p) (acc, false)).1 ++ [p]) = acc ++ ins p xs
  | [], acc => by simp [ins]
  | x :: xs, acc => by
    rw [List.foldl_cons]
    by_cases h : p.seq < x.seq
    · rw [show insS p (acc, false) x = (acc ++ [p] ++ [x], true) from by unfold insS; simp [h], insF_true]
      simp [ins, h]
    · rw [show insS p (acc, false) x = (acc ++ [x], false) from by unfold insS; simp [h], insF p xs]
      simp [ins, h]
theorem takeAll_ins (s : PI) (p : PP) : takeAll s p = ins p s.held := by
  have h := insF p s.held []
  unfold takeAll insK
  rw [List.take_length]
  simpa using h
theorem ins_mem {p x : PP} : ∀ {xs : List PP}, x ∈ ins p xs ↔ x = p ∨ x ∈ xs
  | [] => by simp [ins]
  | y :: ys => by
    unfold ins
    split
    · simp
    · rw [List.mem_cons, ins_mem (xs := ys), List.mem_cons]
      constructor
      · rintro (h | h | h)
        · exact .inr (.inl h)
        · exact .inl h
        · exact .inr (.inr h)
      · rintro (h | h | h)
        · exact .inr (.inl h)
        · exact .inl h
        · exact .inr (.inr h)
abbrev Asc (l : List PP) : Prop := l.Pairwise fun a b => a.seq < b.seq
theorem ins_asc {p : PP} : ∀ {xs : List PP}, Asc xs → (∀ x ∈ xs, x.seq ≠ p.seq) → Asc (ins p xs)
  | [], _, _ => by simp [ins, Asc]
  | y :: ys, h, hne => by
    rw [Asc, List.pairwise_cons] at h
    have h0 := hne y (by simp)
    unfold ins
    split
    · rename_i hlt
      rw [Asc, List.pairwise_cons, List.pairwise_cons]
      refine ⟨fun a ha => ?_, h⟩
      rcases List.mem_cons.1 ha with rfl | ha
      · exact hlt
      · have := h.1 a ha; omega
    · rename_i hlt
      rw [Asc, List.pairwise_cons]
      refine ⟨fun a ha => ?_, ins_asc h.2 (fun x hx => hne x (List.mem_cons_of_mem _ hx))⟩
      rcases ins_mem.1 ha with rfl | ha
      · omega
      · exact h.1 a ha
theorem held_lt {s : PI} (h : inOK s = true) : ∀ (j i : Nat) (hj : j < s.held.length) (hij : i < j), (s.held[i]'(by omega)).seq < s.held[j].seq
  | 0, i, _, hij => absurd hij (by omega)
  | j + 1, i, hj, hij => by
    have h1 := (inOK_of h).2 (j + 1) hj
    unfold inW at h1
    rw [Bool.and_eq_true, prevSeq_succ s j (by omega)] at h1
    have h2 := of_decide_eq_true h1.2
    by_cases e : i = j
    · subst e; exact h2.2.1
    · have := held_lt h j i (by omega) (by omega)
      omega
theorem held_asc {s : PI} (h : inOK s = true) : Asc s.held := by
  rw [Asc, List.pairwise_iff_getElem]
  intro i j hi hj hij
  exact held_lt h j i hj hij
theorem held_in {s : PI} (h : inOK s = true) {x : PP} (hx : x ∈ s.held) : s.expect < x.seq ∧ x.seq < s.expect + 8 := by
  obtain ⟨k, hk, rfl⟩ := List.getElem_of_mem hx
  have h1 := (inOK_of h).2 k hk
  unfold inW at h1
  rw [Bool.and_eq_true] at h1
  have h2 := of_decide_eq_true h1.2
  exact ⟨h2.1, h2.2.2⟩
theorem oldB_of {s : PI} {p : PP} (h : oldB s p = false) : s.expect ≤ p.seq ∧ p.seq < s.expect + 8 ∧ ∀ x ∈ s.held, x.seq ≠ p.seq := by
  unfold oldB at h
  rw [Bool.or_eq_false_iff, Bool.or_eq_false_iff, List.any_eq_false] at h
  have h1 := of_decide_eq_false h.1
  have h2 := of_decide_eq_false h.2.1
  exact ⟨by omega, by omega, fun x hx => by simpa using h.2.2 x hx⟩
theorem all_asc {s : PI} {p : PP} (h : takeOK s p = true) (ho : oldB s p = false) : Asc (takeAll s p) := by
  rw [takeAll_ins]
  exact ins_asc (held_asc (takeOK_of h).1) (oldB_of ho).2.2
theorem all_in {s : PI} {p : PP} (h : takeOK s p = true) (ho : oldB s p = false) {x : PP} (hx : x ∈ takeAll s p) : s.expect ≤ x.seq ∧ x.seq < s.expect + 8 := by
  rw [takeAll_ins] at hx
  rcases ins_mem.1 hx with rfl | hx
  · exact ⟨(oldB_of ho).1, (oldB_of ho).2.1⟩
  · have := held_in (takeOK_of h).1 hx
    omega
theorem asc_inj {l : List PP} (h : Asc l) {x y : PP} (hx : x ∈ l) (hy : y ∈ l) (e : x.seq = y.seq) : x = y := by
  rw [Asc, List.pairwise_iff_getElem] at h
  obtain ⟨i, hi, rfl⟩ := List.getElem_of_mem hx
  obtain ⟨j, hj, rfl⟩ := List.getElem_of_mem hy
  by_cases h1 : i < j
  · have := h i j hi hj h1; omega
  · by_cases h2 : j < i
    · have := h j i hj hi h2; omega
    · obtain rfl : i = j := by omega
      rfl
theorem findS_mem {l : List PP} {t : Int} {x : PP} (h : findS l t = some x) : x ∈ l ∧ x.seq = t := by
  unfold findS at h
  exact ⟨List.mem_of_find?_eq_some h, by simpa using List.find?_some h⟩
theorem findS_none {l : List PP} {t : Int} (h : findS l t = none) : ∀ x ∈ l, x.seq ≠ t := by
  unfold findS at h
  rw [List.find?_eq_none] at h
  intro x hx
  simpa using h x hx
theorem findS_same_mem {A B : List PP} (h : Asc B) (hm : ∀ x, x ∈ A ↔ x ∈ B) (t : Int) : findS A t = findS B t := by
  cases ha : findS A t with
  | none =>
    cases hb : findS B t with
    | none => rfl
    | some y => exact absurd (findS_mem hb).2 (findS_none ha y ((hm y).2 (findS_mem hb).1))
  | some x =>
    have hx := findS_mem ha
    cases hb : findS B t with
    | none => exact absurd hx.2 (findS_none hb x ((hm x).1 hx.1))
    | some y =>
      have hy := findS_mem hb
      rw [asc_inj h ((hm x).1 hx.1) hy.1 (by rw [hx.2, hy.2])]
theorem find_all {s : PI} {p : PP} (h : takeOK s p = true) (ho : oldB s p = false) (t : Int) : findS (p :: s.held.reverse) t = findS (takeAll s p) t := by
  refine findS_same_mem (all_asc h ho) (fun x => ?_) t
  rw [takeAll_ins, ins_mem]
  simp
theorem find_next {l : List PP} {e : Int} (h : Asc l) (hlo : ∀ x ∈ l, e ≤ x.seq) {k : Nat} (hk : ∀ i, (hi : i < l.length) → i < k → l[i].seq = e + (i : Int)) :
    (∀ hkl : k < l.length, l[k].seq = e + (k : Int) → findS l (e + (k : Int)) = some l[k]) ∧ ((∀ hkl : k < l.length, ¬ l[k].seq = e + (k : Int)) → findS l (e + (k : Int)) = none) := by
  constructor
  · intro hkl e1
    cases hf : findS l (e + (k : Int)) with
    | none => exact absurd e1 (findS_none hf _ (List.getElem_mem _))
    | some x => rw [asc_inj h (findS_mem hf).1 (List.getElem_mem hkl) (by rw [(findS_mem hf).2, e1])]
  · intro hn
    cases hf : findS l (e + (k : Int)) with
    | none => rfl
    | some x =>
      exfalso
      obtain ⟨hx, ex⟩ := findS_mem hf
      obtain ⟨j, hj, rfl⟩ := List.getElem_of_mem hx
      rw [Asc, List.pairwise_iff_getElem] at h
      by_cases h1 : j < k
      · have := hk j hj h1; omega
      · have hkl : k < l.length := by omega
        have h2 := hn hkl
        by_cases h3 : j = k
        · subst h3; exact h2 ex
        · have h4 := h k j hkl hj (by omega)
          by_cases h5 : k = 0
          · subst h5
            have := hlo l[0] (List.getElem_mem _)
            omega
          · have h6 := h (k - 1) k (by omega) hkl (by omega)
            have h7 := hk (k - 1) (by omega) (by omega)
            omega
theorem ord_filter_step {x : Int} {j : Nat} : ∀ {A : List PP}, Asc A → (A.filter fun y => decide (x ≤ y.seq ∧ y.seq < x + ((j + 1 : Nat) : Int))) = (A.filter fun y => decide (x ≤ y.seq ∧ y.seq < x + (j : Int))) ++ (findS A (x + (j : Int))).toList
  | [], _ => rfl
  | a :: A, h => by
    rw [Asc, List.pairwise_cons] at h
    have ih := ord_filter_step (x := x) (j := j) h.2
    by_cases ha : a.seq = x + (j : Int)
    · have e1 : (A.filter fun y => decide (x ≤ y.seq ∧ y.seq < x + ((j + 1 : Nat) : Int))) = [] := by
        rw [List.filter_eq_nil_iff]
        intro y hy
        have := h.1 y hy
        simp only [decide_eq_true_eq]
        omega
      have e2 : (A.filter fun y => decide (x ≤ y.seq ∧ y.seq < x + (j : Int))) = [] := by
        rw [List.filter_eq_nil_iff]
        intro y hy
        have := h.1 y hy
        simp only [decide_eq_true_eq]
        omega
      rw [findS_same ha, List.filter_cons, List.filter_cons, e1, e2, if_pos (by simp only [decide_eq_true_eq]; omega), if_neg (by simp only [decide_eq_true_eq]; omega)]
      rfl
    · rw [findS_other ha, List.filter_cons, List.filter_cons, ih]
      by_cases hb : x ≤ a.seq ∧ a.seq < x + (j : Int)
      · rw [if_pos (by simp only [decide_eq_true_eq]; omega), if_pos (by simp only [decide_eq_true_eq]; omega)]
        rfl
      · rw [if_neg (by simp only [decide_eq_true_eq]; omega), if_neg (by simp only [decide_eq_true_eq]; omega)]
theorem ordK_filter {A : List PP} (h : Asc A) (x : Int) : ∀ j, ordK A x j = A.filter fun y => decide (x ≤ y.seq ∧ y.seq < x + (j : Int))
  | 0 => by
    rw [ordK_zero, eq_comm, List.filter_eq_nil_iff]
    intro y _
    simp only [decide_eq_true_eq]
    omega
  | j + 1 => by
    rw [ord_filter_step h, ← ordK_filter h x j]
    cases hf : findS A (x + (j : Int)) with
    | none => rw [ordK_no hf]; simp
    | some y => rw [ordK_yes hf]; rfl
theorem ordK_congr {A B : List PP} {x : Int} (h : ∀ t, x ≤ t → findS A t = findS B t) (j : Nat) : ordK A x j = ordK B x j := by
  unfold ordK
  rw [show (fun (i : Nat) => findS A (x + (i : Int))) = fun (i : Nat) => findS B (x + (i : Int)) from funext fun i => h _ (by omega)]
theorem ord_left {l L : List PP} {e : Int} {k : Nat} (h : Asc l) (hin : ∀ x ∈ l, e ≤ x.seq ∧ x.seq < e + 8) (hk : ∀ i, (hi : i < l.length) → i < k → l[i].seq = e + (i : Int))
    (hL : ∀ t, e + (k : Int) ≤ t → findS L t = findS l t) : ordK L (e + (k : Int)) 8 = l.drop k := by
  rw [ordK_congr hL, ordK_filter h]
  have hp := h
  rw [Asc, List.pairwise_iff_getElem] at hp
  conv => lhs; rw [← List.take_append_drop k l]
  rw [List.filter_append]
  have e1 : ((l.take k).filter fun y => decide (e + (k : Int) ≤ y.seq ∧ y.seq < e + (k : Int) + ((8 : Nat) : Int))) = [] := by
    rw [List.filter_eq_nil_iff]
    intro y hy
    obtain ⟨i, hi, rfl⟩ := List.getElem_of_mem hy
    have hi2 : i < k ∧ i < l.length := by rw [List.length_take] at hi; omega
    rw [List.getElem_take]
    have := hk i hi2.2 hi2.1
    simp only [decide_eq_true_eq]
    omega
  rw [e1, List.nil_append, List.filter_eq_self]
  intro y hy
  obtain ⟨i, hi, rfl⟩ := List.getElem_of_mem hy
  have hi2 : k + i < l.length := by simp at hi; omega
  rw [List.getElem_drop]
  have h1 := hin l[k + i] (List.getElem_mem _)
  have h2 : e + (k : Int) ≤ l[k + i].seq := by
    have hkl2 : k < l.length := by omega
    have h3 : e + (k : Int) ≤ l[k].seq := by
      by_cases h5 : k = 0
      · subst h5
        have := (hin l[0] (List.getElem_mem _)).1
        simpa using this
      · have h6 := hp (k - 1) k (by omega) hkl2 (by omega)
        have h7 := hk (k - 1) (by omega) (by omega)
        omega
    by_cases h8 : i = 0
    · subst h8; exact h3
    · have := hp k (k + i) hkl2 hi2 (by omega)
      omega
  simp only [decide_eq_true_eq]
  omega
end Go.Proofs.Ytfaehioeepolhaa
