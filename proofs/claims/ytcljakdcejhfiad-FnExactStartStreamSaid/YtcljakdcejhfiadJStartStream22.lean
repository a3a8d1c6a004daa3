import Derived.Test.YtcljakdcejhfiadJStartStream4
import Derived.Test.YtcljakdcejhfiadJStartStream20
import Derived.Test.YtcljakdcejhfiadJStartStream16
namespace Go.Proofs.Ytcljakdcejhfiad
def nameB (c : Nat) : Bool := (decide (97 ≤ c) && decide (c ≤ 122)) || (decide (65 ≤ c) && decide (c ≤ 90)) || (decide (48 ≤ c) && decide (c ≤ 57)) || decide (c = 95)
theorem nameB_split (c : Nat) : ((c < 48 ∨ (58 ≤ c ∧ c ≤ 64) ∨ (91 ≤ c ∧ c ≤ 94) ∨ c = 96 ∨ 123 ≤ c) ∧ nameB c = false) ∨ (((48 ≤ c ∧ c ≤ 57) ∨ (65 ≤ c ∧ c ≤ 90) ∨ c = 95 ∨ (97 ≤ c ∧ c ≤ 122)) ∧ nameB c = true) := by
  by_cases h : c < 48 ∨ (58 ≤ c ∧ c ≤ 64) ∨ (91 ≤ c ∧ c ≤ 94) ∨ c = 96 ∨ 123 ≤ c
  · refine .inl ⟨h, ?_⟩
    simp [nameB]; omega
  · refine .inr ⟨by omega, ?_⟩
    simp [nameB]; omega
def nameOK (n : List Nat) : Bool := decide (1 ≤ n.length) && decide (n.length ≤ 20) && n.all nameB
def widthOK (w : Int) : Bool := decide (w = 1 ∨ w = 2 ∨ w = 4 ∨ w = 8)
def kindOK (f : PF) : Bool := if f.kind = 1 then widthOK f.width else decide (0 ≤ f.kind) && decide (f.kind ≤ 3) && decide (f.width = 0)
def fieldOK (f : PF) : Bool := nameOK f.name && kindOK f
def taken (fs : List PF) (n : List Nat) : Bool := fs.any fun f => decide (f.name = n)
def okTo (fs : List PF) : Nat → Bool
  | 0 => true
  | k + 1 => okTo fs k && (match fs[k]? with | some f => fieldOK f && !taken (fs.take k) f.name | none => true)
def fieldsOK (fs : List PF) : Bool := decide (1 ≤ fs.length) && decide (fs.length ≤ 12) && okTo fs fs.length
theorem okTo_bad {fs : List PF} {k : Nat} (h : okTo fs k = false) : ∀ m, k ≤ m → okTo fs m = false := by
  intro m hm
  induction m with
  | zero => have : k = 0 := by omega
            subst this; exact h
  | succ m ih =>
    by_cases e : k = m + 1
    · subst e; exact h
    · simp [okTo, ih (by omega)]
theorem okTo_succ {fs : List PF} {k : Nat} (hk : k < fs.length) : okTo fs (k + 1) = (okTo fs k && (fieldOK fs[k] && !taken (fs.take k) fs[k].name)) := by simp [okTo, hk]
theorem fieldsOK_bad {fs : List PF} {k : Nat} (hk : k < fs.length) (h : fieldOK fs[k] = false ∨ taken (fs.take k) fs[k].name = true) : fieldsOK fs = false := by
  have : okTo fs (k + 1) = false := by rw [okTo_succ hk]; rcases h with h | h <;> simp [h]
  simp [fieldsOK, okTo_bad this fs.length (by omega)]
theorem taken_at {fs : List PF} {n : List Nat} {k : Nat} (hk : k < fs.length) (h : fs[k].name = n) : taken fs n = true := by
  simp only [taken, List.any_eq_true, decide_eq_true_eq]
  exact ⟨fs[k], List.getElem_mem hk, h⟩
theorem not_taken {fs : List PF} {n : List Nat} (h : ∀ k, (hk : k < fs.length) → fs[k].name ≠ n) : taken fs n = false := by
  simp only [taken, List.any_eq_false, decide_eq_true_eq]
  intro f hf
  obtain ⟨k, hk, rfl⟩ := List.getElem_of_mem hf
  exact h k hk
theorem all_bad {xs : List Nat} {p : Nat → Bool} {k : Nat} (hk : k < xs.length) (h : p xs[k] = false) : xs.all p = false := by
  simp only [List.all_eq_false]
  exact ⟨xs[k], List.getElem_mem hk, by simp [h]⟩
theorem all_ok {xs : List Nat} {p : Nat → Bool} (h : ∀ k, (hk : k < xs.length) → p xs[k] = true) : xs.all p = true := by
  simp only [List.all_eq_true]
  intro x hx
  obtain ⟨k, hk, rfl⟩ := List.getElem_of_mem hx
  exact h k hk
end Go.Proofs.Ytcljakdcejhfiad
namespace Go.Proofs.Ytcljakdcejhfiad
open Go.RowKit
def hdrF (f : PF) : List Nat := f.kind.toNat :: f.width.toNat :: f.name
def hdrB (fs : List PF) (n : Nat) : List (List Nat) := digs n 8 :: fs.map hdrF
def startOK (fs : List PF) (next : Int) : Bool := fieldsOK fs && decide (0 ≤ next ∧ next ≤ 1000000000)
def startS (fs : List PF) (next : Int) : PStr := if startOK fs next = true then ⟨true, fs, next, List.replicate fs.length []⟩ else ⟨false, [], 0, []⟩
def startB (fs : List PF) (next : Int) : List Nat := if startOK fs next = true then encM 1 0 fs.length (hdrB fs next.toNat) else []
def startC (fs : List PF) (next : Int) : Int := if startOK fs next = true then 0 else 1
theorem okTo_at {fs : List PF} : ∀ m, okTo fs m = true → ∀ k, k < m → (h : k < fs.length) → fieldOK fs[k] = true := by
  intro m
  induction m with
  | zero => intro _ k h; omega
  | succ m ih =>
    intro h k hk hl
    simp only [okTo, Bool.and_eq_true] at h
    by_cases e : k = m
    · subst e
      have h2 := h.2
      rw [List.getElem?_eq_getElem hl] at h2
      simp only [Bool.and_eq_true] at h2
      exact h2.1
    · exact ih h.1 k (by omega) hl
theorem fieldOK_bounds {f : PF} (h : fieldOK f = true) : 1 ≤ f.name.length ∧ f.name.length ≤ 20 ∧ 0 ≤ f.kind ∧ f.kind ≤ 3 ∧ 0 ≤ f.width ∧ f.width ≤ 8 := by
  simp only [fieldOK, nameOK, Bool.and_eq_true, decide_eq_true_eq] at h
  obtain ⟨⟨⟨h1, h2⟩, _⟩, h3⟩ := h
  refine ⟨h1, h2, ?_⟩
  unfold kindOK at h3
  split at h3
  · rename_i e
    simp only [widthOK, decide_eq_true_eq] at h3
    omega
  · simp only [Bool.and_eq_true, decide_eq_true_eq] at h3
    omega
theorem fieldsOK_bounds {fs : List PF} (h : fieldsOK fs = true) : fs.length ≤ 12 ∧ ∀ k, (hk : k < fs.length) → 1 ≤ fs[k].name.length ∧ fs[k].name.length ≤ 20 ∧ 0 ≤ fs[k].kind ∧ fs[k].kind ≤ 3 ∧ 0 ≤ fs[k].width ∧ fs[k].width ≤ 8 := by
  simp only [fieldsOK, Bool.and_eq_true, decide_eq_true_eq] at h
  exact ⟨h.1.2, fun k hk => fieldOK_bounds (okTo_at _ h.2 k hk hk)⟩
theorem hdrB_len (fs : List PF) (n : Nat) : (hdrB fs n).length = fs.length + 1 := by simp [hdrB]
theorem hdrB_take (fs : List PF) (n k : Nat) (h : k < fs.length) : (hdrB fs n).take (k + 2) = (hdrB fs n).take (k + 1) ++ [hdrF fs[k]] := by
  have e : hdrF fs[k] = (fs.map hdrF)[k]'(by simpa using h) := by simp
  show (digs n 8 :: fs.map hdrF).take (k + 1 + 1) = (digs n 8 :: fs.map hdrF).take (k + 1) ++ [hdrF fs[k]]
  rw [List.take_succ_cons, List.take_succ_cons, List.take_succ_eq_append_getElem (by simpa using h), e]
  rfl
theorem hdr_tot {fs : List PF} (n : Nat) (h : fieldsOK fs = true) : tot (hdrB fs n) ≤ 272 := by
  obtain ⟨hl, hb⟩ := fieldsOK_bounds h
  have key : ∀ k, k ≤ fs.length → tot ((fs.map hdrF).take k) ≤ 22 * k := by
    intro k
    induction k with
    | zero => intro _; simp [tot]
    | succ k ih =>
      intro hk
      rw [tot_snoc _ k (by simp; omega)]
      have := ih (by omega)
      have := hb k hk
      simp [hdrF]
      omega
  have h1 := key fs.length (Nat.le_refl _)
  rw [List.take_of_length_le (by simp)] at h1
  have h2 : tot (hdrB fs n) = 8 + tot (fs.map hdrF) := by simp [hdrB, tot, digs_len]
  omega
theorem join_le (xss : List (List Nat)) : (join xss).length ≤ tot xss + 7 * xss.length := by
  have key : ∀ k, k ≤ xss.length → (join (xss.take k)).length ≤ tot (xss.take k) + 7 * k := by
    intro k
    induction k with
    | zero => intro _; simp [join]
    | succ k ih =>
      intro h
      rw [join_next xss k h, tot_snoc xss k h]
      have := ih (by omega)
      have := (evn_le xss[k].length).2.1
      omega
  have := key xss.length (Nat.le_refl _)
  rwa [List.take_length] at this
theorem hdr_fits {fs : List PF} (n : Nat) (h : fieldsOK fs = true) : (encM 1 0 fs.length (hdrB fs n)).length ≤ 20000 := by
  have h1 := hdr_tot n h
  have h2 := join_le (lensM (hdrB fs n) :: hdrB fs n)
  have h3 : tot (lensM (hdrB fs n) :: hdrB fs n) = 4 * (hdrB fs n).length + tot (hdrB fs n) := by simp [tot, lensM_len]
  have h4 := (fieldsOK_bounds h).1
  rw [hdrB_len] at h3
  simp only [encM, bodyM, List.length_append, headM_len, digs_len]
  simp only [List.length_cons, hdrB_len] at h2
  omega
end Go.Proofs.Ytcljakdcejhfiad
