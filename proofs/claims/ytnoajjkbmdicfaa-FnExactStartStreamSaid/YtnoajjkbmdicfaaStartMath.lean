/- What StartStream answers, plainly. No program. -/
import Derived.Test.YtnoajjkbmdicfaaStrm
import Derived.Test.YtnoajjkbmdicfaaFldMath
import Derived.Test.YtnoajjkbmdicfaaMsgMath
namespace Go.Proofs.Ytnoajjkbmdicfaa
open Go.RowKit

def hdrF (f : PF) : List Nat := f.kind.toNat :: f.width.toNat :: f.name
def hdrB (fs : List PF) (n : Nat) : List (List Nat) := digs n 8 :: fs.map hdrF
def startOK (fs : List PF) (next : Int) : Bool := fieldsOK fs && decide (0 ≤ next ∧ next ≤ 1000000000)
def startS (fs : List PF) (next : Int) : PStr := if startOK fs next = true then ⟨true, fs, next, List.replicate fs.length []⟩ else ⟨false, [], 0, []⟩
def startB (fs : List PF) (next : Int) : List Nat := if startOK fs next = true then encM 1 0 fs.length (hdrB fs next.toNat) else []
def startC (fs : List PF) (next : Int) : Int := if startOK fs next = true then 0 else 1

theorem okTo_at {fs : List PF} : ∀ m, okTo fs m = true → ∀ k, k < m → (h : k < fs.length) → fieldOK fs[k] = true := by
  intro m
  induction m with
  | zero => intro _ k h; omega
  | succ m ih =>
    intro h k hk hl
    simp only [okTo, Bool.and_eq_true] at h
    by_cases e : k = m
    · subst e
      have h2 := h.2
      rw [List.getElem?_eq_getElem hl] at h2
      simp only [Bool.and_eq_true] at h2
      exact h2.1
    · exact ih h.1 k (by omega) hl
/-- What a valid field keeps to. -/
theorem fieldOK_bounds {f : PF} (h : fieldOK f = true) : 1 ≤ f.name.length ∧ f.name.length ≤ 20 ∧ 0 ≤ f.kind ∧ f.kind ≤ 3 ∧ 0 ≤ f.width ∧ f.width ≤ 8 := by
  simp only [fieldOK, nameOK, Bool.and_eq_true, decide_eq_true_eq] at h
  obtain ⟨⟨⟨h1, h2⟩, _⟩, h3⟩ := h
  refine ⟨h1, h2, ?_⟩
  unfold kindOK at h3
  split at h3
  · rename_i e
    simp only [widthOK, decide_eq_true_eq] at h3
    omega
  · simp only [Bool.and_eq_true, decide_eq_true_eq] at h3
    omega
theorem fieldsOK_bounds {fs : List PF} (h : fieldsOK fs = true) : fs.length ≤ 12 ∧ ∀ k, (hk : k < fs.length) → 1 ≤ fs[k].name.length ∧ fs[k].name.length ≤ 20 ∧ 0 ≤ fs[k].kind ∧ fs[k].kind ≤ 3 ∧ 0 ≤ fs[k].width ∧ fs[k].width ≤ 8 := by
  simp only [fieldsOK, Bool.and_eq_true, decide_eq_true_eq] at h
  exact ⟨h.1.2, fun k hk => fieldOK_bounds (okTo_at _ h.2 k hk hk)⟩
theorem hdrB_len (fs : List PF) (n : Nat) : (hdrB fs n).length = fs.length + 1 := by simp [hdrB]
theorem hdrB_take (fs : List PF) (n k : Nat) (h : k < fs.length) : (hdrB fs n).take (k + 2) = (hdrB fs n).take (k + 1) ++ [hdrF fs[k]] := by
  have e : hdrF fs[k] = (fs.map hdrF)[k]'(by simpa using h) := by simp
  show (digs n 8 :: fs.map hdrF).take (k + 1 + 1) = (digs n 8 :: fs.map hdrF).take (k + 1) ++ [hdrF fs[k]]
  rw [List.take_succ_cons, List.take_succ_cons, List.take_succ_eq_append_getElem (by simpa using h), e]
  rfl
theorem hdr_tot {fs : List PF} (n : Nat) (h : fieldsOK fs = true) : tot (hdrB fs n) ≤ 272 := by
  obtain ⟨hl, hb⟩ := fieldsOK_bounds h
  have key : ∀ k, k ≤ fs.length → tot ((fs.map hdrF).take k) ≤ 22 * k := by
    intro k
    induction k with
    | zero => intro _; simp [tot]
    | succ k ih =>
      intro hk
      rw [tot_snoc _ k (by simp; omega)]
      have := ih (by omega)
      have := hb k hk
      simp [hdrF]
      omega
  have h1 := key fs.length (Nat.le_refl _)
  rw [List.take_of_length_le (by simp)] at h1
  have h2 : tot (hdrB fs n) = 8 + tot (fs.map hdrF) := by simp [hdrB, tot, digs_len]
  omega
theorem evn_tot (xss : List (List Nat)) : (xss.map fun b => evn b.length).sum ≤ tot xss + 7 * xss.length := by
  induction xss with
  | nil => simp [tot]
  | cons x l ih =>
    have := evn_le x.length
    simp [tot] at ih ⊢
    omega
theorem join_le (xss : List (List Nat)) : (join xss).length ≤ tot xss + 7 * xss.length := by
  have key : ∀ k, k ≤ xss.length → (join (xss.take k)).length ≤ tot (xss.take k) + 7 * k := by
    intro k
    induction k with
    | zero => intro _; simp [join]
    | succ k ih =>
      intro h
      rw [join_next xss k h, tot_snoc xss k h]
      have := ih (by omega)
      have := (evn_le xss[k].length).2.1
      omega
  have := key xss.length (Nat.le_refl _)
  rwa [List.take_length] at this
theorem hdr_fits {fs : List PF} (n : Nat) (h : fieldsOK fs = true) : (encM 1 0 fs.length (hdrB fs n)).length ≤ 20000 := by
  have h1 := hdr_tot n h
  have h2 := join_le (lensM (hdrB fs n) :: hdrB fs n)
  have h3 : tot (lensM (hdrB fs n) :: hdrB fs n) = 4 * (hdrB fs n).length + tot (hdrB fs n) := by simp [tot, lensM_len]
  have h4 := (fieldsOK_bounds h).1
  rw [hdrB_len] at h3
  simp only [encM, bodyM, List.length_append, headM_len, digs_len]
  simp only [List.length_cons, hdrB_len] at h2
  omega

end Go.Proofs.Ytnoajjkbmdicfaa
