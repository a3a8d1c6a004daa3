import Derived.Test.YtfppfjklakdlfaaDoorJDecodeMessage31
import Derived.Test.YtfppfjklakdlfaaDoorJDecodeMessage34
namespace Go.Proofs.YtfppfjklakdlfaaDoor
open Go.RowKit
theorem cst_sum {b : List Nat} {n : Nat} : ∀ {k : Nat} {bs : List (List Nat)} {at_ : Nat}, cst b n k = some (bs, at_) → evn (4 * n) + tot bs ≤ at_ ∧ evn (4 * n) + tot bs ≤ b.length := by
  intro k
  induction k with
  | zero =>
    intro bs at_ h
    unfold cst at h
    split at h
    · cases h
    · rename_i hl
      simp only [Option.some.injEq, Prod.mk.injEq] at h
      obtain ⟨rfl, rfl⟩ := h
      exact ⟨by simp [tot], by simp [tot]; omega⟩
  | succ k ih =>
    intro bs at_ h
    cases hc : cst b n k with
    | none => rw [cst_none hc (k + 1) (by omega)] at h; cases h
    | some p =>
      obtain ⟨bs', at'⟩ := p
      rw [cst_next hc] at h
      obtain ⟨h1, h2⟩ := ih hc
      split at h
      · cases h
      · rename_i hl
        simp only [Option.some.injEq, Prod.mk.injEq] at h
        obtain ⟨rfl, rfl⟩ := h
        generalize num ((b.drop (4 * k)).take 4) = L at *
        have hE := (evn_le L).1
        have ht : tot (bs' ++ [(b.drop at').take L]) ≤ tot bs' + L := by
          simp [tot]
          omega
        exact ⟨by omega, by omega⟩
theorem cst_lt {b : List Nat} {n : Nat} (hb : ∀ x ∈ b, x < 256) : ∀ {k : Nat} {bs : List (List Nat)} {at_ : Nat}, cst b n k = some (bs, at_) → ∀ t ∈ bs, ∀ x ∈ t, x < 256 := by
  intro k
  induction k with
  | zero =>
    intro bs at_ h
    unfold cst at h
    split at h
    · cases h
    · simp only [Option.some.injEq, Prod.mk.injEq] at h
      obtain ⟨rfl, rfl⟩ := h
      simp
  | succ k ih =>
    intro bs at_ h
    cases hc : cst b n k with
    | none => rw [cst_none hc (k + 1) (by omega)] at h; cases h
    | some p =>
      obtain ⟨bs', at'⟩ := p
      rw [cst_next hc] at h
      split at h
      · cases h
      · simp only [Option.some.injEq, Prod.mk.injEq] at h
        obtain ⟨rfl, rfl⟩ := h
        intro t ht x hx
        rcases List.mem_append.1 ht with h | h
        · exact ih hc t h x hx
        · simp only [List.mem_singleton] at h
          subst h
          exact hb x (List.mem_of_mem_drop (List.mem_of_mem_take hx))
theorem cst_fits {b : List Nat} {n k at_ : Nat} {bs : List (List Nat)} (h : cst b n k = some (bs, at_)) (hk : k ≤ n) (hb : b.length ≤ 1048576) : totL List.length bs ≤ 1048576 := by
  have h1 := (cst_facts h).1
  have h2 := (cst_sum h).2
  have h3 := evn_le (4 * n)
  rw [totL_tot]
  omega
theorem cst_enc (bs : List (List Nat)) (ht : (join (lensM bs :: bs)).length ≤ 20000) : ∀ k, k ≤ bs.length → cst (join (lensM bs :: bs)) bs.length k = some (bs.take k, (join ((lensM bs :: bs).take (k + 1))).length) := by
  have hJ : ∀ k, k ≤ bs.length → (join ((lensM bs :: bs).take (k + 1))).length ≤ (join (lensM bs :: bs)).length := by
    intro k hk
    have h1 := join_size (lensM bs :: bs) (k + 1) (by simp; omega)
    have h2 := join_size (lensM bs :: bs) (bs.length + 1) (by simp)
    rw [List.take_of_length_le (by simp)] at h2
    rw [h1, h2]
    conv => rhs; rw [← List.take_append_drop (k + 1) (lensM bs :: bs)]
    rw [List.map_append, List.sum_append]
    omega
  intro k
  induction k with
  | zero =>
    intro _
    have h1 := join_size (lensM bs :: bs) 1 (by simp)
    have h2 : (((lensM bs :: bs).take 1).map fun b => evn b.length).sum = evn (4 * bs.length) := by simp [lensM_len]
    rw [h2] at h1
    have h3 := hJ 0 (Nat.zero_le _)
    rw [Nat.zero_add, h1] at h3
    unfold cst
    rw [if_neg (by omega), Nat.zero_add, h1]
    rfl
  | succ k ih =>
    intro hk
    have hk' : k < bs.length := hk
    obtain ⟨s, hs⟩ := join_part (lensM bs :: bs) (k + 1) (by simp; omega)
    have hg : (lensM bs :: bs)[k + 1]'(by simp; omega) = bs[k] := by simp
    rw [hg] at hs
    obtain ⟨s0, hs0⟩ := join_part (lensM bs :: bs) 0 (by simp)
    have hj0 : join ((lensM bs :: bs).take 0) = [] := rfl
    rw [hj0, List.nil_append] at hs0
    simp only [List.getElem_cons_zero] at hs0
    have hjl : (join (lensM bs :: bs)).length = (join ((lensM bs :: bs).take (k + 1))).length + (bs[k].length + s.length) := by rw [hs]; simp
    have hsz : num (((join (lensM bs :: bs)).drop (4 * k)).take 4) = bs[k].length := by
      rw [hs0, lensM_at bs k hk', num_digsM]
      exact Nat.mod_eq_of_lt (by omega)
    have hat : ((join (lensM bs :: bs)).drop (join ((lensM bs :: bs).take (k + 1))).length).take bs[k].length = bs[k] := by
      have e1 : (join (lensM bs :: bs)).drop (join ((lensM bs :: bs).take (k + 1))).length = bs[k] ++ s := by
        conv => lhs; rw [hs]
        rw [List.drop_left]
      rw [e1, List.take_left]
    have hn := join_next (lensM bs :: bs) (k + 1) (by simp; omega)
    rw [hg] at hn
    rw [cst_next (ih (by omega))]
    rw [hsz, if_neg (by omega), hat, hn, List.take_succ_eq_append_getElem hk']
def msgI (xs : List Nat) (bs : List (List Nat)) : PM := ⟨(xs[2]?.getD 0 : Nat), (xs[3]?.getD 0 : Nat), (num ((xs.drop 4).take 2) : Nat), bs⟩
def bodyI (xs : List Nat) : List Nat := (xs.drop 8).take (xs.length - 12)
def decI (xs : List Nat) : Option PM := if xs.length < 12 then none else match cst (bodyI xs) (nB xs) (nB xs) with
  | none => none
  | some (bs, _) => if encR (msgI xs bs) = xs then some (msgI xs bs) else none
theorem decI_short {xs : List Nat} (h : xs.length < 12) : decI xs = none := by unfold decI; rw [if_pos h]
theorem decI_none {xs : List Nat} (h : cst (bodyI xs) (nB xs) (nB xs) = none) : decI xs = none := by
  unfold decI
  split
  · rfl
  · rw [h]
theorem decI_bad {xs : List Nat} {bs : List (List Nat)} {q : Nat} (h : cst (bodyI xs) (nB xs) (nB xs) = some (bs, q)) (h2 : encR (msgI xs bs) ≠ xs) : decI xs = none := by
  unfold decI
  split
  · rfl
  · rw [h]; exact if_neg h2
theorem decI_good {xs : List Nat} {bs : List (List Nat)} {q : Nat} (hl : 12 ≤ xs.length) (h : cst (bodyI xs) (nB xs) (nB xs) = some (bs, q)) (h2 : encR (msgI xs bs) = xs) : decI xs = some (msgI xs bs) := by
  unfold decI
  rw [if_neg (by omega), h]
  exact if_pos h2
theorem decI_eq (xs : List Nat) : decI xs = decR xs := by
  cases hd : decR xs with
  | none =>
    cases hi : decI xs with
    | none => rfl
    | some m =>
      exfalso
      unfold decI at hi
      split at hi
      · cases hi
      · rename_i hl
        split at hi
        · cases hi
        · split at hi
          · rename_i he
            have := decR_of he (fun h => by rw [h] at hl; simp at hl)
            rw [hd] at this
            cases this
          · cases hi
  | some m =>
    obtain ⟨he, hne⟩ := decR_enc hd
    obtain ⟨h1, h2, h3⟩ := encR_some he hne
    have hp := parse_enc h1 h2
    have hb : encB m = headM m.kind.toNat m.field.toNat m.count.toNat m.bufs.length ++ (join (lensM m.bufs :: m.bufs) ++ digs (crcM (bodyM m.kind.toNat m.field.toNat m.count.toNat m.bufs)) 4) := by simp [encB, encM, bodyM]
    obtain ⟨e2, e3, e6, e4⟩ := headM_at m.kind.toNat m.field.toNat m.count.toNat m.bufs.length (join (lensM m.bufs :: m.bufs) ++ digs (crcM (bodyM m.kind.toNat m.field.toNat m.count.toNat m.bufs)) 4)
    rw [← hb] at e2 e3 e6 e4
    have hn : nB (encB m) = m.bufs.length := e6
    have hlen : (encB m).length = 12 + (join (lensM m.bufs :: m.bufs)).length := by rw [hb]; simp [headM_len, digs_len]; omega
    have hbody : bodyI (encB m) = join (lensM m.bufs :: m.bufs) := by
      unfold bodyI
      rw [hlen, Nat.add_sub_cancel_left]
      conv => lhs; rw [hb]
      rw [← headM_len m.kind.toNat m.field.toNat m.count.toNat m.bufs.length, List.drop_left, List.take_left]
    have hc := cst_enc m.bufs (by omega) m.bufs.length (Nat.le_refl _)
    rw [List.take_length] at hc
    have hm : msgI (encB m) m.bufs = m := by
      have hm' := hp
      unfold parseM at hm'
      rw [if_neg (by omega), hn] at hm'
      have hpp := pst_enc m.kind.toNat m.field.toNat m.count.toNat m.bufs h2 m.bufs.length (Nat.le_refl _)
      rw [List.take_length] at hpp
      have hp' : pst (encB m) m.bufs.length m.bufs.length = some (m.bufs, 8 + (join ((lensM m.bufs :: m.bufs).take (m.bufs.length + 1))).length) := hpp
      rw [hp'] at hm'
      simpa [msgI] using hm'
    rw [← h3]
    have hfin := decI_good (xs := encB m) (bs := m.bufs) (by omega) (by rw [hbody, hn]; exact hc) (by rw [hm, he, h3])
    rw [hfin, hm]
end Go.Proofs.YtfppfjklakdlfaaDoor
