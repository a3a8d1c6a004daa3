import Derived.Test.YtfaehioeepolhaaJLinkTake38
import Derived.Test.YtfaehioeepolhaaJLinkTake4
namespace Go.Proofs.Ytfaehioeepolhaa
open Go.RowKit
theorem asc_ge {l : List PP} {e : Int} (h : Asc l) (hlo : ∀ x ∈ l, e ≤ x.seq) : ∀ i, (hi : i < l.length) → e + (i : Int) ≤ l[i].seq
  | 0, hi => by have := hlo l[0] (List.getElem_mem _); simpa using this
  | i + 1, hi => by
    have ih := asc_ge h hlo i (by omega)
    have hp := h
    rw [Asc, List.pairwise_iff_getElem] at hp
    have := hp i (i + 1) (by omega) hi (by omega)
    omega
theorem asc_len {l : List PP} {e : Int} (h : Asc l) (hin : ∀ x ∈ l, e ≤ x.seq ∧ x.seq < e + 8) : l.length ≤ 8 := by
  by_cases hl : l.length ≤ 8
  · exact hl
  · have h1 := asc_ge h (fun x hx => (hin x hx).1) 8 (by omega)
    have h2 := (hin l[8] (List.getElem_mem _)).2
    omega
theorem sum_le {l : List PP} (h : ∀ x ∈ l, x.data.length ≤ 100) : (l.map pN).sum ≤ 100 * l.length := by
  induction l with
  | nil => simp
  | cons x xs ih =>
    have h1 := ih (fun y hy => h y (List.mem_cons_of_mem _ hy))
    have h2 := h x (by simp)
    simp only [List.map_cons, List.sum_cons, List.length_cons, pN] at h1 ⊢
    omega
theorem tot_app1 (xss : List (List Nat)) (y : List Nat) : tot (xss ++ [y]) = tot xss + y.length := by simp [tot]
theorem ptK_tot (s : PI) (l : List PP) (h : ∀ x ∈ l, x.data.length ≤ 100) : ∀ d, d ≤ l.length → tot (ptK s l d).2 + (ptK s l d).1.length ≤ s.part.length + 100 * d
  | 0, _ => by simp [ptK, tot]
  | d + 1, hd => by
    have ih := ptK_tot s l h d (by omega)
    have hx := h l[d] (List.getElem_mem _)
    rw [ptK_succ s l d (by omega)]
    unfold stepT
    split
    · rw [tot_app1]; simp only [List.length_append, List.length_nil]; omega
    · simp only [List.length_append]; omega
theorem runT_le (s : PI) (l : List PP) : ∀ f d r, d + f ≤ l.length → runT s l f d = some r → r ≤ l.length
  | 0, d, r, h, e => by simp [runT] at e; omega
  | f + 1, d, r, h, e => by
    unfold runT at e
    rw [List.getElem?_eq_getElem (by omega)] at e
    simp only at e
    split at e
    · split at e
      · exact runT_le s l f (d + 1) r (by omega) e
      · cases e
    · simp only [Option.some.injEq] at e; omega
theorem take_tot {s : PI} {p : PP} (ht : tIn s ≤ 1048576) : tIn (takeI s p) ≤ 1048576 ∧ (takeG s p).length ≤ 1000 ∧ tot (takeG s p) ≤ 100000 := by
  cases hk : takeOK s p with
  | false =>
    obtain ⟨h1, h2, -⟩ := take_no hk
    rw [h1, h2]
    exact ⟨by simp [tIn, noIn, totL], by simp, by simp [tot]⟩
  | true =>
    cases ho : oldB s p with
    | true =>
      obtain ⟨h1, h2, -⟩ := take_old hk ho
      rw [h1, h2]
      exact ⟨ht, by simp, by simp [tot]⟩
    | false =>
      cases hd : takeD s p with
      | none =>
        obtain ⟨h1, h2, -⟩ := take_bad hk ho hd
        rw [h1, h2]
        exact ⟨ht, by simp, by simp [tot]⟩
      | some d =>
        obtain ⟨h1, h2, -⟩ := take_yes hk ho hd
        rw [h1, h2]
        have hl := asc_len (all_asc hk ho) (fun x hx => all_in hk ho hx)
        have hdt : ∀ x ∈ takeAll s p, x.data.length ≤ 100 := fun x hx => (dataB_of (takeAll_data hk x hx)).2.1
        have hdl : d ≤ (takeAll s p).length := runT_le s _ _ 0 d (by omega) hd
        have hpt : s.part.length ≤ 20000 := (inOK_of (takeOK_of hk).1).1.2.2.2.2
        have h3 := ptK_tot s (takeAll s p) hdt d hdl
        have h4 := ptK_msgs s (takeAll s p) d hdl
        have h5 := sum_le (l := (takeAll s p).drop d) (fun x hx => hdt x (List.mem_of_mem_drop hx))
        have h6 : ((takeAll s p).drop d).length ≤ 8 := by rw [List.length_drop]; omega
        refine ⟨?_, by omega, by omega⟩
        unfold tIn totL
        simp only
        omega
end Go.Proofs.Ytfaehioeepolhaa
