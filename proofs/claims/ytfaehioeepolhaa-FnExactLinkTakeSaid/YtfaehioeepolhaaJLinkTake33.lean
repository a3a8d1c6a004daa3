import Derived.Test.YtfaehioeepolhaaJLinkTake9
import Derived.Test.YtfaehioeepolhaaJLinkTake15
namespace Go.Proofs.Ytfaehioeepolhaa
def dataB (p : PP) (e : Int) : Bool := pktOK p && (decide (p.kind = 1) && decide (p.epoch = e))
end Go.Proofs.Ytfaehioeepolhaa
namespace Go.Proofs.Ytfaehioeepolhaa
open Go.RowKit
def prevSeq (s : PI) (k : Nat) : Int := if k = 0 then s.expect else (s.held[k - 1]?.map PP.seq).getD 0
def inW (s : PI) (k : Nat) (p : PP) : Bool := dataB p s.epoch && decide (s.expect < p.seq ∧ prevSeq s k < p.seq ∧ p.seq < s.expect + 8)
abbrev InH (s : PI) : Prop := 0 ≤ s.epoch ∧ s.epoch ≤ 1000000000 ∧ 0 ≤ s.expect ∧ s.expect ≤ 1000000000000 ∧ s.part.length ≤ 20000
def inOK (s : PI) : Bool := decide (InH s) && (List.range s.held.length).all fun i => match s.held[i]? with | some p => inW s i p | none => true
theorem inOK_head {s : PI} (h : ¬ InH s) : inOK s = false := by unfold inOK; rw [decide_eq_false h]; rfl
theorem inOK_at {s : PI} {k : Nat} (hk : k < s.held.length) (h : inW s k s.held[k] = false) : inOK s = false := by
  unfold inOK
  rw [Bool.and_eq_false_iff]
  refine .inr ?_
  rw [List.all_eq_false]
  refine ⟨k, List.mem_range.2 hk, ?_⟩
  simp [hk, h]
theorem inOK_all {s : PI} (h : InH s) (ha : ∀ k, (hk : k < s.held.length) → inW s k s.held[k] = true) : inOK s = true := by
  unfold inOK
  rw [decide_eq_true h, Bool.true_and, List.all_eq_true]
  intro i hi
  have hi' := List.mem_range.1 hi
  simp [hi', ha i hi']
theorem inOK_of {s : PI} (h : inOK s = true) : InH s ∧ ∀ k, (hk : k < s.held.length) → inW s k s.held[k] = true := by
  unfold inOK at h
  rw [Bool.and_eq_true, List.all_eq_true] at h
  refine ⟨of_decide_eq_true h.1, fun k hk => ?_⟩
  have := h.2 k (List.mem_range.2 hk)
  simpa [hk] using this
theorem prevSeq_succ (s : PI) (k : Nat) (h : k < s.held.length) : prevSeq s (k + 1) = s.held[k].seq := by
  unfold prevSeq
  rw [if_neg (by omega), Nat.add_sub_cancel, List.getElem?_eq_getElem h]; rfl
theorem prevSeq_ge {s : PI} {k : Nat} (hk : k ≤ s.held.length) (h : ∀ j, (hj : j < s.held.length) → j < k → inW s j s.held[j] = true) : s.expect ≤ prevSeq s k := by
  cases k with
  | zero => exact Int.le_refl _
  | succ k =>
    have h1 := h k (by omega) (by omega)
    rw [prevSeq_succ s k (by omega)]
    unfold inW at h1
    rw [Bool.and_eq_true] at h1
    have h2 := of_decide_eq_true h1.2
    omega
end Go.Proofs.Ytfaehioeepolhaa
