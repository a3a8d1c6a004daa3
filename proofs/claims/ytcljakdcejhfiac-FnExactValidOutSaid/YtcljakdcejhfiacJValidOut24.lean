import Derived.Test.YtcljakdcejhfiacJValidOut21
import Derived.Test.YtcljakdcejhfiacJValidOut23
namespace Go.Proofs.Ytcljakdcejhfiac
open Go.RowKit
def outW (o : PO) (i : Nat) (s : PW) : Bool := dataB s.pkt o.epoch && decide (s.pkt.seq = o.next - o.wait.length + i ∧ -1 ≤ s.at_ ∧ s.at_ ≤ o.now)
abbrev OutH (o : PO) : Prop := 1 ≤ o.epoch ∧ o.epoch ≤ 1000000000 ∧ 0 ≤ o.next ∧ o.next ≤ 1000000000000 ∧ 0 ≤ o.now ∧ o.now ≤ 1000000000 ∧ o.wait.length ≤ 300
def outOK (o : PO) : Bool := decide (OutH o) && (List.range o.wait.length).all fun i => match o.wait[i]? with | some s => outW o i s | none => true
theorem outOK_head {o : PO} (h : ¬ OutH o) : outOK o = false := by unfold outOK; rw [decide_eq_false h]; rfl
theorem outOK_at {o : PO} {k : Nat} (hk : k < o.wait.length) (h : outW o k o.wait[k] = false) : outOK o = false := by
  unfold outOK
  rw [Bool.and_eq_false_iff]
  refine .inr ?_
  rw [List.all_eq_false]
  refine ⟨k, List.mem_range.2 hk, ?_⟩
  simp [hk, h]
theorem outOK_all {o : PO} (h : OutH o) (ha : ∀ k, (hk : k < o.wait.length) → outW o k o.wait[k] = true) : outOK o = true := by
  unfold outOK
  rw [decide_eq_true h, Bool.true_and, List.all_eq_true]
  intro i hi
  have hi' := List.mem_range.1 hi
  simp [hi', ha i hi']
end Go.Proofs.Ytcljakdcejhfiac
