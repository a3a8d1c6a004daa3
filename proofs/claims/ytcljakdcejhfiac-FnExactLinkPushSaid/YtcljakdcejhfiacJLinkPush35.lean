import Derived.Test.YtcljakdcejhfiacJLinkPush32
import Derived.Test.YtcljakdcejhfiacJLinkPush11
import Derived.Test.YtcljakdcejhfiacJLinkPush34
import Derived.Test.YtcljakdcejhfiacJLinkPush26
import Derived.Test.YtcljakdcejhfiacJLinkPush5
import Derived.Test.YtcljakdcejhfiacJLinkPush9
import Derived.Test.YtcljakdcejhfiacJLinkPush16
namespace Go.Proofs.Ytcljakdcejhfiac
open Go.RowKit
def fcRowD (lo : Nat) (D : List Nat) : Fct := ⟨fun v w => w.ownsRow lo 5 1 v D.length (byt D), fun _ _ _ h hb => own_later h hb⟩
def fcNewD (lo : Nat) : Fct := ⟨fun v w => ∃ g, v = .pointer (some ⟨g, 0, none⟩) ∧ lo ≤ g ∧ w.heap[g]? = some (.cells #[.int .i64 0, .int .i64 0, .int .i64 0, .int .i64 0, .bool false, .slice none 0 0] 83 (0, 0)), fun _ _ _ ⟨g, e, l, h⟩ hb => ⟨g, e, l, (hb.block _ (Array.getElem?_eq_some_iff.1 h).1).trans h⟩⟩
theorem box_far {w : World} {gm : Nat} {cs : Array Value} {t : TypeId} {B n s : Nat} {e : TypeId} {u : Value} {vs : List Value} {k : Nat} (hb : w.heap[gm]? = some (.cells cs t (0, 0))) (ho : w.ownsRow B e s u n vs) (hne : e ≠ t) (hk : u.ownBlock = some k) : k ≠ gm := by
  intro he
  subst he
  rcases ho.2 with ⟨rfl, _⟩ | ⟨g, cap, cur, rfl, _, hh, _⟩
  · simp [Value.ownBlock] at hk
  · simp [Value.ownBlock] at hk
    subst hk
    rw [hb] at hh
    simp at hh
    exact hne hh.2.symm
end Go.Proofs.Ytcljakdcejhfiac
namespace Go.Proofs.Ytcljakdcejhfiac
def dataB (p : PP) (e : Int) : Bool := pktOK p && (decide (p.kind = 1) && decide (p.epoch = e))
end Go.Proofs.Ytcljakdcejhfiac
namespace Go.Proofs.Ytcljakdcejhfiac
open Go.RowKit
def outW (o : PO) (i : Nat) (s : PW) : Bool := dataB s.pkt o.epoch && decide (s.pkt.seq = o.next - o.wait.length + i ∧ -1 ≤ s.at_ ∧ s.at_ ≤ o.now)
abbrev OutH (o : PO) : Prop := 1 ≤ o.epoch ∧ o.epoch ≤ 1000000000 ∧ 0 ≤ o.next ∧ o.next ≤ 1000000000000 ∧ 0 ≤ o.now ∧ o.now ≤ 1000000000 ∧ o.wait.length ≤ 300
def outOK (o : PO) : Bool := decide (OutH o) && (List.range o.wait.length).all fun i => match o.wait[i]? with | some s => outW o i s | none => true
theorem outOK_head {o : PO} (h : ¬ OutH o) : outOK o = false := by unfold outOK; rw [decide_eq_false h]; rfl
theorem outOK_at {o : PO} {k : Nat} (hk : k < o.wait.length) (h : outW o k o.wait[k] = false) : outOK o = false := by
  unfold outOK
  rw [Bool.and_eq_false_iff]
  refine .inr ?_
  rw [List.all_eq_false]
  refine ⟨k, List.mem_range.2 hk, ?_⟩
  simp [hk, h]
theorem outOK_all {o : PO} (h : OutH o) (ha : ∀ k, (hk : k < o.wait.length) → outW o k o.wait[k] = true) : outOK o = true := by
  unfold outOK
  rw [decide_eq_true h, Bool.true_and, List.all_eq_true]
  intro i hi
  have hi' := List.mem_range.1 hi
  simp [hi', ha i hi']
theorem outOK_of {o : PO} (h : outOK o = true) : OutH o ∧ ∀ k, (hk : k < o.wait.length) → outW o k o.wait[k] = true := by
  unfold outOK at h
  rw [Bool.and_eq_true, List.all_eq_true] at h
  refine ⟨of_decide_eq_true h.1, fun k hk => ?_⟩
  have := h.2 k (List.mem_range.2 hk)
  simpa [hk] using this
end Go.Proofs.Ytcljakdcejhfiac
