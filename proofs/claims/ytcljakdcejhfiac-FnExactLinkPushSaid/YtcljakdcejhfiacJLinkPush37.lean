/- PkDecKit, DataB, OutMath. -/
import Derived.Test.YtcljakdcejhfiacJLinkPush34
import Derived.Test.YtcljakdcejhfiacJLinkPush13
import Derived.Test.YtcljakdcejhfiacJLinkPush36
import Derived.Test.YtcljakdcejhfiacJLinkPush28
import Derived.Test.YtcljakdcejhfiacJLinkPush6
import Derived.Test.YtcljakdcejhfiacJLinkPush10
import Derived.Test.YtcljakdcejhfiacJLinkPush18
/- A packet and a code: what the decoders leave. -/
namespace Go.Proofs.Ytcljakdcejhfiac
open Go.RowKit

def PdPost (w : World) (p : PP) (C : Int) (e : Ending) (w' : World) : Prop :=
  ∃ a c, e = .returned (.tuple #[.agg #[.int .i64 p.kind, .int .i64 p.epoch, .int .i64 p.seq, .int .i64 p.count, .bool p.last, .slice a p.data.length c], .int .i64 C]) ∧ w'.ownsRow w.heap.size 5 1 (.slice a p.data.length c) p.data.length (byt p.data) ∧ Below w.heap.size w w'
theorem pdPost_nil {w w' : World} {p : PP} {C C' : Int} (hb : Below w.heap.size w w') (hp : p = noPkt) (hC : C = C') : PdPost w p C (.returned (.tuple #[.agg #[.int .i64 0, .int .i64 0, .int .i64 0, .int .i64 0, .bool false, .slice none 0 0], .int .i64 C'])) w' := by
  subst hp hC
  exact ⟨none, 0, rfl, World.ownsRow_nil _ _ _ _, hb⟩
def fcRowD (lo : Nat) (D : List Nat) : Fct := ⟨fun v w => w.ownsRow lo 5 1 v D.length (byt D), fun _ _ _ h hb => own_later h hb⟩
def fcAggD (lo K E C : Nat) (SI : Int) (LB : Bool) (D : List Nat) : Fct := ⟨fun v w => ∃ a c, v = .agg #[.int .i64 (K : Int), .int .i64 (E : Int), .int .i64 SI, .int .i64 (C : Int), .bool LB, .slice a D.length c] ∧ w.ownsRow lo 5 1 (.slice a D.length c) D.length (byt D), fun _ _ _ ⟨a, c, e, h⟩ hb => ⟨a, c, e, own_later h hb⟩⟩
def fcNewD (lo : Nat) : Fct := ⟨fun v w => ∃ g, v = .pointer (some ⟨g, 0, none⟩) ∧ lo ≤ g ∧ w.heap[g]? = some (.cells #[.int .i64 0, .int .i64 0, .int .i64 0, .int .i64 0, .bool false, .slice none 0 0] 83 (0, 0)), fun _ _ _ ⟨g, e, l, h⟩ hb => ⟨g, e, l, (hb.block _ (Array.getElem?_eq_some_iff.1 h).1).trans h⟩⟩
/-- A row of another kind lies in another block than a box. -/
theorem box_far {w : World} {gm : Nat} {cs : Array Value} {t : TypeId} {B n s : Nat} {e : TypeId} {u : Value} {vs : List Value} {k : Nat} (hb : w.heap[gm]? = some (.cells cs t (0, 0))) (ho : w.ownsRow B e s u n vs) (hne : e ≠ t) (hk : u.ownBlock = some k) : k ≠ gm := by
  intro he
  subst he
  rcases ho.2 with ⟨rfl, _⟩ | ⟨g, cap, cur, rfl, _, hh, _⟩
  · simp [Value.ownBlock] at hk
  · simp [Value.ownBlock] at hk
    subst hk
    rw [hb] at hh
    simp at hh
    exact hne hh.2.symm
theorem box_laterP {w w' : World} {g : Nat} {o : Obj} (h : w.heap[g]? = some o) (hb : Below w.heap.size w w') : w'.heap[g]? = some o := (hb.block g (Array.getElem?_eq_some_iff.1 h).1).trans h
theorem pktG_in {xs : List Nat} {K E S C : Nat} {L : Bool} {D : List Nat} (hK : K < 256) (hE : E < 4294967296) (_hS : S < 18446744073709551616) (hC : C < 4294967296) (h : pktG xs = ⟨(K : Int), (E : Int), wrap64 (S : Int), (C : Int), L, D⟩) : PPIn (pktG xs) := by
  rw [h]
  refine ⟨?_, ?_, ?_, ?_⟩ <;> unfold IntIn <;> try (unfold wrap64) <;> dsimp only <;> omega

end Go.Proofs.Ytcljakdcejhfiac

/- Is it a data packet of an epoch? No program. -/
namespace Go.Proofs.Ytcljakdcejhfiac

def dataB (p : PP) (e : Int) : Bool := pktOK p && (decide (p.kind = 1) && decide (p.epoch = e))
end Go.Proofs.Ytcljakdcejhfiac

/- Is a sending end valid? No program. -/
namespace Go.Proofs.Ytcljakdcejhfiac
open Go.RowKit

def outW (o : PO) (i : Nat) (s : PW) : Bool := dataB s.pkt o.epoch && decide (s.pkt.seq = o.next - o.wait.length + i ∧ -1 ≤ s.at_ ∧ s.at_ ≤ o.now)
def OutH (o : PO) : Prop := 1 ≤ o.epoch ∧ o.epoch ≤ 1000000000 ∧ 0 ≤ o.next ∧ o.next ≤ 1000000000000 ∧ 0 ≤ o.now ∧ o.now ≤ 1000000000 ∧ o.wait.length ≤ 300
instance (o : PO) : Decidable (OutH o) := by unfold OutH; infer_instance
def outOK (o : PO) : Bool := decide (OutH o) && (List.range o.wait.length).all fun i => match o.wait[i]? with | some s => outW o i s | none => true
theorem outOK_head {o : PO} (h : ¬ OutH o) : outOK o = false := by unfold outOK; rw [decide_eq_false h]; rfl
theorem outOK_at {o : PO} {k : Nat} (hk : k < o.wait.length) (h : outW o k o.wait[k] = false) : outOK o = false := by
  unfold outOK
  rw [Bool.and_eq_false_iff]
  refine .inr ?_
  rw [List.all_eq_false]
  refine ⟨k, List.mem_range.2 hk, ?_⟩
  simp [hk, h]
theorem outOK_all {o : PO} (h : OutH o) (ha : ∀ k, (hk : k < o.wait.length) → outW o k o.wait[k] = true) : outOK o = true := by
  unfold outOK
  rw [decide_eq_true h, Bool.true_and, List.all_eq_true]
  intro i hi
  have hi' := List.mem_range.1 hi
  simp [hi', ha i hi']
theorem outOK_of {o : PO} (h : outOK o = true) : OutH o ∧ ∀ k, (hk : k < o.wait.length) → outW o k o.wait[k] = true := by
  unfold outOK at h
  rw [Bool.and_eq_true, List.all_eq_true] at h
  refine ⟨of_decide_eq_true h.1, fun k hk => ?_⟩
  have := h.2 k (List.mem_range.2 hk)
  simpa [hk] using this

end Go.Proofs.Ytcljakdcejhfiac
