import Derived.Test.YtcljakdcejhfiabJDecodePacket8
import Derived.Test.YtcljakdcejhfiabJDecodePacket17
import Derived.Test.YtcljakdcejhfiabJDecodePacket21
import Derived.Test.YtcljakdcejhfiabJDecodePacket23
import Derived.Test.YtcljakdcejhfiabJDecodePacket10
namespace Go.Proofs.Ytcljakdcejhfiab
open Go.RowKit
def PdPost (w : World) (p : PP) (C : Int) (e : Ending) (w' : World) : Prop :=
  ∃ a c, e = .returned (.tuple #[.agg #[.int .i64 p.kind, .int .i64 p.epoch, .int .i64 p.seq, .int .i64 p.count, .bool p.last, .slice a p.data.length c], .int .i64 C]) ∧ w'.ownsRow w.heap.size 5 1 (.slice a p.data.length c) p.data.length (byt p.data) ∧ Below w.heap.size w w'
theorem pdPost_nil {w w' : World} {p : PP} {C C' : Int} (hb : Below w.heap.size w w') (hp : p = noPkt) (hC : C = C') : PdPost w p C (.returned (.tuple #[.agg #[.int .i64 0, .int .i64 0, .int .i64 0, .int .i64 0, .bool false, .slice none 0 0], .int .i64 C'])) w' := by
  subst hp hC
  exact ⟨none, 0, rfl, World.ownsRow_nil _ _ _ _, hb⟩
def fcRowD (lo : Nat) (D : List Nat) : Fct := ⟨fun v w => w.ownsRow lo 5 1 v D.length (byt D), fun _ _ _ h hb => own_later h hb⟩
def fcAggD (lo K E C : Nat) (SI : Int) (LB : Bool) (D : List Nat) : Fct := ⟨fun v w => ∃ a c, v = .agg #[.int .i64 (K : Int), .int .i64 (E : Int), .int .i64 SI, .int .i64 (C : Int), .bool LB, .slice a D.length c] ∧ w.ownsRow lo 5 1 (.slice a D.length c) D.length (byt D), fun _ _ _ ⟨a, c, e, h⟩ hb => ⟨a, c, e, own_later h hb⟩⟩
def fcNewD (lo : Nat) : Fct := ⟨fun v w => ∃ g, v = .pointer (some ⟨g, 0, none⟩) ∧ lo ≤ g ∧ w.heap[g]? = some (.cells #[.int .i64 0, .int .i64 0, .int .i64 0, .int .i64 0, .bool false, .slice none 0 0] 35 (0, 0)), fun _ _ _ ⟨g, e, l, h⟩ hb => ⟨g, e, l, (hb.block _ (Array.getElem?_eq_some_iff.1 h).1).trans h⟩⟩
theorem box_far {w : World} {gm : Nat} {cs : Array Value} {t : TypeId} {B n s : Nat} {e : TypeId} {u : Value} {vs : List Value} {k : Nat} (hb : w.heap[gm]? = some (.cells cs t (0, 0))) (ho : w.ownsRow B e s u n vs) (hne : e ≠ t) (hk : u.ownBlock = some k) : k ≠ gm := by
  intro he
  subst he
  rcases ho.2 with ⟨rfl, _⟩ | ⟨g, cap, cur, rfl, _, hh, _⟩
  · simp [Value.ownBlock] at hk
  · simp [Value.ownBlock] at hk
    subst hk
    rw [hb] at hh
    simp at hh
    exact hne hh.2.symm
theorem box_laterP {w w' : World} {g : Nat} {o : Obj} (h : w.heap[g]? = some o) (hb : Below w.heap.size w w') : w'.heap[g]? = some o := (hb.block g (Array.getElem?_eq_some_iff.1 h).1).trans h
theorem pktG_in {xs : List Nat} {K E S C : Nat} {L : Bool} {D : List Nat} (hK : K < 256) (hE : E < 4294967296) (_hS : S < 18446744073709551616) (hC : C < 4294967296) (h : pktG xs = ⟨(K : Int), (E : Int), wrap64 (S : Int), (C : Int), L, D⟩) : PPIn (pktG xs) := by
  rw [h]
  refine ⟨?_, ?_, ?_, ?_⟩ <;> unfold IntIn <;> try (unfold wrap64) <;> dsimp only <;> omega
end Go.Proofs.Ytcljakdcejhfiab
