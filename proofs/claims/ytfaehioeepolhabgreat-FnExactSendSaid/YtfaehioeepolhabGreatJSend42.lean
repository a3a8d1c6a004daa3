import Derived.Test.YtfaehioeepolhabGreatJSend36
import Derived.Test.YtfaehioeepolhabGreatJSend40
import Derived.Test.YtfaehioeepolhabGreatJSend11
import Derived.Test.YtfaehioeepolhabGreatJSend41
namespace Go.Proofs.YtfaehioeepolhabGreat
open Go.RowKit
def fcSame9 (W : World) : Fct := ⟨fun _ w => Below W.heap.size W w, fun _ _ _ h hb => below_chain h hb⟩
theorem ltS9 {w : World} {s : PStr} {a b : Option Addr} {c d : Nat} {bs ds : List Nat} (h : OwnStr w s a c b d bs ds) : ∀ x ∈ bs ++ ds, x < w.heap.size := fun x hx => by
  rcases List.mem_append.1 hx with h1 | h1
  · exact h.f.lt x h1
  · exact h.t.lt x h1
def FarC {α : Type} (c : Cod α) (t : TypeId) : Prop := ∀ {w : World} {x : α} {cs : List Value} {bs : List Nat} {g : Nat} {cells : Array Value}, c.own w x cs bs → w.heap[g]? = some (.cells cells t (0, 0)) → g ∉ bs
theorem ownSl_far {α : Type} {c : Cod α} {t e : TypeId} (hc : FarC c t) (hne : e ≠ t) {w : World} {xs : List α} {v : Value} {bs : List Nat} {g : Nat} {cells : Array Value} (h : OwnSl c e w xs v bs) (hb : w.heap[g]? = some (.cells cells t (0, 0))) : g ∉ bs := by
  rcases h with ⟨_, _, rfl⟩ | ⟨g0, cap, vs, bss, rfl, ho, rfl, hbl, hi⟩
  · simp
  · intro hm
    rcases List.mem_cons.1 hm with rfl | hm
    · rcases ho.2 with ⟨h0, _⟩ | ⟨g', cap', cur, h0, _, hh, _⟩
      · simp at h0
      · simp only [Value.slice.injEq, Option.some.injEq, Addr.mk.injEq, and_true] at h0
        obtain ⟨rfl, -⟩ := h0
        rw [hb] at hh
        simp at hh
        exact hne hh.2.symm
    · obtain ⟨l, hl, hb'⟩ := List.mem_flatten.1 hm
      obtain ⟨i, hi', rfl⟩ := List.getElem_of_mem hl
      exact hc (hi i (by omega) hi') hb hb'
theorem far_byte (t : TypeId) : FarC cByte t := fun h _ => by rw [h.2.2]; simp
section
variable {lo : Nat} {S : PStr} {H : List Nat} {C : Int} {v : Value} {w w' : World} {gb : Nat} {cs : Array Value}
end
end Go.Proofs.YtfaehioeepolhabGreat
