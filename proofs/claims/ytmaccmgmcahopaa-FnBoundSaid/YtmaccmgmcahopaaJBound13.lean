import Derived.Test.YtmaccmgmcahopaaJBound7
import Derived.Test.YtmaccmgmcahopaaJBound12
namespace Go.Proofs.Ytmaccmgmcahopaa
open Go.RowKit
section
variable {α : Type} (f : α → Nat) (mk : Nat → α → α)
end
theorem OwnSl.cellAt {α : Type} {c : Cod α} {e : TypeId} {w : World} {xs : List α} {g n cap : Nat} {bs : List Nat} (h : OwnSl c e w xs (.slice (some ⟨g, 0, none⟩) n cap) bs) {j : Nat} (hj : j < xs.length * c.n) : ∃ y, w.cell? ⟨g, j, none⟩ = some y := by
  rcases h with ⟨h0, _⟩ | ⟨g', cap', vs, bss, ev, ho, hb, hbl, hi⟩
  · cases h0
  simp only [Value.slice.injEq, Option.some.injEq, Addr.mk.injEq, and_true] at ev
  obtain ⟨rfl, rfl, rfl⟩ := ev
  have hvl : vs.length = xs.length * c.n := ho.1
  exact ⟨vs[j]'(by omega), by rw [ho.cellAt j hj, List.getElem?_eq_getElem]⟩
theorem OwnSl.frozenAt {α : Type} {c : Cod α} {e : TypeId} {w : World} {xs : List α} {g n cap : Nat} {bs : List Nat} (h : OwnSl c e w xs (.slice (some ⟨g, 0, none⟩) n cap) bs) (j : Nat) : w.frozen? ⟨g, j, none⟩ = false := by
  rcases h with ⟨h0, _⟩ | ⟨g', cap', vs, bss, ev, ho, hb, hbl, hi⟩
  · cases h0
  simp only [Value.slice.injEq, Option.some.injEq, Addr.mk.injEq, and_true] at ev
  obtain ⟨rfl, rfl, rfl⟩ := ev
  exact ho.frozenAt j
structure OwnCut {α : Type} (c : Cod α) (e : TypeId) (w : World) (ys : List α) (d : Nat) (a : Option Addr) (cap : Nat) (bs : List Nat) : Prop where
  le : d ≤ ys.length
  len : ys.length - d ≤ cap
  room : cap ≤ maxLen
  nil : a = none → cap = 0
  own : ∃ v, OwnSl c e w ys v bs ∧ (d < ys.length → ∃ g cp, v = .slice (some ⟨g, 0, none⟩) ys.length cp ∧ a = some ⟨g, d * c.n, none⟩)
theorem OwnCut.rd {α : Type} {c : Cod α} {e : TypeId} {w : World} {ys : List α} {d : Nat} {a : Option Addr} {cap : Nat} {bs : List Nat} (h : OwnCut c e w ys d a cap bs) : RdSl c w (ys.drop d) (.slice a (ys.length - d) cap) := by
  obtain ⟨hle, hlen, hroom, hnil, v, ho, hv⟩ := h
  refine ⟨a, cap, by simp, by simpa using hlen, hroom, hnil, ?_⟩
  by_cases hd : d < ys.length
  · obtain ⟨g, cp, rfl, rfl⟩ := hv hd
    obtain ⟨a', cap', e', _, _, _, h4⟩ := ho.rd
    simp only [Value.slice.injEq] at e'
    obtain ⟨rfl, _, rfl⟩ := e'
    rcases h4 with h0 | ⟨b, off, e2, hat⟩
    · subst h0; simp at hd
    · simp only [Option.some.injEq, Addr.mk.injEq, and_true] at e2
      obtain ⟨rfl, rfl⟩ := e2
      refine .inr ⟨g, d * c.n, rfl, fun i hi => ?_⟩
      have hi' : d + i < ys.length := by simp at hi; omega
      obtain ⟨es, he, hc⟩ := hat (d + i) hi'
      refine ⟨es, by simpa using he, fun j hj => ?_⟩
      have := hc j hj
      rw [show d * c.n + (i * c.n + j) = 0 + ((d + i) * c.n + j) from by rw [Nat.add_mul]; omega]
      exact this
  · exact .inl (List.drop_eq_nil_of_le (by omega))
theorem OwnCut.kept {α : Type} {c : Cod α} {e : TypeId} {w w' : World} {ys : List α} {d : Nat} {a : Option Addr} {cap : Nat} {bs : List Nat} (h : OwnCut c e w ys d a cap bs) (hk : ∀ b ∈ bs, w'.heap[b]? = w.heap[b]?) : OwnCut c e w' ys d a cap bs := by
  obtain ⟨hle, hlen, hroom, hnil, v, ho, hv⟩ := h
  exact ⟨hle, hlen, hroom, hnil, v, ho.kept hk, hv⟩
theorem OwnCut.lt {α : Type} {c : Cod α} {e : TypeId} {w : World} {ys : List α} {d : Nat} {a : Option Addr} {cap : Nat} {bs : List Nat} (h : OwnCut c e w ys d a cap bs) : ∀ b ∈ bs, b < w.heap.size := by
  obtain ⟨hle, hlen, hroom, hnil, v, ho, hv⟩ := h
  exact ho.lt
theorem OwnCut.later {α : Type} {c : Cod α} {e : TypeId} {w w' : World} {ys : List α} {d : Nat} {a : Option Addr} {cap : Nat} {bs : List Nat} (h : OwnCut c e w ys d a cap bs) (hb : Below w.heap.size w w') : OwnCut c e w' ys d a cap bs := h.kept (fun b hm => hb.block b (h.lt b hm))
theorem OwnCut.only {α : Type} {c : Cod α} {e : TypeId} {w w' : World} {ys : List α} {d : Nat} {a : Option Addr} {cap : Nat} {bs us : List Nat} (h : OwnCut c e w ys d a cap bs) (ho : Only us w w') (hd : ∀ b ∈ bs, b ∉ us) : OwnCut c e w' ys d a cap bs := h.kept (fun b hm => ho.block b (h.lt b hm) (hd b hm))
end Go.Proofs.Ytmaccmgmcahopaa
