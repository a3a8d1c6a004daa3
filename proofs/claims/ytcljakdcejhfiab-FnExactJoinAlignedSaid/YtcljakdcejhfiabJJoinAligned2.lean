import Derived.Test.YtcljakdcejhfiabJJoinAligned0
namespace Go.Proofs.Ytcljakdcejhfiab
open Go.RowKit
def RdSS (w : World) (a : Option Addr) (xss : List (List Nat)) : Prop :=
  ∃ vs : List Value, vs.length = xss.length ∧ Rd w a vs ∧ ∀ i, (h : i < xss.length) → ∃ a' c', vs[i]? = some (.slice a' xss[i].length c') ∧ Rd w a' (byt xss[i]) ∧ (a' = none → c' = 0)
def Inner (w : World) (B E : Nat) (o : Option Value) (ys : List Nat) : Prop :=
  ∃ g c, o = some (.slice (some ⟨g, 0, none⟩) ys.length c) ∧ g < E ∧ w.ownsRow B 5 1 (.slice (some ⟨g, 0, none⟩) ys.length c) ys.length (byt ys)
def OwnSS (w : World) (B E : Nat) (v : Value) (xss : List (List Nat)) : Prop :=
  ∃ vs : List Value, w.ownsRow B 24 1 v xss.length vs ∧ ∀ i, (h : i < xss.length) → Inner w B E vs[i]? xss[i]
theorem Inner.later {w w' : World} {B E : Nat} {o : Option Value} {ys : List Nat} (h : Inner w B E o ys) (hb : Below w.heap.size w w') : Inner w' B E o ys := by
  obtain ⟨g, c, e, hE, ho⟩ := h
  exact ⟨g, c, e, hE, own_later ho hb⟩
theorem OwnSS.later {w w' : World} {B E : Nat} {v : Value} {xss : List (List Nat)} (h : OwnSS w B E v xss) (hb : Below w.heap.size w w') : OwnSS w' B E v xss := by
  obtain ⟨vs, ho, hi⟩ := h
  exact ⟨vs, own_later ho hb, fun i h => (hi i h).later hb⟩
theorem RdSS.later {w w' : World} {a : Option Addr} {xss : List (List Nat)} (h : RdSS w a xss) (hb : Below w.heap.size w w') : RdSS w' a xss := by
  obtain ⟨vs, hl, hr, hi⟩ := h
  refine ⟨vs, hl, hr.later hb, fun i h => ?_⟩
  obtain ⟨a', c', e, r, z⟩ := hi i h
  exact ⟨a', c', e, r.later hb, z⟩
theorem OwnSS.rd {w : World} {B E n cap : Nat} {a : Option Addr} {xss : List (List Nat)} (h : OwnSS w B E (.slice a n cap) xss) (hn : xss.length = n) : RdSS w a xss := by
  obtain ⟨vs, ho, hi⟩ := h
  have hl : vs.length = xss.length := by have := ho.1; omega
  subst hn
  refine ⟨vs, hl, rd_at ho, fun i h => ?_⟩
  obtain ⟨g, c, e, _, r⟩ := hi i h
  exact ⟨_, c, e, rd_row r, fun h => by cases h⟩
theorem RdSS.at_ {w : World} {a : Option Addr} {xss : List (List Nat)} (h : RdSS w a xss) {k : Nat} (hk : k < xss.length) :
    ∃ b off a' c', a = some ⟨b, off, none⟩ ∧ w.cell? ⟨b, off + k, none⟩ = some (.slice a' xss[k].length c') ∧ Rd w a' (byt xss[k]) ∧ (a' = none → c' = 0) := by
  obtain ⟨vs, hl, hr, hi⟩ := h
  obtain ⟨a', c', e, r, z⟩ := hi k hk
  rcases hr with h0 | ⟨b, off, rfl, hc⟩
  · subst h0; simp at hl; omega
  · refine ⟨b, off, a', c', rfl, ?_, r, z⟩
    obtain ⟨h1, h2⟩ := List.getElem?_eq_some_iff.1 e
    rw [hc k h1, h2]
structure Fr (B E : Nat) (w w' : World) : Prop where
  os : w'.os = w.os
  tape : w'.tape = w.tape
  output : w'.output = w.output
  size : w.heap.size ≤ w'.heap.size
  block : ∀ k, k < w.heap.size → (k < B ∨ E ≤ k) → w'.heap[k]? = w.heap[k]?
theorem Fr.refl (B E : Nat) (w : World) : Fr B E w w := ⟨rfl, rfl, rfl, Nat.le_refl _, fun _ _ _ => rfl⟩
theorem Fr.grown {B E g : Nat} {a w w' : World} (h : Fr B E a w) (hg : w.grownBy w' (some g)) (h1 : B ≤ g) (h2 : g < E) : Fr B E a w' :=
  ⟨hg.os.trans h.os, hg.tape.trans h.tape, hg.output.trans h.output, Nat.le_trans h.size hg.size, fun k hk hc => (hg.block k (Nat.lt_of_lt_of_le hk h.size) (fun e => by simp at e; omega)).trans (h.block k hk hc)⟩
theorem own_fr {w w' : World} {B E B' n : Nat} {e : TypeId} {v : Value} {vs : List Value} (h : w.ownsRow B' e 1 v n vs) (hf : Fr B E w w') (hk : ∀ k, v.ownBlock = some k → k < B ∨ E ≤ k) : w'.ownsRow B' e 1 v n vs := by
  have hin := fun g hg => own_in (g := g) h hg
  refine ⟨h.1, ?_⟩
  rcases h.2 with h2 | ⟨g, cap, cur, rfl, hg, hh, r⟩
  · exact .inl h2
  · exact .inr ⟨g, cap, cur, rfl, hg, by rw [hf.block g (hin g rfl).2 (hk g rfl)]; exact hh, r⟩
theorem below_fr {a w w' : World} {B E : Nat} (hb : Below a.heap.size a w) (hf : Fr B E w w') (h : a.heap.size ≤ B) : Below a.heap.size a w' :=
  hb.trans ⟨hf.os, hf.tape, hf.output, hf.size, fun k hk => hf.block k (Nat.lt_of_lt_of_le hk hb.size) (.inl (by omega))⟩
def tot (xss : List (List Nat)) : Nat := (xss.map List.length).sum
theorem tot_snoc (xss : List (List Nat)) (k : Nat) (h : k < xss.length) : tot (xss.take (k + 1)) = tot (xss.take k) + xss[k].length := by
  unfold tot
  rw [List.take_succ_eq_append_getElem h, List.map_append, List.sum_append]
  simp
theorem tot_take (xss : List (List Nat)) (k : Nat) : tot (xss.take k) ≤ tot xss := by
  unfold tot
  conv => rhs; rw [← List.take_append_drop k xss]
  rw [List.map_append, List.sum_append]; omega
theorem len_le_tot (xss : List (List Nat)) (k : Nat) (h : k < xss.length) : xss[k].length ≤ tot xss := by
  have h1 := tot_snoc xss k h
  have h2 := tot_take xss (k + 1)
  omega
end Go.Proofs.Ytcljakdcejhfiab
