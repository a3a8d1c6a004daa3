import Derived.Test.YtcljakdcejhfiadJStartStream5
import Derived.Test.YtcljakdcejhfiadJStartStream17
namespace Go.Proofs.Ytcljakdcejhfiad
open Go.RowKit
theorem only_of_grown {o : Option Nat} {a b : World} (h : a.grownBy b o) : Only o.toList a b :=
  ⟨h.os, h.tape, h.output, h.size, fun i hi hn => h.block i hi (fun e => hn (by rw [← e]; simp))⟩
theorem flat_one : ∀ {bss : List (List Nat)}, (List.flatten bss).Nodup → ∀ k, (h : k < bss.length) → bss[k].Nodup
  | [], _, k, h => by simp at h
  | l :: r, hn, k, h => by
    rw [List.flatten_cons, List.nodup_append] at hn
    cases k with
    | zero => exact hn.1
    | succ k => exact flat_one hn.2.1 k (by simpa using h)
theorem flatN_lt : ∀ {bss : List (List Nat)}, (List.flatten bss).Nodup → ∀ i k, (hi : i < bss.length) → (hk : k < bss.length) → i < k → ∀ b ∈ bss[i], b ∉ bss[k]
  | [], _, i, _, hi, _, _ => by simp at hi
  | l :: r, hn, i, k, hi, hk, hlt => by
    rw [List.flatten_cons, List.nodup_append] at hn
    cases k with
    | zero => omega
    | succ k =>
      cases i with
      | zero =>
        intro b hb hb2
        exact hn.2.2 b hb b (List.mem_flatten.2 ⟨_, List.getElem_mem (by simpa using hk), hb2⟩) rfl
      | succ i => exact flatN_lt hn.2.1 i k (by simpa using hi) (by simpa using hk) (by omega)
theorem flat_other {bss : List (List Nat)} (h : (List.flatten bss).Nodup) {i k : Nat} (hi : i < bss.length) (hk : k < bss.length) (hne : i ≠ k) : ∀ b ∈ bss[i], b ∉ bss[k] := by
  intro b hb hb2
  rcases Nat.lt_or_gt_of_ne hne with h1 | h1
  · exact flatN_lt h i k hi hk h1 b hb hb2
  · exact flatN_lt h k i hk hi h1 b hb2 hb
theorem OwnSl.focus {α : Type} {c : Cod α} {e : TypeId} {w : World} {xs : List α} {v : Value} {bs : List Nat} (h : OwnSl c e w xs v bs) (hnd : bs.Nodup) {k : Nat} (hk : k < xs.length) :
    ∃ g cap cs bk, v = .slice (some ⟨g, 0, none⟩) xs.length cap ∧ c.own w xs[k] cs bk ∧ bk.Nodup ∧ (∀ b ∈ bk, b ∈ bs) ∧ (∀ j, j < c.n → w.cell? ⟨g, k * c.n + j, none⟩ = cs[j]?) ∧
      ∀ w' y, c.own w' y cs bk → Only bk w w' → OwnSl c e w' (xs.set k y) v bs := by
  rcases h with ⟨_, rfl, _⟩ | ⟨g, cap, vs, bss, rfl, ho, rfl, hbl, hi⟩
  · simp at hk
  · have hkb : k < bss.length := by omega
    have hnf := (List.nodup_cons.1 hnd).2
    have hng := (List.nodup_cons.1 hnd).1
    have hmem : ∀ i, (h : i < bss.length) → ∀ b ∈ bss[i], b ∈ List.flatten bss := fun i h b hb => List.mem_flatten.2 ⟨_, List.getElem_mem h, hb⟩
    refine ⟨g, cap, part vs c.n k, bss[k], rfl, hi k hk hkb, ?_, fun b hb => List.mem_cons_of_mem _ (hmem k hkb b hb), fun j hj => ?_, fun w' y hy hon => ?_⟩
    · exact flat_one hnf k hkb
    · have hlt : k * c.n + j < xs.length * c.n := by
        have : (k + 1) * c.n ≤ xs.length * c.n := Nat.mul_le_mul_right _ hk
        rw [Nat.add_mul, Nat.one_mul] at this; omega
      rw [ho.cellAt _ hlt, part_at hj]
    · have hgl := (World.ownsRow.lt ho g rfl).2
      refine .inr ⟨g, cap, vs, bss, by simp, ?_, rfl, by simp [hbl], fun i h1 h2 => ?_⟩
      · have := ownsRow_kept ho (w' := w') (fun b hb => by
          simp [Value.ownBlock] at hb; subst hb
          exact hon.block _ hgl (fun hm => hng (hmem k hkb _ hm)))
        simpa using this
      · have h1' : i < xs.length := by simpa using h1
        by_cases e : i = k
        · subst e
          simpa using hy
        · rw [List.getElem_set_ne (fun h => e h.symm)]
          exact c.only (hi i h1' h2) hon (flat_other hnf h2 hkb e)
theorem mkByte_ok (m n : Nat) : ∀ x ∈ mkByte m n, x < 256 := by
  intro x hx
  simp only [mkByte, List.mem_map] at hx
  obtain ⟨i, _, rfl⟩ := hx
  omega
theorem mkByte_length (m n : Nat) : (mkByte m n).length = n := by simp [mkByte]
end Go.Proofs.Ytcljakdcejhfiad
