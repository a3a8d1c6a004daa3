/- MarkByte, HeldByte, MarkSS. -/
import Derived.Test.YtmaccmgmcahopaaJLink0
import Derived.Test.YtmaccmgmcahopaaJLink8
/- laws.mark..S and laws.held..S -/
namespace Go.Proofs.Ytmaccmgmcahopaa
open Go.RowKit

/-- What 'mark' leaves, from k on. -/
def mkByte (k n : Nat) : List Nat := (List.range n).map fun i => (fun j : Nat => j % 256) (k + i)
theorem mkByte_len (k n : Nat) : (byt (mkByte k n)).length = n := by simp [byt, mkByte]
theorem mkByte_at (k n i : Nat) (h : i < n) : (byt (mkByte k n))[i]? = some (.int .u8 (((fun j : Nat => j % 256) (k + i) : Nat) : Int)) := by simp [byt, mkByte, h]

end Go.Proofs.Ytmaccmgmcahopaa

/- laws.held..S -/
namespace Go.Proofs.Ytmaccmgmcahopaa
open Go.RowKit

end Go.Proofs.Ytmaccmgmcahopaa

/- laws.markByteSS, heldByteSS over a slice of slices of bytes of the call's own. -/
namespace Go.Proofs.Ytmaccmgmcahopaa
open Go.RowKit

theorem only_of_grown {o : Option Nat} {a b : World} (h : a.grownBy b o) : Only o.toList a b :=
  ⟨h.os, h.tape, h.output, h.size, fun i hi hn => h.block i hi (fun e => hn (by rw [← e]; simp))⟩

theorem flat_one : ∀ {bss : List (List Nat)}, (List.flatten bss).Nodup → ∀ k, (h : k < bss.length) → bss[k].Nodup
  | [], _, k, h => by simp at h
  | l :: r, hn, k, h => by
    rw [List.flatten_cons, List.nodup_append] at hn
    cases k with
    | zero => exact hn.1
    | succ k => exact flat_one hn.2.1 k (by simpa using h)
theorem flatN_lt : ∀ {bss : List (List Nat)}, (List.flatten bss).Nodup → ∀ i k, (hi : i < bss.length) → (hk : k < bss.length) → i < k → ∀ b ∈ bss[i], b ∉ bss[k]
  | [], _, i, _, hi, _, _ => by simp at hi
  | l :: r, hn, i, k, hi, hk, hlt => by
    rw [List.flatten_cons, List.nodup_append] at hn
    cases k with
    | zero => omega
    | succ k =>
      cases i with
      | zero =>
        intro b hb hb2
        exact hn.2.2 b hb b (List.mem_flatten.2 ⟨_, List.getElem_mem (by simpa using hk), hb2⟩) rfl
      | succ i => exact flatN_lt hn.2.1 i k (by simpa using hi) (by simpa using hk) (by omega)
theorem flat_other {bss : List (List Nat)} (h : (List.flatten bss).Nodup) {i k : Nat} (hi : i < bss.length) (hk : k < bss.length) (hne : i ≠ k) : ∀ b ∈ bss[i], b ∉ bss[k] := by
  intro b hb hb2
  rcases Nat.lt_or_gt_of_ne hne with h1 | h1
  · exact flatN_lt h i k hi hk h1 b hb hb2
  · exact flatN_lt h k i hk hi h1 b hb2 hb

/-- Element k at hand: what it owns, where it lies, and what becomes of the slice when it alone turns. -/
theorem OwnSl.focus {α : Type} {c : Cod α} {e : TypeId} {w : World} {xs : List α} {v : Value} {bs : List Nat} (h : OwnSl c e w xs v bs) (hnd : bs.Nodup) {k : Nat} (hk : k < xs.length) :
    ∃ g cap cs bk, v = .slice (some ⟨g, 0, none⟩) xs.length cap ∧ c.own w xs[k] cs bk ∧ bk.Nodup ∧ (∀ b ∈ bk, b ∈ bs) ∧ (∀ j, j < c.n → w.cell? ⟨g, k * c.n + j, none⟩ = cs[j]?) ∧
      ∀ w' y, c.own w' y cs bk → Only bk w w' → OwnSl c e w' (xs.set k y) v bs := by
  rcases h with ⟨_, rfl, _⟩ | ⟨g, cap, vs, bss, rfl, ho, rfl, hbl, hi⟩
  · simp at hk
  · have hkb : k < bss.length := by omega
    have hnf := (List.nodup_cons.1 hnd).2
    have hng := (List.nodup_cons.1 hnd).1
    have hmem : ∀ i, (h : i < bss.length) → ∀ b ∈ bss[i], b ∈ List.flatten bss := fun i h b hb => List.mem_flatten.2 ⟨_, List.getElem_mem h, hb⟩
    refine ⟨g, cap, part vs c.n k, bss[k], rfl, hi k hk hkb, ?_, fun b hb => List.mem_cons_of_mem _ (hmem k hkb b hb), fun j hj => ?_, fun w' y hy hon => ?_⟩
    · exact flat_one hnf k hkb
    · have hlt : k * c.n + j < xs.length * c.n := by
        have : (k + 1) * c.n ≤ xs.length * c.n := Nat.mul_le_mul_right _ hk
        rw [Nat.add_mul, Nat.one_mul] at this; omega
      rw [ho.cellAt _ hlt, part_at hj]
    · have hgl := (World.ownsRow.lt ho g rfl).2
      refine .inr ⟨g, cap, vs, bss, by simp, ?_, rfl, by simp [hbl], fun i h1 h2 => ?_⟩
      · have := ownsRow_kept ho (w' := w') (fun b hb => by
          simp [Value.ownBlock] at hb; subst hb
          exact hon.block _ hgl (fun hm => hng (hmem k hkb _ hm)))
        simpa using this
      · have h1' : i < xs.length := by simpa using h1
        by_cases e : i = k
        · subst e
          simpa using hy
        · rw [List.getElem_set_ne (fun h => e h.symm)]
          exact c.only (hi i h1' h2) hon (flat_other hnf h2 hkb e)

/-- What marking leaves. -/
def mkSS (m : Nat) (xs : List (List Nat)) : List (List Nat) := (List.range xs.length).map fun i => mkByte (m + tot (xs.take i)) (xs[i]?.getD []).length
theorem mkSS_len (m : Nat) (xs : List (List Nat)) : (mkSS m xs).length = xs.length := by simp [mkSS]
theorem mkSS_at (m : Nat) (xs : List (List Nat)) (k : Nat) (h : k < xs.length) : (mkSS m xs)[k]'(by rw [mkSS_len]; exact h) = mkByte (m + tot (xs.take k)) xs[k].length := by simp [mkSS, h]
theorem mkByte_ok (m n : Nat) : ∀ x ∈ mkByte m n, x < 256 := by
  intro x hx
  simp only [mkByte, List.mem_map] at hx
  obtain ⟨i, _, rfl⟩ := hx
  omega
theorem mkByte_length (m n : Nat) : (mkByte m n).length = n := by simp [mkByte]
/-- The first k marked, the others as they were. -/
def mixSS (m : Nat) (xs : List (List Nat)) (k : Nat) : List (List Nat) := (mkSS m xs).take k ++ xs.drop k
theorem mixSS_len (m : Nat) (xs : List (List Nat)) (k : Nat) (hk : k ≤ xs.length) : (mixSS m xs k).length = xs.length := by simp [mixSS, mkSS_len]; omega
theorem mixSS_at (m : Nat) (xs : List (List Nat)) (k : Nat) (hk : k < xs.length) : (mixSS m xs k)[k]'(by rw [mixSS_len m xs k (by omega)]; exact hk) = xs[k] := by
  have h : ((mkSS m xs).take k).length = k := by rw [List.length_take, mkSS_len]; omega
  simp only [mixSS]
  rw [List.getElem_append_right (by omega)]
  simp [h]
theorem mixSS_succ (m : Nat) (xs : List (List Nat)) (k : Nat) (hk : k < xs.length) : (mixSS m xs k).set k (mkByte (m + tot (xs.take k)) xs[k].length) = mixSS m xs (k + 1) := by
  have h : ((mkSS m xs).take k).length = k := by rw [List.length_take, mkSS_len]; omega
  have hd : xs.drop k = xs[k] :: xs.drop (k + 1) := List.drop_eq_getElem_cons hk
  unfold mixSS
  rw [List.set_append_right _ _ (by omega), h, Nat.sub_self, hd, List.set_cons_zero, List.take_succ_eq_append_getElem (by rw [mkSS_len]; exact hk), mkSS_at m xs k hk, List.append_assoc]
  rfl

end Go.Proofs.Ytmaccmgmcahopaa
