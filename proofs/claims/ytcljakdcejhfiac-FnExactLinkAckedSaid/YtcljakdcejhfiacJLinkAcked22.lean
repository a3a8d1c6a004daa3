import Derived.Test.YtcljakdcejhfiacJLinkAcked20
import Derived.Test.YtcljakdcejhfiacJLinkAcked21
namespace Go.Proofs.Ytcljakdcejhfiac
open Go.RowKit
theorem only_of_grown {o : Option Nat} {a b : World} (h : a.grownBy b o) : Only o.toList a b :=
  ⟨h.os, h.tape, h.output, h.size, fun i hi hn => h.block i hi (fun e => hn (by rw [← e]; simp))⟩
theorem flat_one : ∀ {bss : List (List Nat)}, (List.flatten bss).Nodup → ∀ k, (h : k < bss.length) → bss[k].Nodup
  | [], _, k, h => by simp at h
  | l :: r, hn, k, h => by
    rw [List.flatten_cons, List.nodup_append] at hn
    cases k with
    | zero => exact hn.1
    | succ k => exact flat_one hn.2.1 k (by simpa using h)
theorem flatN_lt : ∀ {bss : List (List Nat)}, (List.flatten bss).Nodup → ∀ i k, (hi : i < bss.length) → (hk : k < bss.length) → i < k → ∀ b ∈ bss[i], b ∉ bss[k]
  | [], _, i, _, hi, _, _ => by simp at hi
  | l :: r, hn, i, k, hi, hk, hlt => by
    rw [List.flatten_cons, List.nodup_append] at hn
    cases k with
    | zero => omega
    | succ k =>
      cases i with
      | zero =>
        intro b hb hb2
        exact hn.2.2 b hb b (List.mem_flatten.2 ⟨_, List.getElem_mem (by simpa using hk), hb2⟩) rfl
      | succ i => exact flatN_lt hn.2.1 i k (by simpa using hi) (by simpa using hk) (by omega)
theorem flat_other {bss : List (List Nat)} (h : (List.flatten bss).Nodup) {i k : Nat} (hi : i < bss.length) (hk : k < bss.length) (hne : i ≠ k) : ∀ b ∈ bss[i], b ∉ bss[k] := by
  intro b hb hb2
  rcases Nat.lt_or_gt_of_ne hne with h1 | h1
  · exact flatN_lt h i k hi hk h1 b hb hb2
  · exact flatN_lt h k i hk hi h1 b hb2 hb
theorem mkByte_ok (m n : Nat) : ∀ x ∈ mkByte m n, x < 256 := by
  intro x hx
  simp only [mkByte, List.mem_map] at hx
  obtain ⟨i, _, rfl⟩ := hx
  omega
theorem mkByte_length (m n : Nat) : (mkByte m n).length = n := by simp [mkByte]
end Go.Proofs.Ytcljakdcejhfiac
