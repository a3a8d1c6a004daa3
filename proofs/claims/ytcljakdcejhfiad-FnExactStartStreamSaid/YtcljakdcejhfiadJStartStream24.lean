import Derived.Test.YtcljakdcejhfiadJStartStream16
import Derived.Test.YtcljakdcejhfiadJStartStream6
import Derived.Test.YtcljakdcejhfiadJStartStream23
namespace Go.Proofs.Ytcljakdcejhfiad
open Go.RowKit
theorem RdSl.vals1 {w : World} {xss : List (List Nat)} {a : Option Addr} {n cap : Nat} (h : RdSl cSS w xss (.slice a n cap)) :
    ∃ vals : List Value, vals.length = xss.length ∧ Rd w a vals ∧ (∀ u ∈ vals, u.oneCell' = true) ∧ ∀ i, (h : i < xss.length) → ∃ a' c', vals[i]? = some (.slice a' xss[i].length c') ∧ RdSl cByte w xss[i] (.slice a' xss[i].length c') := by
  obtain ⟨a', cap', e', _, _, _, h4⟩ := id h
  simp only [Value.slice.injEq] at e'
  obtain ⟨rfl, rfl, rfl⟩ := e'
  rcases h4 with rfl | ⟨b, off, rfl, hat⟩
  · exact ⟨[], rfl, .inl rfl, by simp, fun i h => by simp at h⟩
  · have hx : ∀ i : Fin xss.length, ∃ u : Value, w.cell? ⟨b, off + i.1, none⟩ = some u ∧ ∃ a' c', u = .slice a' xss[i.1].length c' ∧ RdSl cByte w xss[i.1] (.slice a' xss[i.1].length c') := fun i => by
      obtain ⟨b', off', a', c', e, hc, hr⟩ := h.row i.2
      simp at e
      obtain ⟨rfl, rfl⟩ := e
      exact ⟨_, hc, a', c', rfl, hr⟩
    refine ⟨(List.finRange xss.length).map fun i => Classical.choose (hx i), by simp, .inr ⟨b, off, rfl, fun i hi => ?_⟩, fun u hu => ?_, fun i hi => ?_⟩
    · have hi' : i < xss.length := by simpa using hi
      have := (Classical.choose_spec (hx ⟨i, hi'⟩)).1
      rw [this]; simp
    · simp only [List.mem_map] at hu
      obtain ⟨i, _, rfl⟩ := hu
      obtain ⟨_, _, e, _⟩ := (Classical.choose_spec (hx i)).2
      rw [e]; rfl
    · obtain ⟨a', c', e, hr⟩ := (Classical.choose_spec (hx ⟨i, hi⟩)).2
      exact ⟨a', c', by rw [List.getElem?_map]; simp [hi]; exact e, hr⟩
theorem RdSl.nilB {w : World} {xs : List Nat} {a : Option Addr} {cap : Nat} (h : RdSl cByte w xs (.slice a xs.length cap)) : a = none → cap = 0 := fun ha => (h.nil0 ha).2
theorem rdSS_cons {w : World} {a al : Option Addr} {cl : Nat} {xs : List Nat} {xss : List (List Nat)} {vals : List Value} (hr : Rd w a (.slice al xs.length cl :: vals)) (hl : RdSl cByte w xs (.slice al xs.length cl)) (hv : vals.length = xss.length)
    (hi : ∀ i, (h : i < xss.length) → ∃ a' c', vals[i]? = some (.slice a' xss[i].length c') ∧ RdSl cByte w xss[i] (.slice a' xss[i].length c')) : RdSS w a (xs :: xss) := by
  refine ⟨.slice al xs.length cl :: vals, by simp [hv], hr, fun i h => ?_⟩
  cases i with
  | zero => exact ⟨al, cl, rfl, hl.rdB.1, hl.nilB⟩
  | succ i =>
    obtain ⟨a', c', h1, h2⟩ := hi i (by simpa using h)
    exact ⟨a', c', by simpa using h1, h2.rdB.1, h2.nilB⟩
theorem own_built {w : World} {B : Nat} {e : TypeId} {cs : Array Value} (hB : B ≤ w.heap.size) (hm : cs.size ≤ maxLen) : (w.alloc (.cells cs e)).ownsRow B e 1 (.slice (some ⟨w.heap.size, 0, none⟩) cs.size cs.size) cs.size cs.toList :=
  ⟨by simp, .inr ⟨w.heap.size, cs.size, cs, rfl, hB, heap_alloc_new w _, Nat.le_refl _, hm, by simp, by rw [Nat.mul_one]; exact List.take_of_length_le (by simp)⟩⟩
theorem U_nat (n : Nat) (h : n < 18446744073709551616) : U (n : Int) = n := by
  unfold U
  have : IntKind.u64.wrap (n : Int) = n := by
    rw [U_eq, U]
    simp [IntKind.wrap, IntKind.bits, IntKind.signed]
    omega
  rw [this]; simp
theorem wrap_u8 (n : Nat) (h : n < 256) : IntKind.u8.wrap (n : Int) = n := by
  simp [IntKind.wrap, IntKind.bits, IntKind.signed]; omega
theorem crcM_lt (xs : List Nat) (h : ∀ x ∈ xs, x < 256) : crcM xs < 4294967296 := by
  have h1 := crcTake_lt xs h xs.length
  rw [List.take_length] at h1
  unfold crcM
  have : crcFold xs ^^^ 4294967295 < 2 ^ 32 := Nat.xor_lt_two_pow (by omega) (by omega)
  omega
theorem join_lt (xss : List (List Nat)) (h : ∀ t ∈ xss, ∀ x ∈ t, x < 256) : ∀ x ∈ join xss, x < 256 := by
  have key : ∀ (l : List (List Nat)) (acc : List Nat), (∀ t ∈ l, ∀ x ∈ t, x < 256) → (∀ x ∈ acc, x < 256) → ∀ x ∈ l.foldl joinStep acc, x < 256 := by
    intro l
    induction l with
    | nil => intro acc _ h2; exact h2
    | cons t l ih => intro acc h1 h2; exact ih _ (fun u hu => h1 u (List.mem_cons_of_mem _ hu)) (joinStep_lt h2 (h1 t (by simp)))
  exact key xss [] h (by simp)
theorem infoByteM : (Try.prog.info? 5).map (fun i => (i.zero, i.size, i.bytes)) = some (some (.int .u8 0), 1, 1) := by kernel_rfl
theorem infoSlM : (Try.prog.info? 69).map (fun i => (i.zero, i.size, i.bytes)) = some (some (.slice none 0 0), 1, 24) := by kernel_rfl
def EncPost (w : World) (R : List Nat) (e : Ending) (w' : World) : Prop :=
  ∃ a c, e = .returned (.slice a R.length c) ∧ w'.ownsRow w.heap.size 5 1 (.slice a R.length c) R.length (byt R) ∧ Below w.heap.size w w'
theorem encPost_nil {w w' : World} {R : List Nat} (hb : Below w.heap.size w w') (hR : R = []) : EncPost w R (.returned (.slice none 0 0)) w' := by
  subst hR
  exact ⟨none, 0, rfl, World.ownsRow_nil _ _ _ _, hb⟩
end Go.Proofs.Ytcljakdcejhfiad
