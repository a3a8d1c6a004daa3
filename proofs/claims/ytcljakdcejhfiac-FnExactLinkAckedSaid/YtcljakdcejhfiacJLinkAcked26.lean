import Derived.Test.YtcljakdcejhfiacJLinkAcked0
import Derived.Deep.RegionHeld3
namespace Go.Proofs.Ytcljakdcejhfiac
open Go.RowKit
section
variable {P : Program} {ops : Array Oper} {Q : Exit → Act → World → Prop} {md : Region.Mode}
def earlier (md : Region.Mode) (ops : Array Oper) : Bool :=
  (List.range ops.size).all fun i => ((ops[i]?).map fun o => o.after.all fun e => !Region.binds md e || decide (e.on < i)).getD true
theorem earlier_spec (h : earlier md ops = true) {i : Nat} {o : Oper} (ho : ops[i]? = some o) : ∀ e ∈ o.after, Region.binds md e = true → e.on < i := by
  intro e he hb
  have hi : i < ops.size := (Array.getElem?_eq_some_iff.1 ho).1
  have h1 := List.all_eq_true.1 h i (List.mem_range.2 hi)
  rw [ho] at h1
  simp only [Option.map_some, Option.getD_some] at h1
  have h2 := (Array.all_eq_true_iff_forall_mem.1 h1) e he
  simpa [hb] using h2
theorem all_listed (h : earlier md ops = true) {listed : Array Bool} (_hs : listed.size = ops.size) (hr : Region.ready md ops listed = []) : ∀ i, i < ops.size → listed.getD i false = true := by
  intro i
  induction i using Nat.strongRecOn with
  | ind i ih =>
    intro hi
    cases hc : listed.getD i false with
    | true => rfl
    | false =>
      exfalso
      have hlt : i < listed.size := by omega
      have h0 : listed.getD i true = false := by
        simp [Array.getD, hlt] at hc ⊢
        exact hc
      have : i ∈ Region.ready md ops listed := mem_ready.2 ⟨h0, ops[i], Array.getElem?_eq_getElem hi, fun e he hb => by
        have h3 := earlier_spec h (Array.getElem?_eq_getElem hi) e he hb
        exact ih e.on h3 (by omega)⟩
      rw [hr] at this
      cases this
def upd (t : Nat → Value) (i : Nat) (v : Value) : Nat → Value := fun k => if k = i then v else t k
end
structure Fct where
  p : Value → World → Prop
  mono : ∀ v w w', p v w → Below w.heap.size w w' → p v w'
def Fct.eq (u : Value) : Fct := ⟨fun v _ => v = u, fun _ _ _ h _ => h⟩
def Fct.any : Fct := ⟨fun _ _ => True, fun _ _ _ h _ => h⟩
end Go.Proofs.Ytcljakdcejhfiac
