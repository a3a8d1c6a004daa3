import Derived.Test.YtmaccmgmcahopaaJBound38
import Derived.Test.YtmaccmgmcahopaaJBound11
import Derived.Test.YtmaccmgmcahopaaJBound7
import Derived.Test.YtmaccmgmcahopaaJBound4
import Derived.Test.YtmaccmgmcahopaaJBound12
import Derived.Test.YtmaccmgmcahopaaJBound8
import Derived.Test.YtmaccmgmcahopaaJBound1
import Derived.Laws.AppendOwnNone
import Derived.Test.YtmaccmgmcahopaaJBound21
namespace Go.Proofs.Ytmaccmgmcahopaa
open Go.RowKit
def qg3 (N : Nat) (y : Nat → Bool) (t : Nat → Value) (w : World) : Prop := y 4 = true → y 10 = false → ∃ g, t 4 = .slice (some ⟨g, 0, none⟩) N N ∧ RdSl cByte w (Zs N) (.slice (some ⟨g, 0, none⟩) N N)
def qg8 (lo : Nat) (y : Nat → Bool) (t : Nat → Value) (w : World) : Prop := y 9 = true → y 10 = false → ∃ g, t 9 = .pointer (some ⟨g, 0, none⟩) ∧ lo ≤ g ∧ BxO w g zOutA
def qg4 (lo : Nat) (P : PO) (K : Int) (y : Nat → Bool) (t : Nat → Value) (w : World) : Prop :=
  y 5 = true → ∃ n1 n2 a c, t 5 = tupO P K a c ∧ (y 6 = true → t 6 = tupO P K a c) ∧ (y 7 = true → t 7 = outV P a c) ∧ RobO n1 n2 P a c w ∧ (y 9 = true → ∃ g, t 9 = .pointer (some ⟨g, 0, none⟩) ∧ lo ≤ g ∧ (g < n1 ∨ n2 ≤ g) ∧ (y 10 = true → BxO w g (outA P a c)))
def qgH (lo N : Nat) (P : PO) (K : Int) (y : Nat → Bool) (t : Nat → Value) (w : World) : Prop := qg3 N y t w ∧ qg8 lo y t w ∧ qg4 lo P K y t w
section
variable {lo N : Nat} {P : PO} {K : Int} {y : Nat → Bool} {t : Nat → Value} {w w' : World}
theorem qgH_start (lo N : Nat) (P : PO) (K : Int) (t : Nat → Value) (w : World) : qgH lo N P K (fun _ => false) t w :=
  ⟨(fun h => by cases h), (fun h => by cases h), (fun h => by cases h)⟩
theorem qg3.carry (h : qg3 N y t w) (hb : Below w.heap.size w w') (i : Nat) (h1 : i ≠ 4) (v : Value) : qg3 N (fun j => j == i || y j) (upd t i v) w' := by
  intro a b
  simp only [Bool.or_eq_true, beq_iff_eq, Bool.or_eq_false_iff] at a b
  obtain ⟨g, e, r⟩ := h (a.resolve_left (Ne.symm h1)) b.2
  exact ⟨g, by simp [upd, Ne.symm h1, e], r.later hb⟩
theorem qg8.carry (h : qg8 lo y t w) (hb : Below w.heap.size w w') (i : Nat) (h1 : i ≠ 9) (v : Value) : qg8 lo (fun j => j == i || y j) (upd t i v) w' := by
  intro a b
  simp only [Bool.or_eq_true, beq_iff_eq, Bool.or_eq_false_iff] at a b
  obtain ⟨g, e, l, r⟩ := h (a.resolve_left (Ne.symm h1)) b.2
  exact ⟨g, by simp [upd, Ne.symm h1, e], l, r.later hb⟩
theorem qg4.carry (h : qg4 lo P K y t w) (hb : Below w.heap.size w w') (i : Nat) (h4 : i ≠ 5) (h5 : i ≠ 6) (h6 : i ≠ 7) (h8 : i ≠ 9) (h9 : i ≠ 10) (v : Value) : qg4 lo P K (fun j => j == i || y j) (upd t i v) w' := by
  intro a
  simp only [Bool.or_eq_true, beq_iff_eq] at a
  obtain ⟨n1, n2, a, c, e4, e5, e6, hr, hg⟩ := h (a.resolve_left (Ne.symm h4))
  have hh : ∀ k, i ≠ k → ((k == i || y k) = true) → y k = true := fun k hk hy => by
    rw [Bool.or_eq_true, beq_iff_eq] at hy
    exact hy.resolve_left (Ne.symm hk)
  refine ⟨n1, n2, a, c, by simp [upd, Ne.symm h4, e4], fun q => by simp [upd, Ne.symm h5, e5 (hh 6 h5 q)], fun q => by simp [upd, Ne.symm h6, e6 (hh 7 h6 q)], hr.later hb, fun q => ?_⟩
  obtain ⟨g, eg, lg, hn, hb9⟩ := hg (hh 9 h8 q)
  exact ⟨g, by simp [upd, Ne.symm h8, eg], lg, hn, fun q9 => (hb9 (hh 10 h9 q9)).later hb⟩
theorem qgH.plain (h : qgH lo N P K y t w) (hb : Below w.heap.size w w') (i : Nat) (hi : i = 0 ∨ i = 1 ∨ i = 2 ∨ i = 3 ∨ i = 8 ∨ i = 11) (v : Value) : qgH lo N P K (fun j => j == i || y j) (upd t i v) w' :=
  ⟨h.1.carry hb i (by omega) v, h.2.1.carry hb i (by omega) v, h.2.2.carry hb i (by omega) (by omega) (by omega) (by omega) (by omega) v⟩
theorem qgH.op3 (h : qgH lo N P K y t w) (hb : Below w.heap.size w w') (g : Nat) (hr : RdSl cByte w' (Zs N) (.slice (some ⟨g, 0, none⟩) N N)) : qgH lo N P K (fun j => j == 4 || y j) (upd t 4 (.slice (some ⟨g, 0, none⟩) N N)) w' :=
  ⟨fun _ _ => ⟨g, by simp [upd], hr⟩, h.2.1.carry hb 4 (by omega) _, h.2.2.carry hb 4 (by omega) (by omega) (by omega) (by omega) (by omega) _⟩
theorem qgH.op4 (h : qgH lo N P K y t w) (hb : Below w.heap.size w w') (h5 : y 6 = false) (h6 : y 7 = false) (h9 : y 10 = false) (a : Option Addr) (c : Nat) (hr : RobO w.heap.size w'.heap.size P a c w') : qgH lo N P K (fun j => j == 5 || y j) (upd t 5 (tupO P K a c)) w' := by
  refine ⟨h.1.carry hb 5 (by omega) _, h.2.1.carry hb 5 (by omega) _, fun _ => ⟨w.heap.size, w'.heap.size, a, c, by simp [upd], fun q => ?_, fun q => ?_, hr, fun q => ?_⟩⟩
  · simp [h5] at q
  · simp [h6] at q
  · have q8 : y 9 = true := by simpa using q
    obtain ⟨g, e, l, r⟩ := h.2.1 q8 h9
    exact ⟨g, by simp [upd, e], l, .inl (Array.getElem?_eq_some_iff.1 r).1, fun q9 => by simp [h9] at q9⟩
theorem qgH.op5 (h : qgH lo N P K y t w) (hb : Below w.heap.size w w') (h4 : y 5 = true) (v : Value) (hv : v = t 5) : qgH lo N P K (fun j => j == 6 || y j) (upd t 6 v) w' := by
  refine ⟨h.1.carry hb 6 (by omega) _, h.2.1.carry hb 6 (by omega) _, fun _ => ?_⟩
  obtain ⟨n1, n2, a, c, e4, e5, e6, hr, hg⟩ := h.2.2 h4
  refine ⟨n1, n2, a, c, by simp [upd, e4], fun _ => by simp [upd, hv, e4], fun q => by simp [upd, e6 (by simpa using q)], hr.later hb, fun q => ?_⟩
  obtain ⟨g, eg, lg, hn, hb9⟩ := hg (by simpa using q)
  exact ⟨g, by simp [upd, eg], lg, hn, fun q9 => (hb9 (by simpa using q9)).later hb⟩
theorem qgH.op6 (h : qgH lo N P K y t w) (hb : Below w.heap.size w w') (h4 : y 5 = true) (v : Value) (hv : v = fstO (t 5)) : qgH lo N P K (fun j => j == 7 || y j) (upd t 7 v) w' := by
  refine ⟨h.1.carry hb 7 (by omega) _, h.2.1.carry hb 7 (by omega) _, fun _ => ?_⟩
  obtain ⟨n1, n2, a, c, e4, e5, e6, hr, hg⟩ := h.2.2 h4
  refine ⟨n1, n2, a, c, by simp [upd, e4], fun q => by simp [upd, e5 (by simpa using q)], fun _ => by simp [upd, hv, e4, fstO], hr.later hb, fun q => ?_⟩
  obtain ⟨g, eg, lg, hn, hb9⟩ := hg (by simpa using q)
  exact ⟨g, by simp [upd, eg], lg, hn, fun q9 => (hb9 (by simpa using q9)).later hb⟩
theorem qgH.op8 (h : qgH lo N P K y t w) (hlo : lo ≤ w.heap.size) (h9 : y 10 = false) : qgH lo N P K (fun j => j == 9 || y j) (upd t 9 (.pointer (some ⟨w.heap.size, 0, none⟩))) (w.alloc (.cells zOutA 30)) := by
  have hb := below_new1 w (.cells zOutA 30)
  refine ⟨h.1.carry hb 9 (by omega) _, fun _ _ => ⟨w.heap.size, by simp [upd], hlo, heap_alloc_new w _⟩, fun q => ?_⟩
  obtain ⟨n1, n2, a, c, e4, e5, e6, hr, -⟩ := h.2.2 (by simpa using q)
  refine ⟨n1, n2, a, c, by simp [upd, e4], fun q => by simp [upd, e5 (by simpa using q)], fun q => by simp [upd, e6 (by simpa using q)], hr.later hb, fun _ => ⟨w.heap.size, by simp [upd], hlo, .inr hr.1, fun q9 => by simp [h9] at q9⟩⟩
theorem qgH.at9 (h : qgH lo N P K y t w) (h4 : y 5 = true) (h6 : y 7 = true) (h8 : y 9 = true) (h9 : y 10 = false) : ∃ g a c, t 9 = .pointer (some ⟨g, 0, none⟩) ∧ t 7 = outV P a c ∧ lo ≤ g ∧ BxO w g zOutA ∧
    ∀ v, BxO w g zOutA → qgH lo N P K (fun j => j == 10 || y j) (upd t 10 v) ((((w.setCell ⟨g, 0, none⟩ (.int .i64 P.epoch)).setCell ⟨g, 1, none⟩ (.int .i64 P.next)).setCell ⟨g, 2, none⟩ (.int .i64 P.now)).setCell ⟨g, 3, none⟩ (.slice a P.wait.length c)) := by
  obtain ⟨n1, n2, a, c, e4, e5, e6, hr, hg⟩ := h.2.2 h4
  obtain ⟨g, eg, lg, hn, -⟩ := hg h8
  obtain ⟨g', eg', -, hz⟩ := h.2.1 h8 h9
  rw [eg] at eg'
  simp only [Value.pointer.injEq, Option.some.injEq, Addr.mk.injEq, and_true] at eg'
  subst eg'
  refine ⟨g, a, c, eg, e6 h6, lg, hz, fun v _ => ⟨fun _ q => by simp at q, fun _ q => by simp at q, fun _ => ?_⟩⟩
  refine ⟨n1, n2, a, c, by simp [upd, e4], fun q => by simp [upd, e5 (by simpa using q)], fun q => by simp [upd, e6 (by simpa using q)], hr.kept (by rw [set4_sizeO]; exact Nat.le_refl _) (fun b h1 h2 => set4o (by omega)), fun _ => ⟨g, by simp [upd, eg], lg, hn, fun _ => set4 hz⟩⟩
theorem qgH.done (h : qgH lo N P K y t w) (h4 : y 5 = true) (h8 : y 9 = true) (h9 : y 10 = true) : ∃ g a c, t 9 = .pointer (some ⟨g, 0, none⟩) ∧ lo ≤ g ∧ w.heap[g]? = some (.cells (outA P a c) 30 (0, 0)) ∧ RdSl cSnt w P.wait (.slice a P.wait.length c) := by
  obtain ⟨n1, n2, a, c, e4, e5, e6, hr, hg⟩ := h.2.2 h4
  obtain ⟨g, eg, lg, hn, hb⟩ := hg h8
  exact ⟨g, a, c, eg, lg, hb h9, hr.2 w (fun _ _ _ => rfl)⟩
end
set_option linter.unusedVariables false in
def qgT (vo : Value) (N K : Int) : Nat → FX
  | 0 => FX.eq vo
  | 1 => FX.eq (.int .i64 100)
  | 2 => FX.eq (.int .i64 10000)
  | 3 => FX.eq (.int .i64 N)
  | 8 => FX.eq (.int .i64 K)
  | 11 => FX.eq (.int .i64 K)
  | _ => FX.is Fct.any
end Go.Proofs.Ytmaccmgmcahopaa
namespace Go.Proofs.Ytmaccmgmcahopaa
open Go.RowKit
end Go.Proofs.Ytmaccmgmcahopaa
namespace Go.Proofs.Ytmaccmgmcahopaa
open Go.RowKit
structure PMIn (m : PM) : Prop where
  kind : IntIn m.kind
  field : IntIn m.field
  count : IntIn m.count
end Go.Proofs.Ytmaccmgmcahopaa
namespace Go.Proofs.Ytmaccmgmcahopaa
open Go.RowKit
end Go.Proofs.Ytmaccmgmcahopaa
namespace Go.Proofs.Ytmaccmgmcahopaa
open Go.RowKit
end Go.Proofs.Ytmaccmgmcahopaa
namespace Go.Proofs.Ytmaccmgmcahopaa
open Go.RowKit
theorem tot_le_join (xss : List (List Nat)) : tot xss ≤ (join xss).length := by
  have key : ∀ k, k ≤ xss.length → tot (xss.take k) ≤ (join (xss.take k)).length := by
    intro k
    induction k with
    | zero => intro _; simp [tot]
    | succ k ih =>
      intro h
      have h1 := join_next xss k (by omega)
      have h2 := tot_snoc xss k (by omega)
      have h3 := (evn_le xss[k].length).1
      have := ih (by omega)
      omega
  have := key xss.length (Nat.le_refl _)
  rwa [List.take_length] at this
end Go.Proofs.Ytmaccmgmcahopaa
