import Derived.Test.YtmaccmgmcahopaaJBound21
import Derived.Test.YtmaccmgmcahopaaJBound37
import Derived.Test.YtmaccmgmcahopaaJBound10
import Derived.Test.YtmaccmgmcahopaaJBound8
namespace Go.Proofs.Ytmaccmgmcahopaa
open Go.RowKit
abbrev outV (P : PO) (a : Option Addr) (c : Nat) : Value := .agg #[.int .i64 P.epoch, .int .i64 P.next, .int .i64 P.now, .slice a P.wait.length c]
abbrev outA (P : PO) (a : Option Addr) (c : Nat) : Array Value := #[.int .i64 P.epoch, .int .i64 P.next, .int .i64 P.now, .slice a P.wait.length c]
abbrev zOutA : Array Value := #[.int .i64 0, .int .i64 0, .int .i64 0, .slice none 0 0]
abbrev tupO (P : PO) (K : Int) (a : Option Addr) (c : Nat) : Value := .tuple #[outV P a c, .int .i64 K]
def fstO : Value → Value
  | .tuple cs => cs.getD 0 undef
  | _ => undef
def RobO (n1 n2 : Nat) (P : PO) (a : Option Addr) (c : Nat) (w : World) : Prop := n2 ≤ w.heap.size ∧ ∀ W : World, (∀ x, n1 ≤ x → x < n2 → W.heap[x]? = w.heap[x]?) → RdSl cSnt W P.wait (.slice a P.wait.length c)
theorem RobO.kept {n1 n2 : Nat} {P : PO} {a : Option Addr} {c : Nat} {w w' : World} (h : RobO n1 n2 P a c w) (hs : w.heap.size ≤ w'.heap.size) (hk : ∀ b, n1 ≤ b → b < n2 → w'.heap[b]? = w.heap[b]?) : RobO n1 n2 P a c w' :=
  ⟨Nat.le_trans h.1 hs, fun W hW => h.2 W (fun b h1 h2 => (hW b h1 h2).trans (hk b h1 h2))⟩
theorem RobO.later {n1 n2 : Nat} {P : PO} {a : Option Addr} {c : Nat} {w w' : World} (h : RobO n1 n2 P a c w) (hb : Below w.heap.size w w') : RobO n1 n2 P a c w' :=
  h.kept hb.size (fun b _ h2 => hb.block b (Nat.lt_of_lt_of_le h2 h.1))
def BxO (w : World) (g : Nat) (cs : Array Value) : Prop := w.heap[g]? = some (.cells cs 30 (0, 0))
theorem BxO.later {w w' : World} {g : Nat} {cs : Array Value} (h : BxO w g cs) (hb : Below w.heap.size w w') : BxO w' g cs := (hb.block _ (Array.getElem?_eq_some_iff.1 h).1).trans h
theorem set4_sizeO {w : World} {g : Nat} {x0 x1 x2 x3 : Value} : ((((w.setCell ⟨g, 0, none⟩ x0).setCell ⟨g, 1, none⟩ x1).setCell ⟨g, 2, none⟩ x2).setCell ⟨g, 3, none⟩ x3).heap.size = w.heap.size := by simp
def pg3 (N : Nat) (y : Nat → Bool) (t : Nat → Value) (w : World) : Prop := y 3 = true → y 9 = false → ∃ g, t 3 = .slice (some ⟨g, 0, none⟩) N N ∧ RdSl cByte w (Zs N) (.slice (some ⟨g, 0, none⟩) N N)
def pg8 (lo : Nat) (y : Nat → Bool) (t : Nat → Value) (w : World) : Prop := y 8 = true → y 9 = false → ∃ g, t 8 = .pointer (some ⟨g, 0, none⟩) ∧ lo ≤ g ∧ BxO w g zOutA
def pg4 (lo : Nat) (P : PO) (K : Int) (y : Nat → Bool) (t : Nat → Value) (w : World) : Prop :=
  y 4 = true → ∃ n1 n2 a c, t 4 = tupO P K a c ∧ (y 5 = true → t 5 = tupO P K a c) ∧ (y 6 = true → t 6 = outV P a c) ∧ RobO n1 n2 P a c w ∧ (y 8 = true → ∃ g, t 8 = .pointer (some ⟨g, 0, none⟩) ∧ lo ≤ g ∧ (g < n1 ∨ n2 ≤ g) ∧ (y 9 = true → BxO w g (outA P a c)))
def pgH (lo N : Nat) (P : PO) (K : Int) (y : Nat → Bool) (t : Nat → Value) (w : World) : Prop := pg3 N y t w ∧ pg8 lo y t w ∧ pg4 lo P K y t w
section
variable {lo N : Nat} {P : PO} {K : Int} {y : Nat → Bool} {t : Nat → Value} {w w' : World}
theorem pgH_start (lo N : Nat) (P : PO) (K : Int) (t : Nat → Value) (w : World) : pgH lo N P K (fun _ => false) t w :=
  ⟨(fun h => by cases h), (fun h => by cases h), (fun h => by cases h)⟩
theorem pg3.carry (h : pg3 N y t w) (hb : Below w.heap.size w w') (i : Nat) (h1 : i ≠ 3) (v : Value) : pg3 N (fun j => j == i || y j) (upd t i v) w' := by
  intro a b
  simp only [Bool.or_eq_true, beq_iff_eq, Bool.or_eq_false_iff] at a b
  obtain ⟨g, e, r⟩ := h (a.resolve_left (Ne.symm h1)) b.2
  exact ⟨g, by simp [upd, Ne.symm h1, e], r.later hb⟩
theorem pg8.carry (h : pg8 lo y t w) (hb : Below w.heap.size w w') (i : Nat) (h1 : i ≠ 8) (v : Value) : pg8 lo (fun j => j == i || y j) (upd t i v) w' := by
  intro a b
  simp only [Bool.or_eq_true, beq_iff_eq, Bool.or_eq_false_iff] at a b
  obtain ⟨g, e, l, r⟩ := h (a.resolve_left (Ne.symm h1)) b.2
  exact ⟨g, by simp [upd, Ne.symm h1, e], l, r.later hb⟩
theorem pg4.carry (h : pg4 lo P K y t w) (hb : Below w.heap.size w w') (i : Nat) (h4 : i ≠ 4) (h5 : i ≠ 5) (h6 : i ≠ 6) (h8 : i ≠ 8) (h9 : i ≠ 9) (v : Value) : pg4 lo P K (fun j => j == i || y j) (upd t i v) w' := by
  intro a
  simp only [Bool.or_eq_true, beq_iff_eq] at a
  obtain ⟨n1, n2, a, c, e4, e5, e6, hr, hg⟩ := h (a.resolve_left (Ne.symm h4))
  have hh : ∀ k, i ≠ k → ((k == i || y k) = true) → y k = true := fun k hk hy => by
    rw [Bool.or_eq_true, beq_iff_eq] at hy
    exact hy.resolve_left (Ne.symm hk)
  refine ⟨n1, n2, a, c, by simp [upd, Ne.symm h4, e4], fun q => by simp [upd, Ne.symm h5, e5 (hh 5 h5 q)], fun q => by simp [upd, Ne.symm h6, e6 (hh 6 h6 q)], hr.later hb, fun q => ?_⟩
  obtain ⟨g, eg, lg, hn, hb9⟩ := hg (hh 8 h8 q)
  exact ⟨g, by simp [upd, Ne.symm h8, eg], lg, hn, fun q9 => (hb9 (hh 9 h9 q9)).later hb⟩
theorem pgH.plain (h : pgH lo N P K y t w) (hb : Below w.heap.size w w') (i : Nat) (hi : i = 0 ∨ i = 1 ∨ i = 2 ∨ i = 7 ∨ i = 10) (v : Value) : pgH lo N P K (fun j => j == i || y j) (upd t i v) w' :=
  ⟨h.1.carry hb i (by omega) v, h.2.1.carry hb i (by omega) v, h.2.2.carry hb i (by omega) (by omega) (by omega) (by omega) (by omega) v⟩
theorem pgH.op3 (h : pgH lo N P K y t w) (hb : Below w.heap.size w w') (g : Nat) (hr : RdSl cByte w' (Zs N) (.slice (some ⟨g, 0, none⟩) N N)) : pgH lo N P K (fun j => j == 3 || y j) (upd t 3 (.slice (some ⟨g, 0, none⟩) N N)) w' :=
  ⟨fun _ _ => ⟨g, by simp [upd], hr⟩, h.2.1.carry hb 3 (by omega) _, h.2.2.carry hb 3 (by omega) (by omega) (by omega) (by omega) (by omega) _⟩
theorem pgH.op4 (h : pgH lo N P K y t w) (hb : Below w.heap.size w w') (h5 : y 5 = false) (h6 : y 6 = false) (h9 : y 9 = false) (a : Option Addr) (c : Nat) (hr : RobO w.heap.size w'.heap.size P a c w') : pgH lo N P K (fun j => j == 4 || y j) (upd t 4 (tupO P K a c)) w' := by
  refine ⟨h.1.carry hb 4 (by omega) _, h.2.1.carry hb 4 (by omega) _, fun _ => ⟨w.heap.size, w'.heap.size, a, c, by simp [upd], fun q => ?_, fun q => ?_, hr, fun q => ?_⟩⟩
  · simp [h5] at q
  · simp [h6] at q
  · have q8 : y 8 = true := by simpa using q
    obtain ⟨g, e, l, r⟩ := h.2.1 q8 h9
    exact ⟨g, by simp [upd, e], l, .inl (Array.getElem?_eq_some_iff.1 r).1, fun q9 => by simp [h9] at q9⟩
theorem pgH.op5 (h : pgH lo N P K y t w) (hb : Below w.heap.size w w') (h4 : y 4 = true) (v : Value) (hv : v = t 4) : pgH lo N P K (fun j => j == 5 || y j) (upd t 5 v) w' := by
  refine ⟨h.1.carry hb 5 (by omega) _, h.2.1.carry hb 5 (by omega) _, fun _ => ?_⟩
  obtain ⟨n1, n2, a, c, e4, e5, e6, hr, hg⟩ := h.2.2 h4
  refine ⟨n1, n2, a, c, by simp [upd, e4], fun _ => by simp [upd, hv, e4], fun q => by simp [upd, e6 (by simpa using q)], hr.later hb, fun q => ?_⟩
  obtain ⟨g, eg, lg, hn, hb9⟩ := hg (by simpa using q)
  exact ⟨g, by simp [upd, eg], lg, hn, fun q9 => (hb9 (by simpa using q9)).later hb⟩
theorem pgH.op6 (h : pgH lo N P K y t w) (hb : Below w.heap.size w w') (h4 : y 4 = true) (v : Value) (hv : v = fstO (t 4)) : pgH lo N P K (fun j => j == 6 || y j) (upd t 6 v) w' := by
  refine ⟨h.1.carry hb 6 (by omega) _, h.2.1.carry hb 6 (by omega) _, fun _ => ?_⟩
  obtain ⟨n1, n2, a, c, e4, e5, e6, hr, hg⟩ := h.2.2 h4
  refine ⟨n1, n2, a, c, by simp [upd, e4], fun q => by simp [upd, e5 (by simpa using q)], fun _ => by simp [upd, hv, e4, fstO], hr.later hb, fun q => ?_⟩
  obtain ⟨g, eg, lg, hn, hb9⟩ := hg (by simpa using q)
  exact ⟨g, by simp [upd, eg], lg, hn, fun q9 => (hb9 (by simpa using q9)).later hb⟩
theorem pgH.op8 (h : pgH lo N P K y t w) (hlo : lo ≤ w.heap.size) (h9 : y 9 = false) : pgH lo N P K (fun j => j == 8 || y j) (upd t 8 (.pointer (some ⟨w.heap.size, 0, none⟩))) (w.alloc (.cells zOutA 30)) := by
  have hb := below_new1 w (.cells zOutA 30)
  refine ⟨h.1.carry hb 8 (by omega) _, fun _ _ => ⟨w.heap.size, by simp [upd], hlo, heap_alloc_new w _⟩, fun q => ?_⟩
  obtain ⟨n1, n2, a, c, e4, e5, e6, hr, -⟩ := h.2.2 (by simpa using q)
  refine ⟨n1, n2, a, c, by simp [upd, e4], fun q => by simp [upd, e5 (by simpa using q)], fun q => by simp [upd, e6 (by simpa using q)], hr.later hb, fun _ => ⟨w.heap.size, by simp [upd], hlo, .inr hr.1, fun q9 => by simp [h9] at q9⟩⟩
theorem pgH.at9 (h : pgH lo N P K y t w) (h4 : y 4 = true) (h6 : y 6 = true) (h8 : y 8 = true) (h9 : y 9 = false) : ∃ g a c, t 8 = .pointer (some ⟨g, 0, none⟩) ∧ t 6 = outV P a c ∧ lo ≤ g ∧ BxO w g zOutA ∧
    ∀ v, BxO w g zOutA → pgH lo N P K (fun j => j == 9 || y j) (upd t 9 v) ((((w.setCell ⟨g, 0, none⟩ (.int .i64 P.epoch)).setCell ⟨g, 1, none⟩ (.int .i64 P.next)).setCell ⟨g, 2, none⟩ (.int .i64 P.now)).setCell ⟨g, 3, none⟩ (.slice a P.wait.length c)) := by
  obtain ⟨n1, n2, a, c, e4, e5, e6, hr, hg⟩ := h.2.2 h4
  obtain ⟨g, eg, lg, hn, -⟩ := hg h8
  obtain ⟨g', eg', -, hz⟩ := h.2.1 h8 h9
  rw [eg] at eg'
  simp only [Value.pointer.injEq, Option.some.injEq, Addr.mk.injEq, and_true] at eg'
  subst eg'
  refine ⟨g, a, c, eg, e6 h6, lg, hz, fun v _ => ⟨fun _ q => by simp at q, fun _ q => by simp at q, fun _ => ?_⟩⟩
  refine ⟨n1, n2, a, c, by simp [upd, e4], fun q => by simp [upd, e5 (by simpa using q)], fun q => by simp [upd, e6 (by simpa using q)], hr.kept (by rw [set4_sizeO]; exact Nat.le_refl _) (fun b h1 h2 => set4o (by omega)), fun _ => ⟨g, by simp [upd, eg], lg, hn, fun _ => set4 hz⟩⟩
theorem pgH.done (h : pgH lo N P K y t w) (h4 : y 4 = true) (h8 : y 8 = true) (h9 : y 9 = true) : ∃ g a c, t 8 = .pointer (some ⟨g, 0, none⟩) ∧ lo ≤ g ∧ w.heap[g]? = some (.cells (outA P a c) 30 (0, 0)) ∧ RdSl cSnt w P.wait (.slice a P.wait.length c) := by
  obtain ⟨n1, n2, a, c, e4, e5, e6, hr, hg⟩ := h.2.2 h4
  obtain ⟨g, eg, lg, hn, hb⟩ := hg h8
  exact ⟨g, a, c, eg, lg, hb h9, hr.2 w (fun _ _ _ => rfl)⟩
end
set_option linter.unusedVariables false in
def pgT (vo : Value) (N K : Int) : Nat → FX
  | 0 => FX.eq vo
  | 1 => FX.eq (.int .i64 100)
  | 2 => FX.eq (.int .i64 N)
  | 7 => FX.eq (.int .i64 K)
  | 10 => FX.eq (.int .i64 K)
  | _ => FX.is Fct.any
end Go.Proofs.Ytmaccmgmcahopaa
