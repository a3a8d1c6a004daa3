import Derived.Test.YtfaehioeepolhaaJLinkTake31
namespace Go.Proofs.Ytfaehioeepolhaa
open Go.RowKit
abbrev inV (R : PI) (a : Option Addr) (c : Nat) (b : Option Addr) (d : Nat) : Value := .agg #[.int .i64 R.epoch, .int .i64 R.expect, .slice a R.held.length c, .slice b R.part.length d]
abbrev pkA (p : PP) (a : Option Addr) (c : Nat) : Value := .agg #[.int .i64 p.kind, .int .i64 p.epoch, .int .i64 p.seq, .int .i64 p.count, .bool p.last, .slice a p.data.length c]
abbrev tupV (R : PI) (C : Int) (a : Option Addr) (c : Nat) (b : Option Addr) (d : Nat) (u : Value) : Value := .tuple #[inV R a c b d, u, .int .i64 C]
def fstV : Value → Value
  | .tuple cs => cs.getD 0 undef
  | _ => undef
def sndV : Value → Value
  | .tuple cs => cs.getD 1 undef
  | _ => undef
def Rob (n1 n2 : Nat) (R : PI) (G : List (List Nat)) (a : Option Addr) (c : Nat) (b : Option Addr) (d : Nat) (u : Value) (w : World) : Prop :=
  n2 ≤ w.heap.size ∧ ∀ W : World, (∀ x, n1 ≤ x → x < n2 → W.heap[x]? = w.heap[x]?) → RdIn W R a c b d ∧ RdSl cSS W G u
theorem Rob.kept {n1 n2 : Nat} {R : PI} {G : List (List Nat)} {a b : Option Addr} {c d : Nat} {u : Value} {w w' : World} (h : Rob n1 n2 R G a c b d u w) (hs : w.heap.size ≤ w'.heap.size) (hk : ∀ x, n1 ≤ x → x < n2 → w'.heap[x]? = w.heap[x]?) : Rob n1 n2 R G a c b d u w' :=
  ⟨Nat.le_trans h.1 hs, fun W hW => h.2 W (fun x h1 h2 => (hW x h1 h2).trans (hk x h1 h2))⟩
theorem Rob.later {n1 n2 : Nat} {R : PI} {G : List (List Nat)} {a b : Option Addr} {c d : Nat} {u : Value} {w w' : World} (h : Rob n1 n2 R G a c b d u w) (hb : Below w.heap.size w w') : Rob n1 n2 R G a c b d u w' :=
  h.kept hb.size (fun x _ h2 => hb.block x (Nat.lt_of_lt_of_le h2 h.1))
def Bx (w : World) (g : Nat) (cs : Array Value) : Prop := w.heap[g]? = some (.cells cs 32 (0, 0))
abbrev zIn : Array Value := #[.int .i64 0, .int .i64 0, .slice none 0 0, .slice none 0 0]
abbrev inA (R : PI) (a : Option Addr) (c : Nat) (b : Option Addr) (d : Nat) : Array Value := #[.int .i64 R.epoch, .int .i64 R.expect, .slice a R.held.length c, .slice b R.part.length d]
theorem Bx.later {w w' : World} {g : Nat} {cs : Array Value} (h : Bx w g cs) (hb : Below w.heap.size w w') : Bx w' g cs := (hb.block _ (Array.getElem?_eq_some_iff.1 h).1).trans h
def lt1 (s : PI) (y : Nat → Bool) (t : Nat → Value) (w : World) : Prop := y 1 = true → y 10 = false → ∃ a c b d, t 1 = inV s a c b d ∧ RdIn w s a c b d
def lt3 (p : PP) (y : Nat → Bool) (t : Nat → Value) (w : World) : Prop := y 3 = true → y 10 = false → ∃ a c, t 3 = pkA p a c ∧ RdSl cByte w p.data (.slice a p.data.length c)
def lt9 (lo : Nat) (y : Nat → Bool) (t : Nat → Value) (w : World) : Prop := y 9 = true → y 10 = false → ∃ g, t 9 = .pointer (some ⟨g, 0, none⟩) ∧ lo ≤ g ∧ Bx w g zIn
def lt4 (lo : Nat) (R : PI) (G : List (List Nat)) (C : Int) (y : Nat → Bool) (t : Nat → Value) (w : World) : Prop :=
  y 4 = true → ∃ n1 n2 a c b d u, t 4 = tupV R C a c b d u ∧ (y 5 = true → t 5 = tupV R C a c b d u) ∧ (y 6 = true → t 6 = inV R a c b d) ∧ (y 7 = true → t 7 = u) ∧ (y 11 = true → t 11 = u) ∧ Rob n1 n2 R G a c b d u w ∧ (y 9 = true → ∃ g, t 9 = .pointer (some ⟨g, 0, none⟩) ∧ lo ≤ g ∧ (g < n1 ∨ n2 ≤ g) ∧ (y 10 = true → Bx w g (inA R a c b d)))
def ltH (lo : Nat) (s : PI) (p : PP) (R : PI) (G : List (List Nat)) (C : Int) (y : Nat → Bool) (t : Nat → Value) (w : World) : Prop := lt1 s y t w ∧ lt3 p y t w ∧ lt9 lo y t w ∧ lt4 lo R G C y t w
section
variable {lo : Nat} {s : PI} {p : PP} {R : PI} {G : List (List Nat)} {C : Int} {y : Nat → Bool} {t : Nat → Value} {w w' : World}
theorem ltH_start (lo : Nat) (s : PI) (p : PP) (R : PI) (G : List (List Nat)) (C : Int) (t : Nat → Value) (w : World) : ltH lo s p R G C (fun _ => false) t w :=
  ⟨(fun h => by cases h), (fun h => by cases h), (fun h => by cases h), (fun h => by cases h)⟩
theorem lt1.carry (h : lt1 s y t w) (hb : Below w.heap.size w w') (i : Nat) (h1 : i ≠ 1) (v : Value) : lt1 s (fun j => j == i || y j) (upd t i v) w' := by
  intro a b
  simp only [Bool.or_eq_true, beq_iff_eq, Bool.or_eq_false_iff] at a b
  obtain ⟨a1, c1, b1, d1, e, r⟩ := h (a.resolve_left (Ne.symm h1)) b.2
  exact ⟨a1, c1, b1, d1, by simp [upd, Ne.symm h1, e], r.later hb⟩
theorem lt3.carry (h : lt3 p y t w) (hb : Below w.heap.size w w') (i : Nat) (h1 : i ≠ 3) (v : Value) : lt3 p (fun j => j == i || y j) (upd t i v) w' := by
  intro a b
  simp only [Bool.or_eq_true, beq_iff_eq, Bool.or_eq_false_iff] at a b
  obtain ⟨a1, c1, e, r⟩ := h (a.resolve_left (Ne.symm h1)) b.2
  exact ⟨a1, c1, by simp [upd, Ne.symm h1, e], r.later hb⟩
theorem lt9.carry (h : lt9 lo y t w) (hb : Below w.heap.size w w') (i : Nat) (h1 : i ≠ 9) (v : Value) : lt9 lo (fun j => j == i || y j) (upd t i v) w' := by
  intro a b
  simp only [Bool.or_eq_true, beq_iff_eq, Bool.or_eq_false_iff] at a b
  obtain ⟨g, e, l, r⟩ := h (a.resolve_left (Ne.symm h1)) b.2
  exact ⟨g, by simp [upd, Ne.symm h1, e], l, r.later hb⟩
theorem lt4.carry (h : lt4 lo R G C y t w) (hb : Below w.heap.size w w') (i : Nat) (h4 : i ≠ 4) (h5 : i ≠ 5) (h6 : i ≠ 6) (h7 : i ≠ 7) (h11 : i ≠ 11) (h9 : i ≠ 9) (h10 : i ≠ 10) (v : Value) : lt4 lo R G C (fun j => j == i || y j) (upd t i v) w' := by
  intro a
  simp only [Bool.or_eq_true, beq_iff_eq] at a
  obtain ⟨n1, n2, a1, c1, b1, d1, u, e4, e5, e6, e7, e11, hr, hg⟩ := h (a.resolve_left (Ne.symm h4))
  have hh : ∀ k, i ≠ k → ((k == i || y k) = true) → y k = true := fun k hk hy => by
    rw [Bool.or_eq_true, beq_iff_eq] at hy
    exact hy.resolve_left (Ne.symm hk)
  refine ⟨n1, n2, a1, c1, b1, d1, u, by simp [upd, Ne.symm h4, e4], fun q => by simp [upd, Ne.symm h5, e5 (hh 5 h5 q)], fun q => by simp [upd, Ne.symm h6, e6 (hh 6 h6 q)], fun q => by simp [upd, Ne.symm h7, e7 (hh 7 h7 q)], fun q => by simp [upd, Ne.symm h11, e11 (hh 11 h11 q)], hr.later hb, fun q => ?_⟩
  obtain ⟨g, eg, lg, hn, hb10⟩ := hg (hh 9 h9 q)
  exact ⟨g, by simp [upd, Ne.symm h9, eg], lg, hn, fun q10 => (hb10 (hh 10 h10 q10)).later hb⟩
theorem ltH.plain (h : ltH lo s p R G C y t w) (hb : Below w.heap.size w w') (i : Nat) (hi : i = 0 ∨ i = 2 ∨ i = 8 ∨ i = 12) (v : Value) : ltH lo s p R G C (fun j => j == i || y j) (upd t i v) w' :=
  ⟨h.1.carry hb i (by omega) v, h.2.1.carry hb i (by omega) v, h.2.2.1.carry hb i (by omega) v, h.2.2.2.carry hb i (by omega) (by omega) (by omega) (by omega) (by omega) (by omega) (by omega) v⟩
theorem ltH.op1 (h : ltH lo s p R G C y t w) (hb : Below w.heap.size w w') {a b : Option Addr} {c d : Nat} (hr : RdIn w' s a c b d) : ltH lo s p R G C (fun j => j == 1 || y j) (upd t 1 (inV s a c b d)) w' :=
  ⟨fun _ _ => ⟨a, c, b, d, by simp [upd], hr⟩, h.2.1.carry hb 1 (by omega) _, h.2.2.1.carry hb 1 (by omega) _, h.2.2.2.carry hb 1 (by omega) (by omega) (by omega) (by omega) (by omega) (by omega) (by omega) _⟩
theorem ltH.op3 (h : ltH lo s p R G C y t w) (hb : Below w.heap.size w w') {a : Option Addr} {c : Nat} (hr : RdSl cByte w' p.data (.slice a p.data.length c)) : ltH lo s p R G C (fun j => j == 3 || y j) (upd t 3 (pkA p a c)) w' :=
  ⟨h.1.carry hb 3 (by omega) _, fun _ _ => ⟨a, c, by simp [upd], hr⟩, h.2.2.1.carry hb 3 (by omega) _, h.2.2.2.carry hb 3 (by omega) (by omega) (by omega) (by omega) (by omega) (by omega) (by omega) _⟩
theorem ltH.op4 (h : ltH lo s p R G C y t w) (hb : Below w.heap.size w w') (h5 : y 5 = false) (h6 : y 6 = false) (h7 : y 7 = false) (h10 : y 10 = false) (h11 : y 11 = false) {a b : Option Addr} {c d : Nat} {u : Value} (hr : ∀ W : World, (∀ x, w.heap.size ≤ x → x < w'.heap.size → W.heap[x]? = w'.heap[x]?) → RdIn W R a c b d ∧ RdSl cSS W G u) : ltH lo s p R G C (fun j => j == 4 || y j) (upd t 4 (tupV R C a c b d u)) w' := by
  refine ⟨h.1.carry hb 4 (by omega) _, h.2.1.carry hb 4 (by omega) _, h.2.2.1.carry hb 4 (by omega) _, fun _ => ⟨w.heap.size, w'.heap.size, a, c, b, d, u, by simp [upd], fun q => ?_, fun q => ?_, fun q => ?_, fun q => ?_, ⟨Nat.le_refl _, hr⟩, fun q => ?_⟩⟩
  · simp [h5] at q
  · simp [h6] at q
  · simp [h7] at q
  · simp [h11] at q
  · have q9 : y 9 = true := by simpa using q
    obtain ⟨g, e, l, r⟩ := h.2.2.1 q9 h10
    exact ⟨g, by simp [upd, e], l, .inl (Array.getElem?_eq_some_iff.1 r).1, fun q10 => by simp [h10] at q10⟩
theorem ltH.op5 (h : ltH lo s p R G C y t w) (hb : Below w.heap.size w w') (h4 : y 4 = true) (v : Value) (hv : v = t 4) : ltH lo s p R G C (fun j => j == 5 || y j) (upd t 5 v) w' := by
  refine ⟨h.1.carry hb 5 (by omega) _, h.2.1.carry hb 5 (by omega) _, h.2.2.1.carry hb 5 (by omega) _, fun _ => ?_⟩
  obtain ⟨n1, n2, a, c, b, d, u, e4, e5, e6, e7, e11, hr, hg⟩ := h.2.2.2 h4
  refine ⟨n1, n2, a, c, b, d, u, by simp [upd, e4], fun _ => by simp [upd, hv, e4], fun q => by simp [upd, e6 (by simpa using q)], fun q => by simp [upd, e7 (by simpa using q)], fun q => by simp [upd, e11 (by simpa using q)], hr.later hb, fun q => ?_⟩
  obtain ⟨g, eg, lg, hn, hb10⟩ := hg (by simpa using q)
  exact ⟨g, by simp [upd, eg], lg, hn, fun q10 => (hb10 (by simpa using q10)).later hb⟩
theorem ltH.op6 (h : ltH lo s p R G C y t w) (hb : Below w.heap.size w w') (h4 : y 4 = true) (v : Value) (hv : v = fstV (t 4)) : ltH lo s p R G C (fun j => j == 6 || y j) (upd t 6 v) w' := by
  refine ⟨h.1.carry hb 6 (by omega) _, h.2.1.carry hb 6 (by omega) _, h.2.2.1.carry hb 6 (by omega) _, fun _ => ?_⟩
  obtain ⟨n1, n2, a, c, b, d, u, e4, e5, e6, e7, e11, hr, hg⟩ := h.2.2.2 h4
  refine ⟨n1, n2, a, c, b, d, u, by simp [upd, e4], fun q => by simp [upd, e5 (by simpa using q)], fun _ => by simp [upd, hv, e4, fstV], fun q => by simp [upd, e7 (by simpa using q)], fun q => by simp [upd, e11 (by simpa using q)], hr.later hb, fun q => ?_⟩
  obtain ⟨g, eg, lg, hn, hb10⟩ := hg (by simpa using q)
  exact ⟨g, by simp [upd, eg], lg, hn, fun q10 => (hb10 (by simpa using q10)).later hb⟩
theorem ltH.op7 (h : ltH lo s p R G C y t w) (hb : Below w.heap.size w w') (h4 : y 4 = true) (v : Value) (hv : v = sndV (t 4)) : ltH lo s p R G C (fun j => j == 7 || y j) (upd t 7 v) w' := by
  refine ⟨h.1.carry hb 7 (by omega) _, h.2.1.carry hb 7 (by omega) _, h.2.2.1.carry hb 7 (by omega) _, fun _ => ?_⟩
  obtain ⟨n1, n2, a, c, b, d, u, e4, e5, e6, e7, e11, hr, hg⟩ := h.2.2.2 h4
  refine ⟨n1, n2, a, c, b, d, u, by simp [upd, e4], fun q => by simp [upd, e5 (by simpa using q)], fun q => by simp [upd, e6 (by simpa using q)], fun _ => by simp [upd, hv, e4, sndV], fun q => by simp [upd, e11 (by simpa using q)], hr.later hb, fun q => ?_⟩
  obtain ⟨g, eg, lg, hn, hb10⟩ := hg (by simpa using q)
  exact ⟨g, by simp [upd, eg], lg, hn, fun q10 => (hb10 (by simpa using q10)).later hb⟩
theorem ltH.op11 (h : ltH lo s p R G C y t w) (hb : Below w.heap.size w w') (h4 : y 4 = true) (h7 : y 7 = true) (v : Value) (hv : v = t 7) : ltH lo s p R G C (fun j => j == 11 || y j) (upd t 11 v) w' := by
  refine ⟨h.1.carry hb 11 (by omega) _, h.2.1.carry hb 11 (by omega) _, h.2.2.1.carry hb 11 (by omega) _, fun _ => ?_⟩
  obtain ⟨n1, n2, a, c, b, d, u, e4, e5, e6, e7, e11, hr, hg⟩ := h.2.2.2 h4
  refine ⟨n1, n2, a, c, b, d, u, by simp [upd, e4], fun q => by simp [upd, e5 (by simpa using q)], fun q => by simp [upd, e6 (by simpa using q)], fun q => by simp [upd, e7 (by simpa using q)], fun _ => by simp [upd, hv, e7 h7], hr.later hb, fun q => ?_⟩
  obtain ⟨g, eg, lg, hn, hb10⟩ := hg (by simpa using q)
  exact ⟨g, by simp [upd, eg], lg, hn, fun q10 => (hb10 (by simpa using q10)).later hb⟩
theorem ltH.op9 (h : ltH lo s p R G C y t w) (hlo : lo ≤ w.heap.size) (h10 : y 10 = false) : ltH lo s p R G C (fun j => j == 9 || y j) (upd t 9 (.pointer (some ⟨w.heap.size, 0, none⟩))) (w.alloc (.cells zIn 32)) := by
  have hb := below_new1 w (.cells zIn 32)
  refine ⟨h.1.carry hb 9 (by omega) _, h.2.1.carry hb 9 (by omega) _, fun _ _ => ⟨w.heap.size, by simp [upd], hlo, heap_alloc_new w _⟩, fun q => ?_⟩
  obtain ⟨n1, n2, a, c, b, d, u, e4, e5, e6, e7, e11, hr, -⟩ := h.2.2.2 (by simpa using q)
  refine ⟨n1, n2, a, c, b, d, u, by simp [upd, e4], fun q => by simp [upd, e5 (by simpa using q)], fun q => by simp [upd, e6 (by simpa using q)], fun q => by simp [upd, e7 (by simpa using q)], fun q => by simp [upd, e11 (by simpa using q)], hr.later hb, fun _ => ⟨w.heap.size, by simp [upd], hlo, .inr hr.1, fun q10 => by simp [h10] at q10⟩⟩
theorem ltH.at10 (h : ltH lo s p R G C y t w) (h4 : y 4 = true) (h6 : y 6 = true) (h9 : y 9 = true) (h10 : y 10 = false) : ∃ g a c b d, t 9 = .pointer (some ⟨g, 0, none⟩) ∧ t 6 = inV R a c b d ∧ lo ≤ g ∧ Bx w g zIn ∧
    ∀ v, Bx w g zIn → ltH lo s p R G C (fun j => j == 10 || y j) (upd t 10 v) ((((w.setCell ⟨g, 0, none⟩ (.int .i64 R.epoch)).setCell ⟨g, 1, none⟩ (.int .i64 R.expect)).setCell ⟨g, 2, none⟩ (.slice a R.held.length c)).setCell ⟨g, 3, none⟩ (.slice b R.part.length d)) := by
  obtain ⟨n1, n2, a, c, b, d, u, e4, e5, e6, e7, e11, hr, hg⟩ := h.2.2.2 h4
  obtain ⟨g, eg, lg, hn, -⟩ := hg h9
  obtain ⟨g', eg', -, hz⟩ := h.2.2.1 h9 h10
  rw [eg] at eg'
  simp only [Value.pointer.injEq, Option.some.injEq, Addr.mk.injEq, and_true] at eg'
  subst eg'
  refine ⟨g, a, c, b, d, eg, e6 h6, lg, hz, fun v _ => ⟨fun _ q => by simp at q, fun _ q => by simp at q, fun _ q => by simp at q, fun _ => ?_⟩⟩
  refine ⟨n1, n2, a, c, b, d, u, by simp [upd, e4], fun q => by simp [upd, e5 (by simpa using q)], fun q => by simp [upd, e6 (by simpa using q)], fun q => by simp [upd, e7 (by simpa using q)], fun q => by simp [upd, e11 (by simpa using q)], hr.kept (by rw [set4_size]; exact Nat.le_refl _) (fun x h1 h2 => set4o (by omega)), fun _ => ⟨g, by simp [upd, eg], lg, hn, fun _ => set4 hz⟩⟩
theorem ltH.done (h : ltH lo s p R G C y t w) (h4 : y 4 = true) (h9 : y 9 = true) (h10 : y 10 = true) (h11 : y 11 = true) : ∃ g a c b d, t 9 = .pointer (some ⟨g, 0, none⟩) ∧ lo ≤ g ∧ w.heap[g]? = some (.cells #[.int .i64 R.epoch, .int .i64 R.expect, .slice a R.held.length c, .slice b R.part.length d] 32 (0, 0)) ∧ RdIn w R a c b d ∧ RdSl cSS w G (t 11) := by
  obtain ⟨n1, n2, a, c, b, d, u, e4, e5, e6, e7, e11, hr, hg⟩ := h.2.2.2 h4
  obtain ⟨g, eg, lg, hn, hb⟩ := hg h9
  have := hr.2 w (fun _ _ _ => rfl)
  exact ⟨g, a, c, b, d, eg, lg, hb h10, this.1, by rw [e11 h11]; exact this.2⟩
end
set_option linter.unusedVariables false in
def ltT (vi vp : Value) (C : Int) : Nat → FX
  | 0 => FX.eq vi
  | 2 => FX.eq vp
  | 8 => FX.eq (.int .i64 C)
  | 12 => FX.eq (.int .i64 C)
  | _ => FX.is Fct.any
end Go.Proofs.Ytfaehioeepolhaa
