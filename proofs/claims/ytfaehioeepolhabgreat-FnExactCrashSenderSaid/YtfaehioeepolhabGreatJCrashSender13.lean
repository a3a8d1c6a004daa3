import Derived.Test.YtfaehioeepolhabGreatJCrashSender12
import Derived.Deep.AppendLies
namespace Go.Proofs.YtfaehioeepolhabGreat
open Go.RowKit
section
variable {P : Program} {ops : Array Oper} {Q : Exit → Act → World → Prop} {md : Region.Mode}
theorem wpAny_invX (hord : earlier md ops = true) (Inv : (Nat → Bool) → Act → World → Prop)
  (step : ∀ (x : Nat → Bool) (a : Act) (w : World) (i : Nat) (o : Oper), Inv x a w → ops[i]? = some o → x i = false → (∀ e ∈ o.after, Region.binds md e = true → x e.on = true) → wpOp P ops Q i (fun a' w' => Inv (fun k => k == i || x k) a' w') a w)
  (done : ∀ (x : Nat → Bool) (a : Act) (w : World), Inv x a w → (∀ i, i < ops.size → x i = true) → Q .normal a w) :
  ∀ (fuel : Nat) (listed : Array Bool) (a : Act) (w : World), listed.size = ops.size → (listed.toList.filter (fun b => !b)).length ≤ fuel → Inv (fun k => listed.getD k false) a w → wpAny P md ops Q fuel listed a w := by
 intro fuel
 induction fuel with
 | zero =>
  intro listed a w hs hf hI
  have hall : ∀ b ∈ listed.toList, b = true := by
   intro b hb
   have h0 : listed.toList.filter (fun b => !b) = [] := List.length_eq_zero_iff.1 (by omega)
   rw [List.filter_eq_nil_iff] at h0
   simpa using h0 b hb
  have hg : ∀ i, i < ops.size → listed.getD i false = true := fun i hi => by
   have hlt : i < listed.size := by omega
   have := hall listed[i] (by simp)
   simp [Array.getD, hlt, this]
  have hr : Region.ready md ops listed = [] := by
   cases hc : Region.ready md ops listed with
   | nil => rfl
   | cons j l =>
    exfalso
    have hj : j ∈ Region.ready md ops listed := by rw [hc]; simp
    obtain ⟨h1, o, ho, _⟩ := mem_ready.1 hj
    have hjs : j < ops.size := (Array.getElem?_eq_some_iff.1 ho).1
    have h2 := hg j hjs
    have hlt : j < listed.size := by omega
    simp [Array.getD, hlt] at h1 h2
    rw [h1] at h2
    cases h2
  exact ⟨hr, done _ a w hI hg⟩
 | succ fuel ih =>
  intro listed a w hs hf hI
  refine ⟨fun hr => done _ a w hI (all_listed hord hs hr), fun i hi => ?_⟩
  obtain ⟨h1, o, ho, hall⟩ := mem_ready.1 hi
  have his : i < ops.size := (Array.getElem?_eq_some_iff.1 ho).1
  have hil : i < listed.size := by omega
  refine wpOp_mono (fun a' w' h => ih (listed.setIfInBounds i true) a' w' (by simpa using hs) ?_ ?_) (step _ a w i o hI ho (by show listed.getD i false = false; have h1' := h1; simp [Array.getD, hil] at h1' ⊢; exact h1') hall)
  ·have hfl : listed[i] = false := by simpa [Array.getD, hil] using h1
   have e1 : listed.toList = listed.toList.take i ++ false :: listed.toList.drop (i + 1) := by
    have h3 : listed.toList[i]'(by simpa using hil) = false := by simpa using hfl
    conv => lhs; rw [← List.take_append_drop i listed.toList, List.drop_eq_getElem_cons (by simpa using hil), h3]
   have e2 : (listed.setIfInBounds i true).toList = listed.toList.take i ++ true :: listed.toList.drop (i + 1) := by
    rw [Array.toList_setIfInBounds, List.set_eq_take_append_cons_drop, if_pos (by simpa using hil)]
   rw [e1] at hf
   rw [e2]
   simp only [List.filter_append, List.length_append, List.filter_cons] at hf ⊢
   simp at hf ⊢
   omega
  ·have : (fun k => (listed.setIfInBounds i true).getD k false) = (fun k => k == i || listed.getD k false) := by
    funext k
    by_cases hk : k = i
    ·subst hk; simp [Array.getD, hil]
    ·rw [getD_set_ne false (Ne.symm hk)]; simp [hk]
   rw [this]
   exact h
def Shut' (ops : Array Oper) (x : Nat → Bool) : Prop := ∀ k o, ops[k]? = some o → x k = true → ∀ e ∈ o.after, Region.binds .any e = true → x e.on = true
def reach (ops : Array Oper) (i : Nat) : Nat → Nat → Bool
 | 0, _ => false
 | f + 1, j => ((ops[j]?).map fun o => o.after.any fun e => Region.binds .any e && (e.on == i || reach ops i f e.on)).getD false
theorem reach_up {x : Nat → Bool} (hs : Shut' ops x) {i : Nat} : ∀ (f j : Nat), reach ops i f j = true → x j = true → x i = true := by
 intro f
 induction f with
 | zero => intro j h; simp [reach] at h
 | succ f ih =>
  intro j h hx
  unfold reach at h
  cases ho : ops[j]? with
  | none => rw [ho] at h; simp at h
  | some o =>
   rw [ho] at h
   simp only [Option.map_some, Option.getD_some] at h
   obtain ⟨k, hk, h2⟩ := Array.any_eq_true.1 h
   simp only [Bool.and_eq_true, Bool.or_eq_true, beq_iff_eq] at h2
   have h3 := hs j o ho hx _ (Array.getElem_mem hk) h2.1
   rcases h2.2 with e | e
   ·rw [← e]; exact h3
   ·exact ih _ e h3
theorem notYet {x : Nat → Bool} (hs : Shut' ops x) {i : Nat} (hx : x i = false) (j : Nat) (h : reach ops i 12 j = true) : x j = false := by
 cases hj : x j with
 | false => rfl
 | true => rw [reach_up hs 12 j h hj] at hx; cases hx
theorem depX {x : Nat → Bool} {i : Nat} (hd : ∀ o, ops[i]? = some o → ∀ e ∈ o.after, Region.binds .any e = true → x e.on = true) (j : Nat)
  (h : ((ops[i]?).map fun o => o.after.any fun e => Region.binds .any e && e.on == j) = some true) : x j = true := by
 cases ho : ops[i]? with
 | none => rw [ho] at h; simp at h
 | some o =>
  rw [ho] at h
  simp only [Option.map_some, Option.some.injEq] at h
  obtain ⟨k, hk, h2⟩ := Array.any_eq_true.1 h
  simp only [Bool.and_eq_true, beq_iff_eq] at h2
  have := hd o ho _ (Array.getElem_mem hk) h2.1
  rw [h2.2] at this
  exact this
structure FX where
 q : Value → Prop
 till : List Nat
 f : Fct
def FX.p (T : FX) (x : Nat → Bool) (v : Value) (w : World) : Prop := T.q v ∧ ((∀ u ∈ T.till, x u = false) → T.f.p v w)
def FX.eq (u : Value) : FX := ⟨fun v => v = u, [], Fct.any⟩
def FX.pre (T : List Nat) (f : Fct) : FX := ⟨fun _ => True, T, f⟩
def FX.is (f : Fct) : FX := ⟨fun _ => True, [], f⟩
theorem FX.eq_mk {x : Nat → Bool} {v u : Value} {w : World} (h : v = u) : (FX.eq u).p x v w := ⟨h, fun _ => trivial⟩
theorem FX.pre_mk {x : Nat → Bool} {v : Value} {w : World} {T : List Nat} {f : Fct} (h : f.p v w) : (FX.pre T f).p x v w := ⟨trivial, fun _ => h⟩
theorem FX.is_mk {x : Nat → Bool} {v : Value} {w : World} {f : Fct} (h : f.p v w) : (FX.is f).p x v w := ⟨trivial, fun _ => h⟩
theorem FX.is_of {x : Nat → Bool} {v : Value} {w : World} {f : Fct} (h : (FX.is f).p x v w) : f.p v w := h.2 (by simp [FX.is])
theorem FX.pre_of {x : Nat → Bool} {v : Value} {w : World} {f : Fct} {u : Nat} (h : (FX.pre [u] f).p x v w) (hu : x u = false) : f.p v w := h.2 (by simp [FX.pre, hu])
theorem FX.pre_of2 {x : Nat → Bool} {v : Value} {w : World} {f : Fct} {u u2 : Nat} (h : (FX.pre [u, u2] f).p x v w) (hu : x u = false) (hu2 : x u2 = false) : f.p v w := h.2 (by simp [FX.pre, hu, hu2])
def covers (ops : Array Oper) (TT : List Nat) (n : Nat) (plain : Nat → Bool) (till : Nat → List Nat) : Bool :=
 TT.all fun i => (List.range n).all fun k => k == i || (till k).contains i || reach ops i 12 k || plain k
theorem region_turns {id n : Nat} (hm : P.follows .mixedOrders = true) (hord : earlier .any ops = true) (hn : ops.size = n) (A : (Nat → Value) → Act) (T : Nat → FX) (TT : List Nat) (g : Fct) (wb w0 : World)
  (till : Nat → List Nat) (plain : Nat → Bool) (hcov : covers ops TT n plain till = true) (htill : ∀ k, k < n → (T k).till = till k) (hplain : ∀ k, k < n → plain k = true → (T k).f = Fct.any)
  (t0 : Nat → Value) (hB : Below wb.heap.size wb w0) (hg : g.p undef w0)
  (step : ∀ i, i < n → ∀ (x : Nat → Bool) (t : Nat → Value) (w : World), x i = false → Shut' ops x → (∀ k, x k = false → t k = t0 k) → Below wb.heap.size wb w → ((∀ u ∈ TT, x u = false) → g.p undef w) → (∀ o, ops[i]? = some o → ∀ e ∈ o.after, Region.binds .any e = true → x e.on = true) → (∀ k, k < n → x k = true → (T k).p x (t k) w) →
   wpOp P ops Q i (fun a' w' => ∃ v, a' = A (upd t i v) ∧ (T i).p (fun j => j == i || x j) v w' ∧ (i ∉ TT → Below w.heap.size w w') ∧ Below wb.heap.size wb w') (A t) w)
  (done : ∀ (x : Nat → Bool) (t : Nat → Value) (w : World), (∀ i, i < n → x i = true) → Below wb.heap.size wb w → (∀ i, i < n → (T i).p x (t i) w) → Q .normal (A t) w) :
  (Code.region id ops true).wp P Q (A t0) w0 := by
 refine wp_region_any hm ?_
 have hrep : ∀ k, (Array.replicate ops.size false).getD k false = false := by
  intro k
  rw [Array.getD_eq_getD_getElem?, Array.getElem?_replicate]
  split <;> simp
 refine wpAny_invX hord (fun x a w => ∃ t, a = A t ∧ Shut' ops x ∧ (∀ k, x k = false → t k = t0 k) ∧ Below wb.heap.size wb w ∧ ((∀ u ∈ TT, x u = false) → g.p undef w) ∧ ∀ k, k < n → x k = true → (T k).p x (t k) w) ?_ ?_ _ _ _ _ (by simp) ?_ ⟨t0, rfl, fun k o _ h => ?_, fun _ _ => rfl, hB.drew, fun _ => g.mono _ _ _ hg (Below.refl _ _).drew, fun k hk h => ?_⟩
 ·rintro x a w i o ⟨t, rfl, hs, h0, hb, hg', hf⟩ ho hxi hx
  have hi : i < n := by rw [← hn]; exact (Array.getElem?_eq_some_iff.1 ho).1
  refine wpOp_mono ?_ (step i hi x t w hxi hs h0 hb hg' (fun o' ho' e he hb => by rw [ho] at ho'; cases ho'; exact hx e he hb) hf)
  rintro a' w' ⟨v, rfl, h1, h2, h3⟩
  refine ⟨upd t i v, rfl, ?_, fun k hk => ?_, h3, fun hu => ?_, fun k hk hxk => ?_⟩
  ·intro k ok hok hk e he hb
   by_cases hki : k = i
   ·subst hki
    rw [ho] at hok
    cases hok
    simp [hx e he hb]
   ·have : x k = true := by simpa [hki] using hk
    simp [hs k ok hok this e he hb]
  ·have : ¬ k = i ∧ x k = false := by simpa using hk
   simpa [upd, this.1] using h0 k this.2
  ·have hT : i ∉ TT := fun hT => by have := hu i hT; simp at this
   exact g.mono _ _ _ (hg' (fun u hu' => by have := hu u hu'; simpa using (by simpa using this : ¬ u = i ∧ x u = false).2)) (h2 hT)
  ·by_cases hki : k = i
   ·subst hki; simpa [upd] using h1
   ·have hxk' : x k = true := by simpa [hki] using hxk
    obtain ⟨f1, f2⟩ := hf k hk hxk'
    have : (T k).p (fun j => j == i || x j) (t k) w' := ⟨f1, fun hu => by
     by_cases hT : i ∈ TT
     ·have hc := List.all_eq_true.1 (List.all_eq_true.1 hcov i hT) k (List.mem_range.2 hk)
      simp only [Bool.or_eq_true, beq_iff_eq, List.contains_iff_mem] at hc
      rcases hc with ((hc | hc) | hc) | hc
      ·exact absurd hc hki
      ·have := hu i (by rw [htill k hk]; exact hc); simp at this
      ·rw [reach_up hs 12 k hc hxk'] at hxi; cases hxi
      ·rw [hplain k hk hc]; trivial
     ·exact (T k).f.mono _ w w' (f2 (fun u hu' => by have := hu u hu'; simpa using (by simpa using this : ¬ u = i ∧ x u = false).2)) (h2 hT)⟩
    simpa [upd, hki] using this
 ·rintro x a w ⟨t, rfl, -, -, hb, -, hf⟩ hx
  exact done x t w (fun i hi => hx i (by omega)) hb (fun i hi => hf i hi (hx i (by omega)))
 ·simp
 ·have h' : (Array.replicate ops.size false).getD k false = true := h
  rw [hrep] at h'; cases h'
 ·have h' : (Array.replicate ops.size false).getD k false = true := h
  rw [hrep] at h'; cases h'
def covers2 (ops : Array Oper) (TT : List Nat) (n : Nat) (plain : Nat → Bool) (till : Nat → List Nat) (stab : Nat → Nat → Bool) : Bool :=
 TT.all fun i => (List.range n).all fun k => k == i || (till k).contains i || reach ops i 12 k || plain k || stab i k
theorem region_turns2 {id n : Nat} (hm : P.follows .mixedOrders = true) (hord : earlier .any ops = true) (hn : ops.size = n) (A : (Nat → Value) → Act) (T : Nat → FX) (TT : List Nat) (g : Fct) (wb w0 : World)
  (till : Nat → List Nat) (plain : Nat → Bool) (Rel : Nat → World → World → Prop) (GT : List Nat) (stab : Nat → Nat → Bool) (hcov : covers2 ops TT n plain till stab = true)
  (hstab : ∀ i ∈ TT, ∀ k, k < n → stab i k = true → ∀ v w w', Rel i w w' → (T k).f.p v w → (T k).f.p v w') (hgst : ∀ i ∈ TT, i ∉ GT → ∀ w w', Rel i w w' → g.p undef w → g.p undef w') (htill : ∀ k, k < n → (T k).till = till k) (hplain : ∀ k, k < n → plain k = true → (T k).f = Fct.any)
  (t0 : Nat → Value) (hB : Below wb.heap.size wb w0) (hg : g.p undef w0)
  (step : ∀ i, i < n → ∀ (x : Nat → Bool) (t : Nat → Value) (w : World), x i = false → Shut' ops x → (∀ k, x k = false → t k = t0 k) → Below wb.heap.size wb w → ((∀ u ∈ GT, x u = false) → g.p undef w) → (∀ o, ops[i]? = some o → ∀ e ∈ o.after, Region.binds .any e = true → x e.on = true) → (∀ k, k < n → x k = true → (T k).p x (t k) w) →
   wpOp P ops Q i (fun a' w' => ∃ v, a' = A (upd t i v) ∧ (T i).p (fun j => j == i || x j) v w' ∧ (i ∉ TT → Below w.heap.size w w') ∧ (i ∈ TT → Rel i w w') ∧ Below wb.heap.size wb w') (A t) w)
  (done : ∀ (x : Nat → Bool) (t : Nat → Value) (w : World), (∀ i, i < n → x i = true) → Below wb.heap.size wb w → (∀ i, i < n → (T i).p x (t i) w) → Q .normal (A t) w) :
  (Code.region id ops true).wp P Q (A t0) w0 := by
 refine wp_region_any hm ?_
 have hrep : ∀ k, (Array.replicate ops.size false).getD k false = false := by
  intro k
  rw [Array.getD_eq_getD_getElem?, Array.getElem?_replicate]
  split <;> simp
 refine wpAny_invX hord (fun x a w => ∃ t, a = A t ∧ Shut' ops x ∧ (∀ k, x k = false → t k = t0 k) ∧ Below wb.heap.size wb w ∧ ((∀ u ∈ GT, x u = false) → g.p undef w) ∧ ∀ k, k < n → x k = true → (T k).p x (t k) w) ?_ ?_ _ _ _ _ (by simp) ?_ ⟨t0, rfl, fun k o _ h => ?_, fun _ _ => rfl, hB.drew, fun _ => g.mono _ _ _ hg (Below.refl _ _).drew, fun k hk h => ?_⟩
 ·rintro x a w i o ⟨t, rfl, hs, h0, hb, hg', hf⟩ ho hxi hx
  have hi : i < n := by rw [← hn]; exact (Array.getElem?_eq_some_iff.1 ho).1
  refine wpOp_mono ?_ (step i hi x t w hxi hs h0 hb hg' (fun o' ho' e he hb => by rw [ho] at ho'; cases ho'; exact hx e he hb) hf)
  rintro a' w' ⟨v, rfl, h1, h2, h2r, h3⟩
  refine ⟨upd t i v, rfl, ?_, fun k hk => ?_, h3, fun hu => ?_, fun k hk hxk => ?_⟩
  ·intro k ok hok hk e he hb
   by_cases hki : k = i
   ·subst hki
    rw [ho] at hok
    cases hok
    simp [hx e he hb]
   ·have : x k = true := by simpa [hki] using hk
    simp [hs k ok hok this e he hb]
  ·have : ¬ k = i ∧ x k = false := by simpa using hk
   simpa [upd, this.1] using h0 k this.2
  ·have hg2 := hg' (fun u hu' => by have := hu u hu'; simpa using (by simpa using this : ¬ u = i ∧ x u = false).2)
   by_cases hT : i ∈ TT
   ·exact hgst i hT (fun hG => by have := hu i hG; simp at this) _ _ (h2r hT) hg2
   ·exact g.mono _ _ _ hg2 (h2 hT)
  ·by_cases hki : k = i
   ·subst hki; simpa [upd] using h1
   ·have hxk' : x k = true := by simpa [hki] using hxk
    obtain ⟨f1, f2⟩ := hf k hk hxk'
    have : (T k).p (fun j => j == i || x j) (t k) w' := ⟨f1, fun hu => by
     by_cases hT : i ∈ TT
     ·have hc := List.all_eq_true.1 (List.all_eq_true.1 hcov i hT) k (List.mem_range.2 hk)
      simp only [Bool.or_eq_true, beq_iff_eq, List.contains_iff_mem] at hc
      rcases hc with (((hc | hc) | hc) | hc) | hc
      ·exact absurd hc hki
      ·have := hu i (by rw [htill k hk]; exact hc); simp at this
      ·rw [reach_up hs 12 k hc hxk'] at hxi; cases hxi
      ·rw [hplain k hk hc]; trivial
      ·exact hstab i hT k hk hc _ _ _ (h2r hT) (f2 (fun u hu' => by have := hu u hu'; simpa using (by simpa using this : ¬ u = i ∧ x u = false).2))
     ·exact (T k).f.mono _ w w' (f2 (fun u hu' => by have := hu u hu'; simpa using (by simpa using this : ¬ u = i ∧ x u = false).2)) (h2 hT)⟩
    simpa [upd, hki] using this
 ·rintro x a w ⟨t, rfl, -, -, hb, -, hf⟩ hx
  exact done x t w (fun i hi => hx i (by omega)) hb (fun i hi => hf i hi (hx i (by omega)))
 ·simp
 ·have h' : (Array.replicate ops.size false).getD k false = true := h
  rw [hrep] at h'; cases h'
 ·have h' : (Array.replicate ops.size false).getD k false = true := h
  rw [hrep] at h'; cases h'
theorem region_turns3 {id n : Nat} (hm : P.follows .mixedOrders = true) (hord : earlier .any ops = true) (hn : ops.size = n) (A : (Nat → Value) → Act) (T : Nat → FX) (TT : List Nat) (g : Fct) (H : (Nat → Bool) → (Nat → Value) → World → Prop) (wb w0 : World)
  (till : Nat → List Nat) (plain : Nat → Bool) (Rel : Nat → World → World → Prop) (GT : List Nat) (stab : Nat → Nat → Bool) (hcov : covers2 ops TT n plain till stab = true)
  (hstab : ∀ i ∈ TT, ∀ k, k < n → stab i k = true → ∀ v w w', Rel i w w' → (T k).f.p v w → (T k).f.p v w') (hgst : ∀ i ∈ TT, i ∉ GT → ∀ w w', Rel i w w' → g.p undef w → g.p undef w') (htill : ∀ k, k < n → (T k).till = till k) (hplain : ∀ k, k < n → plain k = true → (T k).f = Fct.any)
  (t0 : Nat → Value) (hH : H (fun _ => false) t0 w0.drew) (hB : Below wb.heap.size wb w0) (hg : g.p undef w0)
  (step : ∀ i, i < n → ∀ (x : Nat → Bool) (t : Nat → Value) (w : World), x i = false → Shut' ops x → (∀ k, x k = false → t k = t0 k) → Below wb.heap.size wb w → ((∀ u ∈ GT, x u = false) → g.p undef w) → (∀ o, ops[i]? = some o → ∀ e ∈ o.after, Region.binds .any e = true → x e.on = true) → (∀ k, k < n → x k = true → (T k).p x (t k) w) → H x t w →
   wpOp P ops Q i (fun a' w' => ∃ v, a' = A (upd t i v) ∧ (T i).p (fun j => j == i || x j) v w' ∧ (i ∉ TT → Below w.heap.size w w') ∧ (i ∈ TT → Rel i w w') ∧ Below wb.heap.size wb w' ∧ H (fun j => j == i || x j) (upd t i v) w') (A t) w)
  (done : ∀ (x : Nat → Bool) (t : Nat → Value) (w : World), (∀ i, i < n → x i = true) → Below wb.heap.size wb w → (∀ i, i < n → (T i).p x (t i) w) → H x t w → Q .normal (A t) w) :
  (Code.region id ops true).wp P Q (A t0) w0 := by
 refine wp_region_any hm ?_
 have hrep : ∀ k, (Array.replicate ops.size false).getD k false = false := by
  intro k
  rw [Array.getD_eq_getD_getElem?, Array.getElem?_replicate]
  split <;> simp
 refine wpAny_invX hord (fun x a w => ∃ t, a = A t ∧ Shut' ops x ∧ (∀ k, x k = false → t k = t0 k) ∧ Below wb.heap.size wb w ∧ ((∀ u ∈ GT, x u = false) → g.p undef w) ∧ H x t w ∧ ∀ k, k < n → x k = true → (T k).p x (t k) w) ?_ ?_ _ _ _ _ (by simp) ?_ ⟨t0, rfl, fun k o _ h => ?_, fun _ _ => rfl, hB.drew, fun _ => g.mono _ _ _ hg (Below.refl _ _).drew, (by rw [show (fun k => (Array.replicate ops.size false).getD k false) = (fun _ => false) from funext hrep]; exact hH), fun k hk h => ?_⟩
 ·rintro x a w i o ⟨t, rfl, hs, h0, hb, hg', hh, hf⟩ ho hxi hx
  have hi : i < n := by rw [← hn]; exact (Array.getElem?_eq_some_iff.1 ho).1
  refine wpOp_mono ?_ (step i hi x t w hxi hs h0 hb hg' (fun o' ho' e he hb => by rw [ho] at ho'; cases ho'; exact hx e he hb) hf hh)
  rintro a' w' ⟨v, rfl, h1, h2, h2r, h3, h4⟩
  refine ⟨upd t i v, rfl, ?_, fun k hk => ?_, h3, fun hu => ?_, h4, fun k hk hxk => ?_⟩
  ·intro k ok hok hk e he hb
   by_cases hki : k = i
   ·subst hki
    rw [ho] at hok
    cases hok
    simp [hx e he hb]
   ·have : x k = true := by simpa [hki] using hk
    simp [hs k ok hok this e he hb]
  ·have : ¬ k = i ∧ x k = false := by simpa using hk
   simpa [upd, this.1] using h0 k this.2
  ·have hg2 := hg' (fun u hu' => by have := hu u hu'; simpa using (by simpa using this : ¬ u = i ∧ x u = false).2)
   by_cases hT : i ∈ TT
   ·exact hgst i hT (fun hG => by have := hu i hG; simp at this) _ _ (h2r hT) hg2
   ·exact g.mono _ _ _ hg2 (h2 hT)
  ·by_cases hki : k = i
   ·subst hki; simpa [upd] using h1
   ·have hxk' : x k = true := by simpa [hki] using hxk
    obtain ⟨f1, f2⟩ := hf k hk hxk'
    have : (T k).p (fun j => j == i || x j) (t k) w' := ⟨f1, fun hu => by
     by_cases hT : i ∈ TT
     ·have hc := List.all_eq_true.1 (List.all_eq_true.1 hcov i hT) k (List.mem_range.2 hk)
      simp only [Bool.or_eq_true, beq_iff_eq, List.contains_iff_mem] at hc
      rcases hc with (((hc | hc) | hc) | hc) | hc
      ·exact absurd hc hki
      ·have := hu i (by rw [htill k hk]; exact hc); simp at this
      ·rw [reach_up hs 12 k hc hxk'] at hxi; cases hxi
      ·rw [hplain k hk hc]; trivial
      ·exact hstab i hT k hk hc _ _ _ (h2r hT) (f2 (fun u hu' => by have := hu u hu'; simpa using (by simpa using this : ¬ u = i ∧ x u = false).2))
     ·exact (T k).f.mono _ w w' (f2 (fun u hu' => by have := hu u hu'; simpa using (by simpa using this : ¬ u = i ∧ x u = false).2)) (h2 hT)⟩
    simpa [upd, hki] using this
 ·rintro x a w ⟨t, rfl, -, -, hb, -, hh, hf⟩ hx
  exact done x t w (fun i hi => hx i (by omega)) hb (fun i hi => hf i hi (hx i (by omega))) hh
 ·simp
 ·have h' : (Array.replicate ops.size false).getD k false = true := h
  rw [hrep] at h'; cases h'
 ·have h' : (Array.replicate ops.size false).getD k false = true := h
  rw [hrep] at h'; cases h'
end
end Go.Proofs.YtfaehioeepolhabGreat
