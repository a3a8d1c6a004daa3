import Derived.Test.YtfaehioeepolhaaGreatJCrashReceiver0
import Derived.Deep.RegionHeld3
namespace Go.Proofs.YtfaehioeepolhaaGreat
open Go.RowKit
section
variable {P : Program} {ops : Array Oper} {Q : Exit → Act → World → Prop} {md : Region.Mode}
def earlier (md : Region.Mode) (ops : Array Oper) : Bool :=
  (List.range ops.size).all fun i => ((ops[i]?).map fun o => o.after.all fun e => !Region.binds md e || decide (e.on < i)).getD true
theorem earlier_spec (h : earlier md ops = true) {i : Nat} {o : Oper} (ho : ops[i]? = some o) : ∀ e ∈ o.after, Region.binds md e = true → e.on < i := by
  intro e he hb
  have hi : i < ops.size := (Array.getElem?_eq_some_iff.1 ho).1
  have h1 := List.all_eq_true.1 h i (List.mem_range.2 hi)
  rw [ho] at h1
  simp only [Option.map_some, Option.getD_some] at h1
  have h2 := (Array.all_eq_true_iff_forall_mem.1 h1) e he
  simpa [hb] using h2
theorem all_listed (h : earlier md ops = true) {listed : Array Bool} (_hs : listed.size = ops.size) (hr : Region.ready md ops listed = []) : ∀ i, i < ops.size → listed.getD i false = true := by
  intro i
  induction i using Nat.strongRecOn with
  | ind i ih =>
    intro hi
    cases hc : listed.getD i false with
    | true => rfl
    | false =>
      exfalso
      have hlt : i < listed.size := by omega
      have h0 : listed.getD i true = false := by
        simp [Array.getD, hlt] at hc ⊢
        exact hc
      have : i ∈ Region.ready md ops listed := mem_ready.2 ⟨h0, ops[i], Array.getElem?_eq_getElem hi, fun e he hb => by
        have h3 := earlier_spec h (Array.getElem?_eq_getElem hi) e he hb
        exact ih e.on h3 (by omega)⟩
      rw [hr] at this
      cases this
theorem wpAny_inv (hord : earlier md ops = true) (Inv : (Nat → Bool) → Act → World → Prop)
    (step : ∀ (x : Nat → Bool) (a : Act) (w : World) (i : Nat) (o : Oper), Inv x a w → ops[i]? = some o → (∀ e ∈ o.after, Region.binds md e = true → x e.on = true) → wpOp P ops Q i (fun a' w' => Inv (fun k => k == i || x k) a' w') a w)
    (done : ∀ (x : Nat → Bool) (a : Act) (w : World), Inv x a w → (∀ i, i < ops.size → x i = true) → Q .normal a w) :
    ∀ (fuel : Nat) (listed : Array Bool) (a : Act) (w : World), listed.size = ops.size → (listed.toList.filter (fun b => !b)).length ≤ fuel → Inv (fun k => listed.getD k false) a w → wpAny P md ops Q fuel listed a w := by
  intro fuel
  induction fuel with
  | zero =>
    intro listed a w hs hf hI
    have hall : ∀ b ∈ listed.toList, b = true := by
      intro b hb
      have h0 : listed.toList.filter (fun b => !b) = [] := List.length_eq_zero_iff.1 (by omega)
      rw [List.filter_eq_nil_iff] at h0
      simpa using h0 b hb
    have hg : ∀ i, i < ops.size → listed.getD i false = true := fun i hi => by
      have hlt : i < listed.size := by omega
      have := hall listed[i] (by simp)
      simp [Array.getD, hlt, this]
    have hr : Region.ready md ops listed = [] := by
      cases hc : Region.ready md ops listed with
      | nil => rfl
      | cons j l =>
        exfalso
        have hj : j ∈ Region.ready md ops listed := by rw [hc]; simp
        obtain ⟨h1, o, ho, _⟩ := mem_ready.1 hj
        have hjs : j < ops.size := (Array.getElem?_eq_some_iff.1 ho).1
        have h2 := hg j hjs
        have hlt : j < listed.size := by omega
        simp [Array.getD, hlt] at h1 h2
        rw [h1] at h2
        cases h2
    exact ⟨hr, done _ a w hI hg⟩
  | succ fuel ih =>
    intro listed a w hs hf hI
    refine ⟨fun hr => done _ a w hI (all_listed hord hs hr), fun i hi => ?_⟩
    obtain ⟨h1, o, ho, hall⟩ := mem_ready.1 hi
    have his : i < ops.size := (Array.getElem?_eq_some_iff.1 ho).1
    have hil : i < listed.size := by omega
    refine wpOp_mono (fun a' w' h => ih (listed.setIfInBounds i true) a' w' (by simpa using hs) ?_ ?_) (step _ a w i o hI ho hall)
    · have hfl : listed[i] = false := by simpa [Array.getD, hil] using h1
      have e1 : listed.toList = listed.toList.take i ++ false :: listed.toList.drop (i + 1) := by
        have h3 : listed.toList[i]'(by simpa using hil) = false := by simpa using hfl
        conv => lhs; rw [← List.take_append_drop i listed.toList, List.drop_eq_getElem_cons (by simpa using hil), h3]
      have e2 : (listed.setIfInBounds i true).toList = listed.toList.take i ++ true :: listed.toList.drop (i + 1) := by
        rw [Array.toList_setIfInBounds, List.set_eq_take_append_cons_drop, if_pos (by simpa using hil)]
      rw [e1] at hf
      rw [e2]
      simp only [List.filter_append, List.length_append, List.filter_cons] at hf ⊢
      simp at hf ⊢
      omega
    · have : (fun k => (listed.setIfInBounds i true).getD k false) = (fun k => k == i || listed.getD k false) := by
        funext k
        by_cases hk : k = i
        · subst hk; simp [Array.getD, hil]
        · rw [getD_set_ne false (Ne.symm hk)]; simp [hk]
      rw [this]
      exact h
def upd (t : Nat → Value) (i : Nat) (v : Value) : Nat → Value := fun k => if k = i then v else t k
theorem region_facts {id n : Nat} (hm : P.follows .mixedOrders = true) (hord : earlier .any ops = true) (hn : ops.size = n) (A : (Nat → Value) → Act) (F : Nat → Value → World → Prop) (G : World → Prop) (w0 : World)
    (hmono : ∀ i v w w', F i v w → Below w.heap.size w w' → F i v w')
    (t0 : Nat → Value) (hG : G w0.drew)
    (step : ∀ i, i < n → ∀ (t : Nat → Value) (w : World), G w → (∀ o, ops[i]? = some o → ∀ e ∈ o.after, Region.binds .any e = true → F e.on (t e.on) w) → wpOp P ops Q i (fun a' w' => ∃ v, a' = A (upd t i v) ∧ F i v w' ∧ G w' ∧ Below w.heap.size w w') (A t) w)
    (done : ∀ (t : Nat → Value) (w : World), G w → (∀ i, i < n → F i (t i) w) → Q .normal (A t) w) :
    (Code.region id ops true).wp P Q (A t0) w0 := by
  refine wp_region_any hm ?_
  refine wpAny_inv hord (fun x a w => ∃ t, a = A t ∧ G w ∧ ∀ k, k < n → x k = true → F k (t k) w) ?_ ?_ _ _ _ _ (by simp) ?_ ⟨t0, rfl, hG, fun k hk h => ?_⟩
  · rintro x a w i o ⟨t, rfl, hg, hf⟩ ho hx
    have hi : i < n := by rw [← hn]; exact (Array.getElem?_eq_some_iff.1 ho).1
    refine wpOp_mono ?_ (step i hi t w hg (fun o' ho' e he hb => ?_))
    · rintro a' w' ⟨v, rfl, h1, h2, h3⟩
      refine ⟨upd t i v, rfl, h2, fun k hk hxk => ?_⟩
      by_cases hki : k = i
      · subst hki; simpa [upd] using h1
      · have : x k = true := by simpa [hki] using hxk
        simpa [upd, hki] using hmono k _ w w' (hf k hk this) h3
    · rw [ho] at ho'
      cases ho'
      have h1 := earlier_spec hord ho e he hb
      exact hf _ (by omega) (hx e he hb)
  · rintro x a w ⟨t, rfl, hg, hf⟩ hx
    exact done t w hg (fun i hi => hf i hi (hx i (by omega)))
  · simp
  · dsimp only at h
    rw [Array.getD_eq_getD_getElem?, Array.getElem?_replicate] at h
    split at h <;> simp at h
end
structure Fct where
  p : Value → World → Prop
  mono : ∀ v w w', p v w → Below w.heap.size w w' → p v w'
def Fct.any : Fct := ⟨fun _ _ => True, fun _ _ _ h _ => h⟩
theorem dep {ops : Array Oper} {F : Nat → Value → World → Prop} {t : Nat → Value} {w : World} {i : Nat} (hd : ∀ o, ops[i]? = some o → ∀ e ∈ o.after, Region.binds .any e = true → F e.on (t e.on) w) (j : Nat)
    (h : ((ops[i]?).map fun o => o.after.any fun e => Region.binds .any e && e.on == j) = some true) : F j (t j) w := by
  cases ho : ops[i]? with
  | none => rw [ho] at h; simp at h
  | some o =>
    rw [ho] at h
    simp only [Option.map_some, Option.some.injEq] at h
    obtain ⟨k, hk, h2⟩ := Array.any_eq_true.1 h
    simp only [Bool.and_eq_true, beq_iff_eq] at h2
    have := hd o ho _ (Array.getElem_mem hk) h2.1
    rw [h2.2] at this
    exact this
end Go.Proofs.YtfaehioeepolhaaGreat
