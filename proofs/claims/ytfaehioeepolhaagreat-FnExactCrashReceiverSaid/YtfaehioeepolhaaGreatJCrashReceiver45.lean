import Derived.Test.YtfaehioeepolhaaGreatJCrashReceiver15
import Derived.Test.YtfaehioeepolhaaGreatJCrashReceiver10
namespace Go.Proofs.YtfaehioeepolhaaGreat
open Go.RowKit
section
variable {α : Type} (f : α → Nat) (mk : Nat → α → α)
def sumL (xs : List α) : Nat := (xs.map f).sum
def mkL : Nat → List α → List α
  | _, [] => []
  | m, x :: xs => mk m x :: mkL (m + f x) xs
theorem mkL_len : ∀ (m : Nat) (xs : List α), (mkL f mk m xs).length = xs.length
  | _, [] => rfl
  | m, x :: xs => by simp [mkL, mkL_len]
theorem mkL_at : ∀ (m : Nat) (xs : List α) (k : Nat) (h : k < xs.length), (mkL f mk m xs)[k]? = some (mk (m + sumL f (xs.take k)) xs[k])
  | m, x :: xs, 0, _ => by simp [mkL, sumL]
  | m, x :: xs, k + 1, h => by
    have hk : k < xs.length := by simpa using h
    rw [mkL, List.getElem?_cons_succ, mkL_at (m + f x) xs k hk]
    simp [sumL, Nat.add_assoc]
theorem sumL_snoc (xs : List α) (k : Nat) (h : k < xs.length) : sumL f (xs.take (k + 1)) = sumL f (xs.take k) + f xs[k] := sum_snoc f xs k h
theorem sumL_take (xs : List α) (k : Nat) : sumL f (xs.take k) ≤ sumL f xs := sum_take f xs k
def mixL (m : Nat) (ys : List α) (d k : Nat) : List α := ys.take d ++ ((mkL f mk m (ys.drop d)).take k ++ ys.drop (d + k))
theorem mixL_len (m : Nat) (ys : List α) (d k : Nat) (h : d + k ≤ ys.length) : (mixL f mk m ys d k).length = ys.length := by
  simp [mixL, mkL_len]; omega
theorem mixL_zero (m : Nat) (ys : List α) (d : Nat) : mixL f mk m ys d 0 = ys := by simp [mixL]
theorem mixL_at (m : Nat) (ys : List α) (d k : Nat) (h : d + k < ys.length) : (mixL f mk m ys d k)[d + k]? = some ys[d + k] := by
  have h1 : (ys.take d).length = d := by simp; omega
  have h2 : ((mkL f mk m (ys.drop d)).take k).length = k := by rw [List.length_take, mkL_len]; simp; omega
  unfold mixL
  rw [List.getElem?_append_right (by omega), h1, List.getElem?_append_right (by omega), h2]
  simp [h]
theorem mixL_succ (m : Nat) (ys : List α) (d k : Nat) (h : d + k < ys.length) : (mixL f mk m ys d k).set (d + k) (mk (m + sumL f ((ys.drop d).take k)) ys[d + k]) = mixL f mk m ys d (k + 1) := by
  have h1 : (ys.take d).length = d := by simp; omega
  have h2 : ((mkL f mk m (ys.drop d)).take k).length = k := by rw [List.length_take, mkL_len]; simp; omega
  have hd : ys.drop (d + k) = ys[d + k] :: ys.drop (d + (k + 1)) := List.drop_eq_getElem_cons h
  have hk : k < (ys.drop d).length := by simp; omega
  have ha := mkL_at f mk m (ys.drop d) k hk
  have hkk : k < (mkL f mk m (ys.drop d)).length := by rw [mkL_len]; exact hk
  rw [List.getElem?_eq_getElem hkk, Option.some.injEq] at ha
  unfold mixL
  rw [List.set_append_right _ _ (by omega), h1, show d + k - d = k from by omega, List.set_append_right _ _ (by omega), h2, Nat.sub_self, hd, List.set_cons_zero, List.take_succ_eq_append_getElem hkk, ha]
  simp
theorem mixL_done (m : Nat) (ys : List α) (d k : Nat) (h : d + k = ys.length) : mixL f mk m ys d k = ys.take d ++ mkL f mk m (ys.drop d) := by
  unfold mixL
  have h1 : (mkL f mk m (ys.drop d)).take k = mkL f mk m (ys.drop d) := List.take_of_length_le (by rw [mkL_len]; simp; omega)
  have h2 : ys.drop (d + k) = [] := List.drop_eq_nil_of_le (by omega)
  rw [h1, h2, List.append_nil]
end
theorem part_setAll {vs us : List Value} {n m k j0 : Nat} (hv : vs.length = m * n) (hk : k < m) (hj : j0 + us.length ≤ n) : part (setAll vs (k * n + j0) us) n k = setAll (part vs n k) j0 us := by
  have h : (k + 1) * n ≤ m * n := Nat.mul_le_mul_right _ hk
  rw [Nat.add_mul, Nat.one_mul] at h
  have hp := part_len hv hk
  apply List.ext_getElem?
  intro j
  rw [setAll_at us (part vs n k) j0 j (by omega)]
  by_cases hjn : j < n
  · rw [part_at hjn, part_at hjn, setAll_at _ _ _ _ (by omega)]
    by_cases hc : j0 ≤ j ∧ j < j0 + us.length
    · rw [if_pos (by omega), if_pos hc, show k * n + j - (k * n + j0) = j - j0 from by omega]
    · rw [if_neg (by omega), if_neg hc]
  · rw [if_neg (by omega), List.getElem?_eq_none (by simp [part]; omega), List.getElem?_eq_none (by omega)]
theorem part_setAllo {vs us : List Value} {n m k j0 i : Nat} (hv : vs.length = m * n) (hk : k < m) (hj : j0 + us.length ≤ n) (hne : i ≠ k) : part (setAll vs (k * n + j0) us) n i = part vs n i := by
  have h : (k + 1) * n ≤ m * n := Nat.mul_le_mul_right _ hk
  rw [Nat.add_mul, Nat.one_mul] at h
  apply List.ext_getElem?
  intro j
  by_cases hjn : j < n
  · rw [part_at hjn, part_at hjn, setAll_at _ _ _ _ (by omega), if_neg]
    intro ⟨h1, h2⟩
    rcases Nat.lt_or_gt_of_ne hne with h3 | h3
    · have : (i + 1) * n ≤ k * n := Nat.mul_le_mul_right _ h3
      rw [Nat.add_mul, Nat.one_mul] at this; omega
    · have : (k + 1) * n ≤ i * n := Nat.mul_le_mul_right _ h3
      rw [Nat.add_mul, Nat.one_mul] at this; omega
  · rw [List.getElem?_eq_none (by simp [part]; omega), List.getElem?_eq_none (by simp [part]; omega)]
theorem wsetAll_only {g : Nat} : ∀ (us : List Value) (w : World) (off : Nat), Only [g] w (wsetAll w g off us)
  | [], w, _ => Only.refl _ w
  | u :: us, w, off => (Only.mk rfl rfl rfl (by simp) (fun i _ hn => Below.heap_setCell _ ⟨g, off, none⟩ _ _ (fun e => hn (by simp [e]))) : Only [g] w (w.setCell ⟨g, off, none⟩ u)).trans (wsetAll_only us _ _)
theorem OwnSl.store {α : Type} {c : Cod α} {e : TypeId} {w : World} {xs : List α} {g n cap : Nat} {bs : List Nat} (h : OwnSl c e w xs (.slice (some ⟨g, 0, none⟩) n cap) bs) (hnd : bs.Nodup) {k : Nat} (hk : k < xs.length) (off j0 : Nat) (us : List Value) (hoff : off = k * c.n + j0) (hj : j0 + us.length ≤ c.n) (y : α)
    (hy : ∀ cs bk w', c.own w xs[k] cs bk → (∀ b ∈ bk, w'.heap[b]? = w.heap[b]?) → c.own w' y (setAll cs j0 us) bk) :
    OwnSl c e (wsetAll w g off us) (xs.set k y) (.slice (some ⟨g, 0, none⟩) n cap) bs ∧ Only bs w (wsetAll w g off us) := by
  rcases h with ⟨h0, _⟩ | ⟨g', cap', vs, bss, ev, ho, hb, hbl, hi⟩
  · cases h0
  simp only [Value.slice.injEq, Option.some.injEq, Addr.mk.injEq, and_true] at ev
  obtain ⟨rfl, rfl, rfl⟩ := ev
  subst hoff hb
  have hvl : vs.length = xs.length * c.n := ho.1
  have hng := (List.nodup_cons.1 hnd).1
  have keep : ∀ j, j ≠ g → (wsetAll w g (k * c.n + j0) us).heap[j]? = w.heap[j]? := fun j hj => wsetAll_other us w g _ hj
  refine ⟨.inr ⟨g, cap, _, bss, by simp, by rw [List.length_set]; exact wsetAll_owns us w vs (k * c.n + j0) ho, rfl, by simpa using hbl, fun i h1 h2 => ?_⟩, (wsetAll_only us w _).mono (by simp)⟩
  have h1' : i < xs.length := by simpa using h1
  have hmem : ∀ b ∈ bss[i], b ≠ g := fun b hb e => hng (e ▸ List.mem_flatten.2 ⟨_, List.getElem_mem h2, hb⟩)
  by_cases ei : i = k
  · subst ei
    rw [List.getElem_set_self, part_setAll hvl h1' hj]
    exact hy _ _ _ (hi i h1' h2) (fun b hb => keep b (hmem b hb))
  · rw [List.getElem_set_ne (fun h => ei h.symm), part_setAllo hvl hk hj ei]
    exact c.kept (hi i h1' h2) (fun b hb => keep b (hmem b hb))
theorem OwnSl.cellAt {α : Type} {c : Cod α} {e : TypeId} {w : World} {xs : List α} {g n cap : Nat} {bs : List Nat} (h : OwnSl c e w xs (.slice (some ⟨g, 0, none⟩) n cap) bs) {j : Nat} (hj : j < xs.length * c.n) : ∃ y, w.cell? ⟨g, j, none⟩ = some y := by
  rcases h with ⟨h0, _⟩ | ⟨g', cap', vs, bss, ev, ho, hb, hbl, hi⟩
  · cases h0
  simp only [Value.slice.injEq, Option.some.injEq, Addr.mk.injEq, and_true] at ev
  obtain ⟨rfl, rfl, rfl⟩ := ev
  have hvl : vs.length = xs.length * c.n := ho.1
  exact ⟨vs[j]'(by omega), by rw [ho.cellAt j hj, List.getElem?_eq_getElem]⟩
theorem OwnSl.frozenAt {α : Type} {c : Cod α} {e : TypeId} {w : World} {xs : List α} {g n cap : Nat} {bs : List Nat} (h : OwnSl c e w xs (.slice (some ⟨g, 0, none⟩) n cap) bs) (j : Nat) : w.frozen? ⟨g, j, none⟩ = false := by
  rcases h with ⟨h0, _⟩ | ⟨g', cap', vs, bss, ev, ho, hb, hbl, hi⟩
  · cases h0
  simp only [Value.slice.injEq, Option.some.injEq, Addr.mk.injEq, and_true] at ev
  obtain ⟨rfl, rfl, rfl⟩ := ev
  exact ho.frozenAt j
theorem OwnSl.focus2 {α : Type} {c : Cod α} {e : TypeId} {w : World} {xs : List α} {v : Value} {bs : List Nat} (h : OwnSl c e w xs v bs) (hnd : bs.Nodup) {k : Nat} (hk : k < xs.length) :
    ∃ g cap cs bk, v = .slice (some ⟨g, 0, none⟩) xs.length cap ∧ c.own w xs[k] cs bk ∧ bk.Nodup ∧ (∀ b ∈ bk, b ∈ bs) ∧ g ∉ bk ∧ (∀ j, j < c.n → w.cell? ⟨g, k * c.n + j, none⟩ = cs[j]?) ∧
      ∀ w' y, c.own w' y cs bk → Only bk w w' → OwnSl c e w' (xs.set k y) v bs := by
  rcases h with ⟨_, rfl, _⟩ | ⟨g, cap, vs, bss, rfl, ho, rfl, hbl, hi⟩
  · simp at hk
  · have hkb : k < bss.length := by omega
    have hnf := (List.nodup_cons.1 hnd).2
    have hng := (List.nodup_cons.1 hnd).1
    have hmem : ∀ i, (h : i < bss.length) → ∀ b ∈ bss[i], b ∈ List.flatten bss := fun i h b hb => List.mem_flatten.2 ⟨_, List.getElem_mem h, hb⟩
    refine ⟨g, cap, part vs c.n k, bss[k], rfl, hi k hk hkb, ?_, fun b hb => List.mem_cons_of_mem _ (hmem k hkb b hb), fun h => hng (hmem k hkb _ h), fun j hj => ?_, fun w' y hy hon => ?_⟩
    · exact flat_one hnf k hkb
    · have hlt : k * c.n + j < xs.length * c.n := by
        have : (k + 1) * c.n ≤ xs.length * c.n := Nat.mul_le_mul_right _ hk
        rw [Nat.add_mul, Nat.one_mul] at this; omega
      rw [ho.cellAt _ hlt, part_at hj]
    · have hgl := (World.ownsRow.lt ho g rfl).2
      refine .inr ⟨g, cap, vs, bss, by simp, ?_, rfl, by simp [hbl], fun i h1 h2 => ?_⟩
      · have := ownsRow_kept ho (w' := w') (fun b hb => by
          simp [Value.ownBlock] at hb; subst hb
          exact hon.block _ hgl (fun hm => hng (hmem k hkb _ hm)))
        simpa using this
      · have h1' : i < xs.length := by simpa using h1
        by_cases e : i = k
        · subst e
          simpa using hy
        · rw [List.getElem_set_ne (fun h => e h.symm)]
          exact c.only (hi i h1' h2) hon (flat_other hnf h2 hkb e)
structure OwnCut {α : Type} (c : Cod α) (e : TypeId) (w : World) (ys : List α) (d : Nat) (a : Option Addr) (cap : Nat) (bs : List Nat) : Prop where
  le : d ≤ ys.length
  len : ys.length - d ≤ cap
  room : cap ≤ maxLen
  nil : a = none → cap = 0
  own : ∃ v, OwnSl c e w ys v bs ∧ (d < ys.length → ∃ g cp, v = .slice (some ⟨g, 0, none⟩) ys.length cp ∧ a = some ⟨g, d * c.n, none⟩)
theorem OwnCut.rd {α : Type} {c : Cod α} {e : TypeId} {w : World} {ys : List α} {d : Nat} {a : Option Addr} {cap : Nat} {bs : List Nat} (h : OwnCut c e w ys d a cap bs) : RdSl c w (ys.drop d) (.slice a (ys.length - d) cap) := by
  obtain ⟨hle, hlen, hroom, hnil, v, ho, hv⟩ := h
  refine ⟨a, cap, by simp, by simpa using hlen, hroom, hnil, ?_⟩
  by_cases hd : d < ys.length
  · obtain ⟨g, cp, rfl, rfl⟩ := hv hd
    obtain ⟨a', cap', e', _, _, _, h4⟩ := ho.rd
    simp only [Value.slice.injEq] at e'
    obtain ⟨rfl, _, rfl⟩ := e'
    rcases h4 with h0 | ⟨b, off, e2, hat⟩
    · subst h0; simp at hd
    · simp only [Option.some.injEq, Addr.mk.injEq, and_true] at e2
      obtain ⟨rfl, rfl⟩ := e2
      refine .inr ⟨g, d * c.n, rfl, fun i hi => ?_⟩
      have hi' : d + i < ys.length := by simp at hi; omega
      obtain ⟨es, he, hc⟩ := hat (d + i) hi'
      refine ⟨es, by simpa using he, fun j hj => ?_⟩
      have := hc j hj
      rw [show d * c.n + (i * c.n + j) = 0 + ((d + i) * c.n + j) from by rw [Nat.add_mul]; omega]
      exact this
  · exact .inl (List.drop_eq_nil_of_le (by omega))
theorem OwnCut.kept {α : Type} {c : Cod α} {e : TypeId} {w w' : World} {ys : List α} {d : Nat} {a : Option Addr} {cap : Nat} {bs : List Nat} (h : OwnCut c e w ys d a cap bs) (hk : ∀ b ∈ bs, w'.heap[b]? = w.heap[b]?) : OwnCut c e w' ys d a cap bs := by
  obtain ⟨hle, hlen, hroom, hnil, v, ho, hv⟩ := h
  exact ⟨hle, hlen, hroom, hnil, v, ho.kept hk, hv⟩
theorem OwnCut.lt {α : Type} {c : Cod α} {e : TypeId} {w : World} {ys : List α} {d : Nat} {a : Option Addr} {cap : Nat} {bs : List Nat} (h : OwnCut c e w ys d a cap bs) : ∀ b ∈ bs, b < w.heap.size := by
  obtain ⟨hle, hlen, hroom, hnil, v, ho, hv⟩ := h
  exact ho.lt
theorem OwnCut.later {α : Type} {c : Cod α} {e : TypeId} {w w' : World} {ys : List α} {d : Nat} {a : Option Addr} {cap : Nat} {bs : List Nat} (h : OwnCut c e w ys d a cap bs) (hb : Below w.heap.size w w') : OwnCut c e w' ys d a cap bs := h.kept (fun b hm => hb.block b (h.lt b hm))
theorem OwnCut.only {α : Type} {c : Cod α} {e : TypeId} {w w' : World} {ys : List α} {d : Nat} {a : Option Addr} {cap : Nat} {bs us : List Nat} (h : OwnCut c e w ys d a cap bs) (ho : Only us w w') (hd : ∀ b ∈ bs, b ∉ us) : OwnCut c e w' ys d a cap bs := h.kept (fun b hm => ho.block b (h.lt b hm) (hd b hm))
theorem OwnSl.cut0 {α : Type} {c : Cod α} {e : TypeId} {w : World} {xs : List α} {a : Option Addr} {n cap : Nat} {bs : List Nat} (h : OwnSl c e w xs (.slice a n cap) bs) : OwnCut c e w xs 0 a cap bs := by
  obtain ⟨a', cap', e', h1, h2, h3, h4⟩ := id h.rd
  simp only [Value.slice.injEq] at e'
  obtain ⟨rfl, rfl, rfl⟩ := e'
  refine ⟨Nat.zero_le _, by omega, h2, h3, _, h, fun hd => ?_⟩
  rcases h with ⟨h0, h5, _⟩ | ⟨g, cp, vs, bss, ev, _⟩
  · subst h5; simp at hd
  · refine ⟨g, cp, ev, ?_⟩
    simp only [Value.slice.injEq] at ev
    rw [ev.1, Nat.zero_mul]
end Go.Proofs.YtfaehioeepolhaaGreat
