import Derived.Test.YtcljakdcejhfiabJApplyDict16
import Derived.Test.YtcljakdcejhfiabJApplyDict5
import Derived.Maps.OwnSet
import Derived.StringKeys
namespace Go.Proofs.Ytcljakdcejhfiab
open Go.RowKit Go.Maps
def BytesOK (t : List Nat) : Prop := ∀ x ∈ t, x < 256
def skey (t : List Nat) : Lit := .string (bstr t).data.toList
theorem skey_key (t : List Nat) : WideAt.IsKeyLit (skey t) := trivial
theorem skey_inj {s t : List Nat} (hs : BytesOK s) (ht : BytesOK t) (h : skey s = skey t) : s = t := by
  refine bstr_inj hs ht ?_
  simp only [skey, Lit.string.injEq] at h
  have := Array.toList_inj.1 h
  cases hb : bstr s; cases hc : bstr t; simp_all
def dmap (vs : List (List Nat)) : Nat → DataW Unit
  | 0 => .map []
  | k + 1 => match vs[k]? with | some t => (dmap vs k).put (skey t) (.lit (.int .i64 k)) | none => dmap vs k
theorem dmap_succ {vs : List (List Nat)} {k : Nat} (h : k < vs.length) : dmap vs (k + 1) = (dmap vs k).put (skey vs[k]) (.lit (.int .i64 k)) := by simp [dmap, h]
theorem dmap_tidy (vs : List (List Nat)) : ∀ k, Tidy (dmap vs k)
  | 0 => tidy_empty
  | k + 1 => by
    unfold dmap
    split
    · exact (dmap_tidy vs k).put (skey_key _) _
    · exact dmap_tidy vs k
theorem dmap_has {vs : List (List Nat)} (hv : ∀ t ∈ vs, BytesOK t) {t : List Nat} (ht : BytesOK t) : ∀ k, k ≤ vs.length → has (dmap vs k) (skey t) = decide (t ∈ vs.take k)
  | 0, _ => by simp [dmap, has]
  | k + 1, hk => by
    have hlt : k < vs.length := hk
    rw [dmap_succ hlt, List.take_succ_eq_append_getElem hlt]
    by_cases e : t = vs[k]
    · rw [← e, has_put_same (dmap_tidy vs k).isMap (skey_key _)]; simp
    · rw [has_put_other (fun h => e (skey_inj ht (hv _ (List.getElem_mem hlt)) h)), dmap_has hv ht k (by omega)]
      exact decide_eq_decide.2 (by rw [List.mem_append, List.mem_singleton]; exact ⟨.inl, fun h => h.resolve_right e⟩)
def cnt (vs : List (List Nat)) : Nat → Nat
  | 0 => 0
  | k + 1 => cnt vs k + (match vs[k]? with | some t => if t ∈ vs.take k then 0 else 1 | none => 0)
theorem cnt_succ {vs : List (List Nat)} {k : Nat} (h : k < vs.length) : cnt vs (k + 1) = cnt vs k + if vs[k] ∈ vs.take k then 0 else 1 := by simp [cnt, h]
theorem dmap_size {vs : List (List Nat)} (hv : ∀ t ∈ vs, BytesOK t) : ∀ k, k ≤ vs.length → size (dmap vs k) = cnt vs k
  | 0, _ => rfl
  | k + 1, hk => by
    have hlt : k < vs.length := hk
    rw [dmap_succ hlt, size_put (dmap_tidy vs k), dmap_has hv (hv _ (List.getElem_mem hlt)) k (by omega), dmap_size hv k (by omega), cnt_succ hlt]
    by_cases e : vs[k] ∈ vs.take k <;> simp [e]
theorem cnt_le (vs : List (List Nat)) : ∀ k, cnt vs k ≤ k
  | 0 => Nat.le_refl _
  | k + 1 => by
    have := cnt_le vs k
    unfold cnt
    split
    · split <;> omega
    · omega
theorem cnt_all {vs : List (List Nat)} : ∀ k, k ≤ vs.length → (cnt vs k = k ↔ ∀ i, (h : i < k) → (h2 : i < vs.length) → vs[i] ∉ vs.take i)
  | 0, _ => by simp [cnt]
  | k + 1, hk => by
    have hlt : k < vs.length := hk
    have hc := cnt_le vs k
    rw [cnt_succ hlt]
    constructor
    · intro h i hi h2
      by_cases e : vs[k] ∈ vs.take k
      · rw [if_pos e] at h; omega
      · rw [if_neg e] at h
        by_cases ei : i = k
        · subst ei; exact e
        · exact (cnt_all k (by omega)).1 (by omega) i (by omega) h2
    · intro h
      rw [if_neg (h k (by omega) hlt), (cnt_all k (by omega)).2 (fun i hi h2 => h i (by omega) h2)]
def dictTo (vs : List (List Nat)) (k : Nat) : Bool := decide (tot (vs.take k) ≤ 4000) && decide (∀ i, (h : i < k) → (h2 : i < vs.length) → vs[i] ∉ vs.take i)
def dictOK (vs : List (List Nat)) : Bool := decide (vs.length ≤ 40) && dictTo vs vs.length
theorem dictTo_bad {vs : List (List Nat)} {k : Nat} (hk : k < vs.length) (h : 4000 < tot (vs.take (k + 1)) ∨ vs[k] ∈ vs.take k) : dictOK vs = false := by
  rcases h with h | h
  · have := tot_take vs (k + 1)
    have h2 : ¬ tot vs ≤ 4000 := by omega
    simp [dictOK, dictTo, h2]
  · have h2 : ¬ ∀ i, (h : i < vs.length) → (h2 : i < vs.length) → vs[i] ∉ vs.take i := fun hh => hh k hk hk h
    unfold dictOK dictTo
    rw [decide_eq_false h2]; simp
theorem dictTo_succ {vs : List (List Nat)} {k : Nat} (hk : k < vs.length) (h0 : dictTo vs k = true) (h1 : tot (vs.take (k + 1)) ≤ 4000) (h2 : vs[k] ∉ vs.take k) : dictTo vs (k + 1) = true := by
  simp only [dictTo, Bool.and_eq_true, decide_eq_true_eq] at h0 ⊢
  refine ⟨h1, fun i hi hl => ?_⟩
  by_cases e : i = k
  · subst e; exact h2
  · exact h0.2 i (by omega) hl
theorem dictOK_cnt (vs : List (List Nat)) (h1 : vs.length ≤ 40) (h2 : tot vs ≤ 4000) : dictOK vs = decide (cnt vs vs.length = vs.length) := by
  have := cnt_all vs.length (Nat.le_refl vs.length)
  simp only [dictOK, dictTo, List.take_length, h1, h2, decide_true, Bool.true_and]
  exact decide_eq_decide.2 this.symm
theorem dictOK_len {vs : List (List Nat)} (h : ¬ vs.length ≤ 40) : dictOK vs = false := by simp [dictOK, h]
theorem dictOK_tot {vs : List (List Nat)} (h : ¬ tot vs ≤ 4000) : dictOK vs = false := by simp [dictOK, dictTo, h]
def place (vs : List (List Nat)) (t : List Nat) : Int := match vs.findIdx? (fun v => decide (v = t)) with | some i => (i : Int) | none => -1
theorem place_at {vs : List (List Nat)} {t : List Nat} {k : Nat} (hk : k < vs.length) (h : vs[k] = t) (hn : ∀ q, (hq : q < vs.length) → q < k → vs[q] ≠ t) : place vs t = k := by
  have : vs.findIdx? (fun v => decide (v = t)) = some k := List.findIdx?_eq_some_iff_getElem.2 ⟨hk, by simp [h], fun j hj => by simp [hn j (by omega) hj]⟩
  simp [place, this]
theorem place_none {vs : List (List Nat)} {t : List Nat} (hn : ∀ q, (hq : q < vs.length) → vs[q] ≠ t) : place vs t = -1 := by
  have : vs.findIdx? (fun v => decide (v = t)) = none := by
    rw [List.findIdx?_eq_none_iff]
    intro x hx
    obtain ⟨q, hq, rfl⟩ := List.getElem_of_mem hx
    simp [hn q hq]
  simp [place, this]
theorem place_neg {vs : List (List Nat)} {t : List Nat} : place vs t < 0 ↔ t ∉ vs := by
  unfold place
  split
  · rename_i i h
    obtain ⟨hk, h1, _⟩ := List.findIdx?_eq_some_iff_getElem.1 h
    simp only [decide_eq_true_eq] at h1
    constructor
    · intro h2; omega
    · intro h2; exact absurd (h1 ▸ List.getElem_mem hk) h2
  · rename_i h
    rw [List.findIdx?_eq_none_iff] at h
    constructor
    · intro _ hm
      have := h t hm
      simp at this
    · intro _; omega
end Go.Proofs.Ytcljakdcejhfiab
