import Derived.Test.YtmaccmgmcahopaaJBound16
import Derived.Test.YtmaccmgmcahopaaJBound11
import Derived.Maps.OwnSet
import Derived.StringKeys
import Derived.Test.YtmaccmgmcahopaaJBound3
namespace Go.Proofs.Ytmaccmgmcahopaa
open Go.RowKit Go.Maps
def BytesOK (t : List Nat) : Prop := ∀ x ∈ t, x < 256
def skey (t : List Nat) : Lit := .string (bstr t).data.toList
theorem skey_key (t : List Nat) : WideAt.IsKeyLit (skey t) := trivial
theorem skey_inj {s t : List Nat} (hs : BytesOK s) (ht : BytesOK t) (h : skey s = skey t) : s = t := by
  refine bstr_inj hs ht ?_
  simp only [skey, Lit.string.injEq] at h
  have := Array.toList_inj.1 h
  cases hb : bstr s; cases hc : bstr t; simp_all
def dmap (vs : List (List Nat)) : Nat → DataW Unit
  | 0 => .map []
  | k + 1 => match vs[k]? with | some t => (dmap vs k).put (skey t) (.lit (.int .i64 k)) | none => dmap vs k
theorem dmap_succ {vs : List (List Nat)} {k : Nat} (h : k < vs.length) : dmap vs (k + 1) = (dmap vs k).put (skey vs[k]) (.lit (.int .i64 k)) := by simp [dmap, h]
theorem dmap_tidy (vs : List (List Nat)) : ∀ k, Tidy (dmap vs k)
  | 0 => tidy_empty
  | k + 1 => by
    unfold dmap
    split
    · exact (dmap_tidy vs k).put (skey_key _) _
    · exact dmap_tidy vs k
theorem dmap_has {vs : List (List Nat)} (hv : ∀ t ∈ vs, BytesOK t) {t : List Nat} (ht : BytesOK t) : ∀ k, k ≤ vs.length → has (dmap vs k) (skey t) = decide (t ∈ vs.take k)
  | 0, _ => by simp [dmap, has]
  | k + 1, hk => by
    have hlt : k < vs.length := hk
    rw [dmap_succ hlt, List.take_succ_eq_append_getElem hlt]
    by_cases e : t = vs[k]
    · rw [← e, has_put_same (dmap_tidy vs k).isMap (skey_key _)]; simp
    · rw [has_put_other (fun h => e (skey_inj ht (hv _ (List.getElem_mem hlt)) h)), dmap_has hv ht k (by omega)]
      exact decide_eq_decide.2 (by rw [List.mem_append, List.mem_singleton]; exact ⟨.inl, fun h => h.resolve_right e⟩)
def cnt (vs : List (List Nat)) : Nat → Nat
  | 0 => 0
  | k + 1 => cnt vs k + (match vs[k]? with | some t => if t ∈ vs.take k then 0 else 1 | none => 0)
theorem cnt_succ {vs : List (List Nat)} {k : Nat} (h : k < vs.length) : cnt vs (k + 1) = cnt vs k + if vs[k] ∈ vs.take k then 0 else 1 := by simp [cnt, h]
theorem dmap_size {vs : List (List Nat)} (hv : ∀ t ∈ vs, BytesOK t) : ∀ k, k ≤ vs.length → size (dmap vs k) = cnt vs k
  | 0, _ => rfl
  | k + 1, hk => by
    have hlt : k < vs.length := hk
    rw [dmap_succ hlt, size_put (dmap_tidy vs k), dmap_has hv (hv _ (List.getElem_mem hlt)) k (by omega), dmap_size hv k (by omega), cnt_succ hlt]
    by_cases e : vs[k] ∈ vs.take k <;> simp [e]
theorem cnt_le (vs : List (List Nat)) : ∀ k, cnt vs k ≤ k
  | 0 => Nat.le_refl _
  | k + 1 => by
    have := cnt_le vs k
    unfold cnt
    split
    · split <;> omega
    · omega
theorem cnt_all {vs : List (List Nat)} : ∀ k, k ≤ vs.length → (cnt vs k = k ↔ ∀ i, (h : i < k) → (h2 : i < vs.length) → vs[i] ∉ vs.take i)
  | 0, _ => by simp [cnt]
  | k + 1, hk => by
    have hlt : k < vs.length := hk
    have hc := cnt_le vs k
    rw [cnt_succ hlt]
    constructor
    · intro h i hi h2
      by_cases e : vs[k] ∈ vs.take k
      · rw [if_pos e] at h; omega
      · rw [if_neg e] at h
        by_cases ei : i = k
        · subst ei; exact e
        · exact (cnt_all k (by omega)).1 (by omega) i (by omega) h2
    · intro h
      rw [if_neg (h k (by omega) hlt), (cnt_all k (by omega)).2 (fun i hi h2 => h i (by omega) h2)]
def dictTo (vs : List (List Nat)) (k : Nat) : Bool := decide (tot (vs.take k) ≤ 4000) && decide (∀ i, (h : i < k) → (h2 : i < vs.length) → vs[i] ∉ vs.take i)
def dictOK (vs : List (List Nat)) : Bool := decide (vs.length ≤ 40) && dictTo vs vs.length
theorem dictOK_cnt (vs : List (List Nat)) (h1 : vs.length ≤ 40) (h2 : tot vs ≤ 4000) : dictOK vs = decide (cnt vs vs.length = vs.length) := by
  have := cnt_all vs.length (Nat.le_refl vs.length)
  simp only [dictOK, dictTo, List.take_length, h1, h2, decide_true, Bool.true_and]
  exact decide_eq_decide.2 this.symm
theorem dictOK_len {vs : List (List Nat)} (h : ¬ vs.length ≤ 40) : dictOK vs = false := by simp [dictOK, h]
theorem dictOK_tot {vs : List (List Nat)} (h : ¬ tot vs ≤ 4000) : dictOK vs = false := by simp [dictOK, dictTo, h]
end Go.Proofs.Ytmaccmgmcahopaa
namespace Go.Proofs.Ytmaccmgmcahopaa
def fitsW (n width : Int) : Bool := (pki [n] width).2 == 0
theorem fitsW_zero (width : Int) : fitsW 0 width = widthOK width := by
  unfold fitsW widthOK
  by_cases h : width = 1 ∨ width = 2 ∨ width = 4 ∨ width = 8
  · rw [decide_eq_true h]
    rcases h with rfl | rfl | rfl | rfl <;> rfl
  · rw [decide_eq_false h, pki_no _ _ h]; rfl
end Go.Proofs.Ytmaccmgmcahopaa
namespace Go.Proofs.Ytmaccmgmcahopaa
def cellOK (f : PF) (c : PC) : Bool :=
  if c.null = true then (c.num == 0) && ((c.text.length : Int) == 0)
  else if f.kind = 0 then ((c.num == 0) || (c.num == 1)) && ((c.text.length : Int) == 0)
  else if f.kind = 1 then fitsW c.num f.width && ((c.text.length : Int) == 0)
  else (c.num == 0)
theorem cellOK_null {f : PF} {c : PC} (h : c.null = true) : cellOK f c = ((c.num == 0) && ((c.text.length : Int) == 0)) := by unfold cellOK; rw [if_pos h]
theorem cellOK_bool {f : PF} {c : PC} (h : c.null = false) (hk : f.kind = 0) : cellOK f c = (((c.num == 0) || (c.num == 1)) && ((c.text.length : Int) == 0)) := by unfold cellOK; rw [if_neg (by simp [h]), if_pos hk]
theorem cellOK_int {f : PF} {c : PC} (h : c.null = false) (hk : f.kind = 1) : cellOK f c = (fitsW c.num f.width && ((c.text.length : Int) == 0)) := by unfold cellOK; rw [if_neg (by simp [h]), if_neg (by omega), if_pos hk]
theorem cellOK_text {f : PF} {c : PC} (h : c.null = false) (h0 : f.kind ≠ 0) (h1 : f.kind ≠ 1) : cellOK f c = (c.num == 0) := by unfold cellOK; rw [if_neg (by simp [h]), if_neg h0, if_neg h1]
theorem null_text {f : PF} {c : PC} (h : c.null = true) (ho : cellOK f c = true) : c.text = [] := by
  rw [cellOK_null h] at ho
  simp at ho
  exact ho.2
def nn (cs : List PC) : List (List Nat) := (cs.filter fun c => !c.null).map (·.text)
theorem nn_snoc (cs : List PC) (k : Nat) (h : k < cs.length) : nn (cs.take (k + 1)) = nn (cs.take k) ++ (if cs[k].null then [] else [cs[k].text]) := by
  unfold nn
  rw [List.take_succ_eq_append_getElem h, List.filter_append, List.map_append]
  cases hc : cs[k].null <;> simp [hc]
def diff (cs : List PC) : Nat := cnt (nn cs) (nn cs).length
def colOK (f : PF) (cs : List PC) : Bool := cs.all (cellOK f) && !(decide (f.kind = 3) && decide (40 < diff cs))
def col (cells : List PC) (rows c : Nat) : List PC := (cells.drop (c * rows)).take rows
def colsTo (fs : List PF) (cells : List PC) (rows : Nat) : Nat → Bool
  | 0 => true
  | k + 1 => colsTo fs cells rows k && (match fs[k]? with | some f => colOK f (col cells rows k) | none => true)
theorem colsTo_succ {fs : List PF} {cells : List PC} {rows k : Nat} (hk : k < fs.length) : colsTo fs cells rows (k + 1) = (colsTo fs cells rows k && colOK fs[k] (col cells rows k)) := by simp [colsTo, hk]
theorem colsTo_bad {fs : List PF} {cells : List PC} {rows k : Nat} (h : colsTo fs cells rows k = false) : ∀ m, k ≤ m → colsTo fs cells rows m = false := by
  intro m hm
  induction m with
  | zero => have : k = 0 := by omega
            subst this; exact h
  | succ m ih =>
    by_cases e : k = m + 1
    · subst e; exact h
    · simp [colsTo, ih (by omega)]
def txt (cs : List PC) : Nat := (cs.map fun c => c.text.length).sum
end Go.Proofs.Ytmaccmgmcahopaa
