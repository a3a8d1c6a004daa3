import Derived.Test.YtfaehioeepolhaaGreatJCrashReceiver2
import Derived.Test.YtfaehioeepolhaaGreatJCrashReceiver5
import Derived.Test.YtfaehioeepolhaaGreatJCrashReceiver14
import Derived.Test.YtfaehioeepolhaaGreatJCrashReceiver17
import Derived.Test.YtfaehioeepolhaaGreatJCrashReceiver20
import Derived.Test.YtfaehioeepolhaaGreatJCrashReceiver0
import Derived.Laws.BytesString
import Derived.Maps.OwnSet
import Derived.StringKeys
namespace Go.Proofs.YtfaehioeepolhaaGreat
open Go.ChangeShapes Go.WideShapes Go.ChangeAt Go.RowKit
theorem opens_TabS {H : Type} (enc : TypeId × Value → H) (W : World) : Opens enc Tryz.prog W 30 (cSl cTable 111) :=
  opens_slice Tryz.underlying30 (by kernel_rfl) (by decide) (opens_Table enc W) _
def cRcv : Cod PRcv := cMap (cPair cInt (cPair cInt (cPair cBool (cPair cIn (cPair cStr (cPair (cSl cTable 111) cInt)))))) fun r => (r.epoch, r.count, r.live, r.inn, r.str, r.ready, r.errors)
theorem opens_Rcv {H : Type} (enc : TypeId × Value → H) (W : World) : Opens enc Tryz.prog W 32 cRcv :=
  opens_struct7 Tryz.underlying32 rfl rfl rfl rfl rfl rfl rfl rfl (by kernel_rfl) (by kernel_rfl) (by kernel_rfl) (by kernel_rfl) (by kernel_rfl) (by kernel_rfl) (by kernel_rfl) (by kernel_rfl) (opens_int Tryz.underlying3) (opens_int Tryz.underlying3) (opens_bool Tryz.underlying4) (opens_In enc W) (opens_Str enc W) (opens_TabS enc W) (opens_int Tryz.underlying3) (fun x y z u v s q => ⟨x, y, z, u, v, s, q⟩) (fun _ _ _ _ _ _ _ => rfl)
def ReceiverIn (w : World) (v : Value) : Prop := ∃ (r : PRcv) (a1 b1 a2 b2 a3 : Option Addr) (c1 d1 c2 d2 c3 : Nat), v = .agg #[.int .i64 r.epoch, .int .i64 r.count, .bool r.live, .int .i64 r.inn.epoch, .int .i64 r.inn.expect, .slice a1 r.inn.held.length c1, .slice b1 r.inn.part.length d1, .bool r.str.opened, .slice a2 r.str.fields.length c2, .int .i64 r.str.next, .slice b2 r.str.dicts.length d2, .slice a3 r.ready.length c3, .int .i64 r.errors] ∧ RdRcv w r a1 c1 b1 d1 a2 c2 b2 d2 a3 c3 ∧ IntIn r.epoch ∧ IntIn r.count ∧ IntIn r.errors
theorem receiverIn_of {H : Type} {enc : TypeId × Value → H} {W : World} {v : Value} {d : DataW H} {p : List MemPlace} (hv : ∃ cs, v = .agg cs ∧ cs.size = Tryz.prog.cellsOf 32) (h : DataW.Trod enc Tryz.prog W 0 (fun _ => true) true 32 v d p) : ReceiverIn W v := by
  obtain ⟨r, cs, rfl, hr⟩ := Opens.st (opens_Rcv enc W) hv (by decide +kernel) h
  obtain ⟨_, _, rfl, ⟨rfl, i0⟩, _, _, rfl, ⟨rfl, i1⟩, _, _, rfl, rfl, _, _, rfl, ⟨_, _, rfl, ⟨rfl, i2⟩, _, _, rfl, ⟨rfl, i3⟩, _, _, rfl, ⟨u1, rfl, h1⟩, u2, rfl, h2⟩, _, _, rfl, ⟨_, _, rfl, rfl, _, _, rfl, ⟨u3, rfl, h3⟩, _, _, rfl, ⟨rfl, i4⟩, u4, rfl, h4⟩, _, _, rfl, ⟨u5, rfl, h5⟩, rfl, i5⟩ := hr
  obtain ⟨a1, c1, rfl, -⟩ := id h1
  obtain ⟨b1, d1, rfl, -⟩ := id h2
  obtain ⟨a2, c2, rfl, -⟩ := id h3
  obtain ⟨b2, d2, rfl, -⟩ := id h4
  obtain ⟨a3, c3, rfl, -⟩ := id h5
  exact ⟨r, a1, b1, a2, b2, a3, c1, d1, c2, d2, c3, rfl, ⟨⟨h1, h2⟩, ⟨h3, h4⟩, h5⟩, i0, i1, i5⟩
end Go.Proofs.YtfaehioeepolhaaGreat
namespace Go.Proofs.YtfaehioeepolhaaGreat
def nameB (c : Nat) : Bool := (decide (97 ≤ c) && decide (c ≤ 122)) || (decide (65 ≤ c) && decide (c ≤ 90)) || (decide (48 ≤ c) && decide (c ≤ 57)) || decide (c = 95)
theorem nameB_split (c : Nat) : ((c < 48 ∨ (58 ≤ c ∧ c ≤ 64) ∨ (91 ≤ c ∧ c ≤ 94) ∨ c = 96 ∨ 123 ≤ c) ∧ nameB c = false) ∨ (((48 ≤ c ∧ c ≤ 57) ∨ (65 ≤ c ∧ c ≤ 90) ∨ c = 95 ∨ (97 ≤ c ∧ c ≤ 122)) ∧ nameB c = true) := by
  by_cases h : c < 48 ∨ (58 ≤ c ∧ c ≤ 64) ∨ (91 ≤ c ∧ c ≤ 94) ∨ c = 96 ∨ 123 ≤ c
  · refine .inl ⟨h, ?_⟩
    simp [nameB]; omega
  · refine .inr ⟨by omega, ?_⟩
    simp [nameB]; omega
def nameOK (n : List Nat) : Bool := decide (1 ≤ n.length) && decide (n.length ≤ 20) && n.all nameB
def widthOK (w : Int) : Bool := decide (w = 1 ∨ w = 2 ∨ w = 4 ∨ w = 8)
def kindOK (f : PF) : Bool := if f.kind = 1 then widthOK f.width else decide (0 ≤ f.kind) && decide (f.kind ≤ 3) && decide (f.width = 0)
def fieldOK (f : PF) : Bool := nameOK f.name && kindOK f
def taken (fs : List PF) (n : List Nat) : Bool := fs.any fun f => decide (f.name = n)
def okTo (fs : List PF) : Nat → Bool
  | 0 => true
  | k + 1 => okTo fs k && (match fs[k]? with | some f => fieldOK f && !taken (fs.take k) f.name | none => true)
def fieldsOK (fs : List PF) : Bool := decide (1 ≤ fs.length) && decide (fs.length ≤ 12) && okTo fs fs.length
theorem okTo_bad {fs : List PF} {k : Nat} (h : okTo fs k = false) : ∀ m, k ≤ m → okTo fs m = false := by
  intro m hm
  induction m with
  | zero => have : k = 0 := by omega
            subst this; exact h
  | succ m ih =>
    by_cases e : k = m + 1
    · subst e; exact h
    · simp [okTo, ih (by omega)]
theorem okTo_succ {fs : List PF} {k : Nat} (hk : k < fs.length) : okTo fs (k + 1) = (okTo fs k && (fieldOK fs[k] && !taken (fs.take k) fs[k].name)) := by simp [okTo, hk]
theorem fieldsOK_bad {fs : List PF} {k : Nat} (hk : k < fs.length) (h : fieldOK fs[k] = false ∨ taken (fs.take k) fs[k].name = true) : fieldsOK fs = false := by
  have : okTo fs (k + 1) = false := by rw [okTo_succ hk]; rcases h with h | h <;> simp [h]
  simp [fieldsOK, okTo_bad this fs.length (by omega)]
theorem taken_at {fs : List PF} {n : List Nat} {k : Nat} (hk : k < fs.length) (h : fs[k].name = n) : taken fs n = true := by
  simp only [taken, List.any_eq_true, decide_eq_true_eq]
  exact ⟨fs[k], List.getElem_mem hk, h⟩
theorem not_taken {fs : List PF} {n : List Nat} (h : ∀ k, (hk : k < fs.length) → fs[k].name ≠ n) : taken fs n = false := by
  simp only [taken, List.any_eq_false, decide_eq_true_eq]
  intro f hf
  obtain ⟨k, hk, rfl⟩ := List.getElem_of_mem hf
  exact h k hk
theorem all_bad {xs : List Nat} {p : Nat → Bool} {k : Nat} (hk : k < xs.length) (h : p xs[k] = false) : xs.all p = false := by
  simp only [List.all_eq_false]
  exact ⟨xs[k], List.getElem_mem hk, by simp [h]⟩
theorem all_ok {xs : List Nat} {p : Nat → Bool} (h : ∀ k, (hk : k < xs.length) → p xs[k] = true) : xs.all p = true := by
  simp only [List.all_eq_true]
  intro x hx
  obtain ⟨k, hk, rfl⟩ := List.getElem_of_mem hx
  exact h k hk
end Go.Proofs.YtfaehioeepolhaaGreat
namespace Go.Proofs.YtfaehioeepolhaaGreat
open Go.RowKit
def bstr (xs : List Nat) : ByteArray := ⟨(xs.map fun x => UInt8.ofNat x).toArray⟩
theorem bstr_foldl (ns : List Nat) : ∀ s : ByteArray, ns.foldl (fun (r : ByteArray) (n : Nat) => r.push (UInt8.ofNat n)) s = ⟨s.data ++ (ns.map fun x => UInt8.ofNat x).toArray⟩ := by
  induction ns with
  | nil => intro s; simp
  | cons n ns ih =>
    intro s
    rw [List.foldl_cons, ih]
    simp [ByteArray.push]
theorem bstr_inj {xs ys : List Nat} (hx : ∀ x ∈ xs, x < 256) (hy : ∀ x ∈ ys, x < 256) (h : bstr xs = bstr ys) : xs = ys := by
  unfold bstr at h
  simp only [ByteArray.mk.injEq] at h
  have h' := congrArg Array.toList h
  simp only at h'
  clear h
  induction xs generalizing ys with
  | nil => cases ys <;> simp_all
  | cons x xs ih =>
    cases ys with
    | nil => simp at h'
    | cons y ys =>
      simp only [List.map_cons, List.cons.injEq] at h'
      have h1 : x = y := by
        have e := congrArg UInt8.toNat h'.1
        have a := hx x (by simp)
        have b := hy y (by simp)
        simp only [UInt8.toNat_ofNat'] at e
        omega
      rw [h1, ih (fun z hz => hx z (by simp [hz])) (fun z hz => hy z (by simp [hz])) h'.2]
theorem bstr_beq {xs ys : List Nat} (hx : ∀ x ∈ xs, x < 256) (hy : ∀ x ∈ ys, x < 256) : decide (xs = ys) = ((bstr xs).toList == (bstr ys).toList) := by
  rw [ByteArray.toList_eq, ByteArray.toList_eq]
  by_cases h : xs = ys
  · subst h; simp
  · have h1 : (bstr xs).data.toList ≠ (bstr ys).data.toList := fun e => h (bstr_inj hx hy (by
      have := Array.toList_inj.1 e
      cases hb : bstr xs; cases hc : bstr ys; simp_all))
    rw [decide_eq_false h]
    exact (beq_eq_false_iff_ne.2 h1).symm
theorem bstr_size (xs : List Nat) : (bstr xs).size = xs.length := by simp [bstr, ByteArray.size]
theorem run_bstr {P : Program} {w : World} {src dst e : TypeId} (hs : P.underlying src = some (.slice e)) (he : P.underlying e = some (.int .u8)) (hd : P.underlying dst = some .string)
    {a : Option Addr} {xs : List Nat} {c : Nat} (h : Rd w a (byt xs)) : (convert src dst (.slice a xs.length c)).run P w = .ok (.string (bstr xs)) w := by
  rw [run_convert_bytes_string w src dst e a xs.length c hs he hd]
  cases a with
  | none =>
    obtain rfl : xs = [] := by
      rcases h with h | ⟨b, off, h, _⟩
      · simpa [byt] using h
      · cases h
    simp [Conv.bytesToString, Sem.run_pure, bstr]
    rfl
  | some a =>
    have hl : (loadCells a xs.length).run P w = .ok ((xs.map (fun x : Nat => (x : Int))).map (Value.int .u8)).toArray w := by
      have := run_loadCells_list (P := P) (w := w) a (byt xs) (by
        intro j v hj
        rcases h with h | ⟨b, off, h1, hc⟩
        · rw [h] at hj; simp at hj
        · cases h1
          obtain ⟨h2, h3⟩ := List.getElem?_eq_some_iff.1 hj
          have h4 := hc j h2
          have hadd : (⟨b, off, none⟩ : Addr).add j = ⟨b, off + j, none⟩ := by unfold Addr.add; split <;> simp_all
          rw [hadd, h4, h3])
      simpa [byt, List.map_map, Function.comp_def] using this
    rw [run_bytesToString w a _ _ _ hl, List.foldl_map]
    simp only [Int.toNat_natCast]
    rw [bstr_foldl]
    simp [bstr]
end Go.Proofs.YtfaehioeepolhaaGreat
namespace Go.Proofs.YtfaehioeepolhaaGreat
open Go.RowKit Go.Maps
def BytesOK (t : List Nat) : Prop := ∀ x ∈ t, x < 256
def skey (t : List Nat) : Lit := .string (bstr t).data.toList
theorem skey_key (t : List Nat) : WideAt.IsKeyLit (skey t) := trivial
theorem skey_inj {s t : List Nat} (hs : BytesOK s) (ht : BytesOK t) (h : skey s = skey t) : s = t := by
  refine bstr_inj hs ht ?_
  simp only [skey, Lit.string.injEq] at h
  have := Array.toList_inj.1 h
  cases hb : bstr s; cases hc : bstr t; simp_all
def dmap (vs : List (List Nat)) : Nat → DataW Unit
  | 0 => .map []
  | k + 1 => match vs[k]? with | some t => (dmap vs k).put (skey t) (.lit (.int .i64 k)) | none => dmap vs k
theorem dmap_succ {vs : List (List Nat)} {k : Nat} (h : k < vs.length) : dmap vs (k + 1) = (dmap vs k).put (skey vs[k]) (.lit (.int .i64 k)) := by simp [dmap, h]
theorem dmap_tidy (vs : List (List Nat)) : ∀ k, Tidy (dmap vs k)
  | 0 => tidy_empty
  | k + 1 => by
    unfold dmap
    split
    · exact (dmap_tidy vs k).put (skey_key _) _
    · exact dmap_tidy vs k
theorem dmap_has {vs : List (List Nat)} (hv : ∀ t ∈ vs, BytesOK t) {t : List Nat} (ht : BytesOK t) : ∀ k, k ≤ vs.length → has (dmap vs k) (skey t) = decide (t ∈ vs.take k)
  | 0, _ => by simp [dmap, has]
  | k + 1, hk => by
    have hlt : k < vs.length := hk
    rw [dmap_succ hlt, List.take_succ_eq_append_getElem hlt]
    by_cases e : t = vs[k]
    · rw [← e, has_put_same (dmap_tidy vs k).isMap (skey_key _)]; simp
    · rw [has_put_other (fun h => e (skey_inj ht (hv _ (List.getElem_mem hlt)) h)), dmap_has hv ht k (by omega)]
      exact decide_eq_decide.2 (by rw [List.mem_append, List.mem_singleton]; exact ⟨.inl, fun h => h.resolve_right e⟩)
def cnt (vs : List (List Nat)) : Nat → Nat
  | 0 => 0
  | k + 1 => cnt vs k + (match vs[k]? with | some t => if t ∈ vs.take k then 0 else 1 | none => 0)
theorem cnt_succ {vs : List (List Nat)} {k : Nat} (h : k < vs.length) : cnt vs (k + 1) = cnt vs k + if vs[k] ∈ vs.take k then 0 else 1 := by simp [cnt, h]
theorem dmap_size {vs : List (List Nat)} (hv : ∀ t ∈ vs, BytesOK t) : ∀ k, k ≤ vs.length → size (dmap vs k) = cnt vs k
  | 0, _ => rfl
  | k + 1, hk => by
    have hlt : k < vs.length := hk
    rw [dmap_succ hlt, size_put (dmap_tidy vs k), dmap_has hv (hv _ (List.getElem_mem hlt)) k (by omega), dmap_size hv k (by omega), cnt_succ hlt]
    by_cases e : vs[k] ∈ vs.take k <;> simp [e]
theorem cnt_le (vs : List (List Nat)) : ∀ k, cnt vs k ≤ k
  | 0 => Nat.le_refl _
  | k + 1 => by
    have := cnt_le vs k
    unfold cnt
    split
    · split <;> omega
    · omega
theorem cnt_all {vs : List (List Nat)} : ∀ k, k ≤ vs.length → (cnt vs k = k ↔ ∀ i, (h : i < k) → (h2 : i < vs.length) → vs[i] ∉ vs.take i)
  | 0, _ => by simp [cnt]
  | k + 1, hk => by
    have hlt : k < vs.length := hk
    have hc := cnt_le vs k
    rw [cnt_succ hlt]
    constructor
    · intro h i hi h2
      by_cases e : vs[k] ∈ vs.take k
      · rw [if_pos e] at h; omega
      · rw [if_neg e] at h
        by_cases ei : i = k
        · subst ei; exact e
        · exact (cnt_all k (by omega)).1 (by omega) i (by omega) h2
    · intro h
      rw [if_neg (h k (by omega) hlt), (cnt_all k (by omega)).2 (fun i hi h2 => h i (by omega) h2)]
def dictTo (vs : List (List Nat)) (k : Nat) : Bool := decide (tot (vs.take k) ≤ 4000) && decide (∀ i, (h : i < k) → (h2 : i < vs.length) → vs[i] ∉ vs.take i)
def dictOK (vs : List (List Nat)) : Bool := decide (vs.length ≤ 40) && dictTo vs vs.length
theorem dictTo_bad {vs : List (List Nat)} {k : Nat} (hk : k < vs.length) (h : 4000 < tot (vs.take (k + 1)) ∨ vs[k] ∈ vs.take k) : dictOK vs = false := by
  rcases h with h | h
  · have := tot_take vs (k + 1)
    have h2 : ¬ tot vs ≤ 4000 := by omega
    simp [dictOK, dictTo, h2]
  · have h2 : ¬ ∀ i, (h : i < vs.length) → (h2 : i < vs.length) → vs[i] ∉ vs.take i := fun hh => hh k hk hk h
    unfold dictOK dictTo
    rw [decide_eq_false h2]; simp
theorem dictTo_succ {vs : List (List Nat)} {k : Nat} (hk : k < vs.length) (h0 : dictTo vs k = true) (h1 : tot (vs.take (k + 1)) ≤ 4000) (h2 : vs[k] ∉ vs.take k) : dictTo vs (k + 1) = true := by
  simp only [dictTo, Bool.and_eq_true, decide_eq_true_eq] at h0 ⊢
  refine ⟨h1, fun i hi hl => ?_⟩
  by_cases e : i = k
  · subst e; exact h2
  · exact h0.2 i (by omega) hl
theorem dictOK_cnt (vs : List (List Nat)) (h1 : vs.length ≤ 40) (h2 : tot vs ≤ 4000) : dictOK vs = decide (cnt vs vs.length = vs.length) := by
  have := cnt_all vs.length (Nat.le_refl vs.length)
  simp only [dictOK, dictTo, List.take_length, h1, h2, decide_true, Bool.true_and]
  exact decide_eq_decide.2 this.symm
theorem dictOK_len {vs : List (List Nat)} (h : ¬ vs.length ≤ 40) : dictOK vs = false := by simp [dictOK, h]
theorem dictOK_tot {vs : List (List Nat)} (h : ¬ tot vs ≤ 4000) : dictOK vs = false := by simp [dictOK, dictTo, h]
def place (vs : List (List Nat)) (t : List Nat) : Int := match vs.findIdx? (fun v => decide (v = t)) with | some i => (i : Int) | none => -1
theorem place_at {vs : List (List Nat)} {t : List Nat} {k : Nat} (hk : k < vs.length) (h : vs[k] = t) (hn : ∀ q, (hq : q < vs.length) → q < k → vs[q] ≠ t) : place vs t = k := by
  have : vs.findIdx? (fun v => decide (v = t)) = some k := List.findIdx?_eq_some_iff_getElem.2 ⟨hk, by simp [h], fun j hj => by simp [hn j (by omega) hj]⟩
  simp [place, this]
theorem place_none {vs : List (List Nat)} {t : List Nat} (hn : ∀ q, (hq : q < vs.length) → vs[q] ≠ t) : place vs t = -1 := by
  have : vs.findIdx? (fun v => decide (v = t)) = none := by
    rw [List.findIdx?_eq_none_iff]
    intro x hx
    obtain ⟨q, hq, rfl⟩ := List.getElem_of_mem hx
    simp [hn q hq]
  simp [place, this]
theorem place_neg {vs : List (List Nat)} {t : List Nat} : place vs t < 0 ↔ t ∉ vs := by
  unfold place
  split
  · rename_i i h
    obtain ⟨hk, h1, _⟩ := List.findIdx?_eq_some_iff_getElem.1 h
    simp only [decide_eq_true_eq] at h1
    constructor
    · intro h2; omega
    · intro h2; exact absurd (h1 ▸ List.getElem_mem hk) h2
  · rename_i h
    rw [List.findIdx?_eq_none_iff] at h
    constructor
    · intro _ hm
      have := h t hm
      simp at this
    · intro _; omega
theorem place_lt (vs : List (List Nat)) (t : List Nat) : place vs t < vs.length ∧ -1 ≤ place vs t := by
  unfold place
  split
  · rename_i i h
    obtain ⟨hk, _⟩ := List.findIdx?_eq_some_iff_getElem.1 h
    omega
  · omega
end Go.Proofs.YtfaehioeepolhaaGreat
