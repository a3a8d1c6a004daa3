import Derived.Test.YtfaehioeepolhaaGreatJCrashReceiver21
import Derived.Test.YtfaehioeepolhaaGreatJCrashReceiver8
import Derived.Test.YtfaehioeepolhaaGreatJCrashReceiver2
import Derived.Test.YtfaehioeepolhaaGreatJCrashReceiver5
namespace Go.Proofs.YtfaehioeepolhaaGreat
def fitsW (n width : Int) : Bool := (pki [n] width).2 == 0
theorem fitsW_zero (width : Int) : fitsW 0 width = widthOK width := by
  unfold fitsW widthOK
  by_cases h : width = 1 ∨ width = 2 ∨ width = 4 ∨ width = 8
  · rw [decide_eq_true h]
    rcases h with rfl | rfl | rfl | rfl <;> rfl
  · rw [decide_eq_false h, pki_no _ _ h]; rfl
theorem fitsR (W : Nat) (k : IntKind) (n : Int) : ((pkiR W k [n]).2 == 0) = decide (k.wrap n = n) := by
  by_cases h : k.wrap n = n
  · rw [pkiR_ok (by simpa using h), decide_eq_true h]; rfl
  · rw [pkiR_bad 0 (by simp) (by simpa using h), decide_eq_false h]; rfl
end Go.Proofs.YtfaehioeepolhaaGreat
namespace Go.Proofs.YtfaehioeepolhaaGreat
def cellOK (f : PF) (c : PC) : Bool :=
  if c.null = true then (c.num == 0) && ((c.text.length : Int) == 0)
  else if f.kind = 0 then ((c.num == 0) || (c.num == 1)) && ((c.text.length : Int) == 0)
  else if f.kind = 1 then fitsW c.num f.width && ((c.text.length : Int) == 0)
  else (c.num == 0)
theorem cellOK_null {f : PF} {c : PC} (h : c.null = true) : cellOK f c = ((c.num == 0) && ((c.text.length : Int) == 0)) := by unfold cellOK; rw [if_pos h]
theorem cellOK_bool {f : PF} {c : PC} (h : c.null = false) (hk : f.kind = 0) : cellOK f c = (((c.num == 0) || (c.num == 1)) && ((c.text.length : Int) == 0)) := by unfold cellOK; rw [if_neg (by simp [h]), if_pos hk]
theorem cellOK_int {f : PF} {c : PC} (h : c.null = false) (hk : f.kind = 1) : cellOK f c = (fitsW c.num f.width && ((c.text.length : Int) == 0)) := by unfold cellOK; rw [if_neg (by simp [h]), if_neg (by omega), if_pos hk]
theorem cellOK_text {f : PF} {c : PC} (h : c.null = false) (h0 : f.kind ≠ 0) (h1 : f.kind ≠ 1) : cellOK f c = (c.num == 0) := by unfold cellOK; rw [if_neg (by simp [h]), if_neg h0, if_neg h1]
theorem null_text {f : PF} {c : PC} (h : c.null = true) (ho : cellOK f c = true) : c.text = [] := by
  rw [cellOK_null h] at ho
  simp at ho
  exact ho.2
def nn (cs : List PC) : List (List Nat) := (cs.filter fun c => !c.null).map (·.text)
theorem nn_snoc (cs : List PC) (k : Nat) (h : k < cs.length) : nn (cs.take (k + 1)) = nn (cs.take k) ++ (if cs[k].null then [] else [cs[k].text]) := by
  unfold nn
  rw [List.take_succ_eq_append_getElem h, List.filter_append, List.map_append]
  cases hc : cs[k].null <;> simp [hc]
def ddv (vs : List (List Nat)) : List (List Nat) := vs.foldl (fun acc t => if t ∈ acc then acc else acc ++ [t]) []
theorem ddv_snoc (vs : List (List Nat)) (t : List Nat) : ddv (vs ++ [t]) = if t ∈ ddv vs then ddv vs else ddv vs ++ [t] := by unfold ddv; rw [List.foldl_append]; rfl
theorem snoc_ind {p : List (List Nat) → Prop} (h0 : p []) (h1 : ∀ vs t, p vs → p (vs ++ [t])) (vs : List (List Nat)) : p vs := by
  have key : ∀ n, ∀ vs : List (List Nat), vs.length = n → p vs := by
    intro n
    induction n with
    | zero => intro vs h; rw [List.length_eq_zero_iff.1 h]; exact h0
    | succ n ih =>
      intro vs h
      have hne : vs ≠ [] := by intro e; simp [e] at h
      rw [← List.dropLast_concat_getLast hne]
      exact h1 _ _ (ih _ (by simp [h]))
  exact key _ vs rfl
theorem mem_ddv (t : List Nat) (vs : List (List Nat)) : t ∈ ddv vs ↔ t ∈ vs := by
  refine snoc_ind (p := fun vs => t ∈ ddv vs ↔ t ∈ vs) (by simp [ddv]) (fun vs s ih => ?_) vs
  · rw [ddv_snoc]
    by_cases h : s ∈ ddv vs
    · rw [if_pos h, ih]
      simp only [List.mem_append, List.mem_singleton]
      constructor
      · exact .inl
      · rintro (h2 | rfl)
        · exact h2
        · exact ih.1 h
    · rw [if_neg h]; simp [ih]
theorem cnt_left (vs ws : List (List Nat)) : ∀ k, k ≤ vs.length → cnt (vs ++ ws) k = cnt vs k
  | 0, _ => rfl
  | k + 1, hk => by
    have hlt : k < vs.length := hk
    have e1 : (vs ++ ws)[k]? = some vs[k] := by rw [List.getElem?_append_left hlt, List.getElem?_eq_getElem hlt]
    have e2 : vs[k]? = some vs[k] := List.getElem?_eq_getElem hlt
    have e3 : (vs ++ ws).take k = vs.take k := List.take_append_of_le_length (by omega)
    simp only [cnt, e1, e2, e3, cnt_left vs ws k (by omega)]
theorem cnt_snoc (vs : List (List Nat)) (t : List Nat) : cnt (vs ++ [t]) (vs.length + 1) = cnt vs vs.length + if t ∈ vs then 0 else 1 := by
  have e1 : (vs ++ [t])[vs.length]? = some t := by simp
  have e3 : (vs ++ [t]).take vs.length = vs := by simp
  simp only [cnt, e1, e3, cnt_left vs [t] vs.length (Nat.le_refl _)]
theorem ddv_len (vs : List (List Nat)) : (ddv vs).length = cnt vs vs.length := by
  refine snoc_ind (p := fun vs => (ddv vs).length = cnt vs vs.length) rfl (fun vs s ih => ?_) vs
  · rw [ddv_snoc, List.length_append, List.length_singleton, cnt_snoc]
    by_cases h : s ∈ vs
    · rw [if_pos ((mem_ddv s vs).2 h), if_pos h, ih]; rfl
    · rw [if_neg (fun e => h ((mem_ddv s vs).1 e)), if_neg h, List.length_append, ih]; rfl
theorem ddv_mono (vs ws : List (List Nat)) : (ddv vs).length ≤ (ddv (vs ++ ws)).length := by
  refine snoc_ind (p := fun ws => (ddv vs).length ≤ (ddv (vs ++ ws)).length) (by simp) (fun ws s ih => ?_) ws
  · rw [← List.append_assoc, ddv_snoc]
    split
    · exact ih
    · rw [List.length_append]; omega
def diff (cs : List PC) : Nat := cnt (nn cs) (nn cs).length
def colOK (f : PF) (cs : List PC) : Bool := cs.all (cellOK f) && !(decide (f.kind = 3) && decide (40 < diff cs))
def col (cells : List PC) (rows c : Nat) : List PC := (cells.drop (c * rows)).take rows
def colsTo (fs : List PF) (cells : List PC) (rows : Nat) : Nat → Bool
  | 0 => true
  | k + 1 => colsTo fs cells rows k && (match fs[k]? with | some f => colOK f (col cells rows k) | none => true)
theorem colsTo_succ {fs : List PF} {cells : List PC} {rows k : Nat} (hk : k < fs.length) : colsTo fs cells rows (k + 1) = (colsTo fs cells rows k && colOK fs[k] (col cells rows k)) := by simp [colsTo, hk]
theorem colsTo_bad {fs : List PF} {cells : List PC} {rows k : Nat} (h : colsTo fs cells rows k = false) : ∀ m, k ≤ m → colsTo fs cells rows m = false := by
  intro m hm
  induction m with
  | zero => have : k = 0 := by omega
            subst this; exact h
  | succ m ih =>
    by_cases e : k = m + 1
    · subst e; exact h
    · simp [colsTo, ih (by omega)]
def txt (cs : List PC) : Nat := (cs.map fun c => c.text.length).sum
end Go.Proofs.YtfaehioeepolhaaGreat
namespace Go.Proofs.YtfaehioeepolhaaGreat
def tableOK (fs : List PF) (t : PT) : Bool :=
  fieldsOK fs && (decide (0 ≤ t.rows) && (decide (t.rows ≤ 100) && (decide ((t.cells.length : Int) = (fs.length : Int) * t.rows) && (colsTo fs t.cells t.rows.toNat fs.length && decide (txt t.cells ≤ 4000)))))
theorem tableOK_fields {fs : List PF} {t : PT} (h : fieldsOK fs = false) : tableOK fs t = false := by simp [tableOK, h]
theorem tableOK_low {fs : List PF} {t : PT} (h : t.rows < 0) : tableOK fs t = false := by
  unfold tableOK; rw [decide_eq_false (show ¬ 0 ≤ t.rows by omega)]; simp
theorem tableOK_high {fs : List PF} {t : PT} (h : 100 < t.rows) : tableOK fs t = false := by
  unfold tableOK; rw [decide_eq_false (show ¬ t.rows ≤ 100 by omega)]; simp
theorem tableOK_len {fs : List PF} {t : PT} (h : (t.cells.length : Int) ≠ (fs.length : Int) * t.rows) : tableOK fs t = false := by
  unfold tableOK; rw [decide_eq_false h]; simp
theorem tableOK_col {fs : List PF} {t : PT} {R k : Nat} (hR : t.rows = (R : Int)) (hk : k < fs.length) (h : colOK fs[k] (col t.cells R k) = false) : tableOK fs t = false := by
  have h1 : colsTo fs t.cells R (k + 1) = false := by rw [colsTo_succ hk, h]; simp
  have h2 := colsTo_bad h1 fs.length (by omega)
  have e : t.rows.toNat = R := by omega
  unfold tableOK
  rw [e, h2]; simp
theorem tableOK_txt {fs : List PF} {t : PT} (h : ¬ txt t.cells ≤ 4000) : tableOK fs t = false := by
  unfold tableOK; rw [decide_eq_false h]; simp
theorem tableOK_end {fs : List PF} {t : PT} {R : Nat} (h0 : fieldsOK fs = true) (hR : t.rows = (R : Int)) (hR2 : R ≤ 100) (hl : t.cells.length = fs.length * R) (hc : colsTo fs t.cells R fs.length = true) : tableOK fs t = decide (txt t.cells ≤ 4000) := by
  have e : t.rows.toNat = R := by omega
  unfold tableOK
  rw [e, h0, hc, decide_eq_true (show 0 ≤ t.rows by omega), decide_eq_true (show t.rows ≤ 100 by omega), decide_eq_true (show (t.cells.length : Int) = (fs.length : Int) * t.rows by rw [hl, hR]; simp)]
  simp
theorem txt_take (cs : List PC) (k : Nat) : txt (cs.take k) ≤ txt cs := sum_take (fun c : PC => c.text.length) cs k
theorem txt_snoc (cs : List PC) (k : Nat) (h : k < cs.length) : txt (cs.take (k + 1)) = txt (cs.take k) + cs[k].text.length := sum_snoc (fun c : PC => c.text.length) cs k h
theorem tot_append (a b : List (List Nat)) : tot (a ++ b) = tot a + tot b := by simp [tot]
theorem nn_le (cs : List PC) : ∀ k, k ≤ cs.length → tot (nn (cs.take k)) ≤ txt (cs.take k)
  | 0, _ => by simp [nn, tot, txt]
  | k + 1, hk => by
    have ih := nn_le cs k (by omega)
    rw [nn_snoc cs k hk, txt_snoc cs k hk, tot_append]
    split
    · simp [tot] at ih ⊢; omega
    · simp [tot] at ih ⊢; omega
theorem nn_tot (cs : List PC) : tot (nn cs) ≤ txt cs := by
  have := nn_le cs cs.length (Nat.le_refl _)
  rwa [List.take_length] at this
theorem nn_eq (cs : List PC) (h : ∀ i, (hi : i < cs.length) → cs[i].null = true → cs[i].text = []) : ∀ k, k ≤ cs.length → tot (nn (cs.take k)) = txt (cs.take k)
  | 0, _ => by simp [nn, tot, txt]
  | k + 1, hk => by
    have ih := nn_eq cs h k (by omega)
    rw [nn_snoc cs k hk, txt_snoc cs k hk, tot_append, ih]
    cases hn : cs[k].null
    · simp [tot]
    · rw [h k hk hn]; simp [tot]
theorem cols_cells {fs : List PF} {cells : List PC} {R : Nat} : ∀ k, k ≤ fs.length → k * R ≤ cells.length → colsTo fs cells R k = true → ∀ i, (hi : i < cells.length) → i < k * R → ∃ f, cellOK f cells[i] = true
  | 0, _, _, _ => fun i _ h => by omega
  | k + 1, hk, hl, hc => fun i hi h => by
    rw [colsTo_succ hk, Bool.and_eq_true] at hc
    rw [Nat.add_mul, Nat.one_mul] at hl h
    by_cases e : i < k * R
    · exact cols_cells k (by omega) (by omega) hc.1 i hi e
    · have h2 := hc.2
      unfold colOK at h2
      rw [Bool.and_eq_true, List.all_eq_true] at h2
      refine ⟨fs[k], h2.1 cells[i] ?_⟩
      have hcl : (col cells R k).length = R := by simp [col]; omega
      have : (col cells R k)[i - k * R]'(by omega) = cells[i] := by
        simp only [col, List.getElem_take, List.getElem_drop]
        congr 1; omega
      rw [← this]; exact List.getElem_mem _
theorem cols_txt {fs : List PF} {cells : List PC} {R : Nat} (hl : cells.length = fs.length * R) (hc : colsTo fs cells R fs.length = true) : tot (nn cells) = txt cells := by
  have h := nn_eq cells (fun i hi hn => by
    obtain ⟨f, hf⟩ := cols_cells fs.length (Nat.le_refl _) (by omega) hc i hi (by omega)
    exact null_text hn hf) cells.length (Nat.le_refl _)
  rwa [List.take_length] at h
theorem colOK_cells {f : PF} {cs : List PC} (h : cs.all (cellOK f) = false) : colOK f cs = false := by unfold colOK; rw [h]; rfl
theorem colOK_dict {f : PF} {cs : List PC} (hk : f.kind = 3) (h : 40 < diff cs) : colOK f cs = false := by unfold colOK; rw [decide_eq_true hk, decide_eq_true h]; simp
theorem colOK_ok {f : PF} {cs : List PC} (h : cs.all (cellOK f) = true) (hd : ¬ (f.kind = 3 ∧ 40 < diff cs)) : colOK f cs = true := by
  unfold colOK
  rw [h]
  by_cases hk : f.kind = 3
  · rw [decide_eq_false (show ¬ 40 < diff cs from fun e => hd ⟨hk, e⟩)]; simp
  · rw [decide_eq_false hk]; rfl
theorem col_len {cells : List PC} {R c : Nat} (h : (c + 1) * R ≤ cells.length) : (col cells R c).length = R := by
  rw [Nat.add_mul, Nat.one_mul] at h
  simp [col]; omega
theorem col_at {cells : List PC} {R c i : Nat} (h : (c + 1) * R ≤ cells.length) (hi : i < R) : (col cells R c)[i]'(by rw [col_len h]; exact hi) = cells[c * R + i]'(by rw [Nat.add_mul, Nat.one_mul] at h; omega) := by
  simp [col]
theorem okTo_width {fs : List PF} (h : fieldsOK fs = true) {k : Nat} (hk : k < fs.length) (h1 : fs[k].kind = 1) : widthOK fs[k].width = true := by
  have hf : fieldOK fs[k] = true := by
    cases hb : fieldOK fs[k] with
    | true => rfl
    | false => rw [fieldsOK_bad hk (.inl hb)] at h; cases h
  unfold fieldOK kindOK at hf
  rw [if_pos h1, Bool.and_eq_true] at hf
  exact hf.2
theorem fields_len {fs : List PF} (h : fieldsOK fs = true) : fs.length ≤ 12 := by
  unfold fieldsOK at h
  simp at h
  omega
end Go.Proofs.YtfaehioeepolhaaGreat
