import Derived.Test.YtcljakdcejhfiadJValidTable25
import Derived.Test.YtcljakdcejhfiadJValidTable13
namespace Go.Proofs.Ytcljakdcejhfiad
def tableOK (fs : List PF) (t : PT) : Bool :=
  fieldsOK fs && (decide (0 ≤ t.rows) && (decide (t.rows ≤ 100) && (decide ((t.cells.length : Int) = (fs.length : Int) * t.rows) && (colsTo fs t.cells t.rows.toNat fs.length && decide (txt t.cells ≤ 4000)))))
theorem tableOK_fields {fs : List PF} {t : PT} (h : fieldsOK fs = false) : tableOK fs t = false := by simp [tableOK, h]
theorem tableOK_low {fs : List PF} {t : PT} (h : t.rows < 0) : tableOK fs t = false := by
  unfold tableOK; rw [decide_eq_false (show ¬ 0 ≤ t.rows by omega)]; simp
theorem tableOK_high {fs : List PF} {t : PT} (h : 100 < t.rows) : tableOK fs t = false := by
  unfold tableOK; rw [decide_eq_false (show ¬ t.rows ≤ 100 by omega)]; simp
theorem tableOK_len {fs : List PF} {t : PT} (h : (t.cells.length : Int) ≠ (fs.length : Int) * t.rows) : tableOK fs t = false := by
  unfold tableOK; rw [decide_eq_false h]; simp
theorem tableOK_col {fs : List PF} {t : PT} {R k : Nat} (hR : t.rows = (R : Int)) (hk : k < fs.length) (h : colOK fs[k] (col t.cells R k) = false) : tableOK fs t = false := by
  have h1 : colsTo fs t.cells R (k + 1) = false := by rw [colsTo_succ hk, h]; simp
  have h2 := colsTo_bad h1 fs.length (by omega)
  have e : t.rows.toNat = R := by omega
  unfold tableOK
  rw [e, h2]; simp
theorem tableOK_txt {fs : List PF} {t : PT} (h : ¬ txt t.cells ≤ 4000) : tableOK fs t = false := by
  unfold tableOK; rw [decide_eq_false h]; simp
theorem tableOK_end {fs : List PF} {t : PT} {R : Nat} (h0 : fieldsOK fs = true) (hR : t.rows = (R : Int)) (hR2 : R ≤ 100) (hl : t.cells.length = fs.length * R) (hc : colsTo fs t.cells R fs.length = true) : tableOK fs t = decide (txt t.cells ≤ 4000) := by
  have e : t.rows.toNat = R := by omega
  unfold tableOK
  rw [e, h0, hc, decide_eq_true (show 0 ≤ t.rows by omega), decide_eq_true (show t.rows ≤ 100 by omega), decide_eq_true (show (t.cells.length : Int) = (fs.length : Int) * t.rows by rw [hl, hR]; simp)]
  simp
theorem txt_take (cs : List PC) (k : Nat) : txt (cs.take k) ≤ txt cs := sum_take (fun c : PC => c.text.length) cs k
theorem txt_snoc (cs : List PC) (k : Nat) (h : k < cs.length) : txt (cs.take (k + 1)) = txt (cs.take k) + cs[k].text.length := sum_snoc (fun c : PC => c.text.length) cs k h
theorem tot_append (a b : List (List Nat)) : tot (a ++ b) = tot a + tot b := by simp [tot]
theorem nn_le (cs : List PC) : ∀ k, k ≤ cs.length → tot (nn (cs.take k)) ≤ txt (cs.take k)
  | 0, _ => by simp [nn, tot, txt]
  | k + 1, hk => by
    have ih := nn_le cs k (by omega)
    rw [nn_snoc cs k hk, txt_snoc cs k hk, tot_append]
    split
    · simp [tot] at ih ⊢; omega
    · simp [tot] at ih ⊢; omega
theorem nn_tot (cs : List PC) : tot (nn cs) ≤ txt cs := by
  have := nn_le cs cs.length (Nat.le_refl _)
  rwa [List.take_length] at this
theorem nn_eq (cs : List PC) (h : ∀ i, (hi : i < cs.length) → cs[i].null = true → cs[i].text = []) : ∀ k, k ≤ cs.length → tot (nn (cs.take k)) = txt (cs.take k)
  | 0, _ => by simp [nn, tot, txt]
  | k + 1, hk => by
    have ih := nn_eq cs h k (by omega)
    rw [nn_snoc cs k hk, txt_snoc cs k hk, tot_append, ih]
    cases hn : cs[k].null
    · simp [tot]
    · rw [h k hk hn]; simp [tot]
theorem cols_cells {fs : List PF} {cells : List PC} {R : Nat} : ∀ k, k ≤ fs.length → k * R ≤ cells.length → colsTo fs cells R k = true → ∀ i, (hi : i < cells.length) → i < k * R → ∃ f, cellOK f cells[i] = true
  | 0, _, _, _ => fun i _ h => by omega
  | k + 1, hk, hl, hc => fun i hi h => by
    rw [colsTo_succ hk, Bool.and_eq_true] at hc
    rw [Nat.add_mul, Nat.one_mul] at hl h
    by_cases e : i < k * R
    · exact cols_cells k (by omega) (by omega) hc.1 i hi e
    · have h2 := hc.2
      unfold colOK at h2
      rw [Bool.and_eq_true, List.all_eq_true] at h2
      refine ⟨fs[k], h2.1 cells[i] ?_⟩
      have hcl : (col cells R k).length = R := by simp [col]; omega
      have : (col cells R k)[i - k * R]'(by omega) = cells[i] := by
        simp only [col, List.getElem_take, List.getElem_drop]
        congr 1; omega
      rw [← this]; exact List.getElem_mem _
theorem cols_txt {fs : List PF} {cells : List PC} {R : Nat} (hl : cells.length = fs.length * R) (hc : colsTo fs cells R fs.length = true) : tot (nn cells) = txt cells := by
  have h := nn_eq cells (fun i hi hn => by
    obtain ⟨f, hf⟩ := cols_cells fs.length (Nat.le_refl _) (by omega) hc i hi (by omega)
    exact null_text hn hf) cells.length (Nat.le_refl _)
  rwa [List.take_length] at h
theorem colOK_cells {f : PF} {cs : List PC} (h : cs.all (cellOK f) = false) : colOK f cs = false := by unfold colOK; rw [h]; rfl
theorem colOK_dict {f : PF} {cs : List PC} (hk : f.kind = 3) (h : 40 < diff cs) : colOK f cs = false := by unfold colOK; rw [decide_eq_true hk, decide_eq_true h]; simp
theorem colOK_ok {f : PF} {cs : List PC} (h : cs.all (cellOK f) = true) (hd : ¬ (f.kind = 3 ∧ 40 < diff cs)) : colOK f cs = true := by
  unfold colOK
  rw [h]
  by_cases hk : f.kind = 3
  · rw [decide_eq_false (show ¬ 40 < diff cs from fun e => hd ⟨hk, e⟩)]; simp
  · rw [decide_eq_false hk]; rfl
theorem col_len {cells : List PC} {R c : Nat} (h : (c + 1) * R ≤ cells.length) : (col cells R c).length = R := by
  rw [Nat.add_mul, Nat.one_mul] at h
  simp [col]; omega
theorem col_at {cells : List PC} {R c i : Nat} (h : (c + 1) * R ≤ cells.length) (hi : i < R) : (col cells R c)[i]'(by rw [col_len h]; exact hi) = cells[c * R + i]'(by rw [Nat.add_mul, Nat.one_mul] at h; omega) := by
  simp [col]
theorem okTo_width {fs : List PF} (h : fieldsOK fs = true) {k : Nat} (hk : k < fs.length) (h1 : fs[k].kind = 1) : widthOK fs[k].width = true := by
  have hf : fieldOK fs[k] = true := by
    cases hb : fieldOK fs[k] with
    | true => rfl
    | false => rw [fieldsOK_bad hk (.inl hb)] at h; cases h
  unfold fieldOK kindOK at hf
  rw [if_pos h1, Bool.and_eq_true] at hf
  exact hf.2
theorem fields_len {fs : List PF} (h : fieldsOK fs = true) : fs.length ≤ 12 := by
  unfold fieldsOK at h
  simp at h
  omega
end Go.Proofs.Ytcljakdcejhfiad
