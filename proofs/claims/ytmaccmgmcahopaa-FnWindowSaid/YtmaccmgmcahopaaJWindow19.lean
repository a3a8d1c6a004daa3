/- CelTo, SlToCell, SlSzCell, SlEqCell, Tab, TabOK, BndMath. -/
import Derived.Test.YtmaccmgmcahopaaJWindow17
import Derived.Test.YtmaccmgmcahopaaJWindow6
import Derived.Handy
import Derived.Deep.RegionHeld
import Derived.Test.YtmaccmgmcahopaaJWindow18
import Derived.Test.YtmaccmgmcahopaaJWindow5
import Derived.Test.YtmaccmgmcahopaaJWindow14
/- laws.toCell. -/
namespace Go.Proofs.Ytmaccmgmcahopaa
open Go.RowKit

end Go.Proofs.Ytmaccmgmcahopaa

/- laws.toCellS: a slice of three-celled things copied. -/
namespace Go.Proofs.Ytmaccmgmcahopaa
open Go.RowKit

theorem infoImCell : (Try.prog.info? 122).map (fun i => (i.zero, i.size, i.bytes)) = some (some (.agg #[.bool false, .int .i64 0, .slice none 0 0]), 3, 40) := by kernel_rfl

end Go.Proofs.Ytmaccmgmcahopaa

/- laws.szCell, szCellS. -/
namespace Go.Proofs.Ytmaccmgmcahopaa
open Go.RowKit

end Go.Proofs.Ytmaccmgmcahopaa

/- laws.eqCell, eqCellS: two that are alike. -/
namespace Go.Proofs.Ytmaccmgmcahopaa
open Go.RowKit

end Go.Proofs.Ytmaccmgmcahopaa

/- Tables: in memory, and laws.toTable, szTable, eqTable. -/
namespace Go.Proofs.Ytmaccmgmcahopaa
open Go.RowKit

structure PT where
  rows : Int
  cells : List PC
deriving DecidableEq

def cTable : Cod PT := cMap (cPair cInt (cSl cCell 122)) fun f => (f.rows, f.cells)
abbrev totT (t : PT) : Nat := totL (fun f : PC => f.text.length) t.cells

theorem cTable_rd {w : World} {t : PT} {cs : List Value} (h : cTable.rd w t cs) : ∃ v, cs = [.int .i64 t.rows, v] ∧ RdSl cCell w t.cells v ∧ IntIn t.rows := by
  obtain ⟨c1, c2, rfl, ⟨rfl, h2⟩, v, rfl, h3⟩ := h
  exact ⟨v, rfl, h3, h2⟩
theorem cTable_own {w : World} {t : PT} {v : Value} {bs : List Nat} (h1 : OwnSl cCell 122 w t.cells v bs) (h2 : IntIn t.rows) : cTable.own w t [.int .i64 t.rows, v] bs :=
  ⟨[_], _, [], bs, rfl, rfl, ⟨rfl, h2, rfl⟩, v, rfl, h1⟩
theorem cTable_shape {w : World} {f : PT} {cs : List Value} (h : cTable.rd w f cs) : ∃ a cap, cs = [.int .i64 f.rows, .slice a f.cells.length cap] ∧ RdSl cCell w f.cells (.slice a f.cells.length cap) ∧ IntIn f.rows := by
  obtain ⟨v, rfl, hv, hi⟩ := cTable_rd h
  obtain ⟨a, cap, rfl, _⟩ := id hv
  exact ⟨a, cap, rfl, hv, hi⟩

theorem set2b {B : Nat} {a w : World} {g : Nat} {x y : Value} (h : Below B a w) (hg : B ≤ g) : Below B a ((w.setCell ⟨g, 0, none⟩ x).setCell ⟨g, 1, none⟩ y) :=
  (h.setCell (p := ⟨g, 0, none⟩) hg _).setCell (p := ⟨g, 1, none⟩) hg _
theorem set2o {w : World} {g k : Nat} {x y : Value} (h : k ≠ g) : ((w.setCell ⟨g, 0, none⟩ x).setCell ⟨g, 1, none⟩ y).heap[k]? = w.heap[k]? := by
  rw [Below.heap_setCell _ _ _ _ h, Below.heap_setCell _ _ _ _ h]

end Go.Proofs.Ytmaccmgmcahopaa

/- What a valid table is. No program. -/
namespace Go.Proofs.Ytmaccmgmcahopaa

def tableOK (fs : List PF) (t : PT) : Bool :=
  fieldsOK fs && (decide (0 ≤ t.rows) && (decide (t.rows ≤ 100) && (decide ((t.cells.length : Int) = (fs.length : Int) * t.rows) && (colsTo fs t.cells t.rows.toNat fs.length && decide (txt t.cells ≤ 4000)))))

theorem tableOK_fields {fs : List PF} {t : PT} (h : fieldsOK fs = false) : tableOK fs t = false := by simp [tableOK, h]
theorem tableOK_low {fs : List PF} {t : PT} (h : t.rows < 0) : tableOK fs t = false := by
  unfold tableOK; rw [decide_eq_false (show ¬ 0 ≤ t.rows by omega)]; simp
theorem tableOK_high {fs : List PF} {t : PT} (h : 100 < t.rows) : tableOK fs t = false := by
  unfold tableOK; rw [decide_eq_false (show ¬ t.rows ≤ 100 by omega)]; simp
theorem tableOK_len {fs : List PF} {t : PT} (h : (t.cells.length : Int) ≠ (fs.length : Int) * t.rows) : tableOK fs t = false := by
  unfold tableOK; rw [decide_eq_false h]; simp
theorem tableOK_col {fs : List PF} {t : PT} {R k : Nat} (hR : t.rows = (R : Int)) (hk : k < fs.length) (h : colOK fs[k] (col t.cells R k) = false) : tableOK fs t = false := by
  have h1 : colsTo fs t.cells R (k + 1) = false := by rw [colsTo_succ hk, h]; simp
  have h2 := colsTo_bad h1 fs.length (by omega)
  have e : t.rows.toNat = R := by omega
  unfold tableOK
  rw [e, h2]; simp
theorem tableOK_txt {fs : List PF} {t : PT} (h : ¬ txt t.cells ≤ 4000) : tableOK fs t = false := by
  unfold tableOK; rw [decide_eq_false h]; simp
theorem tableOK_end {fs : List PF} {t : PT} {R : Nat} (h0 : fieldsOK fs = true) (hR : t.rows = (R : Int)) (hR2 : R ≤ 100) (hl : t.cells.length = fs.length * R) (hc : colsTo fs t.cells R fs.length = true) : tableOK fs t = decide (txt t.cells ≤ 4000) := by
  have e : t.rows.toNat = R := by omega
  unfold tableOK
  rw [e, h0, hc, decide_eq_true (show 0 ≤ t.rows by omega), decide_eq_true (show t.rows ≤ 100 by omega), decide_eq_true (show (t.cells.length : Int) = (fs.length : Int) * t.rows by rw [hl, hR]; simp)]
  simp

theorem txt_take (cs : List PC) (k : Nat) : txt (cs.take k) ≤ txt cs := sum_take (fun c : PC => c.text.length) cs k
theorem txt_snoc (cs : List PC) (k : Nat) (h : k < cs.length) : txt (cs.take (k + 1)) = txt (cs.take k) + cs[k].text.length := sum_snoc (fun c : PC => c.text.length) cs k h
theorem txt_tot (cs : List PC) : txt cs ≤ totL (fun f : PC => f.text.length) cs := by unfold txt totL; omega
theorem tot_append (a b : List (List Nat)) : tot (a ++ b) = tot a + tot b := by simp [tot]
theorem nn_le (cs : List PC) : ∀ k, k ≤ cs.length → tot (nn (cs.take k)) ≤ txt (cs.take k)
  | 0, _ => by simp [nn, tot, txt]
  | k + 1, hk => by
    have ih := nn_le cs k (by omega)
    rw [nn_snoc cs k hk, txt_snoc cs k hk, tot_append]
    split
    · simp [tot] at ih ⊢; omega
    · simp [tot] at ih ⊢; omega
theorem nn_tot (cs : List PC) : tot (nn cs) ≤ txt cs := by
  have := nn_le cs cs.length (Nat.le_refl _)
  rwa [List.take_length] at this
theorem nn_eq (cs : List PC) (h : ∀ i, (hi : i < cs.length) → cs[i].null = true → cs[i].text = []) : ∀ k, k ≤ cs.length → tot (nn (cs.take k)) = txt (cs.take k)
  | 0, _ => by simp [nn, tot, txt]
  | k + 1, hk => by
    have ih := nn_eq cs h k (by omega)
    rw [nn_snoc cs k hk, txt_snoc cs k hk, tot_append, ih]
    cases hn : cs[k].null
    · simp [tot]
    · rw [h k hk hn]; simp [tot]
theorem cols_cells {fs : List PF} {cells : List PC} {R : Nat} : ∀ k, k ≤ fs.length → k * R ≤ cells.length → colsTo fs cells R k = true → ∀ i, (hi : i < cells.length) → i < k * R → ∃ f, cellOK f cells[i] = true
  | 0, _, _, _ => fun i _ h => by omega
  | k + 1, hk, hl, hc => fun i hi h => by
    rw [colsTo_succ hk, Bool.and_eq_true] at hc
    rw [Nat.add_mul, Nat.one_mul] at hl h
    by_cases e : i < k * R
    · exact cols_cells k (by omega) (by omega) hc.1 i hi e
    · have h2 := hc.2
      unfold colOK at h2
      rw [Bool.and_eq_true, List.all_eq_true] at h2
      refine ⟨fs[k], h2.1 cells[i] ?_⟩
      have hcl : (col cells R k).length = R := by simp [col]; omega
      have : (col cells R k)[i - k * R]'(by omega) = cells[i] := by
        simp only [col, List.getElem_take, List.getElem_drop]
        congr 1; omega
      rw [← this]; exact List.getElem_mem _
theorem cols_txt {fs : List PF} {cells : List PC} {R : Nat} (hl : cells.length = fs.length * R) (hc : colsTo fs cells R fs.length = true) : tot (nn cells) = txt cells := by
  have h := nn_eq cells (fun i hi hn => by
    obtain ⟨f, hf⟩ := cols_cells fs.length (Nat.le_refl _) (by omega) hc i hi (by omega)
    exact null_text hn hf) cells.length (Nat.le_refl _)
  rwa [List.take_length] at h
theorem colOK_cells {f : PF} {cs : List PC} (h : cs.all (cellOK f) = false) : colOK f cs = false := by unfold colOK; rw [h]; rfl
theorem colOK_dict {f : PF} {cs : List PC} (hk : f.kind = 3) (h : 40 < diff cs) : colOK f cs = false := by unfold colOK; rw [decide_eq_true hk, decide_eq_true h]; simp
theorem colOK_ok {f : PF} {cs : List PC} (h : cs.all (cellOK f) = true) (hd : ¬ (f.kind = 3 ∧ 40 < diff cs)) : colOK f cs = true := by
  unfold colOK
  rw [h]
  by_cases hk : f.kind = 3
  · rw [decide_eq_false (show ¬ 40 < diff cs from fun e => hd ⟨hk, e⟩)]; simp
  · rw [decide_eq_false hk]; rfl
theorem col_len {cells : List PC} {R c : Nat} (h : (c + 1) * R ≤ cells.length) : (col cells R c).length = R := by
  rw [Nat.add_mul, Nat.one_mul] at h
  simp [col]; omega
theorem col_at {cells : List PC} {R c i : Nat} (h : (c + 1) * R ≤ cells.length) (hi : i < R) : (col cells R c)[i]'(by rw [col_len h]; exact hi) = cells[c * R + i]'(by rw [Nat.add_mul, Nat.one_mul] at h; omega) := by
  simp [col]
theorem okTo_width {fs : List PF} (h : fieldsOK fs = true) {k : Nat} (hk : k < fs.length) (h1 : fs[k].kind = 1) : widthOK fs[k].width = true := by
  have hf : fieldOK fs[k] = true := by
    cases hb : fieldOK fs[k] with
    | true => rfl
    | false => rw [fieldsOK_bad hk (.inl hb)] at h; cases h
  unfold fieldOK kindOK at hf
  rw [if_pos h1, Bool.and_eq_true] at hf
  exact hf.2
theorem fields_len {fs : List PF} (h : fieldsOK fs = true) : fs.length ≤ 12 := by
  unfold fieldsOK at h
  simp at h
  omega

end Go.Proofs.Ytmaccmgmcahopaa

/- What FnBound's own arguments come to. No program. -/
namespace Go.Proofs.Ytmaccmgmcahopaa
open Go.RowKit

def Zs (n : Nat) : List Nat := List.replicate n 0
theorem Zs_len (n : Nat) : (Zs n).length = n := by simp [Zs]
theorem encM_one (K F C : Nat) (z : List Nat) : (encM K F C [z]).length = 20 + evn z.length := by
  have h0 := join_next [lensM [z], z] 0 (by simp)
  have h1 := join_next [lensM [z], z] 1 (by simp)
  have e0 : (join (([lensM [z], z] : List (List Nat)).take 0)).length = 0 := by simp [join]
  have e1 : ([lensM [z], z] : List (List Nat))[0].length = 4 := by simp [lensM_len]
  rw [e0, e1] at h0
  have e2 : evn 4 = 8 := by decide
  simp only [List.take_succ_cons, List.take_zero, List.getElem_cons_succ, List.getElem_cons_zero] at h0 h1
  unfold encM bodyM
  simp only [List.length_append, headM_len, digs_len]
  omega
theorem bnd_enc (n : Nat) : (0 < (encR ⟨4, 0, 0, [Zs n]⟩).length) ↔ evn n ≤ 19980 := by
  have h1 : (encB ⟨4, 0, 0, [Zs n]⟩).length = 20 + evn n := by
    show (encM _ _ _ [Zs n]).length = _
    rw [encM_one, Zs_len]
  have h2 : msgOK ⟨4, 0, 0, [Zs n]⟩ = true := by simp [msgOK]
  unfold encR
  by_cases h : evn n ≤ 19980
  · rw [if_pos ⟨h2, by omega⟩]
    omega
  · rw [if_neg (fun k => h (by have := k.2; omega))]
    simp
    omega
def bo0 : PO := ⟨1, 0, 0, []⟩
def bo1 (n : Nat) : PO := ⟨1, 200, 0, pushK bo0 (Zs n) 200⟩
theorem bo0_ok : outOK bo0 = true := by decide
theorem bnd_push {n : Nat} (h1 : 19999 ≤ n) (h2 : n ≤ 20000) : pushO bo0 (Zs n) = bo1 n ∧ pushC bo0 (Zs n) = 0 := by
  have hp : nPc (Zs n) = 200 := by unfold nPc; rw [Zs_len]; omega
  have h := push_yes (o := bo0) (xs := Zs n) ⟨bo0_ok, by rw [Zs_len]; omega, by rw [Zs_len]; omega⟩ (by unfold PushFull; rw [hp]; decide) (by unfold PushEnd; rw [hp]; decide)
  rw [hp] at h
  exact h
theorem bnd_push_no : pushC bo0 (Zs 20001) = 1 := (push_no (fun h => by have := h.2.2; rw [Zs_len] at this; omega)).2
theorem bo1_len (n : Nat) : (bo1 n).wait.length = 200 := by show (pushK bo0 (Zs n) 200).length = 200; rw [pushK_len]; rfl
theorem bo1_ok {n : Nat} (h1 : 19999 ≤ n) : outOK (bo1 n) = true := by
  refine outOK_all ?_ (fun k hk => ?_)
  · have := bo1_len n
    show (1 : Int) ≤ 1 ∧ (1 : Int) ≤ 1000000000 ∧ (0 : Int) ≤ 200 ∧ (200 : Int) ≤ 1000000000000 ∧ (0 : Int) ≤ 0 ∧ (0 : Int) ≤ 1000000000 ∧ (bo1 n).wait.length ≤ 300
    exact ⟨by decide, by decide, by decide, by decide, by decide, by decide, by omega⟩
  · have hk2 : k < 200 := by have := bo1_len n; omega
    have e : ∀ h : k < (bo1 n).wait.length, (bo1 n).wait[k]'h = pkW bo0 (Zs n) k := fun h => by simp [bo1, pushK, bo0]
    generalize hg : (bo1 n).wait[k] = g
    have hg2 : g = pkW bo0 (Zs n) k := hg.symm.trans (e hk)
    clear hg
    subst hg2
    have hl : (pcs (Zs n) k).length = min 100 (n - k * 100) := by rw [pcs_len, Zs_len]
    have hd : pktOK (pkW bo0 (Zs n) k).pkt = true := by
      refine decide_eq_true ⟨by show (1 : Int) ≤ 1; omega, by show (1 : Int) ≤ 1000000000; omega, ?_, ?_, by show (0 : Int) ≤ 0; omega, by show (0 : Int) ≤ 1000000000; omega, .inl ⟨rfl, ?_, rfl, ?_, ?_⟩⟩
      · show (0 : Int) ≤ 0 + (k : Int); omega
      · show 0 + (k : Int) ≤ 1000000000000; omega
      · show 0 + (k : Int) < 1000000000000; omega
      · show 1 ≤ (pcs (Zs n) k).length; omega
      · show (pcs (Zs n) k).length ≤ 100; omega
    have hw := bo1_len n
    have h3 : (pkW bo0 (Zs n) k).pkt.seq = (bo1 n).next - ((bo1 n).wait.length : Int) + (k : Int) := by
      rw [hw]
      show 0 + (k : Int) = 200 - ((200 : Nat) : Int) + (k : Int)
      omega
    unfold outW dataB
    rw [hd, decide_eq_true (show (pkW bo0 (Zs n) k).pkt.kind = 1 from rfl), decide_eq_true (show (pkW bo0 (Zs n) k).pkt.epoch = (bo1 n).epoch from rfl), decide_eq_true (show _ ∧ _ ∧ _ from ⟨h3, by show (-1 : Int) ≤ -1; omega, by show (-1 : Int) ≤ 0; omega⟩)]
    rfl
theorem bnd_more {n : Nat} (h1 : 19999 ≤ n) : pushC (bo1 n) (Zs 10000) = 0 := by
  have hp : nPc (Zs 10000) = 100 := by unfold nPc; rw [Zs_len]
  refine (push_yes (o := bo1 n) (xs := Zs 10000) ⟨bo1_ok h1, by rw [Zs_len]; omega, by rw [Zs_len]; omega⟩ ?_ ?_).2
  · unfold PushFull; rw [hp, bo1_len]; omega
  · unfold PushEnd; rw [hp]; show ¬ (1000000000000 : Int) < 200 + ((100 : Nat) : Int); omega
theorem bnd_full {n : Nat} (h1 : 19999 ≤ n) : pushO (bo1 n) (Zs 10001) = bo1 n ∧ pushC (bo1 n) (Zs 10001) = 2 := by
  have hp : nPc (Zs 10001) = 101 := by unfold nPc; rw [Zs_len]
  refine push_full (o := bo1 n) (xs := Zs 10001) ⟨bo1_ok h1, by rw [Zs_len]; omega, by rw [Zs_len]; omega⟩ ?_
  unfold PushFull; rw [hp, bo1_len]; omega
theorem bnd_pkt (n : Nat) (h : 1 ≤ n) : (0 < (pktR ⟨1, 1, 0, 0, false, Zs n⟩).length) ↔ n ≤ 100 := by
  unfold pktR
  by_cases h2 : n ≤ 100
  · have hk : pktOK ⟨1, 1, 0, 0, false, Zs n⟩ = true := decide_eq_true ⟨by show (1 : Int) ≤ 1; omega, by show (1 : Int) ≤ 1000000000; omega, by show (0 : Int) ≤ 0; omega, by show (0 : Int) ≤ 1000000000000; omega, by show (0 : Int) ≤ 0; omega, by show (0 : Int) ≤ 1000000000; omega, .inl ⟨rfl, by show (0 : Int) < 1000000000000; omega, rfl, by show 1 ≤ (Zs n).length; rw [Zs_len]; omega, by show (Zs n).length ≤ 100; rw [Zs_len]; omega⟩⟩
    rw [if_pos hk]
    refine ⟨fun _ => h2, fun _ => ?_⟩
    show 0 < (encP _ _ _ _ _ _).length
    unfold encP
    simp only [List.length_append, headP_len]
    omega
  · have hk : pktOK ⟨1, 1, 0, 0, false, Zs n⟩ = false := decide_eq_false (fun ⟨_, _, _, _, _, _, k⟩ => by
      have hz := Zs_len n
      rcases k with ⟨_, _, _, _, k5⟩ | ⟨_, k2, _⟩
      · simp only [hz] at k5; omega
      · simp only [hz] at k2; omega)
    rw [hk]
    simp
    omega
def oneT (n : Nat) : List (List Nat) := (List.range n).map fun i => [i % 256]
theorem bnd_dict {d : Nat} (h : d < 3) : dictOK (oneT (39 + d)) = decide (d < 2) := by
  rcases (by omega : d = 0 ∨ d = 1 ∨ d = 2) with rfl | rfl | rfl <;> decide +kernel
def zTab (n : Nat) : PT := ⟨(n : Int), List.replicate n ⟨false, 0, []⟩⟩
theorem bnd_tab {d : Nat} (h : d < 3) : tableOK [⟨[97], 0, 0⟩] (zTab (99 + d)) = decide (d < 2) := by
  rcases (by omega : d = 0 ∨ d = 1 ∨ d = 2) with rfl | rfl | rfl <;> decide +kernel

end Go.Proofs.Ytmaccmgmcahopaa
