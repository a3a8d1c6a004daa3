import Derived.Test.YtfaehioeepolhaaGreatJPoll19
import Derived.Test.YtfaehioeepolhaaGreatJPoll3
import Derived.Test.YtfaehioeepolhaaGreatJPoll5
import Derived.Test.YtfaehioeepolhaaGreatJPoll13
namespace Go.Proofs.YtfaehioeepolhaaGreat
open Go.RowKit
structure Tk {α : Type} (c : Cod α) where
  P : Nat → World → α → List Value → Prop
  ty : List TypeId
  rd : ∀ {B w x cs}, P B w x cs → c.rd w x cs
  kept : ∀ {B w w' x cs}, P B w x cs → (∀ (b : Nat) e n s vs u, w.ownsRow B e s u n vs → e ∈ ty → u.ownBlock = some b → w'.heap[b]? = w.heap[b]?) → P B w' x cs
  mono : ∀ {B B' w x cs}, P B w x cs → B' ≤ B → P B' w x cs
theorem Tk.later {α : Type} {c : Cod α} (tk : Tk c) {B : Nat} {w w' : World} {x : α} {cs : List Value} (h : tk.P B w x cs) (hb : Below w.heap.size w w') : tk.P B w' x cs :=
  tk.kept h (fun b _ _ _ _ _ ho _ hp => hb.block b (World.ownsRow.lt ho b hp).2)
theorem ownsRow_less {w : World} {B B' n s : Nat} {e : TypeId} {v : Value} {vs : List Value} (h : w.ownsRow B e s v n vs) (hb : B' ≤ B) : w.ownsRow B' e s v n vs := ⟨h.1, h.2.imp id (fun ⟨g, cap, cur, h1, h2, h3⟩ => ⟨g, cap, cur, h1, Nat.le_trans hb h2, h3⟩)⟩
def RowT {α : Type} {c : Cod α} (tk : Tk c) (e : TypeId) (B : Nat) (w : World) (v : Value) (xs : List α) : Prop :=
  ∃ vals : List Value, w.ownsRow B e c.n v xs.length vals ∧ ∀ i, (h : i < xs.length) → tk.P B w xs[i] (part vals c.n i)
theorem RowT.nil {α : Type} {c : Cod α} (tk : Tk c) (e : TypeId) (B : Nat) (w : World) : RowT tk e B w (.slice none 0 0) [] := ⟨[], World.ownsRow_nil _ _ _ _, fun i h => by simp at h⟩
theorem RowT.kept {α : Type} {c : Cod α} {tk : Tk c} {e : TypeId} {B : Nat} {w w' : World} {v : Value} {xs : List α} (h : RowT tk e B w v xs) (hk : ∀ (b : Nat) e' n s vs u, w.ownsRow B e' s u n vs → (e' = e ∨ e' ∈ tk.ty) → u.ownBlock = some b → w'.heap[b]? = w.heap[b]?) : RowT tk e B w' v xs := by
  obtain ⟨vals, ho, hi⟩ := h
  exact ⟨vals, ownsRow_kept ho (fun b hb => hk b _ _ _ _ _ ho (.inl rfl) hb), fun i h => tk.kept (hi i h) (fun b e n s vs u h1 h2 h3 => hk b e n s vs u h1 (.inr h2) h3)⟩
theorem RowT.later {α : Type} {c : Cod α} {tk : Tk c} {e : TypeId} {B : Nat} {w w' : World} {v : Value} {xs : List α} (h : RowT tk e B w v xs) (hb : Below w.heap.size w w') : RowT tk e B w' v xs :=
  h.kept (fun b _ _ _ _ _ ho _ hp => hb.block b (World.ownsRow.lt ho b hp).2)
theorem RowT.mono {α : Type} {c : Cod α} {tk : Tk c} {e : TypeId} {B B' : Nat} {w : World} {v : Value} {xs : List α} (h : RowT tk e B w v xs) (hb : B' ≤ B) : RowT tk e B' w v xs := by
  obtain ⟨vals, ho, hi⟩ := h
  exact ⟨vals, ownsRow_less ho hb, fun i h => tk.mono (hi i h) hb⟩
theorem RowT.rd {α : Type} {c : Cod α} {tk : Tk c} {e : TypeId} {B : Nat} {w : World} {v : Value} {xs : List α} (h : RowT tk e B w v xs) : RdSl c w xs v := by
  obtain ⟨vals, ho, hi⟩ := h
  have hvl : vals.length = xs.length * c.n := ho.1
  rcases ho.2 with ⟨rfl, h0⟩ | ⟨g, cap, cur, rfl, hg, hh, hn, hm, r⟩
  · obtain rfl := List.length_eq_zero_iff.1 h0
    exact RdSl.empty none
  · refine ⟨_, cap, rfl, hn, hm, (fun h => by cases h), .inr ⟨g, 0, rfl, fun i h => ?_⟩⟩
    have h1 := tk.rd (hi i h)
    refine ⟨_, h1, fun j hj => ?_⟩
    have hj' : j < c.n := by rw [part_len hvl h] at hj; exact hj
    have hlt : i * c.n + j < xs.length * c.n := by
      have : (i + 1) * c.n ≤ xs.length * c.n := Nat.mul_le_mul_right _ h
      rw [Nat.add_mul, Nat.one_mul] at this; omega
    rw [Nat.zero_add, ho.cellAt _ hlt, ← part_at hj', List.getElem?_eq_getElem hj]
theorem RowT.slice {α : Type} {c : Cod α} {tk : Tk c} {e : TypeId} {B : Nat} {w : World} {v : Value} {xs : List α} (h : RowT tk e B w v xs) : ∃ a cap, v = .slice a xs.length cap := by
  obtain ⟨a, cap, e, _⟩ := h.rd
  exact ⟨a, cap, e⟩
theorem rt_left {vs cs : List Value} {n m i : Nat} (hv : vs.length = m * n) (hi : i < m) : part (vs ++ cs) n i = part vs n i := by
  have h : (i + 1) * n ≤ m * n := Nat.mul_le_mul_right _ hi
  rw [Nat.add_mul, Nat.one_mul] at h
  unfold part
  rw [List.drop_append_of_le_length (by omega), List.take_append_of_le_length (by simp; omega)]
theorem rt_last {vs cs : List Value} {n m : Nat} (hv : vs.length = m * n) (hc : cs.length = n) : part (vs ++ cs) n m = cs := by
  unfold part
  rw [← hv, List.drop_left, ← hc, List.take_length]
theorem RowT.snoc {α : Type} {c : Cod α} {tk : Tk c} {e : TypeId} {B : Nat} {w w1 : World} {v v' : Value} {xs : List α} {x : α} {vals cs : List Value} (ho : w.ownsRow B e c.n v xs.length vals) (hi : ∀ i, (h : i < xs.length) → tk.P B w xs[i] (part vals c.n i)) (hx : tk.P B w x cs) (hne : e ∉ tk.ty)
    (ho1 : w1.ownsRow B e c.n v' (xs.length + 1) (vals ++ cs)) (hg : w.grownBy w1 v.ownBlock) : RowT tk e B w1 v' (xs ++ [x]) := by
  have hvl : vals.length = xs.length * c.n := ho.1
  have keep : ∀ x cs, tk.P B w x cs → tk.P B w1 x cs := fun x cs h => tk.kept h (fun b e' n s vs u h1 h2 h3 => hg.block b (World.ownsRow.lt h1 b h3).2 (fun e0 => own_apartS h1 ho (fun he => hne (he ▸ h2)) b b h3 e0.symm rfl))
  refine ⟨_, by simpa using ho1, fun i h => ?_⟩
  by_cases he : i < xs.length
  · rw [List.getElem_append_left he, rt_left hvl he]
    exact keep _ _ (hi i he)
  · obtain rfl : i = xs.length := by simp at h; omega
    have e1 : (xs ++ [x])[xs.length]'h = x := by simp
    rw [e1, rt_last hvl (c.len (tk.rd hx))]
    exact keep _ _ hx
def tkText : Tk cSS where
  P B w xs cs := ∃ u, cs = [u] ∧ w.ownsRow B 5 1 u xs.length (byt xs) ∧ ∀ x ∈ xs, x < 256
  ty := [5]
  rd h := by obtain ⟨u, rfl, h1, h2⟩ := h; exact ⟨u, rfl, own_rdSl h1 h2⟩
  kept h hk := by obtain ⟨u, rfl, h1, h2⟩ := h; exact ⟨u, rfl, ownsRow_kept h1 (fun b hb => hk b _ _ _ _ _ h1 (by simp) hb), h2⟩
  mono h hb := by obtain ⟨u, rfl, h1, h2⟩ := h; exact ⟨u, rfl, own_mono h1 hb, h2⟩
def tkTexts : Tk cSSS where
  P B w xs cs := ∃ u, cs = [u] ∧ RowT tkText 23 B w u xs
  ty := [23, 5]
  rd h := by obtain ⟨u, rfl, h1⟩ := h; exact ⟨u, rfl, h1.rd⟩
  kept h hk := by obtain ⟨u, rfl, h1⟩ := h; exact ⟨u, rfl, h1.kept (fun b e n s vs u g1 g2 g3 => hk b e n s vs u g1 (g2.elim (fun e => by simp [e]) (fun h => by simp [tkText] at h; simp [h])) g3)⟩
  mono h hb := by obtain ⟨u, rfl, h1⟩ := h; exact ⟨u, rfl, h1.mono hb⟩
theorem txts_row {B : Nat} {w : World} {v : Value} {xss : List (List Nat)} (h : Txts B w v xss) : RowT tkText 23 B w v xss := by
  obtain ⟨vals, ho, hi⟩ := h
  refine ⟨vals, ho, fun i h => ?_⟩
  obtain ⟨u, h1, h2, h3⟩ := hi i h
  have hp : part vals cSS.n i = [u] := by
    have hl : vals.length = xss.length := by have := ho.1; omega
    have h4 : (part vals 1 i)[0]? = vals[i * 1 + 0]? := part_at (by decide)
    have h5 : (part vals 1 i).length = 1 := part_len (m := xss.length) (by omega) h
    rw [show cSS.n = 1 from rfl]
    match hq : part vals 1 i, h5 with
    | [y], _ =>
      rw [hq] at h4
      simp only [List.getElem?_cons_zero, Nat.mul_one, Nat.add_zero, h1, Option.some.injEq] at h4
      rw [h4]
  rw [hp]
  exact ⟨u, rfl, h2, h3⟩
def tkField : Tk cField where
  P B w f cs := ∃ u, cs = [u, .int .i64 f.kind, .int .i64 f.width] ∧ w.ownsRow B 5 1 u f.name.length (byt f.name) ∧ FOK f
  ty := [5]
  rd h := by obtain ⟨u, rfl, h1, h2⟩ := h; exact cField_mk (own_rdSl h1 h2.1) h2.2.1 h2.2.2
  kept h hk := by obtain ⟨u, rfl, h1, h2⟩ := h; exact ⟨u, rfl, ownsRow_kept h1 (fun b hb => hk b _ _ _ _ _ h1 (by simp) hb), h2⟩
  mono h hb := by obtain ⟨u, rfl, h1, h2⟩ := h; exact ⟨u, rfl, own_mono h1 hb, h2⟩
def tkCell : Tk cCell where
  P B w f cs := ∃ u, cs = [.bool f.null, .int .i64 f.num, u] ∧ w.ownsRow B 5 1 u f.text.length (byt f.text) ∧ (∀ x ∈ f.text, x < 256) ∧ IntIn f.num
  ty := [5]
  rd h := by obtain ⟨u, rfl, h1, h2, h3⟩ := h; exact cCell_mk (own_rdSl h1 h2) h3
  kept h hk := by obtain ⟨u, rfl, h1, h2⟩ := h; exact ⟨u, rfl, ownsRow_kept h1 (fun b hb => hk b _ _ _ _ _ h1 (by simp) hb), h2⟩
  mono h hb := by obtain ⟨u, rfl, h1, h2⟩ := h; exact ⟨u, rfl, own_mono h1 hb, h2⟩
theorem cTable_mkR {w : World} {t : PT} {v : Value} (h1 : RdSl cCell w t.cells v) (h2 : IntIn t.rows) : cTable.rd w t [.int .i64 t.rows, v] := ⟨[_], _, rfl, ⟨rfl, h2⟩, v, rfl, h1⟩
def tkTable : Tk cTable where
  P B w t cs := ∃ u, cs = [.int .i64 t.rows, u] ∧ RowT tkCell 157 B w u t.cells ∧ IntIn t.rows
  ty := [157, 5]
  rd h := by obtain ⟨u, rfl, h1, h2⟩ := h; exact cTable_mkR h1.rd h2
  kept h hk := by obtain ⟨u, rfl, h1, h2⟩ := h; exact ⟨u, rfl, h1.kept (fun b e n s vs u g1 g2 g3 => hk b e n s vs u g1 (g2.elim (fun e => by simp [e]) (fun h => by simp [tkCell] at h; simp [h])) g3), h2⟩
  mono h hb := by obtain ⟨u, rfl, h1, h2⟩ := h; exact ⟨u, rfl, h1.mono hb, h2⟩
theorem RowT.box {α : Type} {c : Cod α} {tk : Tk c} {e : TypeId} {B : Nat} {w : World} {v x : Value} {xs : List α} {gm k : Nat} {cs : Array Value} {t : TypeId} (h : RowT tk e B w v xs) (hb : w.heap[gm]? = some (.cells cs t (0, 0))) (h1 : t ≠ e) (h2 : t ∉ tk.ty) : RowT tk e B (w.setCell ⟨gm, k, none⟩ x) v xs :=
  h.kept (fun b e' n s vs u ho he hp => Below.heap_setCell _ ⟨gm, k, none⟩ _ _ (fun e0 => by
    subst e0
    rcases ho.2 with ⟨rfl, _⟩ | ⟨g, cap, cur, rfl, _, hh, _⟩
    · simp [Value.ownBlock] at hp
    · simp [Value.ownBlock] at hp
      subst hp
      rw [hb] at hh
      simp at hh
      rcases he with rfl | he
      · exact h1 hh.2
      · exact h2 (hh.2 ▸ he)))
end Go.Proofs.YtfaehioeepolhaaGreat
namespace Go.Proofs.YtfaehioeepolhaaGreat
open Go.RowKit
set_option maxRecDepth 100000 in
set_option maxHeartbeats 2000000 in
theorem l3texts_any (a : Option Addr) (cap : Nat) (xs : List (List Nat)) (w : World) (hr : RdSl cSS w xs (.slice a xs.length cap)) (ht : totL List.length xs ≤ 1048576) :
    Calls Tryz.prog 173 #[.slice a xs.length cap] w fun e w' => ∃ v, e = .returned v ∧ Txts w.heap.size w' v xs ∧ Below w.heap.size w w' := by
  obtain ⟨i0, hi, hz0, hz1, hz2⟩ := info_parts infoSlT
  have HR := hid hr
  clear hr
  rw [totL_tot] at ht
  go_enter Tryz.func173, Tryz.ntmps173
  go_wp2
  go_loopw [3, 4] (fun v i wr => ∃ k : Nat, k ≤ xs.length ∧ i = .int .i64 k ∧ Txts w.heap.size wr v (xs.take k) ∧ Below w.heap.size w wr) (fun _ i _ => xs.length - (intOf i).toNat)
  case atStart => exact ⟨0, Nat.zero_le _, rfl, by simpa using Txts.nil _ w, Below.refl _ _⟩
  case round =>
    obtain ⟨k, hk, rfl, htx, hbe⟩ := hrel
    have HX := hid htx
    have HB := hid hbe
    clear htx hbe
    by_cases hlt : k < xs.length
    · obtain ⟨b, off, a', c', rfl, hcb, hrr⟩ := (HR.out.later HB.out).row hlt
      have HRR := hid hrr
      have hlk := len_le_tot xs k hlt
      have hki : (k : Int) < (xs.length : Int) := by omega
      have HTK : Hid (xs.take (k + 1) = xs.take k ++ [xs[k]]) := hid (List.take_succ_eq_append_getElem hlt)
      have HTL : Hid ((xs.take k).length = k) := hid (by simp; omega)
      clear hrr
      go_wp2_with fail
      refine (l1copy_any a' c' xs[k] wr HRR.out (by omega)).mono ?_
      rintro e w2 ⟨u, rfl, o2, b2⟩
      obtain ⟨vals, how, hel⟩ := HX.out.later b2
      have hs2 : w.heap.size ≤ w2.heap.size := Nat.le_trans HB.out.size b2.size
      have HO := hid how
      have HEL := hid hel
      have HU := hid (own_mono o2 HB.out.size)
      have HBY := hid HRR.out.rdB.2
      have HB2 := hid (below_chain HB.out b2)
      obtain ⟨au, cu, rfl, -⟩ := rd_own o2
      rw [HTL.out] at how
      have HW := hid how
      clear how hel o2 b2
      go_wp2_with (first | (at_builtin; refine wpList_append_own _ rfl _ _ 123 rfl w.heap.size 23 i0 (.slice none 0 0) 1 24 Tryz.underlying123 hi hz0 hz1 hz2 rfl (by decide) _ k _ rfl (HW.out.alloc _) ⟨w2.heap.size, 0, none⟩ 1 1 [.slice au xs[k].length cu] rfl rfl (cell_one_new _ _ _) (one_cell rfl) (by unfold maxLen; omega) (by omega) (by simp; omega) ?_))
      intro v' w9 hown' hgrow _
      have HX9 : Hid (Txts w.heap.size w9 v' (xs.take (k + 1))) := hid (by
        rw [HTK.out]
        refine Txts.snoc (HO.out.alloc _) (fun i h => ?_) (HU.out.alloc _) HBY.out (by rw [HTL.out]; exact hown') hgrow
        obtain ⟨u', h1, h2, h3⟩ := HEL.out i h
        exact ⟨u', h1, h2.alloc _, h3⟩)
      have HB9 : Hid (Below w.heap.size w w9) := hid ((HB2.out.alloc HB2.out.size _).grown hgrow (by simp; omega) (fun p hp => (own_in HO.out hp).1))
      clear hown' hgrow
      go_wp2
      go_roundw
      case rel => exact ⟨k + 1, by omega, by go_num, HX9.out, HB9.out⟩
      case measure => simp [intOf]; omega
    · obtain rfl : k = xs.length := by omega
      have HF : Hid (Txts w.heap.size wr _ xs) := hid (by have := HX.out; rw [List.take_length] at this; exact this)
      go_wp2
      go_ret
      exact ⟨_, rfl, HF.out, HB.out⟩
end Go.Proofs.YtfaehioeepolhaaGreat
