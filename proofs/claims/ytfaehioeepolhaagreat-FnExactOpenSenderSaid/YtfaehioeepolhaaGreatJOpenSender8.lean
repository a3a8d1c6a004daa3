import Derived.Test.YtfaehioeepolhaaGreatJOpenSender5
import Derived.Test.YtfaehioeepolhaaGreatJOpenSender6
import Derived.Test.YtfaehioeepolhaaGreatJOpenSender7
import Derived.WalkKit
import Derived.Laws.Bits64
namespace Go.Proofs.YtfaehioeepolhaaGreat
open Go.RowKit
structure Tk {α : Type} (c : Cod α) where
  P : Nat → World → α → List Value → Prop
  ty : List TypeId
  rd : ∀ {B w x cs}, P B w x cs → c.rd w x cs
  kept : ∀ {B w w' x cs}, P B w x cs → (∀ (b : Nat) e n s vs u, w.ownsRow B e s u n vs → e ∈ ty → u.ownBlock = some b → w'.heap[b]? = w.heap[b]?) → P B w' x cs
  mono : ∀ {B B' w x cs}, P B w x cs → B' ≤ B → P B' w x cs
theorem Tk.later {α : Type} {c : Cod α} (tk : Tk c) {B : Nat} {w w' : World} {x : α} {cs : List Value} (h : tk.P B w x cs) (hb : Below w.heap.size w w') : tk.P B w' x cs :=
  tk.kept h (fun b _ _ _ _ _ ho _ hp => hb.block b (World.ownsRow.lt ho b hp).2)
theorem ownsRow_less {w : World} {B B' n s : Nat} {e : TypeId} {v : Value} {vs : List Value} (h : w.ownsRow B e s v n vs) (hb : B' ≤ B) : w.ownsRow B' e s v n vs := ⟨h.1, h.2.imp id (fun ⟨g, cap, cur, h1, h2, h3⟩ => ⟨g, cap, cur, h1, Nat.le_trans hb h2, h3⟩)⟩
def RowT {α : Type} {c : Cod α} (tk : Tk c) (e : TypeId) (B : Nat) (w : World) (v : Value) (xs : List α) : Prop :=
  ∃ vals : List Value, w.ownsRow B e c.n v xs.length vals ∧ ∀ i, (h : i < xs.length) → tk.P B w xs[i] (part vals c.n i)
theorem RowT.nil {α : Type} {c : Cod α} (tk : Tk c) (e : TypeId) (B : Nat) (w : World) : RowT tk e B w (.slice none 0 0) [] := ⟨[], World.ownsRow_nil _ _ _ _, fun i h => by simp at h⟩
theorem RowT.kept {α : Type} {c : Cod α} {tk : Tk c} {e : TypeId} {B : Nat} {w w' : World} {v : Value} {xs : List α} (h : RowT tk e B w v xs) (hk : ∀ (b : Nat) e' n s vs u, w.ownsRow B e' s u n vs → (e' = e ∨ e' ∈ tk.ty) → u.ownBlock = some b → w'.heap[b]? = w.heap[b]?) : RowT tk e B w' v xs := by
  obtain ⟨vals, ho, hi⟩ := h
  exact ⟨vals, ownsRow_kept ho (fun b hb => hk b _ _ _ _ _ ho (.inl rfl) hb), fun i h => tk.kept (hi i h) (fun b e n s vs u h1 h2 h3 => hk b e n s vs u h1 (.inr h2) h3)⟩
theorem RowT.later {α : Type} {c : Cod α} {tk : Tk c} {e : TypeId} {B : Nat} {w w' : World} {v : Value} {xs : List α} (h : RowT tk e B w v xs) (hb : Below w.heap.size w w') : RowT tk e B w' v xs :=
  h.kept (fun b _ _ _ _ _ ho _ hp => hb.block b (World.ownsRow.lt ho b hp).2)
theorem RowT.mono {α : Type} {c : Cod α} {tk : Tk c} {e : TypeId} {B B' : Nat} {w : World} {v : Value} {xs : List α} (h : RowT tk e B w v xs) (hb : B' ≤ B) : RowT tk e B' w v xs := by
  obtain ⟨vals, ho, hi⟩ := h
  exact ⟨vals, ownsRow_less ho hb, fun i h => tk.mono (hi i h) hb⟩
theorem RowT.rd {α : Type} {c : Cod α} {tk : Tk c} {e : TypeId} {B : Nat} {w : World} {v : Value} {xs : List α} (h : RowT tk e B w v xs) : RdSl c w xs v := by
  obtain ⟨vals, ho, hi⟩ := h
  have hvl : vals.length = xs.length * c.n := ho.1
  rcases ho.2 with ⟨rfl, h0⟩ | ⟨g, cap, cur, rfl, hg, hh, hn, hm, r⟩
  · obtain rfl := List.length_eq_zero_iff.1 h0
    exact RdSl.empty none
  · refine ⟨_, cap, rfl, hn, hm, (fun h => by cases h), .inr ⟨g, 0, rfl, fun i h => ?_⟩⟩
    have h1 := tk.rd (hi i h)
    refine ⟨_, h1, fun j hj => ?_⟩
    have hj' : j < c.n := by rw [part_len hvl h] at hj; exact hj
    have hlt : i * c.n + j < xs.length * c.n := by
      have : (i + 1) * c.n ≤ xs.length * c.n := Nat.mul_le_mul_right _ h
      rw [Nat.add_mul, Nat.one_mul] at this; omega
    rw [Nat.zero_add, ho.cellAt _ hlt, ← part_at hj', List.getElem?_eq_getElem hj]
theorem RowT.slice {α : Type} {c : Cod α} {tk : Tk c} {e : TypeId} {B : Nat} {w : World} {v : Value} {xs : List α} (h : RowT tk e B w v xs) : ∃ a cap, v = .slice a xs.length cap := by
  obtain ⟨a, cap, e, _⟩ := h.rd
  exact ⟨a, cap, e⟩
theorem rt_left {vs cs : List Value} {n m i : Nat} (hv : vs.length = m * n) (hi : i < m) : part (vs ++ cs) n i = part vs n i := by
  have h : (i + 1) * n ≤ m * n := Nat.mul_le_mul_right _ hi
  rw [Nat.add_mul, Nat.one_mul] at h
  unfold part
  rw [List.drop_append_of_le_length (by omega), List.take_append_of_le_length (by simp; omega)]
theorem rt_last {vs cs : List Value} {n m : Nat} (hv : vs.length = m * n) (hc : cs.length = n) : part (vs ++ cs) n m = cs := by
  unfold part
  rw [← hv, List.drop_left, ← hc, List.take_length]
theorem RowT.snoc {α : Type} {c : Cod α} {tk : Tk c} {e : TypeId} {B : Nat} {w w1 : World} {v v' : Value} {xs : List α} {x : α} {vals cs : List Value} (ho : w.ownsRow B e c.n v xs.length vals) (hi : ∀ i, (h : i < xs.length) → tk.P B w xs[i] (part vals c.n i)) (hx : tk.P B w x cs) (hne : e ∉ tk.ty)
    (ho1 : w1.ownsRow B e c.n v' (xs.length + 1) (vals ++ cs)) (hg : w.grownBy w1 v.ownBlock) : RowT tk e B w1 v' (xs ++ [x]) := by
  have hvl : vals.length = xs.length * c.n := ho.1
  have keep : ∀ x cs, tk.P B w x cs → tk.P B w1 x cs := fun x cs h => tk.kept h (fun b e' n s vs u h1 h2 h3 => hg.block b (World.ownsRow.lt h1 b h3).2 (fun e0 => own_apartS h1 ho (fun he => hne (he ▸ h2)) b b h3 e0.symm rfl))
  refine ⟨_, by simpa using ho1, fun i h => ?_⟩
  by_cases he : i < xs.length
  · rw [List.getElem_append_left he, rt_left hvl he]
    exact keep _ _ (hi i he)
  · obtain rfl : i = xs.length := by simp at h; omega
    have e1 : (xs ++ [x])[xs.length]'h = x := by simp
    rw [e1, rt_last hvl (c.len (tk.rd hx))]
    exact keep _ _ hx
def tkField : Tk cField where
  P B w f cs := ∃ u, cs = [u, .int .i64 f.kind, .int .i64 f.width] ∧ w.ownsRow B 5 1 u f.name.length (byt f.name) ∧ FOK f
  ty := [5]
  rd h := by obtain ⟨u, rfl, h1, h2⟩ := h; exact cField_mk (own_rdSl h1 h2.1) h2.2.1 h2.2.2
  kept h hk := by obtain ⟨u, rfl, h1, h2⟩ := h; exact ⟨u, rfl, ownsRow_kept h1 (fun b hb => hk b _ _ _ _ _ h1 (by simp) hb), h2⟩
  mono h hb := by obtain ⟨u, rfl, h1, h2⟩ := h; exact ⟨u, rfl, own_mono h1 hb, h2⟩
def tkCell : Tk cCell where
  P B w f cs := ∃ u, cs = [.bool f.null, .int .i64 f.num, u] ∧ w.ownsRow B 5 1 u f.text.length (byt f.text) ∧ (∀ x ∈ f.text, x < 256) ∧ IntIn f.num
  ty := [5]
  rd h := by obtain ⟨u, rfl, h1, h2, h3⟩ := h; exact cCell_mk (own_rdSl h1 h2) h3
  kept h hk := by obtain ⟨u, rfl, h1, h2⟩ := h; exact ⟨u, rfl, ownsRow_kept h1 (fun b hb => hk b _ _ _ _ _ h1 (by simp) hb), h2⟩
  mono h hb := by obtain ⟨u, rfl, h1, h2⟩ := h; exact ⟨u, rfl, own_mono h1 hb, h2⟩
theorem cTable_mkR {w : World} {t : PT} {v : Value} (h1 : RdSl cCell w t.cells v) (h2 : IntIn t.rows) : cTable.rd w t [.int .i64 t.rows, v] := ⟨[_], _, rfl, ⟨rfl, h2⟩, v, rfl, h1⟩
def tkTable : Tk cTable where
  P B w t cs := ∃ u, cs = [.int .i64 t.rows, u] ∧ RowT tkCell 157 B w u t.cells ∧ IntIn t.rows
  ty := [157, 5]
  rd h := by obtain ⟨u, rfl, h1, h2⟩ := h; exact cTable_mkR h1.rd h2
  kept h hk := by obtain ⟨u, rfl, h1, h2⟩ := h; exact ⟨u, rfl, h1.kept (fun b e n s vs u g1 g2 g3 => hk b e n s vs u g1 (g2.elim (fun e => by simp [e]) (fun h => by simp [tkCell] at h; simp [h])) g3), h2⟩
  mono h hb := by obtain ⟨u, rfl, h1, h2⟩ := h; exact ⟨u, rfl, h1.mono hb, h2⟩
theorem RowT.box {α : Type} {c : Cod α} {tk : Tk c} {e : TypeId} {B : Nat} {w : World} {v x : Value} {xs : List α} {gm k : Nat} {cs : Array Value} {t : TypeId} (h : RowT tk e B w v xs) (hb : w.heap[gm]? = some (.cells cs t (0, 0))) (h1 : t ≠ e) (h2 : t ∉ tk.ty) : RowT tk e B (w.setCell ⟨gm, k, none⟩ x) v xs :=
  h.kept (fun b e' n s vs u ho he hp => Below.heap_setCell _ ⟨gm, k, none⟩ _ _ (fun e0 => by
    subst e0
    rcases ho.2 with ⟨rfl, _⟩ | ⟨g, cap, cur, rfl, _, hh, _⟩
    · simp [Value.ownBlock] at hp
    · simp [Value.ownBlock] at hp
      subst hp
      rw [hb] at hh
      simp at hh
      rcases he with rfl | he
      · exact h1 hh.2
      · exact h2 (hh.2 ▸ he)))
end Go.Proofs.YtfaehioeepolhaaGreat
namespace Go.Proofs.YtfaehioeepolhaaGreat
def padn (n : Nat) : Nat := (8 - n % 8) % 8
def joinStep (acc ys : List Nat) : List Nat := (acc ++ ys) ++ List.replicate (padn (acc ++ ys).length) 0
def join (xss : List (List Nat)) : List Nat := xss.foldl joinStep []
theorem join_snoc (xss : List (List Nat)) (k : Nat) (h : k < xss.length) : join (xss.take (k + 1)) = joinStep (join (xss.take k)) xss[k] := by
  unfold join
  rw [List.take_succ_eq_append_getElem h, List.foldl_append]; rfl
theorem padn_le (n : Nat) : padn n ≤ 7 := by unfold padn; omega
theorem padn_done {n p : Nat} (h : p ≤ padn n) : (n + p) % 8 = 0 ↔ p = padn n := by unfold padn at *; omega
theorem joinStep_len (acc ys : List Nat) : (joinStep acc ys).length = acc.length + ys.length + padn (acc.length + ys.length) := by simp [joinStep]; omega
theorem joinStep_lt {acc ys : List Nat} (h1 : ∀ x ∈ acc, x < 256) (h2 : ∀ x ∈ ys, x < 256) : ∀ x ∈ joinStep acc ys, x < 256 := by
  intro x hx
  unfold joinStep at hx
  rcases List.mem_append.1 hx with h | h
  · rcases List.mem_append.1 h with h | h
    · exact h1 x h
    · exact h2 x h
  · have := List.eq_of_mem_replicate h; omega
end Go.Proofs.YtfaehioeepolhaaGreat
namespace Go.Proofs.YtfaehioeepolhaaGreat
open Go.RowKit
def num : List Nat → Nat
  | [] => 0
  | y :: ys => y + 256 * num ys
theorem wr32 (n : Int) : wrap32 n = IntKind.i32.wrap n := by
  unfold wrap32; simp [IntKind.wrap, IntKind.bits, IntKind.signed]; split <;> omega
theorem wr64 (n : Int) : wrap64 n = IntKind.i64.wrap n := by
  unfold wrap64; simp [IntKind.wrap, IntKind.bits, IntKind.signed]; split <;> omega
end Go.Proofs.YtfaehioeepolhaaGreat
