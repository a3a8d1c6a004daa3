/- TkKit, JoinMath, NumMath. -/
import Derived.Test.YtfaehioeepolhaaGreatJOpenSender5
import Derived.Test.YtfaehioeepolhaaGreatJOpenSender6
import Derived.Test.YtfaehioeepolhaaGreatJOpenSender7
import Derived.WalkKit
import Derived.Laws.Bits64
/- Things in memory from B on, told apart by their blocks' types: rows that grow. No program. -/
namespace Go.Proofs.YtfaehioeepolhaaGreat
open Go.RowKit

/-- How a thing lies in memory from B on; 'ty': the types of the blocks that it reaches. -/
structure Tk {α : Type} (c : Cod α) where
  P : Nat → World → α → List Value → Prop
  ty : List TypeId
  rd : ∀ {B w x cs}, P B w x cs → c.rd w x cs
  kept : ∀ {B w w' x cs}, P B w x cs → (∀ (b : Nat) e n s vs u, w.ownsRow B e s u n vs → e ∈ ty → u.ownBlock = some b → w'.heap[b]? = w.heap[b]?) → P B w' x cs
  mono : ∀ {B B' w x cs}, P B w x cs → B' ≤ B → P B' w x cs
theorem Tk.later {α : Type} {c : Cod α} (tk : Tk c) {B : Nat} {w w' : World} {x : α} {cs : List Value} (h : tk.P B w x cs) (hb : Below w.heap.size w w') : tk.P B w' x cs :=
  tk.kept h (fun b _ _ _ _ _ ho _ hp => hb.block b (World.ownsRow.lt ho b hp).2)
theorem ownsRow_less {w : World} {B B' n s : Nat} {e : TypeId} {v : Value} {vs : List Value} (h : w.ownsRow B e s v n vs) (hb : B' ≤ B) : w.ownsRow B' e s v n vs := ⟨h.1, h.2.imp id (fun ⟨g, cap, cur, h1, h2, h3⟩ => ⟨g, cap, cur, h1, Nat.le_trans hb h2, h3⟩)⟩
/-- A row of such things. -/
def RowT {α : Type} {c : Cod α} (tk : Tk c) (e : TypeId) (B : Nat) (w : World) (v : Value) (xs : List α) : Prop :=
  ∃ vals : List Value, w.ownsRow B e c.n v xs.length vals ∧ ∀ i, (h : i < xs.length) → tk.P B w xs[i] (part vals c.n i)
theorem RowT.nil {α : Type} {c : Cod α} (tk : Tk c) (e : TypeId) (B : Nat) (w : World) : RowT tk e B w (.slice none 0 0) [] := ⟨[], World.ownsRow_nil _ _ _ _, fun i h => by simp at h⟩
theorem RowT.kept {α : Type} {c : Cod α} {tk : Tk c} {e : TypeId} {B : Nat} {w w' : World} {v : Value} {xs : List α} (h : RowT tk e B w v xs) (hk : ∀ (b : Nat) e' n s vs u, w.ownsRow B e' s u n vs → (e' = e ∨ e' ∈ tk.ty) → u.ownBlock = some b → w'.heap[b]? = w.heap[b]?) : RowT tk e B w' v xs := by
  obtain ⟨vals, ho, hi⟩ := h
  exact ⟨vals, ownsRow_kept ho (fun b hb => hk b _ _ _ _ _ ho (.inl rfl) hb), fun i h => tk.kept (hi i h) (fun b e n s vs u h1 h2 h3 => hk b e n s vs u h1 (.inr h2) h3)⟩
theorem RowT.later {α : Type} {c : Cod α} {tk : Tk c} {e : TypeId} {B : Nat} {w w' : World} {v : Value} {xs : List α} (h : RowT tk e B w v xs) (hb : Below w.heap.size w w') : RowT tk e B w' v xs :=
  h.kept (fun b _ _ _ _ _ ho _ hp => hb.block b (World.ownsRow.lt ho b hp).2)
theorem RowT.mono {α : Type} {c : Cod α} {tk : Tk c} {e : TypeId} {B B' : Nat} {w : World} {v : Value} {xs : List α} (h : RowT tk e B w v xs) (hb : B' ≤ B) : RowT tk e B' w v xs := by
  obtain ⟨vals, ho, hi⟩ := h
  exact ⟨vals, ownsRow_less ho hb, fun i h => tk.mono (hi i h) hb⟩
theorem RowT.rd {α : Type} {c : Cod α} {tk : Tk c} {e : TypeId} {B : Nat} {w : World} {v : Value} {xs : List α} (h : RowT tk e B w v xs) : RdSl c w xs v := by
  obtain ⟨vals, ho, hi⟩ := h
  have hvl : vals.length = xs.length * c.n := ho.1
  rcases ho.2 with ⟨rfl, h0⟩ | ⟨g, cap, cur, rfl, hg, hh, hn, hm, r⟩
  · obtain rfl := List.length_eq_zero_iff.1 h0
    exact RdSl.empty none
  · refine ⟨_, cap, rfl, hn, hm, (fun h => by cases h), .inr ⟨g, 0, rfl, fun i h => ?_⟩⟩
    have h1 := tk.rd (hi i h)
    refine ⟨_, h1, fun j hj => ?_⟩
    have hj' : j < c.n := by rw [part_len hvl h] at hj; exact hj
    have hlt : i * c.n + j < xs.length * c.n := by
      have : (i + 1) * c.n ≤ xs.length * c.n := Nat.mul_le_mul_right _ h
      rw [Nat.add_mul, Nat.one_mul] at this; omega
    rw [Nat.zero_add, ho.cellAt _ hlt, ← part_at hj', List.getElem?_eq_getElem hj]
theorem RowT.slice {α : Type} {c : Cod α} {tk : Tk c} {e : TypeId} {B : Nat} {w : World} {v : Value} {xs : List α} (h : RowT tk e B w v xs) : ∃ a cap, v = .slice a xs.length cap := by
  obtain ⟨a, cap, e, _⟩ := h.rd
  exact ⟨a, cap, e⟩
theorem rt_left {vs cs : List Value} {n m i : Nat} (hv : vs.length = m * n) (hi : i < m) : part (vs ++ cs) n i = part vs n i := by
  have h : (i + 1) * n ≤ m * n := Nat.mul_le_mul_right _ hi
  rw [Nat.add_mul, Nat.one_mul] at h
  unfold part
  rw [List.drop_append_of_le_length (by omega), List.take_append_of_le_length (by simp; omega)]
theorem rt_last {vs cs : List Value} {n m : Nat} (hv : vs.length = m * n) (hc : cs.length = n) : part (vs ++ cs) n m = cs := by
  unfold part
  rw [← hv, List.drop_left, ← hc, List.take_length]
/-- One thing more. -/
theorem RowT.snoc {α : Type} {c : Cod α} {tk : Tk c} {e : TypeId} {B : Nat} {w w1 : World} {v v' : Value} {xs : List α} {x : α} {vals cs : List Value} (ho : w.ownsRow B e c.n v xs.length vals) (hi : ∀ i, (h : i < xs.length) → tk.P B w xs[i] (part vals c.n i)) (hx : tk.P B w x cs) (hne : e ∉ tk.ty)
    (ho1 : w1.ownsRow B e c.n v' (xs.length + 1) (vals ++ cs)) (hg : w.grownBy w1 v.ownBlock) : RowT tk e B w1 v' (xs ++ [x]) := by
  have hvl : vals.length = xs.length * c.n := ho.1
  have keep : ∀ x cs, tk.P B w x cs → tk.P B w1 x cs := fun x cs h => tk.kept h (fun b e' n s vs u h1 h2 h3 => hg.block b (World.ownsRow.lt h1 b h3).2 (fun e0 => own_apartS h1 ho (fun he => hne (he ▸ h2)) b b h3 e0.symm rfl))
  refine ⟨_, by simpa using ho1, fun i h => ?_⟩
  by_cases he : i < xs.length
  · rw [List.getElem_append_left he, rt_left hvl he]
    exact keep _ _ (hi i he)
  · obtain rfl : i = xs.length := by simp at h; omega
    have e1 : (xs ++ [x])[xs.length]'h = x := by simp
    rw [e1, rt_last hvl (c.len (tk.rd hx))]
    exact keep _ _ hx
def tkText : Tk cSS where
  P B w xs cs := ∃ u, cs = [u] ∧ w.ownsRow B 5 1 u xs.length (byt xs) ∧ ∀ x ∈ xs, x < 256
  ty := [5]
  rd h := by obtain ⟨u, rfl, h1, h2⟩ := h; exact ⟨u, rfl, own_rdSl h1 h2⟩
  kept h hk := by obtain ⟨u, rfl, h1, h2⟩ := h; exact ⟨u, rfl, ownsRow_kept h1 (fun b hb => hk b _ _ _ _ _ h1 (by simp) hb), h2⟩
  mono h hb := by obtain ⟨u, rfl, h1, h2⟩ := h; exact ⟨u, rfl, own_mono h1 hb, h2⟩
def tkTexts : Tk cSSS where
  P B w xs cs := ∃ u, cs = [u] ∧ RowT tkText 23 B w u xs
  ty := [23, 5]
  rd h := by obtain ⟨u, rfl, h1⟩ := h; exact ⟨u, rfl, h1.rd⟩
  kept h hk := by obtain ⟨u, rfl, h1⟩ := h; exact ⟨u, rfl, h1.kept (fun b e n s vs u g1 g2 g3 => hk b e n s vs u g1 (g2.elim (fun e => by simp [e]) (fun h => by simp [tkText] at h; simp [h])) g3)⟩
  mono h hb := by obtain ⟨u, rfl, h1⟩ := h; exact ⟨u, rfl, h1.mono hb⟩
theorem txts_row {B : Nat} {w : World} {v : Value} {xss : List (List Nat)} (h : Txts B w v xss) : RowT tkText 23 B w v xss := by
  obtain ⟨vals, ho, hi⟩ := h
  refine ⟨vals, ho, fun i h => ?_⟩
  obtain ⟨u, h1, h2, h3⟩ := hi i h
  have hp : part vals cSS.n i = [u] := by
    have hl : vals.length = xss.length := by have := ho.1; omega
    have h4 : (part vals 1 i)[0]? = vals[i * 1 + 0]? := part_at (by decide)
    have h5 : (part vals 1 i).length = 1 := part_len (m := xss.length) (by omega) h
    rw [show cSS.n = 1 from rfl]
    match hq : part vals 1 i, h5 with
    | [y], _ =>
      rw [hq] at h4
      simp only [List.getElem?_cons_zero, Nat.mul_one, Nat.add_zero, h1, Option.some.injEq] at h4
      rw [h4]
  rw [hp]
  exact ⟨u, rfl, h2, h3⟩
def tkField : Tk cField where
  P B w f cs := ∃ u, cs = [u, .int .i64 f.kind, .int .i64 f.width] ∧ w.ownsRow B 5 1 u f.name.length (byt f.name) ∧ FOK f
  ty := [5]
  rd h := by obtain ⟨u, rfl, h1, h2⟩ := h; exact cField_mk (own_rdSl h1 h2.1) h2.2.1 h2.2.2
  kept h hk := by obtain ⟨u, rfl, h1, h2⟩ := h; exact ⟨u, rfl, ownsRow_kept h1 (fun b hb => hk b _ _ _ _ _ h1 (by simp) hb), h2⟩
  mono h hb := by obtain ⟨u, rfl, h1, h2⟩ := h; exact ⟨u, rfl, own_mono h1 hb, h2⟩
theorem frow_row {B : Nat} {w : World} {v : Value} {fs : List PF} (h : FRow B w v fs) : RowT tkField 98 B w v fs := h
def tkCell : Tk cCell where
  P B w f cs := ∃ u, cs = [.bool f.null, .int .i64 f.num, u] ∧ w.ownsRow B 5 1 u f.text.length (byt f.text) ∧ (∀ x ∈ f.text, x < 256) ∧ IntIn f.num
  ty := [5]
  rd h := by obtain ⟨u, rfl, h1, h2, h3⟩ := h; exact cCell_mk (own_rdSl h1 h2) h3
  kept h hk := by obtain ⟨u, rfl, h1, h2⟩ := h; exact ⟨u, rfl, ownsRow_kept h1 (fun b hb => hk b _ _ _ _ _ h1 (by simp) hb), h2⟩
  mono h hb := by obtain ⟨u, rfl, h1, h2⟩ := h; exact ⟨u, rfl, own_mono h1 hb, h2⟩
theorem cTable_mkR {w : World} {t : PT} {v : Value} (h1 : RdSl cCell w t.cells v) (h2 : IntIn t.rows) : cTable.rd w t [.int .i64 t.rows, v] := ⟨[_], _, rfl, ⟨rfl, h2⟩, v, rfl, h1⟩
def tkTable : Tk cTable where
  P B w t cs := ∃ u, cs = [.int .i64 t.rows, u] ∧ RowT tkCell 157 B w u t.cells ∧ IntIn t.rows
  ty := [157, 5]
  rd h := by obtain ⟨u, rfl, h1, h2⟩ := h; exact cTable_mkR h1.rd h2
  kept h hk := by obtain ⟨u, rfl, h1, h2⟩ := h; exact ⟨u, rfl, h1.kept (fun b e n s vs u g1 g2 g3 => hk b e n s vs u g1 (g2.elim (fun e => by simp [e]) (fun h => by simp [tkCell] at h; simp [h])) g3), h2⟩
  mono h hb := by obtain ⟨u, rfl, h1, h2⟩ := h; exact ⟨u, rfl, h1.mono hb, h2⟩
/-- A box of another kind is no such row's block. -/
theorem RowT.box {α : Type} {c : Cod α} {tk : Tk c} {e : TypeId} {B : Nat} {w : World} {v x : Value} {xs : List α} {gm k : Nat} {cs : Array Value} {t : TypeId} (h : RowT tk e B w v xs) (hb : w.heap[gm]? = some (.cells cs t (0, 0))) (h1 : t ≠ e) (h2 : t ∉ tk.ty) : RowT tk e B (w.setCell ⟨gm, k, none⟩ x) v xs :=
  h.kept (fun b e' n s vs u ho he hp => Below.heap_setCell _ ⟨gm, k, none⟩ _ _ (fun e0 => by
    subst e0
    rcases ho.2 with ⟨rfl, _⟩ | ⟨g, cap, cur, rfl, _, hh, _⟩
    · simp [Value.ownBlock] at hp
    · simp [Value.ownBlock] at hp
      subst hp
      rw [hb] at hh
      simp at hh
      rcases he with rfl | he
      · exact h1 hh.2
      · exact h2 (hh.2 ▸ he)))

end Go.Proofs.YtfaehioeepolhaaGreat

/- Parts at multiples of 8, plain. No program. -/
namespace Go.Proofs.YtfaehioeepolhaaGreat

def padn (n : Nat) : Nat := (8 - n % 8) % 8
def joinStep (acc ys : List Nat) : List Nat := (acc ++ ys) ++ List.replicate (padn (acc ++ ys).length) 0
def join (xss : List (List Nat)) : List Nat := xss.foldl joinStep []
theorem join_snoc (xss : List (List Nat)) (k : Nat) (h : k < xss.length) : join (xss.take (k + 1)) = joinStep (join (xss.take k)) xss[k] := by
  unfold join
  rw [List.take_succ_eq_append_getElem h, List.foldl_append]; rfl
theorem padn_le (n : Nat) : padn n ≤ 7 := by unfold padn; omega
theorem padn_done {n p : Nat} (h : p ≤ padn n) : (n + p) % 8 = 0 ↔ p = padn n := by unfold padn at *; omega
theorem joinStep_len (acc ys : List Nat) : (joinStep acc ys).length = acc.length + ys.length + padn (acc.length + ys.length) := by simp [joinStep]; omega
theorem joinStep_lt {acc ys : List Nat} (h1 : ∀ x ∈ acc, x < 256) (h2 : ∀ x ∈ ys, x < 256) : ∀ x ∈ joinStep acc ys, x < 256 := by
  intro x hx
  unfold joinStep at hx
  rcases List.mem_append.1 hx with h | h
  · rcases List.mem_append.1 h with h | h
    · exact h1 x h
    · exact h2 x h
  · have := List.eq_of_mem_replicate h; omega

end Go.Proofs.YtfaehioeepolhaaGreat

/- Numbers in bytes, plain. No program. -/
namespace Go.Proofs.YtfaehioeepolhaaGreat
open Go.RowKit

/-- The number of some bytes, lowest first, without a sign. -/
def num : List Nat → Nat
  | [] => 0
  | y :: ys => y + 256 * num ys
theorem num_append (xs ys : List Nat) : num (xs ++ ys) = num xs + 256 ^ xs.length * num ys := by
  induction xs with
  | nil => simp [num]
  | cons x xs ih =>
    simp only [List.cons_append, num, ih, List.length_cons, Nat.pow_succ, Nat.mul_add]
    rw [Nat.mul_assoc (256 ^ xs.length), Nat.mul_left_comm (256 ^ xs.length)]
    omega
theorem num_lt (xs : List Nat) (h : ∀ x ∈ xs, x < 256) : num xs < 256 ^ xs.length := by
  induction xs with
  | nil => simp [num]
  | cons x xs ih =>
    have h1 := ih (fun y hy => h y (List.mem_cons_of_mem _ hy))
    have h2 := h x List.mem_cons_self
    simp only [num, List.length_cons, Nat.pow_succ]
    omega
theorem num_snoc (xs : List Nat) (k : Nat) (h : k < xs.length) : num (xs.take (k + 1)) = num (xs.take k) + xs[k] * 256 ^ k := by
  rw [List.take_succ_eq_append_getElem h, num_append]
  simp only [num, List.length_take, Nat.mul_zero, Nat.add_zero]
  rw [Nat.min_eq_left (by omega), Nat.mul_comm]
theorem num_drop (xs : List Nat) (k : Nat) (h : k < xs.length) : num (xs.drop k) = xs[k] + 256 * num (xs.drop (k + 1)) := by
  rw [List.drop_eq_getElem_cons h]; rfl

theorem bits_or_u64 (a b : Nat) (ha : a < 18446744073709551616) (hb : b < 18446744073709551616) : bits .or .u64 (a : Int) (b : Int) = ((a ||| b : Nat) : Int) := by
  have hx : a ||| b < 2 ^ 64 := Nat.or_lt_two_pow (by omega) (by omega)
  have h1 : (BitVec.ofInt 64 (a : Int)).toNat = a := by
    rw [BitVec.ofInt_natCast, BitVec.toNat_ofNat]; exact Nat.mod_eq_of_lt (by omega)
  have h2 : (BitVec.ofInt 64 (b : Int)).toNat = b := by
    rw [BitVec.ofInt_natCast, BitVec.toNat_ofNat]; exact Nat.mod_eq_of_lt (by omega)
  show IntKind.u64.wrap ((BitVec.ofInt 64 (a : Int) ||| BitVec.ofInt 64 (b : Int)).toNat : Int) = _
  rw [BitVec.toNat_or, h1, h2, IntKind.wrap_u64]
  omega
theorem pow_256 (k : Nat) : 2 ^ (8 * k) = 256 ^ k := by rw [Nat.pow_mul]
theorem or_step (xs : List Nat) (k : Nat) (h : k < xs.length) (hx : ∀ x ∈ xs, x < 256) (h8 : xs.length ≤ 8) :
    bits .or .u64 ((num (xs.take k) : Nat) : Int) (IntKind.u64.wrap ((xs[k] : Int) * 2 ^ (8 * k))) = ((num (xs.take (k + 1)) : Nat) : Int) := by
  have hN := num_lt (xs.take k) (fun x hm => hx x (List.mem_of_mem_take hm))
  rw [List.length_take, Nat.min_eq_left (by omega)] at hN
  have hb : xs[k] < 256 := hx _ (List.getElem_mem _)
  have hp : 256 ^ k ≤ 256 ^ 7 := Nat.pow_le_pow_right (by decide) (by omega)
  have hP : xs[k] * 256 ^ k < 18446744073709551616 := by
    have h1 : xs[k] * 256 ^ k ≤ 255 * 256 ^ k := Nat.mul_le_mul_right _ (by omega)
    have h2 : 255 * 256 ^ k ≤ 255 * 256 ^ 7 := Nat.mul_le_mul_left _ hp
    have h3 : 255 * 256 ^ 7 < 18446744073709551616 := by decide
    omega
  have e : IntKind.u64.wrap ((xs[k] : Int) * 2 ^ (8 * k)) = ((xs[k] * 256 ^ k : Nat) : Int) := by
    have e1 : ((xs[k] : Int) * 2 ^ (8 * k)) = ((xs[k] * 256 ^ k : Nat) : Int) := by
      rw [← pow_256, Int.natCast_mul, Int.natCast_pow]; rfl
    rw [e1, IntKind.wrap_u64]
    omega
  have hlt : num (xs.take k) < 18446744073709551616 := by
    have h3 : 256 ^ 7 < 18446744073709551616 := by decide
    omega
  rw [e, bits_or_u64 _ _ hlt hP, num_snoc xs k h]
  have hor := Nat.two_pow_add_eq_or_of_lt (i := 8 * k) (b := num (xs.take k)) (by rw [pow_256]; exact hN) xs[k]
  rw [pow_256, Nat.mul_comm] at hor
  rw [Nat.or_comm, ← hor, Nat.add_comm]

theorem wr32 (n : Int) : wrap32 n = IntKind.i32.wrap n := by
  unfold wrap32; simp [IntKind.wrap, IntKind.bits, IntKind.signed]; split <;> omega
theorem wr64 (n : Int) : wrap64 n = IntKind.i64.wrap n := by
  unfold wrap64; simp [IntKind.wrap, IntKind.bits, IntKind.signed]; split <;> omega

/-- The numbers of the chunks, each by its sign. -/
def chunk (xs : List Nat) (W j : Nat) : List Nat := (xs.drop (W * j)).take W
def uniR (W : Nat) (k : IntKind) (xs : List Nat) : List Int × Int :=
  if xs.length % W = 0 then ((List.range (xs.length / W)).map fun j => k.wrap ((num (chunk xs W j) : Nat) : Int), 0) else ([], 3)
def uniL (W : Nat) (k : IntKind) (xs : List Nat) : List Int := (List.range (xs.length / W)).map fun j => k.wrap ((num (chunk xs W j) : Nat) : Int)
def uni (xs : List Nat) (n : Int) : List Int × Int :=
  if n = 1 then uniR 1 .i8 xs else if n = 2 then uniR 2 .i16 xs else if n = 4 then uniR 4 .i32 xs else if n = 8 then uniR 8 .i64 xs else ([], 1)

theorem uniL_len (W : Nat) (k : IntKind) (xs : List Nat) : (uniL W k xs).length = xs.length / W := by simp [uniL]
theorem uniL_at (W : Nat) (k : IntKind) (xs : List Nat) (j : Nat) (h : j < xs.length / W) : (uniL W k xs)[j]? = some (k.wrap ((num (chunk xs W j) : Nat) : Int)) := by simp [uniL, h]
theorem uniL_snoc (W : Nat) (k : IntKind) (xs : List Nat) (j : Nat) (h : j < xs.length / W) : (uniL W k xs).take (j + 1) = (uniL W k xs).take j ++ [k.wrap ((num (chunk xs W j) : Nat) : Int)] := by
  rw [List.take_succ_eq_append_getElem (by rw [uniL_len]; exact h)]
  simp [uniL]
theorem uniR_ok {W : Nat} {k : IntKind} {xs : List Nat} (h : xs.length % W = 0) : uniR W k xs = (uniL W k xs, 0) := by unfold uniR; rw [if_pos h]; rfl
theorem uniR_bad {W : Nat} {k : IntKind} {xs : List Nat} (h : xs.length % W ≠ 0) : uniR W k xs = ([], 3) := by unfold uniR; rw [if_neg h]
theorem chunk_len {xs : List Nat} {W j : Nat} (h : W * j + W ≤ xs.length) : (chunk xs W j).length = W := by simp [chunk]; omega
theorem chunk_lt {xs : List Nat} {W j : Nat} (hx : ∀ x ∈ xs, x < 256) : ∀ x ∈ chunk xs W j, x < 256 := fun x h => hx x (List.mem_of_mem_drop (List.mem_of_mem_take h))
theorem chunk_at {xs : List Nat} {W j i : Nat} (h : i < (chunk xs W j).length) (h2 : W * j + i < xs.length) : (chunk xs W j)[i] = xs[W * j + i] := by simp [chunk]
theorem uniR_short (W : Nat) (k : IntKind) (xs : List Nat) : (uniR W k xs).1.length ≤ 8 * xs.length := by
  unfold uniR
  split
  · simp; have := Nat.div_le_self xs.length W; omega
  · simp
theorem uni_short (xs : List Nat) (n : Int) : (uni xs n).1.length ≤ 8 * xs.length := by
  unfold uni
  repeat' split
  · exact uniR_short 1 _ _
  · exact uniR_short 2 _ _
  · exact uniR_short 4 _ _
  · exact uniR_short 8 _ _
  · simp

theorem chunk_num {xs : List Nat} {W j : Nat} (hx : ∀ x ∈ xs, x < 256) (hW : 1 ≤ W) (hin : W * j + W ≤ xs.length) :
    ∃ lo, num (chunk xs W j) = lo + xs[W * j + W - 1] * 256 ^ (W - 1) ∧ lo < 256 ^ (W - 1) := by
  have hl := chunk_len hin
  have hs := num_snoc (chunk xs W j) (W - 1) (by omega)
  rw [show W - 1 + 1 = W from by omega, List.take_of_length_le (by omega)] at hs
  refine ⟨num ((chunk xs W j).take (W - 1)), ?_, ?_⟩
  · rw [hs, chunk_at (by omega) (by omega)]
    have e : xs[W * j + (W - 1)]'(by omega) = xs[W * j + W - 1]'(by omega) := by congr 1; omega
    rw [e]
  · have := num_lt ((chunk xs W j).take (W - 1)) (fun x h => chunk_lt hx x (List.mem_of_mem_take h))
    rwa [List.length_take, Nat.min_eq_left (by omega)] at this
theorem sign_i8 (N : Nat) (h : N < 256) : IntKind.i8.wrap (N : Int) = if 128 ≤ N then (N : Int) - 256 else N := by
  simp only [IntKind.wrap, IntKind.bits, IntKind.signed]; simp; split <;> split <;> omega
theorem sign_i16 (N : Nat) (h : N < 65536) : IntKind.i16.wrap (N : Int) = if 32768 ≤ N then (N : Int) - 65536 else N := by
  simp only [IntKind.wrap, IntKind.bits, IntKind.signed]; simp; split <;> split <;> omega
theorem sign_i32 (N : Nat) (h : N < 4294967296) : IntKind.i32.wrap (N : Int) = if 2147483648 ≤ N then (N : Int) - 4294967296 else N := by
  simp only [IntKind.wrap, IntKind.bits, IntKind.signed]; simp; split <;> split <;> omega
theorem wrap64_small (N : Nat) (h : N < 4294967296) : wrap64 (N : Int) = N := by unfold wrap64; omega

end Go.Proofs.YtfaehioeepolhaaGreat
