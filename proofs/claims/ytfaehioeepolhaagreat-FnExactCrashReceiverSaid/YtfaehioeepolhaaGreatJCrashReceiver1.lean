import Derived.Test.YtfaehioeepolhaaGreatJCrashReceiver0
namespace Go.Proofs.YtfaehioeepolhaaGreat
open Go.RowKit
structure Cod (α : Type) where
  n : Nat
  rd : World → α → List Value → Prop
  own : World → α → List Value → List Nat → Prop
  len : ∀ {w x cs}, rd w x cs → cs.length = n
  one : ∀ {w x cs}, rd w x cs → ∀ u ∈ cs, u.oneCell' = true
  later : ∀ {w w' x cs}, rd w x cs → Below w.heap.size w w' → rd w' x cs
  ownRd : ∀ {w x cs bs}, own w x cs bs → rd w x cs
  kept : ∀ {w w' x cs bs}, own w x cs bs → (∀ b ∈ bs, w'.heap[b]? = w.heap[b]?) → own w' x cs bs
  lt : ∀ {w x cs bs}, own w x cs bs → ∀ b ∈ bs, b < w.heap.size
def val : List Value → Value
  | [v] => v
  | cs => .agg cs.toArray
structure Only (bs : List Nat) (w w' : World) : Prop where
  os : w'.os = w.os
  tape : w'.tape = w.tape
  output : w'.output = w.output
  size : w.heap.size ≤ w'.heap.size
  block : ∀ k, k < w.heap.size → k ∉ bs → w'.heap[k]? = w.heap[k]?
theorem Only.refl (bs : List Nat) (w : World) : Only bs w w := ⟨rfl, rfl, rfl, Nat.le_refl _, fun _ _ _ => rfl⟩
theorem Only.trans {bs : List Nat} {a b c : World} (h : Only bs a b) (k : Only bs b c) : Only bs a c :=
  ⟨k.os.trans h.os, k.tape.trans h.tape, k.output.trans h.output, Nat.le_trans h.size k.size, fun i hi hn => (k.block i (Nat.lt_of_lt_of_le hi h.size) hn).trans (h.block i hi hn)⟩
theorem Only.mono {bs bs' : List Nat} {a b : World} (h : Only bs a b) (k : ∀ x ∈ bs, x ∈ bs') : Only bs' a b :=
  ⟨h.os, h.tape, h.output, h.size, fun i hi hn => h.block i hi (fun e => hn (k i e))⟩
theorem Only.of_below {bs : List Nat} {a b : World} (h : Below a.heap.size a b) : Only bs a b := ⟨h.os, h.tape, h.output, h.size, fun i hi _ => h.block i hi⟩
theorem Only.of_grown {g : Nat} {a b : World} (h : a.grownBy b (some g)) : Only [g] a b :=
  ⟨h.os, h.tape, h.output, h.size, fun i hi hn => h.block i hi (fun e => hn (by simp at e; simp [e]))⟩
theorem Only.below {bs : List Nat} {a b : World} (h : Only bs a b) {B : Nat} (hB : ∀ x ∈ bs, B ≤ x) (hs : B ≤ a.heap.size) : Below B a b :=
  ⟨h.os, h.tape, h.output, h.size, fun i hi => h.block i (by omega) (fun e => by have := hB i e; omega)⟩
theorem Only.nil {a b : World} (h : Only [] a b) : Below a.heap.size a b := ⟨h.os, h.tape, h.output, h.size, fun i hi => h.block i hi (by simp)⟩
theorem Cod.only {α : Type} (c : Cod α) {w w' : World} {x : α} {cs : List Value} {bs bs' : List Nat} (h : c.own w x cs bs) (ho : Only bs' w w') (hd : ∀ b ∈ bs, b ∉ bs') : c.own w' x cs bs :=
  c.kept h (fun b hb => ho.block b (c.lt h b hb) (hd b hb))
theorem Only.chain {a b c : World} {B : Nat} {bs : List Nat} (h : Below B a b) (k : Only bs b c) (hB : ∀ x ∈ bs, B ≤ x) (hs : B ≤ a.heap.size) : Below B a c :=
  h.trans (k.below hB (Nat.le_trans hs h.size))
def cInt : Cod Int where
  n := 1
  rd _ x cs := cs = [.int .i64 x] ∧ IntIn x
  own _ x cs bs := cs = [.int .i64 x] ∧ IntIn x ∧ bs = []
  len h := by rw [h.1]; rfl
  one h := by rw [h.1]; exact one_cell rfl
  later h _ := h
  ownRd h := ⟨h.1, h.2.1⟩
  kept h _ := h
  lt h := by rw [h.2.2]; simp
def cByte : Cod Nat where
  n := 1
  rd _ x cs := cs = [.int .u8 (x : Int)] ∧ x < 256
  own _ x cs bs := cs = [.int .u8 (x : Int)] ∧ x < 256 ∧ bs = []
  len h := by rw [h.1]; rfl
  one h := by rw [h.1]; exact one_cell rfl
  later h _ := h
  ownRd h := ⟨h.1, h.2.1⟩
  kept h _ := h
  lt h := by rw [h.2.2]; simp
def cBool : Cod Bool where
  n := 1
  rd _ x cs := cs = [.bool x]
  own _ x cs bs := cs = [.bool x] ∧ bs = []
  len h := by rw [h]; rfl
  one h := by rw [h]; exact one_cell rfl
  later h _ := h
  ownRd h := h.1
  kept h _ := h
  lt h := by rw [h.2]; simp
def cPair {α β : Type} (a : Cod α) (b : Cod β) : Cod (α × β) where
  n := a.n + b.n
  rd w x cs := ∃ c1 c2, cs = c1 ++ c2 ∧ a.rd w x.1 c1 ∧ b.rd w x.2 c2
  own w x cs bs := ∃ c1 c2 b1 b2, cs = c1 ++ c2 ∧ bs = b1 ++ b2 ∧ a.own w x.1 c1 b1 ∧ b.own w x.2 c2 b2
  len h := by obtain ⟨c1, c2, rfl, h1, h2⟩ := h; rw [List.length_append, a.len h1, b.len h2]
  one h := by
    obtain ⟨c1, c2, rfl, h1, h2⟩ := h
    intro u hu
    rcases List.mem_append.1 hu with hu | hu
    · exact a.one h1 u hu
    · exact b.one h2 u hu
  later h hb := by obtain ⟨c1, c2, rfl, h1, h2⟩ := h; exact ⟨c1, c2, rfl, a.later h1 hb, b.later h2 hb⟩
  ownRd h := by obtain ⟨c1, c2, b1, b2, rfl, rfl, h1, h2⟩ := h; exact ⟨c1, c2, rfl, a.ownRd h1, b.ownRd h2⟩
  kept h hk := by
    obtain ⟨c1, c2, b1, b2, rfl, rfl, h1, h2⟩ := h
    exact ⟨c1, c2, b1, b2, rfl, rfl, a.kept h1 (fun b hb => hk b (List.mem_append_left _ hb)), b.kept h2 (fun b hb => hk b (List.mem_append_right _ hb))⟩
  lt h := by
    obtain ⟨c1, c2, b1, b2, rfl, rfl, h1, h2⟩ := h
    intro x hx
    rcases List.mem_append.1 hx with hx | hx
    · exact a.lt h1 x hx
    · exact b.lt h2 x hx
def cMap {α β : Type} (a : Cod α) (f : β → α) : Cod β where
  n := a.n
  rd w x cs := a.rd w (f x) cs
  own w x cs bs := a.own w (f x) cs bs
  len := a.len
  one := a.one
  later := a.later
  ownRd := a.ownRd
  kept := a.kept
  lt := a.lt
def RdAt {α : Type} (c : Cod α) (w : World) (b off : Nat) (xs : List α) : Prop :=
  ∀ i, (h : i < xs.length) → ∃ es, c.rd w xs[i] es ∧ ∀ j, (h : j < es.length) → w.cell? ⟨b, off + (i * c.n + j), none⟩ = some es[j]
def RdSl {α : Type} (c : Cod α) (w : World) (xs : List α) (v : Value) : Prop :=
  ∃ a cap, v = .slice a xs.length cap ∧ xs.length ≤ cap ∧ cap ≤ maxLen ∧ (a = none → cap = 0) ∧ (xs = [] ∨ ∃ b off, a = some ⟨b, off, none⟩ ∧ RdAt c w b off xs)
def part (vs : List Value) (n i : Nat) : List Value := (vs.drop (i * n)).take n
def OwnSl {α : Type} (c : Cod α) (e : TypeId) (w : World) (xs : List α) (v : Value) (bs : List Nat) : Prop :=
  (v = .slice none 0 0 ∧ xs = [] ∧ bs = []) ∨
  ∃ g cap vs bss, v = .slice (some ⟨g, 0, none⟩) xs.length cap ∧ w.ownsRow 0 e c.n (.slice (some ⟨g, 0, none⟩) xs.length cap) xs.length vs ∧ bs = g :: List.flatten bss ∧ bss.length = xs.length ∧
    ∀ i, (h : i < xs.length) → (h2 : i < bss.length) → c.own w xs[i] (part vs c.n i) bss[i]
theorem RdAt.later {α : Type} {c : Cod α} {w w' : World} {b off : Nat} {xs : List α} (h : RdAt c w b off xs) (hb : Below w.heap.size w w') : RdAt c w' b off xs := by
  intro i hi
  obtain ⟨es, h1, h2⟩ := h i hi
  refine ⟨es, c.later h1 hb, fun j hj => ?_⟩
  have h3 := h2 j hj
  have e : w'.cell? ⟨b, off + (i * c.n + j), none⟩ = w.cell? ⟨b, off + (i * c.n + j), none⟩ := hb.cell (p := ⟨b, off + (i * c.n + j), none⟩) (World.block_lt_of_cell? _ _ h3)
  rw [e]; exact h3
theorem RdSl.later {α : Type} {c : Cod α} {w w' : World} {xs : List α} {v : Value} (h : RdSl c w xs v) (hb : Below w.heap.size w w') : RdSl c w' xs v := by
  obtain ⟨a, cap, h1, h2, h3, h4, h5⟩ := h
  refine ⟨a, cap, h1, h2, h3, h4, ?_⟩
  rcases h5 with h5 | ⟨b, off, h6, h7⟩
  · exact .inl h5
  · exact .inr ⟨b, off, h6, h7.later hb⟩
theorem part_len {vs : List Value} {n m i : Nat} (h : vs.length = m * n) (hi : i < m) : (part vs n i).length = n := by
  have : (i + 1) * n ≤ m * n := Nat.mul_le_mul_right _ hi
  rw [Nat.add_mul, Nat.one_mul] at this
  simp [part]; omega
theorem part_at {vs : List Value} {n i j : Nat} (hj : j < n) : (part vs n i)[j]? = vs[i * n + j]? := by
  simp [part, hj]
theorem OwnSl.rd {α : Type} {c : Cod α} {e : TypeId} {w : World} {xs : List α} {v : Value} {bs : List Nat} (h : OwnSl c e w xs v bs) : RdSl c w xs v := by
  rcases h with ⟨rfl, rfl, rfl⟩ | ⟨g, cap, vs, bss, rfl, ho, rfl, hbl, hi⟩
  · exact ⟨none, 0, rfl, Nat.le_refl _, Nat.zero_le _, fun _ => rfl, .inl rfl⟩
  · have hcap : xs.length ≤ cap ∧ cap ≤ maxLen := by
      rcases ho.2 with ⟨h', _⟩ | ⟨g', cap', cur, h', _, _, h1, h2, _⟩
      · simp at h'
      · simp at h'; obtain ⟨_, rfl⟩ := h'; exact ⟨h1, h2⟩
    refine ⟨_, cap, rfl, hcap.1, hcap.2, (fun h => by cases h), ?_⟩
    refine .inr ⟨g, 0, rfl, fun i h => ?_⟩
    have h1 := c.ownRd (hi i h (by omega))
    refine ⟨_, h1, fun j hj => ?_⟩
    have hj' : j < c.n := by rw [part_len ho.1 h] at hj; exact hj
    have hlt : i * c.n + j < xs.length * c.n := by
      have : (i + 1) * c.n ≤ xs.length * c.n := Nat.mul_le_mul_right _ h
      rw [Nat.add_mul, Nat.one_mul] at this; omega
    rw [Nat.zero_add, ho.cellAt _ hlt, ← part_at hj', List.getElem?_eq_getElem hj]
theorem ownsRow_kept {w w' : World} {B n size : Nat} {e : TypeId} {v : Value} {vs : List Value} (h : w.ownsRow B e size v n vs) (hk : ∀ b, v.ownBlock = some b → w'.heap[b]? = w.heap[b]?) : w'.ownsRow B e size v n vs := by
  refine ⟨h.1, ?_⟩
  rcases h.2 with h2 | ⟨g, cap, cur, rfl, hg, hh, r⟩
  · exact .inl h2
  · exact .inr ⟨g, cap, cur, rfl, hg, by rw [hk g rfl]; exact hh, r⟩
theorem OwnSl.kept {α : Type} {c : Cod α} {e : TypeId} {w w' : World} {xs : List α} {v : Value} {bs : List Nat} (h : OwnSl c e w xs v bs) (hk : ∀ b ∈ bs, w'.heap[b]? = w.heap[b]?) : OwnSl c e w' xs v bs := by
  rcases h with h | ⟨g, cap, vs, bss, rfl, ho, rfl, hbl, hi⟩
  · exact .inl h
  · refine .inr ⟨g, cap, vs, bss, rfl, ownsRow_kept ho (fun b hb => ?_), rfl, hbl, fun i h h2 => c.kept (hi i h h2) (fun b hb => ?_)⟩
    · simp [Value.ownBlock] at hb; subst hb; exact hk _ (by simp)
    · exact hk b (List.mem_cons_of_mem _ (List.mem_flatten.2 ⟨_, List.getElem_mem h2, hb⟩))
theorem OwnSl.lt {α : Type} {c : Cod α} {e : TypeId} {w : World} {xs : List α} {v : Value} {bs : List Nat} (h : OwnSl c e w xs v bs) : ∀ b ∈ bs, b < w.heap.size := by
  rcases h with ⟨_, _, rfl⟩ | ⟨g, cap, vs, bss, rfl, ho, rfl, hbl, hi⟩
  · simp
  · intro b hb
    rcases List.mem_cons.1 hb with rfl | hb
    · exact (World.ownsRow.lt ho b rfl).2
    · obtain ⟨l, hl, hb⟩ := List.mem_flatten.1 hb
      obtain ⟨i, hi', rfl⟩ := List.getElem_of_mem hl
      exact c.lt (hi i (by omega) hi') b hb
def cSl {α : Type} (c : Cod α) (e : TypeId) : Cod (List α) where
  n := 1
  rd w xs cs := ∃ v, cs = [v] ∧ RdSl c w xs v
  own w xs cs bs := ∃ v, cs = [v] ∧ OwnSl c e w xs v bs
  len h := by obtain ⟨v, rfl, _⟩ := h; rfl
  one h := by obtain ⟨v, rfl, a, cap, rfl, _⟩ := h; exact one_cell rfl
  later h hb := by obtain ⟨v, rfl, h⟩ := h; exact ⟨v, rfl, h.later hb⟩
  ownRd h := by obtain ⟨v, rfl, h⟩ := h; exact ⟨v, rfl, h.rd⟩
  kept h hk := by obtain ⟨v, rfl, h⟩ := h; exact ⟨v, rfl, h.kept hk⟩
  lt h := by obtain ⟨v, rfl, h⟩ := h; exact h.lt
theorem RdSl.bytes {w : World} {xs : List Nat} {v : Value} (h : RdSl cByte w xs v) : ∃ a cap, v = .slice a xs.length cap ∧ xs.length ≤ cap ∧ cap ≤ maxLen ∧ (a = none → cap = 0) ∧ Rd w a (byt xs) ∧ ∀ x ∈ xs, x < 256 := by
  obtain ⟨a, cap, rfl, h1, h2, h3, h4⟩ := h
  refine ⟨a, cap, rfl, h1, h2, h3, ?_⟩
  rcases h4 with rfl | ⟨b, off, rfl, h5⟩
  · exact ⟨.inl rfl, by simp⟩
  · refine ⟨.inr ⟨b, off, rfl, fun i hi => ?_⟩, fun x hx => ?_⟩
    · have hi' : i < xs.length := by simpa [byt] using hi
      obtain ⟨es, ⟨rfl, _⟩, h7⟩ := h5 i hi'
      have := h7 0 (by simp)
      simpa [cByte, byt] using this
    · obtain ⟨i, hi, rfl⟩ := List.getElem_of_mem hx
      obtain ⟨es, ⟨rfl, h6⟩, h7⟩ := h5 i hi
      exact h6
theorem OwnSl.bytes {e : TypeId} {w : World} {xs : List Nat} {v : Value} {bs : List Nat} (h : OwnSl cByte e w xs v bs) : w.ownsRow 0 e 1 v xs.length (byt xs) ∧ bs = v.ownBlock.toList ∧ ∀ x ∈ xs, x < 256 := by
  have hrd := h.rd.bytes
  obtain ⟨a, cap, hv, _, _, _, hr, hb⟩ := hrd
  rcases h with ⟨rfl, rfl, rfl⟩ | ⟨g, cap', vs, bss, rfl, ho, rfl, hbl, hi⟩
  · exact ⟨World.ownsRow_nil _ _ _ _, rfl, hb⟩
  · have hvl : vs.length = xs.length := by have := ho.1; simpa [cByte] using this
    have hnil : ∀ l ∈ bss, l = [] := by
      intro l hl
      obtain ⟨i, hi', rfl⟩ := List.getElem_of_mem hl
      exact (hi i (by omega) hi').2.2
    have hfl : List.flatten bss = [] := by
      rw [List.flatten_eq_nil_iff]; exact hnil
    have hvs : vs = byt xs := by
      apply List.ext_getElem?
      intro i
      by_cases h : i < xs.length
      · have h1 := (hi i h (by omega)).1
        have h2 := part_at (vs := vs) (n := cByte.n) (i := i) (j := 0) (by simp [cByte])
        rw [h1] at h2
        simp [cByte] at h2
        rw [← h2]; simp [byt, h]
      · simp [byt, h]; omega
    subst hvs
    exact ⟨ho, by rw [hfl]; rfl, hb⟩
theorem ownSl_bytes {e : TypeId} {w : World} {B n : Nat} {xs : List Nat} {v : Value} (h : w.ownsRow B e 1 v n (byt xs)) (hb : ∀ x ∈ xs, x < 256) : OwnSl cByte e w xs v v.ownBlock.toList := by
  have hn : xs.length = n := by have := h.1; simpa [byt] using this
  subst hn
  rcases h.2 with ⟨rfl, h0⟩ | ⟨g, cap, cur, rfl, hg, r⟩
  · exact .inl ⟨rfl, List.length_eq_zero_iff.1 h0, rfl⟩
  · refine .inr ⟨g, cap, byt xs, List.replicate xs.length [], rfl, ⟨h.1, .inr ⟨g, cap, cur, rfl, Nat.zero_le _, r⟩⟩, ?_, by simp, fun i h1 h2 => ⟨?_, hb _ (List.getElem_mem h1), by simp⟩⟩
    · rw [List.flatten_eq_nil_iff.2 (by simp)]; rfl
    · have h2 := part_at (vs := byt xs) (n := cByte.n) (i := i) (j := 0) (by simp [cByte])
      have h3 := part_len (vs := byt xs) (n := cByte.n) (m := xs.length) (i := i) (by simp [byt, cByte]) h1
      simp only [cByte] at h2 h3
      match hp : part (byt xs) cByte.n i, h3 with
      | [u], _ =>
        rw [show cByte.n = 1 from rfl] at hp
        rw [hp] at h2
        simp [byt, h1] at h2
        rw [h2]
def ToLaw {α : Type} (P : Program) (f : Nat) (c : Cod α) (tot : α → Nat) : Prop :=
  ∀ w x cs, c.rd w x cs → tot x ≤ 1048576 → Calls P f #[val cs] w fun e w' => ∃ cs' bs, e = .returned (val cs') ∧ c.own w' x cs' bs ∧ (∀ b ∈ bs, w.heap.size ≤ b) ∧ bs.Nodup ∧ Below w.heap.size w w'
def SzLaw {α : Type} (P : Program) (f : Nat) (c : Cod α) (tot : α → Nat) : Prop :=
  ∀ w x cs l, c.rd w x cs → 0 ≤ l → l ≤ 1048576 → Calls P f #[val cs, .int .i64 l] w fun e w' => e = .returned (.int .i64 (rest l (tot x))) ∧ Below w.heap.size w w'
def EqLaw {α : Type} (P : Program) (f : Nat) (c : Cod α) (tot : α → Nat) : Prop :=
  ∀ w x cs cs', c.rd w x cs → c.rd w x cs' → tot x ≤ 1048576 → Calls P f #[val cs, val cs'] w fun e w' => e = .returned (.bool true) ∧ Below w.heap.size w w'
def totL {α : Type} (tot : α → Nat) (xs : List α) : Nat := xs.length + (xs.map tot).sum
theorem sum_snoc {α : Type} (tot : α → Nat) (xs : List α) (k : Nat) (h : k < xs.length) : ((xs.take (k + 1)).map tot).sum = ((xs.take k).map tot).sum + tot xs[k] := by
  rw [List.take_succ_eq_append_getElem h, List.map_append, List.sum_append]; simp
theorem sum_take {α : Type} (tot : α → Nat) (xs : List α) (k : Nat) : ((xs.take k).map tot).sum ≤ (xs.map tot).sum := by
  conv => rhs; rw [← List.take_append_drop k xs]
  rw [List.map_append, List.sum_append]; omega
theorem tot_at {α : Type} (tot : α → Nat) (xs : List α) (k : Nat) (h : k < xs.length) : tot xs[k] ≤ (xs.map tot).sum := by
  have h1 := sum_snoc tot xs k h
  have h2 := sum_take tot xs (k + 1)
  omega
theorem part_other {vs : List Value} {n i k j : Nat} {u : Value} (hj : j < n) (hne : i ≠ k) : part (vs.set (k * n + j) u) n i = part vs n i := by
  apply List.ext_getElem?
  intro t
  by_cases ht : t < n
  · rw [part_at ht, part_at ht, List.getElem?_set_ne]
    intro e
    rcases Nat.lt_or_gt_of_ne hne with h | h
    · have := Nat.mul_le_mul_right n (show i + 1 ≤ k from h)
      rw [Nat.add_mul, Nat.one_mul] at this; omega
    · have := Nat.mul_le_mul_right n (show k + 1 ≤ i from h)
      rw [Nat.add_mul, Nat.one_mul] at this; omega
  · rw [List.getElem?_eq_none (by simp [part]; omega), List.getElem?_eq_none (by simp [part]; omega)]
theorem part_set3 {vs : List Value} {k : Nat} {x y z : Value} (h : k * 3 + 3 ≤ vs.length) : part (((vs.set (k * 3) x).set (k * 3 + 1) y).set (k * 3 + 2) z) 3 k = [x, y, z] := by
  apply List.ext_getElem?
  intro t
  by_cases ht : t < 3
  · rw [part_at ht]
    match t, ht with
    | 0, _ => rw [List.getElem?_set_ne (by omega), List.getElem?_set_ne (by omega), Nat.add_zero, List.getElem?_set_self (by omega)]; rfl
    | 1, _ => rw [List.getElem?_set_ne (by omega), List.getElem?_set_self (by simp; omega)]; rfl
    | 2, _ => rw [List.getElem?_set_self (by simp; omega)]; rfl
  · rw [List.getElem?_eq_none (by simp [part]; omega), List.getElem?_eq_none (by simp; omega)]
theorem RdSl.at3 {α : Type} {c : Cod α} {w : World} {xs : List α} {a : Option Addr} {n cap k : Nat} (h : RdSl c w xs (.slice a n cap)) (hn : c.n = 3) (hk : k < xs.length) :
    ∃ b off v0 v1 v2, a = some ⟨b, off, none⟩ ∧ c.rd w xs[k] [v0, v1, v2] ∧ w.cell? ⟨b, off + k * 3, none⟩ = some v0 ∧ w.cell? ⟨b, off + k * 3 + 1, none⟩ = some v1 ∧ w.cell? ⟨b, off + k * 3 + 2, none⟩ = some v2 := by
  obtain ⟨a', cap', e', _, _, _, h4⟩ := h
  simp only [Value.slice.injEq] at e'
  obtain ⟨rfl, _, rfl⟩ := e'
  rcases h4 with h0 | ⟨b, off, rfl, hat⟩
  · subst h0; simp at hk
  · obtain ⟨es, hes, hcs⟩ := hat k hk
    have h3 := c.len hes
    rw [hn] at h3 hcs
    match es, h3 with
    | [x, y, z], _ =>
      have d0 := hcs 0 (by simp)
      have d1 := hcs 1 (by simp)
      have d2 := hcs 2 (by simp)
      exact ⟨b, off, x, y, z, rfl, hes, d0, by rw [Nat.add_assoc]; exact d1, by rw [Nat.add_assoc]; exact d2⟩
def Made3 {α : Type} (c : Cod α) (e : TypeId) (w wr : World) (xs : List α) (k : Nat) : Prop :=
  ∃ vs bss, wr.ownsRow w.heap.size e 3 (.slice (some ⟨w.heap.size, 0, none⟩) xs.length xs.length) xs.length vs ∧ bss.length = k ∧ (∀ i, (h : i < xs.length) → (h2 : i < bss.length) → c.own wr xs[i] (part vs 3 i) bss[i]) ∧ (∀ b ∈ List.flatten bss, w.heap.size < b ∧ b < wr.heap.size) ∧ (List.flatten bss).Nodup
theorem Made3.row {α : Type} {c : Cod α} {e : TypeId} {w wr w2 : World} {xs : List α} {k : Nat} (hm : Made3 c e w wr xs k) (b2 : Below wr.heap.size wr w2) :
    ∃ vs : List Value, vs.length = xs.length * 3 ∧ w2.ownsRow w.heap.size e 3 (.slice (some ⟨w.heap.size, 0, none⟩) xs.length xs.length) xs.length vs := by
  obtain ⟨vs, bss, how, _⟩ := hm
  exact ⟨vs, how.1, ownsRow_kept how (fun b hb => b2.block b (World.ownsRow.lt how b hb).2)⟩
theorem Made3.step {α : Type} {c : Cod α} {e : TypeId} {w wr w2 : World} {xs : List α} {k : Nat} {x y z : Value} {bs : List Nat} (hm : Made3 c e w wr xs k) (hk : k < xs.length)
    (b2 : Below wr.heap.size wr w2) (o2 : c.own w2 xs[k] [x, y, z] bs) (hbs : ∀ b ∈ bs, wr.heap.size ≤ b) (hnd : bs.Nodup) :
    Made3 c e w (((w2.setCell ⟨w.heap.size, k * 3, none⟩ x).setCell ⟨w.heap.size, k * 3 + 1, none⟩ y).setCell ⟨w.heap.size, k * 3 + 2, none⟩ z) xs (k + 1) := by
  obtain ⟨vs, bss, how, hbl, hown, hin, hnn⟩ := hm
  have hvl : vs.length = xs.length * 3 := how.1
  have hB : w.heap.size < wr.heap.size := (World.ownsRow.lt how w.heap.size rfl).2
  have how2 := ownsRow_kept how (fun b hb => b2.block b (World.ownsRow.lt how b hb).2)
  have s1 := (World.ownsRow.stored how2 (k * 3) x).1
  have s2 := (World.ownsRow.stored s1 (k * 3 + 1) y).1
  have s3 := (World.ownsRow.stored s2 (k * 3 + 2) z).1
  have hlt2 := c.lt o2
  have keep : ∀ j, j ≠ w.heap.size → (((w2.setCell ⟨w.heap.size, k * 3, none⟩ x).setCell ⟨w.heap.size, k * 3 + 1, none⟩ y).setCell ⟨w.heap.size, k * 3 + 2, none⟩ z).heap[j]? = w2.heap[j]? := by
    intro j hj
    rw [Below.heap_setCell _ _ _ _ hj, Below.heap_setCell _ _ _ _ hj, Below.heap_setCell _ _ _ _ hj]
  refine ⟨_, bss ++ [bs], s3, by simp [hbl], ?_, ?_, ?_⟩
  · intro i h1 h2
    by_cases e : i = k
    · subst e
      have hg : (bss ++ [bs])[i] = bs := by simp [← hbl]
      rw [hg, part_set3 (by omega)]
      exact c.kept o2 (fun b hb => keep b (by have := hbs b hb; omega))
    · have h3 : i < bss.length := by simp at h2; omega
      have hg : (bss ++ [bs])[i] = bss[i] := List.getElem_append_left h3
      rw [hg, part_other (by omega) e, part_other (by omega) e]
      have := part_other (vs := vs) (n := 3) (i := i) (k := k) (j := 0) (u := x) (by omega) e
      rw [Nat.add_zero] at this
      rw [this]
      have hmem : ∀ b ∈ bss[i], b ∈ List.flatten bss := fun b hb => List.mem_flatten.2 ⟨_, List.getElem_mem h3, hb⟩
      exact c.kept (hown i h1 h3) (fun b hb => (keep b (by have := hin b (hmem b hb); omega)).trans (b2.block b (hin b (hmem b hb)).2))
  · intro b hb
    have hsz : (((w2.setCell ⟨w.heap.size, k * 3, none⟩ x).setCell ⟨w.heap.size, k * 3 + 1, none⟩ y).setCell ⟨w.heap.size, k * 3 + 2, none⟩ z).heap.size = w2.heap.size := by simp
    rw [hsz]
    simp only [List.flatten_append, List.flatten_cons, List.flatten_nil, List.append_nil, List.mem_append] at hb
    rcases hb with hb | hb
    · have := hin b hb; have := b2.size; omega
    · have := hbs b hb; have := hlt2 b hb; omega
  · simp only [List.flatten_append, List.flatten_cons, List.flatten_nil, List.append_nil]
    exact List.nodup_append.2 ⟨hnn, hnd, fun a ha b hb e => by have := (hin a ha).2; have := hbs b hb; omega⟩
theorem Made3.done {α : Type} {c : Cod α} {e : TypeId} {w wr : World} {xs : List α} (hn : c.n = 3) (hm : Made3 c e w wr xs xs.length) :
    ∃ bs, OwnSl c e wr xs (.slice (some ⟨w.heap.size, 0, none⟩) xs.length xs.length) bs ∧ (∀ b ∈ bs, w.heap.size ≤ b) ∧ bs.Nodup := by
  obtain ⟨vs, bss, how, hbl, hown, hin, hnn⟩ := hm
  refine ⟨w.heap.size :: List.flatten bss, .inr ⟨w.heap.size, xs.length, vs, bss, rfl, by rw [hn]; exact ⟨how.1, how.2.imp id (fun ⟨g, cap, cur, h1, _, h3⟩ => ⟨g, cap, cur, h1, Nat.zero_le _, h3⟩)⟩, rfl, hbl, fun i h1 h2 => by rw [hn]; exact hown i h1 h2⟩, ?_, ?_⟩
  · intro b hb
    rcases List.mem_cons.1 hb with rfl | hb
    · exact Nat.le_refl _
    · exact Nat.le_of_lt (hin b hb).1
  · exact List.nodup_cons.2 ⟨fun h => by have := (hin _ h).1; omega, hnn⟩
theorem RdSl.take {α : Type} {c : Cod α} {w : World} {xs : List α} {a : Option Addr} {n cap k : Nat} (h : RdSl c w xs (.slice a n cap)) (hk : k ≤ xs.length) : RdSl c w (xs.take k) (.slice a k cap) := by
  obtain ⟨a', cap', e', h1, h2, h3, h4⟩ := h
  simp only [Value.slice.injEq] at e'
  obtain ⟨rfl, _, rfl⟩ := e'
  have hl : (xs.take k).length = k := by simp; omega
  refine ⟨a, cap, by rw [hl], by omega, h2, h3, ?_⟩
  rcases h4 with h0 | ⟨b, off, rfl, hat⟩
  · subst h0; exact .inl (by simp)
  · exact .inr ⟨b, off, rfl, fun i hi => by
      obtain ⟨es, he, hc⟩ := hat i (by rw [hl] at hi; omega)
      exact ⟨es, by simpa using he, hc⟩⟩
theorem addr_add0 (b off i : Nat) : (⟨b, off, none⟩ : Addr).add i = ⟨b, off + i, none⟩ := by unfold Addr.add; split <;> simp_all
theorem RdSl.cut {α : Type} {c : Cod α} {w : World} {xs : List α} {a : Option Addr} {n cap lo R : Nat} (h : RdSl c w xs (.slice a n cap)) (hk : lo + R ≤ xs.length) : RdSl c w ((xs.drop lo).take R) (.slice (a.map fun x => x.add (lo * c.n)) R (cap - lo)) := by
  obtain ⟨a', cap', e', h1, h2, h3, h4⟩ := h
  simp only [Value.slice.injEq] at e'
  obtain ⟨rfl, _, rfl⟩ := e'
  have hl : ((xs.drop lo).take R).length = R := by simp; omega
  refine ⟨_, _, by rw [hl], by omega, by omega, ?_, ?_⟩
  · intro he
    have : a = none := by cases a <;> simp_all
    have := h3 this
    omega
  · rcases h4 with h0 | ⟨b, off, rfl, hat⟩
    · subst h0; exact .inl (by simp)
    · refine .inr ⟨b, off + lo * c.n, by simp [addr_add0], fun i hi => ?_⟩
      have hi' : i < R := by rw [hl] at hi; exact hi
      obtain ⟨es, he, hc⟩ := hat (lo + i) (by omega)
      refine ⟨es, by simpa using he, fun j hj => ?_⟩
      have := hc j hj
      rw [show off + lo * c.n + (i * c.n + j) = off + ((lo + i) * c.n + j) from by rw [Nat.add_mul]; omega]
      exact this
theorem RdSl.empty {α : Type} {c : Cod α} {w : World} (a : Option Addr) : RdSl c w ([] : List α) (.slice a 0 0) := ⟨a, 0, rfl, Nat.le_refl _, Nat.zero_le _, fun _ => rfl, .inl rfl⟩
theorem set2 {w : World} {g : Nat} {e : TypeId} {a b x y : Value} (h : w.heap[g]? = some (.cells #[a, b] e (0, 0))) :
    ((w.setCell ⟨g, 0, none⟩ x).setCell ⟨g, 1, none⟩ y).heap[g]? = some (.cells #[x, y] e (0, 0)) := by
  have h1 := heap_setCell_same w g 0 _ e x h
  have h2 := heap_setCell_same _ g 1 _ e y h1
  rw [h2]; rfl
theorem set3o {w : World} {g k : Nat} {x y z : Value} (h : k ≠ g) : (((w.setCell ⟨g, 0, none⟩ x).setCell ⟨g, 1, none⟩ y).setCell ⟨g, 2, none⟩ z).heap[k]? = w.heap[k]? := by
  rw [Below.heap_setCell _ _ _ _ h, Below.heap_setCell _ _ _ _ h, Below.heap_setCell _ _ _ _ h]
theorem set3b {B : Nat} {a w : World} {g : Nat} {x y z : Value} (h : Below B a w) (hg : B ≤ g) : Below B a (((w.setCell ⟨g, 0, none⟩ x).setCell ⟨g, 1, none⟩ y).setCell ⟨g, 2, none⟩ z) :=
  ((h.setCell (p := ⟨g, 0, none⟩) hg _).setCell (p := ⟨g, 1, none⟩) hg _).setCell (p := ⟨g, 2, none⟩) hg _
theorem set3 {w : World} {g : Nat} {e : TypeId} {a b c x y z : Value} (h : w.heap[g]? = some (.cells #[a, b, c] e (0, 0))) :
    (((w.setCell ⟨g, 0, none⟩ x).setCell ⟨g, 1, none⟩ y).setCell ⟨g, 2, none⟩ z).heap[g]? = some (.cells #[x, y, z] e (0, 0)) := by
  have h1 := heap_setCell_same w g 0 _ e x h
  have h2 := heap_setCell_same _ g 1 _ e y h1
  have h3 := heap_setCell_same _ g 2 _ e z h2
  rw [h3]; rfl
theorem size2 (w : World) (o1 o2 : Obj) : ((w.alloc o1).alloc o2).heap.size = w.heap.size + 2 := by simp
theorem size3 (w : World) (o1 o2 o3 : Obj) : (((w.alloc o1).alloc o2).alloc o3).heap.size = w.heap.size + 3 := by simp
theorem below_new1 (w : World) (o1 : Obj) : Below w.heap.size w (w.alloc o1) := (Below.refl _ w).alloc (Nat.le_refl _) _
theorem below_new2 (w : World) (o1 o2 : Obj) : Below w.heap.size w ((w.alloc o1).alloc o2) := (below_new1 w o1).alloc (by simp) _
theorem below_new3 (w : World) (o1 o2 o3 : Obj) : Below w.heap.size w (((w.alloc o1).alloc o2).alloc o3) := (below_new2 w o1 o2).alloc (by simp; omega) _
theorem heap1 {w w' : World} (o1 : Obj) (h : Below (w.heap.size + 1) (w.alloc o1) w') : w'.heap[w.heap.size]? = some o1 := (h.block _ (by omega)).trans (heap_alloc_new w o1)
theorem heap2 {w w' : World} (o1 o2 : Obj) (h : Below (w.heap.size + 2) ((w.alloc o1).alloc o2) w') : w'.heap[w.heap.size]? = some o1 ∧ w'.heap[w.heap.size + 1]? = some o2 := by
  refine ⟨(h.block _ (by omega)).trans ((Below.heap_alloc _ _ _ (by simp)).trans (heap_alloc_new w o1)), (h.block _ (by omega)).trans ?_⟩
  have := heap_alloc_new (w.alloc o1) o2
  simpa using this
theorem heap3 {w w' : World} (o1 o2 o3 : Obj) (h : Below (w.heap.size + 3) (((w.alloc o1).alloc o2).alloc o3) w') : w'.heap[w.heap.size]? = some o1 ∧ w'.heap[w.heap.size + 1]? = some o2 ∧ w'.heap[w.heap.size + 1 + 1]? = some o3 := by
  have h2 := heap2 o1 o2 (Below.refl (w.heap.size + 2) ((w.alloc o1).alloc o2))
  refine ⟨(h.block _ (by omega)).trans ((Below.heap_alloc _ _ _ (by simp; omega)).trans h2.1), (h.block _ (by omega)).trans ((Below.heap_alloc _ _ _ (by simp)).trans h2.2), (h.block _ (by omega)).trans ?_⟩
  have := heap_alloc_new ((w.alloc o1).alloc o2) o3
  simpa using this
end Go.Proofs.YtfaehioeepolhaaGreat
