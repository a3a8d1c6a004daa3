import Derived.Test.YtfaehioeepolhaaGreatJCrashReceiver14
import Derived.Test.YtfaehioeepolhaaGreatJCrashReceiver1
namespace Go.Proofs.YtfaehioeepolhaaGreat
open Go.ChangeShapes Go.WideShapes Go.ChangeAt Go.RowKit
theorem opens_Pkt {H : Type} (enc : TypeId × Value → H) (W : World) : Opens enc Tryz.prog W 159 cPkt :=
  opens_struct6 Tryz.underlying159 rfl rfl rfl rfl rfl rfl rfl (by kernel_rfl) (by kernel_rfl) (by kernel_rfl) (by kernel_rfl) (by kernel_rfl) (by kernel_rfl) (by kernel_rfl) (opens_int Tryz.underlying3) (opens_int Tryz.underlying3) (opens_int Tryz.underlying3) (opens_int Tryz.underlying3) (opens_bool Tryz.underlying4) (opens_slice Tryz.underlying23 (by kernel_rfl) (by decide) (opens_byte Tryz.underlying5) 5) (fun x y z u v s => ⟨x, y, z, u, v, s⟩) (fun _ _ _ _ _ _ => rfl)
end Go.Proofs.YtfaehioeepolhaaGreat
namespace Go.Proofs.YtfaehioeepolhaaGreat
open Go.RowKit
def setAll : List Value → Nat → List Value → List Value
  | vs, _, [] => vs
  | vs, off, c :: cs => setAll (vs.set off c) (off + 1) cs
def wsetAll : World → Nat → Nat → List Value → World
  | w, _, _, [] => w
  | w, g, off, c :: cs => wsetAll (w.setCell ⟨g, off, none⟩ c) g (off + 1) cs
theorem setAll_at : ∀ (cs : List Value) (vs : List Value) (off i : Nat), off + cs.length ≤ vs.length → (setAll vs off cs)[i]? = if off ≤ i ∧ i < off + cs.length then cs[i - off]? else vs[i]?
  | [], vs, off, i, _ => by simp [setAll]; omega
  | c :: cs, vs, off, i, h => by
    simp only [List.length_cons] at h ⊢
    rw [setAll, setAll_at cs (vs.set off c) (off + 1) i (by simp; omega), List.getElem?_set]
    by_cases h1 : i < off
    · rw [if_neg (by omega), if_neg (by omega), if_neg (by omega)]
    · by_cases h2 : i = off
      · subst h2
        rw [if_neg (by omega), if_pos rfl, if_pos (by omega), if_pos (by omega)]; simp
      · by_cases h3 : i < off + (cs.length + 1)
        · rw [if_pos (by omega), if_pos (by omega), show i - off = (i - (off + 1)) + 1 from by omega, List.getElem?_cons_succ]
        · rw [if_neg (by omega), if_neg (by omega), if_neg (by omega)]
theorem wsetAll_other : ∀ (cs : List Value) (w : World) (g off : Nat) {k : Nat}, k ≠ g → (wsetAll w g off cs).heap[k]? = w.heap[k]?
  | [], _, _, _, _, _ => rfl
  | c :: cs, w, g, off, _, h => by rw [wsetAll, wsetAll_other cs _ g _ h, Below.heap_setCell _ _ _ _ h]
theorem wsetAll_size : ∀ (cs : List Value) (w : World) (g off : Nat), (wsetAll w g off cs).heap.size = w.heap.size
  | [], _, _, _ => rfl
  | c :: cs, w, g, off => by rw [wsetAll, wsetAll_size cs]; simp
theorem wsetAll_below {B : Nat} {a : World} : ∀ (cs : List Value) (w : World) (g off : Nat), Below B a w → B ≤ g → Below B a (wsetAll w g off cs)
  | [], _, _, _, h, _ => h
  | c :: cs, _, g, off, h, hg => wsetAll_below cs _ g _ (h.setCell (p := ⟨g, off, none⟩) hg c) hg
theorem wsetAll_owns {B n s g cap : Nat} {e : TypeId} : ∀ (cs : List Value) (w : World) (vs : List Value) (off : Nat), w.ownsRow B e s (.slice (some ⟨g, 0, none⟩) n cap) n vs → (wsetAll w g off cs).ownsRow B e s (.slice (some ⟨g, 0, none⟩) n cap) n (setAll vs off cs)
  | [], _, _, _, h => h
  | c :: cs, _, _, off, h => wsetAll_owns cs _ _ (off + 1) (World.ownsRow.stored h off c).1
theorem part_all {vs cs : List Value} {n m k : Nat} (hv : vs.length = m * n) (hk : k < m) (hc : cs.length = n) : part (setAll vs (k * n) cs) n k = cs := by
  have h : (k + 1) * n ≤ m * n := Nat.mul_le_mul_right _ hk
  rw [Nat.add_mul, Nat.one_mul] at h
  apply List.ext_getElem?
  intro j
  by_cases hj : j < n
  · rw [part_at hj, setAll_at _ _ _ _ (by omega), if_pos (by omega), show k * n + j - k * n = j from by omega]
  · rw [List.getElem?_eq_none (by simp [part]; omega), List.getElem?_eq_none (by omega)]
theorem part_allo {vs cs : List Value} {n m k i : Nat} (hv : vs.length = m * n) (hk : k < m) (hc : cs.length = n) (hne : i ≠ k) : part (setAll vs (k * n) cs) n i = part vs n i := by
  have h : (k + 1) * n ≤ m * n := Nat.mul_le_mul_right _ hk
  rw [Nat.add_mul, Nat.one_mul] at h
  apply List.ext_getElem?
  intro j
  by_cases hj : j < n
  · rw [part_at hj, part_at hj, setAll_at _ _ _ _ (by omega), if_neg]
    intro ⟨h1, h2⟩
    rcases Nat.lt_or_gt_of_ne hne with h3 | h3
    · have : (i + 1) * n ≤ k * n := Nat.mul_le_mul_right _ h3
      rw [Nat.add_mul, Nat.one_mul] at this; omega
    · have : (k + 1) * n ≤ i * n := Nat.mul_le_mul_right _ h3
      rw [Nat.add_mul, Nat.one_mul] at this; omega
  · rw [List.getElem?_eq_none (by simp [part]; omega), List.getElem?_eq_none (by simp [part]; omega)]
def MadeN {α : Type} (n : Nat) (c : Cod α) (e : TypeId) (w wr : World) (xs : List α) (k : Nat) : Prop :=
  ∃ vs bss, wr.ownsRow w.heap.size e n (.slice (some ⟨w.heap.size, 0, none⟩) xs.length xs.length) xs.length vs ∧ bss.length = k ∧ (∀ i, (h : i < xs.length) → (h2 : i < bss.length) → c.own wr xs[i] (part vs n i) bss[i]) ∧ (∀ b ∈ List.flatten bss, w.heap.size < b ∧ b < wr.heap.size) ∧ (List.flatten bss).Nodup
theorem MadeN.row {α : Type} {n : Nat} {c : Cod α} {e : TypeId} {w wr w2 : World} {xs : List α} {k : Nat} (hm : MadeN n c e w wr xs k) (b2 : Below wr.heap.size wr w2) :
    ∃ vs : List Value, vs.length = xs.length * n ∧ w2.ownsRow w.heap.size e n (.slice (some ⟨w.heap.size, 0, none⟩) xs.length xs.length) xs.length vs := by
  obtain ⟨vs, bss, how, _⟩ := hm
  exact ⟨vs, how.1, ownsRow_kept how (fun b hb => b2.block b (World.ownsRow.lt how b hb).2)⟩
theorem MadeN.step {α : Type} {n : Nat} {c : Cod α} {e : TypeId} {w wr w2 : World} {xs : List α} {k : Nat} {cs : List Value} {bs : List Nat} (hn : c.n = n) (hm : MadeN n c e w wr xs k) (hk : k < xs.length)
    (b2 : Below wr.heap.size wr w2) (o2 : c.own w2 xs[k] cs bs) (hbs : ∀ b ∈ bs, wr.heap.size ≤ b) (hnd : bs.Nodup) :
    MadeN n c e w (wsetAll w2 w.heap.size (k * n) cs) xs (k + 1) := by
  obtain ⟨vs, bss, how, hbl, hown, hin, hnn⟩ := hm
  have hvl : vs.length = xs.length * n := how.1
  have hB : w.heap.size < wr.heap.size := (World.ownsRow.lt how w.heap.size rfl).2
  have how2 := ownsRow_kept how (fun b hb => b2.block b (World.ownsRow.lt how b hb).2)
  have hcl : cs.length = n := by rw [← hn]; exact c.len (c.ownRd o2)
  have hlt2 := c.lt o2
  have keep : ∀ j, j ≠ w.heap.size → (wsetAll w2 w.heap.size (k * n) cs).heap[j]? = w2.heap[j]? := fun j hj => wsetAll_other cs w2 _ _ hj
  refine ⟨_, bss ++ [bs], wsetAll_owns cs w2 vs (k * n) how2, by simp [hbl], ?_, ?_, ?_⟩
  · intro i h1 h2
    by_cases ei : i = k
    · subst ei
      have hg : (bss ++ [bs])[i] = bs := by simp [← hbl]
      rw [hg, part_all hvl hk hcl]
      exact c.kept o2 (fun b hb => keep b (by have := hbs b hb; omega))
    · have h3 : i < bss.length := by simp at h2; omega
      have hg : (bss ++ [bs])[i] = bss[i] := List.getElem_append_left h3
      rw [hg, part_allo hvl hk hcl ei]
      have hmem : ∀ b ∈ bss[i], b ∈ List.flatten bss := fun b hb => List.mem_flatten.2 ⟨_, List.getElem_mem h3, hb⟩
      exact c.kept (hown i h1 h3) (fun b hb => (keep b (by have := hin b (hmem b hb); omega)).trans (b2.block b (hin b (hmem b hb)).2))
  · intro b hb
    rw [wsetAll_size]
    simp only [List.flatten_append, List.flatten_cons, List.flatten_nil, List.append_nil, List.mem_append] at hb
    rcases hb with hb | hb
    · have := hin b hb; have := b2.size; omega
    · have := hbs b hb; have := hlt2 b hb; omega
  · simp only [List.flatten_append, List.flatten_cons, List.flatten_nil, List.append_nil]
    exact List.nodup_append.2 ⟨hnn, hnd, fun a ha b hb e => by have := (hin a ha).2; have := hbs b hb; omega⟩
theorem MadeN.done {α : Type} {n : Nat} {c : Cod α} {e : TypeId} {w wr : World} {xs : List α} (hn : c.n = n) (hm : MadeN n c e w wr xs xs.length) :
    ∃ bs, OwnSl c e wr xs (.slice (some ⟨w.heap.size, 0, none⟩) xs.length xs.length) bs ∧ (∀ b ∈ bs, w.heap.size ≤ b) ∧ bs.Nodup := by
  subst hn
  obtain ⟨vs, bss, how, hbl, hown, hin, hnn⟩ := hm
  refine ⟨w.heap.size :: List.flatten bss, .inr ⟨w.heap.size, xs.length, vs, bss, rfl, ⟨how.1, how.2.imp id (fun ⟨g, cap, cur, h1, _, h3⟩ => ⟨g, cap, cur, h1, Nat.zero_le _, h3⟩)⟩, rfl, hbl, fun i h1 h2 => hown i h1 h2⟩, ?_, ?_⟩
  · intro b hb
    rcases List.mem_cons.1 hb with rfl | hb
    · exact Nat.le_refl _
    · exact Nat.le_of_lt (hin b hb).1
  · exact List.nodup_cons.2 ⟨fun h => by have := (hin _ h).1; omega, hnn⟩
theorem wset6 (w : World) (g off : Nat) (x0 x1 x2 x3 x4 x5 : Value) : wsetAll w g off [x0, x1, x2, x3, x4, x5] = ((((((w.setCell ⟨g, off, none⟩ x0).setCell ⟨g, off + 1, none⟩ x1).setCell ⟨g, off + 2, none⟩ x2).setCell ⟨g, off + 3, none⟩ x3).setCell ⟨g, off + 4, none⟩ x4).setCell ⟨g, off + 5, none⟩ x5) := by simp only [wsetAll, Nat.add_assoc, Nat.reduceAdd]
theorem RdSl.atN {α : Type} {c : Cod α} {w : World} {xs : List α} {a : Option Addr} {n cap k : Nat} (h : RdSl c w xs (.slice a n cap)) (hk : k < xs.length) :
    ∃ b off cs, a = some ⟨b, off, none⟩ ∧ c.rd w xs[k] cs ∧ ∀ j, j < c.n → w.cell? ⟨b, off + (k * c.n + j), none⟩ = cs[j]? := by
  obtain ⟨a', cap', e', _, _, _, h4⟩ := h
  simp only [Value.slice.injEq] at e'
  obtain ⟨rfl, _, rfl⟩ := e'
  rcases h4 with h0 | ⟨b, off, rfl, hat⟩
  · subst h0; simp at hk
  · obtain ⟨es, hes, hcs⟩ := hat k hk
    have h3 := c.len hes
    exact ⟨b, off, es, rfl, hes, fun j hj => by rw [hcs j (by omega), List.getElem?_eq_getElem]⟩
end Go.Proofs.YtfaehioeepolhaaGreat
