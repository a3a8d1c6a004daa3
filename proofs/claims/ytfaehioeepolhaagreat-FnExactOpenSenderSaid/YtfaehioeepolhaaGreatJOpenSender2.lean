import Derived.Test.YtfaehioeepolhaaGreatJOpenSender1
import Derived.ProofKit
import Derived.OpenShut
import Derived.ShutString
import Derived.ChangeOld
import Derived.Below
import Derived.Deep.Grids
import Derived.Deep.Slices
import Derived.ChangeArms
import Derived.Test.YtfaehioeepolhaaGreatJOpenSender0
namespace Go.Proofs.YtfaehioeepolhaaGreat
open Go.ChangeShapes Go.WideShapes Go.ChangeAt Go.RowKit
section
variable {H : Type} (enc : TypeId × Value → H) (P : Program) (w : World)
def Opens {α : Type} (t : TypeId) (c : Cod α) : Prop :=
  ∀ fuel cs x, DataW.trod enc P w 0 (fun _ => true) true fuel t cs = some x → ∃ y, c.rd w y cs
variable {enc P w}
theorem opens_int {t : TypeId} (ht : P.underlying t = some (.int .i64)) : Opens enc P w t cInt := by
  intro fuel cs x h
  obtain ⟨n, rfl, _, hw⟩ := DataW.trod_int ht h
  exact ⟨n, rfl, bounds_i64 hw⟩
theorem opens_byte {t : TypeId} (ht : P.underlying t = some (.int .u8)) : Opens enc P w t cByte := by
  intro fuel cs x h
  obtain ⟨n, rfl, _, hw⟩ := DataW.trod_int ht h
  have hb := bounds_u8 hw
  refine ⟨n.toNat, ?_, by omega⟩
  rw [show ((n.toNat : Nat) : Int) = n from by omega]
theorem addr_add (b off i : Nat) : (⟨b, off, none⟩ : Addr).add i = ⟨b, off + i, none⟩ := by unfold Addr.add; split <;> simp_all
theorem opens_slice {α : Type} {t e : TypeId} {c : Cod α} (ht : P.underlying t = some (.slice e)) (hn : P.cellsOf e = c.n) (hp : 0 < c.n) (he : Opens enc P w e c) (e2 : TypeId) : Opens enc P w t (cSl c e2) := by
  intro fuel cs x h
  rcases Go.Deep.open_slice ht h with ⟨rfl, _⟩ | ⟨a, len, cap, m, n, D, Pl, rfl, _, hl, hm, hmm, _, hx⟩
  · exact ⟨[], _, rfl, none, 0, rfl, Nat.le_refl _, Nat.zero_le _, fun _ => rfl, .inl rfl⟩
  · simp only [if_true] at hmm
    subst hmm
    have each : ∀ i, i < len → ∃ y : α, ∃ cs', c.rd w y cs' ∧ ∀ j, (h : j < cs'.length) → w.cell? ((a.add (i * c.n)).add j) = some cs'[j] := by
      intro i hi
      obtain ⟨cs', h1, h2⟩ := hx i (by omega)
      obtain ⟨y, hy⟩ := he _ _ _ h2
      obtain ⟨_, h4, h5⟩ := World.cells?_some h1
      rw [hn] at h4 h5
      refine ⟨y, cs', hy, fun j hj => ?_⟩
      rw [h5 j (by omega), List.getElem?_eq_getElem hj]
    by_cases h0 : len = 0
    · subst h0
      exact ⟨[], _, rfl, some a, m, rfl, Nat.zero_le _, hm, (fun h => by cases h), .inl rfl⟩
    · obtain ⟨y0, _, _⟩ := each 0 (by omega)
      have : Inhabited α := ⟨y0⟩
      obtain ⟨Y, hY⟩ := Go.Deep.choose_lt each
      obtain ⟨b, off, spot⟩ := a
      have hspot : spot = none := by
        obtain ⟨cs', h1, h2⟩ := hY 0 (by omega)
        have h3 := h2 0 (by rw [c.len h1]; exact hp)
        simpa [Addr.add] using World.cell?_spot h3
      subst hspot
      refine ⟨(List.range len).map Y, _, rfl, some ⟨b, off, none⟩, m, by simp, by simpa using hl, hm, (fun h => by cases h), .inr ⟨b, off, rfl, fun i hi => ?_⟩⟩
      have hi' : i < len := by simpa using hi
      obtain ⟨cs', h1, h2⟩ := hY i hi'
      refine ⟨cs', by simpa using h1, fun j hj => ?_⟩
      have h3 := h2 j hj
      rw [addr_add, addr_add, Nat.add_assoc] at h3
      exact h3
theorem opens_struct3 {α β γ δ : Type} {t : TypeId} {fs : Array Field} {f0 f1 f2 : Field} {a : Cod α} {b : Cod β} {c : Cod γ} {f : δ → α × β × γ} (ht : P.underlying t = some (.struct fs)) (hf : fs = #[f0, f1, f2])
    (o0 : f0.offset = 0) (o1 : f1.offset = a.n) (o2 : f2.offset = a.n + b.n) (n0 : P.cellsOf f0.type = a.n) (n1 : P.cellsOf f1.type = b.n) (n2 : P.cellsOf f2.type = c.n) (hs : P.cellsOf t = a.n + (b.n + c.n))
    (h0 : Opens enc P w f0.type a) (h1 : Opens enc P w f1.type b) (h2 : Opens enc P w f2.type c) (inv : α → β → γ → δ) (hi : ∀ x y z, f (inv x y z) = (x, y, z)) : Opens enc P w t (cMap (cPair a (cPair b c)) f) := by
  subst hf
  intro fuel cs x h
  obtain ⟨xs, k, _, _, hl, hxl, hfx⟩ := DataW.trod_struct ht h
  have g0 := hfx 0 f0 rfl
  have g1 := hfx 1 f1 rfl
  have g2 := hfx 2 f2 rfl
  match xs, hxl with
  | [y0, y1, y2], _ =>
    obtain ⟨z0, r0⟩ := h0 _ _ _ g0
    obtain ⟨z1, r1⟩ := h1 _ _ _ g1
    obtain ⟨z2, r2⟩ := h2 _ _ _ g2
    refine ⟨inv z0 z1 z2, ?_⟩
    show (cPair a (cPair b c)).rd w (f (inv z0 z1 z2)) cs
    rw [hi]
    rw [o0, n0, List.drop_zero] at r0
    rw [o1, n1] at r1
    rw [o2, n2, List.take_of_length_le (by simp; omega), ← List.drop_drop] at r2
    exact ⟨_, _, (List.take_append_drop a.n cs).symm, r0, _, _, (List.take_append_drop b.n (cs.drop a.n)).symm, r1, r2⟩
theorem Opens.sl {α : Type} {t : TypeId} {c : Cod (List α)} {v : Value} {d : DataW H} {p : List MemPlace} (ho : Opens enc P w t c) (hv : ∃ a len cap, v = .slice a len cap) (h : DataW.Trod enc P w 0 (fun _ => true) true t v d p) : ∃ xs, c.rd w xs [v] := by
  obtain ⟨a, len, cap, rfl⟩ := hv
  obtain ⟨fuel, hf⟩ := h
  exact ho _ _ _ hf
end
end Go.Proofs.YtfaehioeepolhaaGreat
namespace Go.Proofs.YtfaehioeepolhaaGreat
open Go.RowKit
structure PF where
  name : List Nat
  kind : Int
  width : Int
def cField : Cod PF := cMap (cPair (cSl cByte 5) (cPair cInt cInt)) fun f => (f.name, f.kind, f.width)
theorem cField_rd {w : World} {f : PF} {cs : List Value} (h : cField.rd w f cs) : ∃ v, cs = [v, .int .i64 f.kind, .int .i64 f.width] ∧ RdSl cByte w f.name v ∧ IntIn f.kind ∧ IntIn f.width := by
  obtain ⟨c1, c2, rfl, ⟨v, rfl, h1⟩, c3, c4, rfl, ⟨rfl, h2⟩, rfl, h3⟩ := h
  exact ⟨v, rfl, h1, h2, h3⟩
theorem cField_mk {w : World} {f : PF} {v : Value} (h1 : RdSl cByte w f.name v) (h2 : IntIn f.kind) (h3 : IntIn f.width) : cField.rd w f [v, .int .i64 f.kind, .int .i64 f.width] :=
  ⟨[v], _, rfl, ⟨v, rfl, h1⟩, _, _, rfl, ⟨rfl, h2⟩, rfl, h3⟩
theorem cField_own {w : World} {f : PF} {v : Value} {bs : List Nat} (h1 : OwnSl cByte 5 w f.name v bs) (h2 : IntIn f.kind) (h3 : IntIn f.width) : cField.own w f [v, .int .i64 f.kind, .int .i64 f.width] bs :=
  ⟨[v], _, bs, [], rfl, by simp, ⟨v, rfl, h1⟩, _, _, [], [], rfl, rfl, ⟨rfl, h2, rfl⟩, rfl, h3, rfl⟩
theorem cField_owned {w : World} {f : PF} {cs : List Value} {bs : List Nat} (h : cField.own w f cs bs) : ∃ v, cs = [v, .int .i64 f.kind, .int .i64 f.width] ∧ OwnSl cByte 5 w f.name v bs ∧ IntIn f.kind ∧ IntIn f.width := by
  obtain ⟨c1, c2, b1, b2, rfl, rfl, ⟨v, rfl, h1⟩, c3, c4, b3, b4, rfl, rfl, ⟨rfl, h2, rfl⟩, rfl, h3, rfl⟩ := h
  exact ⟨v, rfl, by simpa using h1, h2, h3⟩
theorem cField_shape {w : World} {f : PF} {cs : List Value} (h : cField.rd w f cs) : ∃ a cap, cs = [.slice a f.name.length cap, .int .i64 f.kind, .int .i64 f.width] := by
  obtain ⟨v, rfl, ⟨a, cap, rfl, _⟩, _⟩ := cField_rd h
  exact ⟨a, cap, rfl⟩
end Go.Proofs.YtfaehioeepolhaaGreat
namespace Go.Proofs.YtfaehioeepolhaaGreat
open Go.ChangeShapes Go.WideShapes Go.ChangeAt Go.RowKit
theorem opens_bytes {H : Type} (enc : TypeId × Value → H) (W : World) : Opens enc Tryz.prog W 23 (cSl cByte 5) :=
  opens_slice Tryz.underlying23 (by kernel_rfl) (by decide) (opens_byte Tryz.underlying5) _
theorem opens_Field {H : Type} (enc : TypeId × Value → H) (W : World) : Opens enc Tryz.prog W 96 cField :=
  opens_struct3 Tryz.underlying96 rfl rfl rfl rfl (by kernel_rfl) (by kernel_rfl) (by kernel_rfl) (by kernel_rfl) (opens_bytes enc W) (opens_int Tryz.underlying3) (opens_int Tryz.underlying3) (fun x y z => ⟨x, y, z⟩) (fun _ _ _ => rfl)
theorem opens_FieldS {H : Type} (enc : TypeId × Value → H) (W : World) : Opens enc Tryz.prog W 26 (cSl cField 98) :=
  opens_slice Tryz.underlying26 (by kernel_rfl) (by decide) (opens_Field enc W) _
def FieldsIn (w : World) (a : Option Addr) (len cap : Nat) : Prop := ∃ xs : List PF, len = xs.length ∧ RdSl cField w xs (.slice a len cap)
theorem fieldsIn_of {H : Type} {enc : TypeId × Value → H} {W : World} {a : Option Addr} {len cap : Nat} {d : DataW H} {p : List MemPlace} (h : DataW.Trod enc Tryz.prog W 0 (fun _ => true) true 26 (.slice a len cap) d p) : FieldsIn W a len cap := by
  obtain ⟨xs, v, e, hv⟩ := Opens.sl (opens_FieldS enc W) ⟨a, len, cap, rfl⟩ h
  simp at e
  subst e
  obtain ⟨a', cap', e, r⟩ := id hv
  simp at e
  obtain ⟨_, rfl, _⟩ := e
  exact ⟨xs, rfl, hv⟩
end Go.Proofs.YtfaehioeepolhaaGreat
namespace Go.Proofs.YtfaehioeepolhaaGreat
open Go.RowKit
def RdSS (w : World) (a : Option Addr) (xss : List (List Nat)) : Prop :=
  ∃ vs : List Value, vs.length = xss.length ∧ Rd w a vs ∧ ∀ i, (h : i < xss.length) → ∃ a' c', vs[i]? = some (.slice a' xss[i].length c') ∧ Rd w a' (byt xss[i]) ∧ (a' = none → c' = 0)
def Inner (w : World) (B E : Nat) (o : Option Value) (ys : List Nat) : Prop :=
  ∃ g c, o = some (.slice (some ⟨g, 0, none⟩) ys.length c) ∧ g < E ∧ w.ownsRow B 5 1 (.slice (some ⟨g, 0, none⟩) ys.length c) ys.length (byt ys)
def OwnSS (w : World) (B E : Nat) (v : Value) (xss : List (List Nat)) : Prop :=
  ∃ vs : List Value, w.ownsRow B 23 1 v xss.length vs ∧ ∀ i, (h : i < xss.length) → Inner w B E vs[i]? xss[i]
theorem Inner.later {w w' : World} {B E : Nat} {o : Option Value} {ys : List Nat} (h : Inner w B E o ys) (hb : Below w.heap.size w w') : Inner w' B E o ys := by
  obtain ⟨g, c, e, hE, ho⟩ := h
  exact ⟨g, c, e, hE, own_later ho hb⟩
theorem OwnSS.later {w w' : World} {B E : Nat} {v : Value} {xss : List (List Nat)} (h : OwnSS w B E v xss) (hb : Below w.heap.size w w') : OwnSS w' B E v xss := by
  obtain ⟨vs, ho, hi⟩ := h
  exact ⟨vs, own_later ho hb, fun i h => (hi i h).later hb⟩
theorem RdSS.later {w w' : World} {a : Option Addr} {xss : List (List Nat)} (h : RdSS w a xss) (hb : Below w.heap.size w w') : RdSS w' a xss := by
  obtain ⟨vs, hl, hr, hi⟩ := h
  refine ⟨vs, hl, hr.later hb, fun i h => ?_⟩
  obtain ⟨a', c', e, r, z⟩ := hi i h
  exact ⟨a', c', e, r.later hb, z⟩
theorem OwnSS.rd {w : World} {B E n cap : Nat} {a : Option Addr} {xss : List (List Nat)} (h : OwnSS w B E (.slice a n cap) xss) (hn : xss.length = n) : RdSS w a xss := by
  obtain ⟨vs, ho, hi⟩ := h
  have hl : vs.length = xss.length := by have := ho.1; omega
  subst hn
  refine ⟨vs, hl, rd_at ho, fun i h => ?_⟩
  obtain ⟨g, c, e, _, r⟩ := hi i h
  exact ⟨_, c, e, rd_row r, fun h => by cases h⟩
theorem RdSS.at_ {w : World} {a : Option Addr} {xss : List (List Nat)} (h : RdSS w a xss) {k : Nat} (hk : k < xss.length) :
    ∃ b off a' c', a = some ⟨b, off, none⟩ ∧ w.cell? ⟨b, off + k, none⟩ = some (.slice a' xss[k].length c') ∧ Rd w a' (byt xss[k]) ∧ (a' = none → c' = 0) := by
  obtain ⟨vs, hl, hr, hi⟩ := h
  obtain ⟨a', c', e, r, z⟩ := hi k hk
  rcases hr with h0 | ⟨b, off, rfl, hc⟩
  · subst h0; simp at hl; omega
  · refine ⟨b, off, a', c', rfl, ?_, r, z⟩
    obtain ⟨h1, h2⟩ := List.getElem?_eq_some_iff.1 e
    rw [hc k h1, h2]
structure Fr (B E : Nat) (w w' : World) : Prop where
  os : w'.os = w.os
  tape : w'.tape = w.tape
  output : w'.output = w.output
  size : w.heap.size ≤ w'.heap.size
  block : ∀ k, k < w.heap.size → (k < B ∨ E ≤ k) → w'.heap[k]? = w.heap[k]?
theorem Fr.refl (B E : Nat) (w : World) : Fr B E w w := ⟨rfl, rfl, rfl, Nat.le_refl _, fun _ _ _ => rfl⟩
theorem Fr.grown {B E g : Nat} {a w w' : World} (h : Fr B E a w) (hg : w.grownBy w' (some g)) (h1 : B ≤ g) (h2 : g < E) : Fr B E a w' :=
  ⟨hg.os.trans h.os, hg.tape.trans h.tape, hg.output.trans h.output, Nat.le_trans h.size hg.size, fun k hk hc => (hg.block k (Nat.lt_of_lt_of_le hk h.size) (fun e => by simp at e; omega)).trans (h.block k hk hc)⟩
def tot (xss : List (List Nat)) : Nat := (xss.map List.length).sum
theorem tot_snoc (xss : List (List Nat)) (k : Nat) (h : k < xss.length) : tot (xss.take (k + 1)) = tot (xss.take k) + xss[k].length := by
  unfold tot
  rw [List.take_succ_eq_append_getElem h, List.map_append, List.sum_append]
  simp
theorem tot_take (xss : List (List Nat)) (k : Nat) : tot (xss.take k) ≤ tot xss := by
  unfold tot
  conv => rhs; rw [← List.take_append_drop k xss]
  rw [List.map_append, List.sum_append]; omega
theorem len_le_tot (xss : List (List Nat)) (k : Nat) (h : k < xss.length) : xss[k].length ≤ tot xss := by
  have h1 := tot_snoc xss k h
  have h2 := tot_take xss (k + 1)
  omega
end Go.Proofs.YtfaehioeepolhaaGreat
namespace Go.Proofs.YtfaehioeepolhaaGreat
open Go.RowKit
theorem RdSl.at1 {α : Type} {c : Cod α} {w : World} {xs : List α} {a : Option Addr} {n cap k : Nat} (h : RdSl c w xs (.slice a n cap)) (hn : c.n = 1) (hk : k < xs.length) :
    ∃ b off v, a = some ⟨b, off, none⟩ ∧ c.rd w xs[k] [v] ∧ w.cell? ⟨b, off + k, none⟩ = some v := by
  obtain ⟨a', cap', e', _, _, _, h4⟩ := h
  simp only [Value.slice.injEq] at e'
  obtain ⟨rfl, _, rfl⟩ := e'
  rcases h4 with h0 | ⟨b, off, rfl, hat⟩
  · subst h0; simp at hk
  · obtain ⟨es, hes, hcs⟩ := hat k hk
    have h3 := c.len hes
    rw [hn] at h3 hcs
    match es, h3 with
    | [x], _ =>
      have d0 := hcs 0 (by simp)
      exact ⟨b, off, x, rfl, hes, by simpa using d0⟩
theorem part_set1 {vs : List Value} {k : Nat} {x : Value} (h : k < vs.length) : part (vs.set k x) 1 k = [x] := by
  apply List.ext_getElem?
  intro t
  by_cases ht : t < 1
  · have : t = 0 := by omega
    subst this
    rw [part_at (by omega), Nat.mul_one, Nat.add_zero, List.getElem?_set_self h]; rfl
  · rw [List.getElem?_eq_none (by simp [part]; omega), List.getElem?_eq_none (by simp; omega)]
def Made1 {α : Type} (c : Cod α) (e : TypeId) (w wr : World) (xs : List α) (k : Nat) : Prop :=
  ∃ vs bss, wr.ownsRow w.heap.size e 1 (.slice (some ⟨w.heap.size, 0, none⟩) xs.length xs.length) xs.length vs ∧ bss.length = k ∧ (∀ i, (h : i < xs.length) → (h2 : i < bss.length) → c.own wr xs[i] (part vs 1 i) bss[i]) ∧ (∀ b ∈ List.flatten bss, w.heap.size < b ∧ b < wr.heap.size) ∧ (List.flatten bss).Nodup
theorem Made1.row {α : Type} {c : Cod α} {e : TypeId} {w wr w2 : World} {xs : List α} {k : Nat} (hm : Made1 c e w wr xs k) (b2 : Below wr.heap.size wr w2) :
    ∃ vs : List Value, vs.length = xs.length ∧ w2.ownsRow w.heap.size e 1 (.slice (some ⟨w.heap.size, 0, none⟩) xs.length xs.length) xs.length vs := by
  obtain ⟨vs, bss, how, _⟩ := hm
  exact ⟨vs, by have := how.1; omega, ownsRow_kept how (fun b hb => b2.block b (World.ownsRow.lt how b hb).2)⟩
theorem Made1.step {α : Type} {c : Cod α} {e : TypeId} {w wr w2 : World} {xs : List α} {k : Nat} {x : Value} {bs : List Nat} (hm : Made1 c e w wr xs k) (hk : k < xs.length)
    (b2 : Below wr.heap.size wr w2) (o2 : c.own w2 xs[k] [x] bs) (hbs : ∀ b ∈ bs, wr.heap.size ≤ b) (hnd : bs.Nodup) :
    Made1 c e w (w2.setCell ⟨w.heap.size, k, none⟩ x) xs (k + 1) := by
  obtain ⟨vs, bss, how, hbl, hown, hin, hnn⟩ := hm
  have hvl : vs.length = xs.length := by have := how.1; omega
  have hB : w.heap.size < wr.heap.size := (World.ownsRow.lt how w.heap.size rfl).2
  have how2 := ownsRow_kept how (fun b hb => b2.block b (World.ownsRow.lt how b hb).2)
  have s1 := (World.ownsRow.stored how2 k x).1
  have hlt2 := c.lt o2
  have keep : ∀ j, j ≠ w.heap.size → (w2.setCell ⟨w.heap.size, k, none⟩ x).heap[j]? = w2.heap[j]? := fun j hj => Below.heap_setCell _ _ _ _ hj
  refine ⟨_, bss ++ [bs], s1, by simp [hbl], ?_, ?_, ?_⟩
  · intro i h1 h2
    by_cases e : i = k
    · subst e
      have hg : (bss ++ [bs])[i] = bs := by simp [← hbl]
      rw [hg, part_set1 (by omega)]
      exact c.kept o2 (fun b hb => keep b (by have := hbs b hb; omega))
    · have h3 : i < bss.length := by simp at h2; omega
      have hg : (bss ++ [bs])[i] = bss[i] := List.getElem_append_left h3
      have := part_other (vs := vs) (n := 1) (i := i) (k := k) (j := 0) (u := x) (by omega) e
      rw [Nat.add_zero, Nat.mul_one] at this
      rw [hg, this]
      have hmem : ∀ b ∈ bss[i], b ∈ List.flatten bss := fun b hb => List.mem_flatten.2 ⟨_, List.getElem_mem h3, hb⟩
      exact c.kept (hown i h1 h3) (fun b hb => (keep b (by have := hin b (hmem b hb); omega)).trans (b2.block b (hin b (hmem b hb)).2))
  · intro b hb
    have hsz : (w2.setCell ⟨w.heap.size, k, none⟩ x).heap.size = w2.heap.size := by simp
    rw [hsz]
    simp only [List.flatten_append, List.flatten_cons, List.flatten_nil, List.append_nil, List.mem_append] at hb
    rcases hb with hb | hb
    · have := hin b hb; have := b2.size; omega
    · have := hbs b hb; have := hlt2 b hb; omega
  · simp only [List.flatten_append, List.flatten_cons, List.flatten_nil, List.append_nil]
    exact List.nodup_append.2 ⟨hnn, hnd, fun a ha b hb e => by have := (hin a ha).2; have := hbs b hb; omega⟩
theorem Made1.done {α : Type} {c : Cod α} {e : TypeId} {w wr : World} {xs : List α} (hn : c.n = 1) (hm : Made1 c e w wr xs xs.length) :
    ∃ bs, OwnSl c e wr xs (.slice (some ⟨w.heap.size, 0, none⟩) xs.length xs.length) bs ∧ (∀ b ∈ bs, w.heap.size ≤ b) ∧ bs.Nodup := by
  obtain ⟨vs, bss, how, hbl, hown, hin, hnn⟩ := hm
  refine ⟨w.heap.size :: List.flatten bss, .inr ⟨w.heap.size, xs.length, vs, bss, rfl, by rw [hn]; exact ⟨how.1, how.2.imp id (fun ⟨g, cap, cur, h1, _, h3⟩ => ⟨g, cap, cur, h1, Nat.zero_le _, h3⟩)⟩, rfl, hbl, fun i h1 h2 => by rw [hn]; exact hown i h1 h2⟩, ?_, ?_⟩
  · intro b hb
    rcases List.mem_cons.1 hb with rfl | hb
    · exact Nat.le_refl _
    · exact Nat.le_of_lt (hin b hb).1
  · exact List.nodup_cons.2 ⟨fun h => by have := (hin _ h).1; omega, hnn⟩
abbrev cSS : Cod (List Nat) := cSl cByte 5
theorem RdSl.row {w : World} {xss : List (List Nat)} {a : Option Addr} {n cap k : Nat} (h : RdSl cSS w xss (.slice a n cap)) (hk : k < xss.length) :
    ∃ b off a' c', a = some ⟨b, off, none⟩ ∧ w.cell? ⟨b, off + k, none⟩ = some (.slice a' xss[k].length c') ∧ RdSl cByte w xss[k] (.slice a' xss[k].length c') := by
  obtain ⟨b, off, v, rfl, ⟨v', e, hv⟩, hc⟩ := h.at1 rfl hk
  simp only [List.cons.injEq, and_true] at e
  subst e
  obtain ⟨a', c', rfl, r⟩ := id hv
  exact ⟨b, off, a', c', rfl, hc, hv⟩
theorem rdSl_ok {w : World} {xs : List Nat} {v : Value} (h : RdSl cByte w xs v) : ∀ x ∈ xs, x < 256 := by
  obtain ⟨a, cap, rfl, _, _, _, _, hb⟩ := h.bytes
  exact hb
theorem RdSl.allOK {w : World} {xss : List (List Nat)} {v : Value} (h : RdSl cSS w xss v) : ∀ t ∈ xss, ∀ x ∈ t, x < 256 := by
  obtain ⟨a, cap, rfl, _⟩ := id h
  intro t ht
  obtain ⟨k, hk, rfl⟩ := List.getElem_of_mem ht
  obtain ⟨b, off, a', c', _, _, r⟩ := h.row hk
  exact rdSl_ok r
theorem totL_tot (xss : List (List Nat)) : totL List.length xss = xss.length + tot xss := rfl
end Go.Proofs.YtfaehioeepolhaaGreat
