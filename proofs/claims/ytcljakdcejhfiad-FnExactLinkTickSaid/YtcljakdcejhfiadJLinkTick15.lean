import Derived.Test.YtcljakdcejhfiadJLinkTick4
import Derived.Test.YtcljakdcejhfiadJLinkTick11
import Derived.Test.YtcljakdcejhfiadJLinkTick14
import Derived.Test.YtcljakdcejhfiadJLinkTick0
namespace Go.Proofs.Ytcljakdcejhfiad
open Go.ChangeShapes Go.WideShapes Go.ChangeAt Go.RowKit
theorem opens_Sent {H : Type} (enc : TypeId × Value → H) (W : World) : Opens enc Try.prog W 138 cSnt :=
  opens_struct2 Try.underlying138 rfl rfl rfl (by kernel_rfl) (by kernel_rfl) (by kernel_rfl) (opens_Pkt enc W) (opens_int Try.underlying3) (fun x y => ⟨x, y⟩) (fun _ _ => rfl)
theorem opens_SentS {H : Type} (enc : TypeId × Value → H) (W : World) : Opens enc Try.prog W 38 (cSl cSnt 101) :=
  opens_slice Try.underlying38 (by kernel_rfl) (by decide) (opens_Sent enc W) _
def cOut : Cod PO := cMap (cPair cInt (cPair cInt (cPair cInt (cSl cSnt 101)))) fun s => (s.epoch, s.next, s.now, s.wait)
theorem opens_Out {H : Type} (enc : TypeId × Value → H) (W : World) : Opens enc Try.prog W 40 cOut :=
  opens_struct4 Try.underlying40 rfl rfl rfl rfl rfl (by kernel_rfl) (by kernel_rfl) (by kernel_rfl) (by kernel_rfl) (by kernel_rfl) (opens_int Try.underlying3) (opens_int Try.underlying3) (opens_int Try.underlying3) (opens_SentS enc W) (fun x y z u => ⟨x, y, z, u⟩) (fun _ _ _ _ => rfl)
def LinkOutIn (w : World) (v : Value) : Prop := ∃ (o : PO) (a : Option Addr) (c : Nat), v = .agg #[.int .i64 o.epoch, .int .i64 o.next, .int .i64 o.now, .slice a o.wait.length c] ∧ RdSl cSnt w o.wait (.slice a o.wait.length c) ∧ IntIn o.epoch ∧ IntIn o.next ∧ IntIn o.now
theorem linkOutIn_of {H : Type} {enc : TypeId × Value → H} {W : World} {v : Value} {d : DataW H} {p : List MemPlace} (hv : ∃ cs, v = .agg cs ∧ cs.size = Try.prog.cellsOf 40) (h : DataW.Trod enc Try.prog W 0 (fun _ => true) true 40 v d p) : LinkOutIn W v := by
  obtain ⟨s, cs, rfl, hr⟩ := Opens.st (opens_Out enc W) hv (by decide +kernel) h
  obtain ⟨_, _, rfl, ⟨rfl, i1⟩, _, _, rfl, ⟨rfl, i2⟩, _, _, rfl, ⟨rfl, i3⟩, u2, rfl, hu2⟩ := hr
  obtain ⟨b, d, rfl, -⟩ := id hu2
  exact ⟨s, b, d, rfl, hu2, i1, i2, i3⟩
end Go.Proofs.Ytcljakdcejhfiad
namespace Go.Proofs.Ytcljakdcejhfiad
open Go.RowKit
abbrev BoxO (w' : World) (g : Nat) (s : PO) (a : Option Addr) (c : Nat) : Prop :=
  w'.cell? ⟨g, 0, none⟩ = some (.int .i64 s.epoch) ∧ w'.cell? ⟨g, 1, none⟩ = some (.int .i64 s.next) ∧ w'.cell? ⟨g, 2, none⟩ = some (.int .i64 s.now) ∧ w'.cell? ⟨g, 3, none⟩ = some (.slice a s.wait.length c)
theorem boxO_later {wa wb : World} {g : Nat} {s : PO} {a : Option Addr} {c : Nat} (h : BoxO wa g s a c) (k : Below wa.heap.size wa wb) : BoxO wb g s a c :=
  ⟨(k.cell (World.block_lt_of_cell? _ _ h.1)).trans h.1, (k.cell (World.block_lt_of_cell? _ _ h.2.1)).trans h.2.1, (k.cell (World.block_lt_of_cell? _ _ h.2.2.1)).trans h.2.2.1, (k.cell (World.block_lt_of_cell? _ _ h.2.2.2)).trans h.2.2.2⟩
theorem boxO_of {w : World} {g : Nat} {e : TypeId} {s : PO} {a : Option Addr} {c : Nat} (hh : w.heap[g]? = some (.cells #[.int .i64 s.epoch, .int .i64 s.next, .int .i64 s.now, .slice a s.wait.length c] e (0, 0))) : BoxO w g s a c := by
  have p0 := cell_of_row _ _ 0 _ _ _ hh
  have p1 := cell_of_row _ _ 1 _ _ _ hh
  have p2 := cell_of_row _ _ 2 _ _ _ hh
  have p3 := cell_of_row _ _ 3 _ _ _ hh
  simp only [List.getElem?_toArray, List.getElem?_cons_zero, List.getElem?_cons_succ] at p0 p1 p2 p3
  exact ⟨p0, p1, p2, p3⟩
end Go.Proofs.Ytcljakdcejhfiad
namespace Go.Proofs.Ytcljakdcejhfiad
open Go.RowKit
def RdSS (w : World) (a : Option Addr) (xss : List (List Nat)) : Prop :=
  ∃ vs : List Value, vs.length = xss.length ∧ Rd w a vs ∧ ∀ i, (h : i < xss.length) → ∃ a' c', vs[i]? = some (.slice a' xss[i].length c') ∧ Rd w a' (byt xss[i]) ∧ (a' = none → c' = 0)
def Inner (w : World) (B E : Nat) (o : Option Value) (ys : List Nat) : Prop :=
  ∃ g c, o = some (.slice (some ⟨g, 0, none⟩) ys.length c) ∧ g < E ∧ w.ownsRow B 5 1 (.slice (some ⟨g, 0, none⟩) ys.length c) ys.length (byt ys)
def OwnSS (w : World) (B E : Nat) (v : Value) (xss : List (List Nat)) : Prop :=
  ∃ vs : List Value, w.ownsRow B 69 1 v xss.length vs ∧ ∀ i, (h : i < xss.length) → Inner w B E vs[i]? xss[i]
theorem Inner.later {w w' : World} {B E : Nat} {o : Option Value} {ys : List Nat} (h : Inner w B E o ys) (hb : Below w.heap.size w w') : Inner w' B E o ys := by
  obtain ⟨g, c, e, hE, ho⟩ := h
  exact ⟨g, c, e, hE, own_later ho hb⟩
theorem OwnSS.later {w w' : World} {B E : Nat} {v : Value} {xss : List (List Nat)} (h : OwnSS w B E v xss) (hb : Below w.heap.size w w') : OwnSS w' B E v xss := by
  obtain ⟨vs, ho, hi⟩ := h
  exact ⟨vs, own_later ho hb, fun i h => (hi i h).later hb⟩
theorem RdSS.later {w w' : World} {a : Option Addr} {xss : List (List Nat)} (h : RdSS w a xss) (hb : Below w.heap.size w w') : RdSS w' a xss := by
  obtain ⟨vs, hl, hr, hi⟩ := h
  refine ⟨vs, hl, hr.later hb, fun i h => ?_⟩
  obtain ⟨a', c', e, r, z⟩ := hi i h
  exact ⟨a', c', e, r.later hb, z⟩
theorem OwnSS.rd {w : World} {B E n cap : Nat} {a : Option Addr} {xss : List (List Nat)} (h : OwnSS w B E (.slice a n cap) xss) (hn : xss.length = n) : RdSS w a xss := by
  obtain ⟨vs, ho, hi⟩ := h
  have hl : vs.length = xss.length := by have := ho.1; omega
  subst hn
  refine ⟨vs, hl, rd_at ho, fun i h => ?_⟩
  obtain ⟨g, c, e, _, r⟩ := hi i h
  exact ⟨_, c, e, rd_row r, fun h => by cases h⟩
theorem RdSS.at_ {w : World} {a : Option Addr} {xss : List (List Nat)} (h : RdSS w a xss) {k : Nat} (hk : k < xss.length) :
    ∃ b off a' c', a = some ⟨b, off, none⟩ ∧ w.cell? ⟨b, off + k, none⟩ = some (.slice a' xss[k].length c') ∧ Rd w a' (byt xss[k]) ∧ (a' = none → c' = 0) := by
  obtain ⟨vs, hl, hr, hi⟩ := h
  obtain ⟨a', c', e, r, z⟩ := hi k hk
  rcases hr with h0 | ⟨b, off, rfl, hc⟩
  · subst h0; simp at hl; omega
  · refine ⟨b, off, a', c', rfl, ?_, r, z⟩
    obtain ⟨h1, h2⟩ := List.getElem?_eq_some_iff.1 e
    rw [hc k h1, h2]
structure Fr (B E : Nat) (w w' : World) : Prop where
  os : w'.os = w.os
  tape : w'.tape = w.tape
  output : w'.output = w.output
  size : w.heap.size ≤ w'.heap.size
  block : ∀ k, k < w.heap.size → (k < B ∨ E ≤ k) → w'.heap[k]? = w.heap[k]?
theorem Fr.refl (B E : Nat) (w : World) : Fr B E w w := ⟨rfl, rfl, rfl, Nat.le_refl _, fun _ _ _ => rfl⟩
theorem Fr.grown {B E g : Nat} {a w w' : World} (h : Fr B E a w) (hg : w.grownBy w' (some g)) (h1 : B ≤ g) (h2 : g < E) : Fr B E a w' :=
  ⟨hg.os.trans h.os, hg.tape.trans h.tape, hg.output.trans h.output, Nat.le_trans h.size hg.size, fun k hk hc => (hg.block k (Nat.lt_of_lt_of_le hk h.size) (fun e => by simp at e; omega)).trans (h.block k hk hc)⟩
def tot (xss : List (List Nat)) : Nat := (xss.map List.length).sum
theorem tot_snoc (xss : List (List Nat)) (k : Nat) (h : k < xss.length) : tot (xss.take (k + 1)) = tot (xss.take k) + xss[k].length := by
  unfold tot
  rw [List.take_succ_eq_append_getElem h, List.map_append, List.sum_append]
  simp
theorem tot_take (xss : List (List Nat)) (k : Nat) : tot (xss.take k) ≤ tot xss := by
  unfold tot
  conv => rhs; rw [← List.take_append_drop k xss]
  rw [List.map_append, List.sum_append]; omega
theorem len_le_tot (xss : List (List Nat)) (k : Nat) (h : k < xss.length) : xss[k].length ≤ tot xss := by
  have h1 := tot_snoc xss k h
  have h2 := tot_take xss (k + 1)
  omega
end Go.Proofs.Ytcljakdcejhfiad
