import Derived.Test.YtfaehioeepolhaaGreatJCrashReceiver1
import Derived.ProofKit
import Derived.OpenShut
import Derived.ShutString
import Derived.ChangeOld
import Derived.Below
import Derived.Deep.Grids
import Derived.Deep.Slices
import Derived.ChangeArms
import Derived.Test.YtfaehioeepolhaaGreatJCrashReceiver0
namespace Go.Proofs.YtfaehioeepolhaaGreat
open Go.ChangeShapes Go.WideShapes Go.ChangeAt Go.RowKit
section
variable {H : Type} (enc : TypeId × Value → H) (P : Program) (w : World)
def Opens {α : Type} (t : TypeId) (c : Cod α) : Prop :=
  ∀ fuel cs x, DataW.trod enc P w 0 (fun _ => true) true fuel t cs = some x → ∃ y, c.rd w y cs
variable {enc P w}
theorem opens_int {t : TypeId} (ht : P.underlying t = some (.int .i64)) : Opens enc P w t cInt := by
  intro fuel cs x h
  obtain ⟨n, rfl, _, hw⟩ := DataW.trod_int ht h
  exact ⟨n, rfl, bounds_i64 hw⟩
theorem opens_byte {t : TypeId} (ht : P.underlying t = some (.int .u8)) : Opens enc P w t cByte := by
  intro fuel cs x h
  obtain ⟨n, rfl, _, hw⟩ := DataW.trod_int ht h
  have hb := bounds_u8 hw
  refine ⟨n.toNat, ?_, by omega⟩
  rw [show ((n.toNat : Nat) : Int) = n from by omega]
theorem opens_bool {t : TypeId} (ht : P.underlying t = some .bool) : Opens enc P w t cBool := by
  intro fuel cs x h
  obtain ⟨n, rfl, _⟩ := DataW.trod_bool ht h
  exact ⟨n, rfl⟩
theorem addr_add (b off i : Nat) : (⟨b, off, none⟩ : Addr).add i = ⟨b, off + i, none⟩ := by unfold Addr.add; split <;> simp_all
theorem opens_slice {α : Type} {t e : TypeId} {c : Cod α} (ht : P.underlying t = some (.slice e)) (hn : P.cellsOf e = c.n) (hp : 0 < c.n) (he : Opens enc P w e c) (e2 : TypeId) : Opens enc P w t (cSl c e2) := by
  intro fuel cs x h
  rcases Go.Deep.open_slice ht h with ⟨rfl, _⟩ | ⟨a, len, cap, m, n, D, Pl, rfl, _, hl, hm, hmm, _, hx⟩
  · exact ⟨[], _, rfl, none, 0, rfl, Nat.le_refl _, Nat.zero_le _, fun _ => rfl, .inl rfl⟩
  · simp only [if_true] at hmm
    subst hmm
    have each : ∀ i, i < len → ∃ y : α, ∃ cs', c.rd w y cs' ∧ ∀ j, (h : j < cs'.length) → w.cell? ((a.add (i * c.n)).add j) = some cs'[j] := by
      intro i hi
      obtain ⟨cs', h1, h2⟩ := hx i (by omega)
      obtain ⟨y, hy⟩ := he _ _ _ h2
      obtain ⟨_, h4, h5⟩ := World.cells?_some h1
      rw [hn] at h4 h5
      refine ⟨y, cs', hy, fun j hj => ?_⟩
      rw [h5 j (by omega), List.getElem?_eq_getElem hj]
    by_cases h0 : len = 0
    · subst h0
      exact ⟨[], _, rfl, some a, m, rfl, Nat.zero_le _, hm, (fun h => by cases h), .inl rfl⟩
    · obtain ⟨y0, _, _⟩ := each 0 (by omega)
      have : Inhabited α := ⟨y0⟩
      obtain ⟨Y, hY⟩ := Go.Deep.choose_lt each
      obtain ⟨b, off, spot⟩ := a
      have hspot : spot = none := by
        obtain ⟨cs', h1, h2⟩ := hY 0 (by omega)
        have h3 := h2 0 (by rw [c.len h1]; exact hp)
        simpa [Addr.add] using World.cell?_spot h3
      subst hspot
      refine ⟨(List.range len).map Y, _, rfl, some ⟨b, off, none⟩, m, by simp, by simpa using hl, hm, (fun h => by cases h), .inr ⟨b, off, rfl, fun i hi => ?_⟩⟩
      have hi' : i < len := by simpa using hi
      obtain ⟨cs', h1, h2⟩ := hY i hi'
      refine ⟨cs', by simpa using h1, fun j hj => ?_⟩
      have h3 := h2 j hj
      rw [addr_add, addr_add, Nat.add_assoc] at h3
      exact h3
theorem opens_struct2 {α β γ : Type} {t : TypeId} {fs : Array Field} {f0 f1 : Field} {a : Cod α} {b : Cod β} {f : γ → α × β} (ht : P.underlying t = some (.struct fs)) (hf : fs = #[f0, f1])
    (o0 : f0.offset = 0) (o1 : f1.offset = a.n) (n0 : P.cellsOf f0.type = a.n) (n1 : P.cellsOf f1.type = b.n) (hs : P.cellsOf t = a.n + b.n)
    (h0 : Opens enc P w f0.type a) (h1 : Opens enc P w f1.type b) (inv : α → β → γ) (hi : ∀ x y, f (inv x y) = (x, y)) : Opens enc P w t (cMap (cPair a b) f) := by
  subst hf
  intro fuel cs x h
  obtain ⟨xs, k, _, _, hl, hxl, hfx⟩ := DataW.trod_struct ht h
  have g0 := hfx 0 f0 rfl
  have g1 := hfx 1 f1 rfl
  match xs, hxl with
  | [y0, y1], _ =>
    obtain ⟨z0, r0⟩ := h0 _ _ _ g0
    obtain ⟨z1, r1⟩ := h1 _ _ _ g1
    refine ⟨inv z0 z1, ?_⟩
    show (cPair a b).rd w (f (inv z0 z1)) cs
    rw [hi]
    rw [o0, n0, List.drop_zero] at r0
    rw [o1, n1, List.take_of_length_le (by simp; omega)] at r1
    exact ⟨_, _, (List.take_append_drop a.n cs).symm, r0, r1⟩
theorem opens_struct3 {α β γ δ : Type} {t : TypeId} {fs : Array Field} {f0 f1 f2 : Field} {a : Cod α} {b : Cod β} {c : Cod γ} {f : δ → α × β × γ} (ht : P.underlying t = some (.struct fs)) (hf : fs = #[f0, f1, f2])
    (o0 : f0.offset = 0) (o1 : f1.offset = a.n) (o2 : f2.offset = a.n + b.n) (n0 : P.cellsOf f0.type = a.n) (n1 : P.cellsOf f1.type = b.n) (n2 : P.cellsOf f2.type = c.n) (hs : P.cellsOf t = a.n + (b.n + c.n))
    (h0 : Opens enc P w f0.type a) (h1 : Opens enc P w f1.type b) (h2 : Opens enc P w f2.type c) (inv : α → β → γ → δ) (hi : ∀ x y z, f (inv x y z) = (x, y, z)) : Opens enc P w t (cMap (cPair a (cPair b c)) f) := by
  subst hf
  intro fuel cs x h
  obtain ⟨xs, k, _, _, hl, hxl, hfx⟩ := DataW.trod_struct ht h
  have g0 := hfx 0 f0 rfl
  have g1 := hfx 1 f1 rfl
  have g2 := hfx 2 f2 rfl
  match xs, hxl with
  | [y0, y1, y2], _ =>
    obtain ⟨z0, r0⟩ := h0 _ _ _ g0
    obtain ⟨z1, r1⟩ := h1 _ _ _ g1
    obtain ⟨z2, r2⟩ := h2 _ _ _ g2
    refine ⟨inv z0 z1 z2, ?_⟩
    show (cPair a (cPair b c)).rd w (f (inv z0 z1 z2)) cs
    rw [hi]
    rw [o0, n0, List.drop_zero] at r0
    rw [o1, n1] at r1
    rw [o2, n2, List.take_of_length_le (by simp; omega), ← List.drop_drop] at r2
    exact ⟨_, _, (List.take_append_drop a.n cs).symm, r0, _, _, (List.take_append_drop b.n (cs.drop a.n)).symm, r1, r2⟩
theorem val_agg (cs : Array Value) (h : cs.size ≠ 1) : val cs.toList = .agg cs := by
  obtain ⟨l⟩ := cs
  match l, h with
  | [], _ => rfl
  | [x], h => simp at h
  | x :: y :: r, _ => rfl
theorem Opens.st {α : Type} {t : TypeId} {c : Cod α} {v : Value} {d : DataW H} {p : List MemPlace} (ho : Opens enc P w t c) (hv : ∃ cs, v = .agg cs ∧ cs.size = P.cellsOf t) (hn : P.cellsOf t ≠ 1) (h : DataW.Trod enc P w 0 (fun _ => true) true t v d p) : ∃ x cs, v = val cs ∧ c.rd w x cs := by
  obtain ⟨cs, rfl, hs⟩ := hv
  obtain ⟨fuel, hf⟩ := h
  obtain ⟨x, hx⟩ := ho _ _ _ hf
  exact ⟨x, cs.toList, (val_agg cs (by omega)).symm, hx⟩
end
end Go.Proofs.YtfaehioeepolhaaGreat
namespace Go.Proofs.YtfaehioeepolhaaGreat
open Go.ChangeShapes Go.WideShapes Go.ChangeAt Go.RowKit
section
variable {H : Type} {enc : TypeId × Value → H} {P : Program} {w : World}
theorem opens_struct7 {α β γ δ ε ζ θ η : Type} {t : TypeId} {fs : Array Field} {f0 f1 f2 f3 f4 f5 f6 : Field} {a : Cod α} {b : Cod β} {c : Cod γ} {d : Cod δ} {g : Cod ε} {h : Cod ζ} {k : Cod θ} {f : η → α × β × γ × δ × ε × ζ × θ} (ht : P.underlying t = some (.struct fs)) (hf : fs = #[f0, f1, f2, f3, f4, f5, f6])
    (o0 : f0.offset = 0) (o1 : f1.offset = a.n) (o2 : f2.offset = a.n + b.n) (o3 : f3.offset = a.n + b.n + c.n) (o4 : f4.offset = a.n + b.n + c.n + d.n) (o5 : f5.offset = a.n + b.n + c.n + d.n + g.n) (o6 : f6.offset = a.n + b.n + c.n + d.n + g.n + h.n)
    (n0 : P.cellsOf f0.type = a.n) (n1 : P.cellsOf f1.type = b.n) (n2 : P.cellsOf f2.type = c.n) (n3 : P.cellsOf f3.type = d.n) (n4 : P.cellsOf f4.type = g.n) (n5 : P.cellsOf f5.type = h.n) (n6 : P.cellsOf f6.type = k.n) (hs : P.cellsOf t = a.n + (b.n + (c.n + (d.n + (g.n + (h.n + k.n))))))
    (h0 : Opens enc P w f0.type a) (h1 : Opens enc P w f1.type b) (h2 : Opens enc P w f2.type c) (h3 : Opens enc P w f3.type d) (h4 : Opens enc P w f4.type g) (h5 : Opens enc P w f5.type h) (h6 : Opens enc P w f6.type k) (inv : α → β → γ → δ → ε → ζ → θ → η) (hi : ∀ x y z u v s q, f (inv x y z u v s q) = (x, y, z, u, v, s, q)) : Opens enc P w t (cMap (cPair a (cPair b (cPair c (cPair d (cPair g (cPair h k)))))) f) := by
  subst hf
  intro fuel cs x hh
  obtain ⟨xs, kk, _, _, hl, hxl, hfx⟩ := DataW.trod_struct ht hh
  have g0 := hfx 0 f0 rfl
  have g1 := hfx 1 f1 rfl
  have g2 := hfx 2 f2 rfl
  have g3 := hfx 3 f3 rfl
  have g4 := hfx 4 f4 rfl
  have g5 := hfx 5 f5 rfl
  have g6 := hfx 6 f6 rfl
  match xs, hxl with
  | [y0, y1, y2, y3, y4, y5, y6], _ =>
    obtain ⟨z0, r0⟩ := h0 _ _ _ g0
    obtain ⟨z1, r1⟩ := h1 _ _ _ g1
    obtain ⟨z2, r2⟩ := h2 _ _ _ g2
    obtain ⟨z3, r3⟩ := h3 _ _ _ g3
    obtain ⟨z4, r4⟩ := h4 _ _ _ g4
    obtain ⟨z5, r5⟩ := h5 _ _ _ g5
    obtain ⟨z6, r6⟩ := h6 _ _ _ g6
    refine ⟨inv z0 z1 z2 z3 z4 z5 z6, ?_⟩
    show (cPair a (cPair b (cPair c (cPair d (cPair g (cPair h k)))))).rd w (f (inv z0 z1 z2 z3 z4 z5 z6)) cs
    rw [hi]
    rw [o0, n0, List.drop_zero] at r0
    rw [o1, n1] at r1
    rw [o2, n2, ← List.drop_drop] at r2
    rw [o3, n3, ← List.drop_drop, ← List.drop_drop] at r3
    rw [o4, n4, ← List.drop_drop, ← List.drop_drop, ← List.drop_drop] at r4
    rw [o5, n5, ← List.drop_drop, ← List.drop_drop, ← List.drop_drop, ← List.drop_drop] at r5
    rw [o6, n6, List.take_of_length_le (by simp; omega), ← List.drop_drop, ← List.drop_drop, ← List.drop_drop, ← List.drop_drop, ← List.drop_drop] at r6
    exact ⟨_, _, (List.take_append_drop a.n cs).symm, r0, _, _, (List.take_append_drop b.n (cs.drop a.n)).symm, r1, _, _, (List.take_append_drop c.n ((cs.drop a.n).drop b.n)).symm, r2, _, _, (List.take_append_drop d.n (((cs.drop a.n).drop b.n).drop c.n)).symm, r3, _, _, (List.take_append_drop g.n ((((cs.drop a.n).drop b.n).drop c.n).drop d.n)).symm, r4, _, _, (List.take_append_drop h.n (((((cs.drop a.n).drop b.n).drop c.n).drop d.n).drop g.n)).symm, r5, r6⟩
end
end Go.Proofs.YtfaehioeepolhaaGreat
namespace Go.Proofs.YtfaehioeepolhaaGreat
open Go.RowKit
structure PF where
  name : List Nat
  kind : Int
  width : Int
def cField : Cod PF := cMap (cPair (cSl cByte 5) (cPair cInt cInt)) fun f => (f.name, f.kind, f.width)
theorem cField_rd {w : World} {f : PF} {cs : List Value} (h : cField.rd w f cs) : ∃ v, cs = [v, .int .i64 f.kind, .int .i64 f.width] ∧ RdSl cByte w f.name v ∧ IntIn f.kind ∧ IntIn f.width := by
  obtain ⟨c1, c2, rfl, ⟨v, rfl, h1⟩, c3, c4, rfl, ⟨rfl, h2⟩, rfl, h3⟩ := h
  exact ⟨v, rfl, h1, h2, h3⟩
theorem cField_own {w : World} {f : PF} {v : Value} {bs : List Nat} (h1 : OwnSl cByte 5 w f.name v bs) (h2 : IntIn f.kind) (h3 : IntIn f.width) : cField.own w f [v, .int .i64 f.kind, .int .i64 f.width] bs :=
  ⟨[v], _, bs, [], rfl, by simp, ⟨v, rfl, h1⟩, _, _, [], [], rfl, rfl, ⟨rfl, h2, rfl⟩, rfl, h3, rfl⟩
theorem cField_owned {w : World} {f : PF} {cs : List Value} {bs : List Nat} (h : cField.own w f cs bs) : ∃ v, cs = [v, .int .i64 f.kind, .int .i64 f.width] ∧ OwnSl cByte 5 w f.name v bs ∧ IntIn f.kind ∧ IntIn f.width := by
  obtain ⟨c1, c2, b1, b2, rfl, rfl, ⟨v, rfl, h1⟩, c3, c4, b3, b4, rfl, rfl, ⟨rfl, h2, rfl⟩, rfl, h3, rfl⟩ := h
  exact ⟨v, rfl, by simpa using h1, h2, h3⟩
theorem cField_shape {w : World} {f : PF} {cs : List Value} (h : cField.rd w f cs) : ∃ a cap, cs = [.slice a f.name.length cap, .int .i64 f.kind, .int .i64 f.width] := by
  obtain ⟨v, rfl, ⟨a, cap, rfl, _⟩, _⟩ := cField_rd h
  exact ⟨a, cap, rfl⟩
end Go.Proofs.YtfaehioeepolhaaGreat
namespace Go.Proofs.YtfaehioeepolhaaGreat
open Go.ChangeShapes Go.WideShapes Go.ChangeAt Go.RowKit
theorem opens_bytes {H : Type} (enc : TypeId × Value → H) (W : World) : Opens enc Tryz.prog W 23 (cSl cByte 5) :=
  opens_slice Tryz.underlying23 (by kernel_rfl) (by decide) (opens_byte Tryz.underlying5) _
theorem opens_Field {H : Type} (enc : TypeId × Value → H) (W : World) : Opens enc Tryz.prog W 96 cField :=
  opens_struct3 Tryz.underlying96 rfl rfl rfl rfl (by kernel_rfl) (by kernel_rfl) (by kernel_rfl) (by kernel_rfl) (opens_bytes enc W) (opens_int Tryz.underlying3) (opens_int Tryz.underlying3) (fun x y z => ⟨x, y, z⟩) (fun _ _ _ => rfl)
theorem opens_FieldS {H : Type} (enc : TypeId × Value → H) (W : World) : Opens enc Tryz.prog W 26 (cSl cField 98) :=
  opens_slice Tryz.underlying26 (by kernel_rfl) (by decide) (opens_Field enc W) _
end Go.Proofs.YtfaehioeepolhaaGreat
namespace Go.Proofs.YtfaehioeepolhaaGreat
open Go.RowKit
structure PC where
  null : Bool
  num : Int
  text : List Nat
def cCell : Cod PC := cMap (cPair cBool (cPair cInt (cSl cByte 5))) fun f => (f.null, f.num, f.text)
theorem cCell_rd {w : World} {f : PC} {cs : List Value} (h : cCell.rd w f cs) : ∃ v, cs = [.bool f.null, .int .i64 f.num, v] ∧ RdSl cByte w f.text v ∧ IntIn f.num := by
  obtain ⟨c1, c2, rfl, h0, c3, c4, rfl, ⟨rfl, h2⟩, v, rfl, h3⟩ := h
  have h0 : c1 = [.bool f.null] := h0
  subst h0
  exact ⟨v, rfl, h3, h2⟩
theorem cCell_own {w : World} {f : PC} {v : Value} {bs : List Nat} (h1 : OwnSl cByte 5 w f.text v bs) (h2 : IntIn f.num) : cCell.own w f [.bool f.null, .int .i64 f.num, v] bs :=
  ⟨[_], _, [], bs, rfl, rfl, ⟨rfl, rfl⟩, [_], _, [], bs, rfl, rfl, ⟨rfl, h2, rfl⟩, v, rfl, h1⟩
theorem cCell_owned {w : World} {f : PC} {cs : List Value} {bs : List Nat} (h : cCell.own w f cs bs) : ∃ v, cs = [.bool f.null, .int .i64 f.num, v] ∧ OwnSl cByte 5 w f.text v bs ∧ IntIn f.num := by
  obtain ⟨c1, c2, b1, b2, rfl, rfl, ⟨h0, rfl⟩, c3, c4, b3, b4, rfl, rfl, ⟨rfl, h2, rfl⟩, v, rfl, h3⟩ := h
  have h0 : c1 = [.bool f.null] := h0
  subst h0
  exact ⟨v, rfl, by simpa using h3, h2⟩
theorem cCell_shape {w : World} {f : PC} {cs : List Value} (h : cCell.rd w f cs) : ∃ a cap, cs = [.bool f.null, .int .i64 f.num, .slice a f.text.length cap] := by
  obtain ⟨v, rfl, ⟨a, cap, rfl, _⟩, _⟩ := cCell_rd h
  exact ⟨a, cap, rfl⟩
end Go.Proofs.YtfaehioeepolhaaGreat
namespace Go.Proofs.YtfaehioeepolhaaGreat
open Go.ChangeShapes Go.WideShapes Go.ChangeAt Go.RowKit
theorem opens_Cell {H : Type} (enc : TypeId × Value → H) (W : World) : Opens enc Tryz.prog W 196 cCell :=
  opens_struct3 Tryz.underlying196 rfl rfl rfl rfl (by kernel_rfl) (by kernel_rfl) (by kernel_rfl) (by kernel_rfl) (opens_bool Tryz.underlying4) (opens_int Tryz.underlying3) (opens_bytes enc W) (fun x y z => ⟨x, y, z⟩) (fun _ _ _ => rfl)
theorem opens_CellS {H : Type} (enc : TypeId × Value → H) (W : World) : Opens enc Tryz.prog W 116 (cSl cCell 157) :=
  opens_slice Tryz.underlying116 (by kernel_rfl) (by decide) (opens_Cell enc W) _
end Go.Proofs.YtfaehioeepolhaaGreat
