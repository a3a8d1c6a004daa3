import Derived.Test.YtfaehioeepolhaaGreatJValidReceiver3
import Derived.Test.YtfaehioeepolhaaGreatJValidReceiver7
import Derived.Test.YtfaehioeepolhaaGreatJValidReceiver17
import Derived.Test.YtfaehioeepolhaaGreatJValidReceiver12
namespace Go.Proofs.YtfaehioeepolhaaGreat
open Go.ChangeShapes Go.WideShapes Go.ChangeAt Go.RowKit
theorem opens_SSS {H : Type} (enc : TypeId × Value → H) (W : World) : Opens enc Tryz.prog W 27 (cSl cSSS 123) :=
  opens_slice Tryz.underlying27 (by kernel_rfl) (by decide) (opens_SS enc W) _
def cStr : Cod PStr := cMap (cPair cBool (cPair (cSl cField 98) (cPair cInt (cSl cSSS 123)))) fun s => (s.opened, s.fields, s.next, s.dicts)
theorem opens_Str {H : Type} (enc : TypeId × Value → H) (W : World) : Opens enc Tryz.prog W 29 cStr :=
  opens_struct4 Tryz.underlying29 rfl rfl rfl rfl rfl (by kernel_rfl) (by kernel_rfl) (by kernel_rfl) (by kernel_rfl) (by kernel_rfl) (opens_bool Tryz.underlying4) (opens_FieldS enc W) (opens_int Tryz.underlying3) (opens_SSS enc W) (fun x y z u => ⟨x, y, z, u⟩) (fun _ _ _ _ => rfl)
end Go.Proofs.YtfaehioeepolhaaGreat
namespace Go.Proofs.YtfaehioeepolhaaGreat
open Go.ChangeShapes Go.WideShapes Go.ChangeAt Go.RowKit
section
variable {H : Type} {enc : TypeId × Value → H} {P : Program} {w : World}
theorem opens_struct6 {α β γ δ ε ζ η : Type} {t : TypeId} {fs : Array Field} {f0 f1 f2 f3 f4 f5 : Field} {a : Cod α} {b : Cod β} {c : Cod γ} {d : Cod δ} {g : Cod ε} {h : Cod ζ} {f : η → α × β × γ × δ × ε × ζ} (ht : P.underlying t = some (.struct fs)) (hf : fs = #[f0, f1, f2, f3, f4, f5])
    (o0 : f0.offset = 0) (o1 : f1.offset = a.n) (o2 : f2.offset = a.n + b.n) (o3 : f3.offset = a.n + b.n + c.n) (o4 : f4.offset = a.n + b.n + c.n + d.n) (o5 : f5.offset = a.n + b.n + c.n + d.n + g.n)
    (n0 : P.cellsOf f0.type = a.n) (n1 : P.cellsOf f1.type = b.n) (n2 : P.cellsOf f2.type = c.n) (n3 : P.cellsOf f3.type = d.n) (n4 : P.cellsOf f4.type = g.n) (n5 : P.cellsOf f5.type = h.n) (hs : P.cellsOf t = a.n + (b.n + (c.n + (d.n + (g.n + h.n)))))
    (h0 : Opens enc P w f0.type a) (h1 : Opens enc P w f1.type b) (h2 : Opens enc P w f2.type c) (h3 : Opens enc P w f3.type d) (h4 : Opens enc P w f4.type g) (h5 : Opens enc P w f5.type h) (inv : α → β → γ → δ → ε → ζ → η) (hi : ∀ x y z u v s, f (inv x y z u v s) = (x, y, z, u, v, s)) : Opens enc P w t (cMap (cPair a (cPair b (cPair c (cPair d (cPair g h))))) f) := by
  subst hf
  intro fuel cs x hh
  obtain ⟨xs, k, _, _, hl, hxl, hfx⟩ := DataW.trod_struct ht hh
  have g0 := hfx 0 f0 rfl
  have g1 := hfx 1 f1 rfl
  have g2 := hfx 2 f2 rfl
  have g3 := hfx 3 f3 rfl
  have g4 := hfx 4 f4 rfl
  have g5 := hfx 5 f5 rfl
  match xs, hxl with
  | [y0, y1, y2, y3, y4, y5], _ =>
    obtain ⟨z0, r0⟩ := h0 _ _ _ g0
    obtain ⟨z1, r1⟩ := h1 _ _ _ g1
    obtain ⟨z2, r2⟩ := h2 _ _ _ g2
    obtain ⟨z3, r3⟩ := h3 _ _ _ g3
    obtain ⟨z4, r4⟩ := h4 _ _ _ g4
    obtain ⟨z5, r5⟩ := h5 _ _ _ g5
    refine ⟨inv z0 z1 z2 z3 z4 z5, ?_⟩
    show (cPair a (cPair b (cPair c (cPair d (cPair g h))))).rd w (f (inv z0 z1 z2 z3 z4 z5)) cs
    rw [hi]
    rw [o0, n0, List.drop_zero] at r0
    rw [o1, n1] at r1
    rw [o2, n2, ← List.drop_drop] at r2
    rw [o3, n3, ← List.drop_drop, ← List.drop_drop] at r3
    rw [o4, n4, ← List.drop_drop, ← List.drop_drop, ← List.drop_drop] at r4
    rw [o5, n5, List.take_of_length_le (by simp; omega), ← List.drop_drop, ← List.drop_drop, ← List.drop_drop, ← List.drop_drop] at r5
    exact ⟨_, _, (List.take_append_drop a.n cs).symm, r0, _, _, (List.take_append_drop b.n (cs.drop a.n)).symm, r1, _, _, (List.take_append_drop c.n ((cs.drop a.n).drop b.n)).symm, r2, _, _, (List.take_append_drop d.n (((cs.drop a.n).drop b.n).drop c.n)).symm, r3, _, _, (List.take_append_drop g.n ((((cs.drop a.n).drop b.n).drop c.n).drop d.n)).symm, r4, r5⟩
end
end Go.Proofs.YtfaehioeepolhaaGreat
namespace Go.Proofs.YtfaehioeepolhaaGreat
open Go.RowKit
structure PP where
  kind : Int
  epoch : Int
  seq : Int
  count : Int
  last : Bool
  data : List Nat
def lastN (b : Bool) : Nat := if b then 1 else 0
abbrev PktOK (p : PP) : Prop := 1 ≤ p.epoch ∧ p.epoch ≤ 1000000000 ∧ 0 ≤ p.seq ∧ p.seq ≤ 1000000000000 ∧ 0 ≤ p.count ∧ p.count ≤ 1000000000 ∧
  ((p.kind = 1 ∧ p.seq < 1000000000000 ∧ p.count = 0 ∧ 1 ≤ p.data.length ∧ p.data.length ≤ 100) ∨ (lastN p.last = 0 ∧ p.data.length = 0 ∧ (p.kind = 2 ∨ (p.kind = 3 ∧ p.seq = 0) ∨ (p.kind = 4 ∧ p.seq = 0 ∧ p.count = 0))))
def pktOK (p : PP) : Bool := decide (PktOK p)
end Go.Proofs.YtfaehioeepolhaaGreat
