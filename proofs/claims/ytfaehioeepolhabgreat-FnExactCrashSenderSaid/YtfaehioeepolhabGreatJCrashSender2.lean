import Derived.Test.YtfaehioeepolhabGreatJCrashSender1
import Derived.ProofKit
import Derived.OpenShut
import Derived.ShutString
import Derived.ChangeOld
import Derived.Below
import Derived.Deep.Grids
import Derived.Deep.Slices
import Derived.ChangeArms
import Derived.Test.YtfaehioeepolhabGreatJCrashSender0
import Derived.Handy
namespace Go.Proofs.YtfaehioeepolhabGreat
open Go.ChangeShapes Go.WideShapes Go.ChangeAt Go.RowKit
section
variable {H : Type} (enc : TypeId × Value → H) (P : Program) (w : World)
def Opens {α : Type} (t : TypeId) (c : Cod α) : Prop :=
 ∀ fuel cs x, DataW.trod enc P w 0 (fun _ => true) true fuel t cs = some x → ∃ y, c.rd w y cs
variable {enc P w}
theorem opens_int {t : TypeId} (ht : P.underlying t = some (.int .i64)) : Opens enc P w t cInt := by
 intro fuel cs x h
 obtain ⟨n, rfl, _, hw⟩ := DataW.trod_int ht h
 exact ⟨n, rfl, bounds_i64 hw⟩
theorem opens_byte {t : TypeId} (ht : P.underlying t = some (.int .u8)) : Opens enc P w t cByte := by
 intro fuel cs x h
 obtain ⟨n, rfl, _, hw⟩ := DataW.trod_int ht h
 have hb := bounds_u8 hw
 refine ⟨n.toNat, ?_, by omega⟩
 rw [show ((n.toNat : Nat) : Int) = n from by omega]
theorem opens_bool {t : TypeId} (ht : P.underlying t = some .bool) : Opens enc P w t cBool := by
 intro fuel cs x h
 obtain ⟨n, rfl, _⟩ := DataW.trod_bool ht h
 exact ⟨n, rfl⟩
theorem addr_add (b off i : Nat) : (⟨b, off, none⟩ : Addr).add i = ⟨b, off + i, none⟩ := by unfold Addr.add; split <;> simp_all
theorem opens_slice {α : Type} {t e : TypeId} {c : Cod α} (ht : P.underlying t = some (.slice e)) (hn : P.cellsOf e = c.n) (hp : 0 < c.n) (he : Opens enc P w e c) (e2 : TypeId) : Opens enc P w t (cSl c e2) := by
 intro fuel cs x h
 rcases Go.Deep.open_slice ht h with ⟨rfl, _⟩ | ⟨a, len, cap, m, n, D, Pl, rfl, _, hl, hm, hmm, _, hx⟩
 ·exact ⟨[], _, rfl, none, 0, rfl, Nat.le_refl _, Nat.zero_le _, fun _ => rfl, .inl rfl⟩
 ·simp only [if_true] at hmm
  subst hmm
  have each : ∀ i, i < len → ∃ y : α, ∃ cs', c.rd w y cs' ∧ ∀ j, (h : j < cs'.length) → w.cell? ((a.add (i * c.n)).add j) = some cs'[j] := by
   intro i hi
   obtain ⟨cs', h1, h2⟩ := hx i (by omega)
   obtain ⟨y, hy⟩ := he _ _ _ h2
   obtain ⟨_, h4, h5⟩ := World.cells?_some h1
   rw [hn] at h4 h5
   refine ⟨y, cs', hy, fun j hj => ?_⟩
   rw [h5 j (by omega), List.getElem?_eq_getElem hj]
  by_cases h0 : len = 0
  ·subst h0
   exact ⟨[], _, rfl, some a, m, rfl, Nat.zero_le _, hm, (fun h => by cases h), .inl rfl⟩
  ·obtain ⟨y0, _, _⟩ := each 0 (by omega)
   have : Inhabited α := ⟨y0⟩
   obtain ⟨Y, hY⟩ := Go.Deep.choose_lt each
   obtain ⟨b, off, spot⟩ := a
   have hspot : spot = none := by
    obtain ⟨cs', h1, h2⟩ := hY 0 (by omega)
    have h3 := h2 0 (by rw [c.len h1]; exact hp)
    simpa [Addr.add] using World.cell?_spot h3
   subst hspot
   refine ⟨(List.range len).map Y, _, rfl, some ⟨b, off, none⟩, m, by simp, by simpa using hl, hm, (fun h => by cases h), .inr ⟨b, off, rfl, fun i hi => ?_⟩⟩
   have hi' : i < len := by simpa using hi
   obtain ⟨cs', h1, h2⟩ := hY i hi'
   refine ⟨cs', by simpa using h1, fun j hj => ?_⟩
   have h3 := h2 j hj
   rw [addr_add, addr_add, Nat.add_assoc] at h3
   exact h3
theorem opens_struct2 {α β γ : Type} {t : TypeId} {fs : Array Field} {f0 f1 : Field} {a : Cod α} {b : Cod β} {f : γ → α × β} (ht : P.underlying t = some (.struct fs)) (hf : fs = #[f0, f1])
  (o0 : f0.offset = 0) (o1 : f1.offset = a.n) (n0 : P.cellsOf f0.type = a.n) (n1 : P.cellsOf f1.type = b.n) (hs : P.cellsOf t = a.n + b.n)
  (h0 : Opens enc P w f0.type a) (h1 : Opens enc P w f1.type b) (inv : α → β → γ) (hi : ∀ x y, f (inv x y) = (x, y)) : Opens enc P w t (cMap (cPair a b) f) := by
 subst hf
 intro fuel cs x h
 obtain ⟨xs, k, _, _, hl, hxl, hfx⟩ := DataW.trod_struct ht h
 have g0 := hfx 0 f0 rfl
 have g1 := hfx 1 f1 rfl
 match xs, hxl with
 | [y0, y1], _ =>
  obtain ⟨z0, r0⟩ := h0 _ _ _ g0
  obtain ⟨z1, r1⟩ := h1 _ _ _ g1
  refine ⟨inv z0 z1, ?_⟩
  show (cPair a b).rd w (f (inv z0 z1)) cs
  rw [hi]
  rw [o0, n0, List.drop_zero] at r0
  rw [o1, n1, List.take_of_length_le (by simp; omega)] at r1
  exact ⟨_, _, (List.take_append_drop a.n cs).symm, r0, r1⟩
theorem opens_struct3 {α β γ δ : Type} {t : TypeId} {fs : Array Field} {f0 f1 f2 : Field} {a : Cod α} {b : Cod β} {c : Cod γ} {f : δ → α × β × γ} (ht : P.underlying t = some (.struct fs)) (hf : fs = #[f0, f1, f2])
  (o0 : f0.offset = 0) (o1 : f1.offset = a.n) (o2 : f2.offset = a.n + b.n) (n0 : P.cellsOf f0.type = a.n) (n1 : P.cellsOf f1.type = b.n) (n2 : P.cellsOf f2.type = c.n) (hs : P.cellsOf t = a.n + (b.n + c.n))
  (h0 : Opens enc P w f0.type a) (h1 : Opens enc P w f1.type b) (h2 : Opens enc P w f2.type c) (inv : α → β → γ → δ) (hi : ∀ x y z, f (inv x y z) = (x, y, z)) : Opens enc P w t (cMap (cPair a (cPair b c)) f) := by
 subst hf
 intro fuel cs x h
 obtain ⟨xs, k, _, _, hl, hxl, hfx⟩ := DataW.trod_struct ht h
 have g0 := hfx 0 f0 rfl
 have g1 := hfx 1 f1 rfl
 have g2 := hfx 2 f2 rfl
 match xs, hxl with
 | [y0, y1, y2], _ =>
  obtain ⟨z0, r0⟩ := h0 _ _ _ g0
  obtain ⟨z1, r1⟩ := h1 _ _ _ g1
  obtain ⟨z2, r2⟩ := h2 _ _ _ g2
  refine ⟨inv z0 z1 z2, ?_⟩
  show (cPair a (cPair b c)).rd w (f (inv z0 z1 z2)) cs
  rw [hi]
  rw [o0, n0, List.drop_zero] at r0
  rw [o1, n1] at r1
  rw [o2, n2, List.take_of_length_le (by simp; omega), ← List.drop_drop] at r2
  exact ⟨_, _, (List.take_append_drop a.n cs).symm, r0, _, _, (List.take_append_drop b.n (cs.drop a.n)).symm, r1, r2⟩
theorem val_agg (cs : Array Value) (h : cs.size ≠ 1) : val cs.toList = .agg cs := by
 obtain ⟨l⟩ := cs
 match l, h with
 | [], _ => rfl
 | [x], h => simp at h
 | x :: y :: r, _ => rfl
theorem Opens.st {α : Type} {t : TypeId} {c : Cod α} {v : Value} {d : DataW H} {p : List MemPlace} (ho : Opens enc P w t c) (hv : ∃ cs, v = .agg cs ∧ cs.size = P.cellsOf t) (hn : P.cellsOf t ≠ 1) (h : DataW.Trod enc P w 0 (fun _ => true) true t v d p) : ∃ x cs, v = val cs ∧ c.rd w x cs := by
 obtain ⟨cs, rfl, hs⟩ := hv
 obtain ⟨fuel, hf⟩ := h
 obtain ⟨x, hx⟩ := ho _ _ _ hf
 exact ⟨x, cs.toList, (val_agg cs (by omega)).symm, hx⟩
end
section
variable {H : Type} {enc : TypeId × Value → H} {P : Program} {w : World}
theorem opens_struct7 {α β γ δ ε ζ θ η : Type} {t : TypeId} {fs : Array Field} {f0 f1 f2 f3 f4 f5 f6 : Field} {a : Cod α} {b : Cod β} {c : Cod γ} {d : Cod δ} {g : Cod ε} {h : Cod ζ} {k : Cod θ} {f : η → α × β × γ × δ × ε × ζ × θ} (ht : P.underlying t = some (.struct fs)) (hf : fs = #[f0, f1, f2, f3, f4, f5, f6])
  (o0 : f0.offset = 0) (o1 : f1.offset = a.n) (o2 : f2.offset = a.n + b.n) (o3 : f3.offset = a.n + b.n + c.n) (o4 : f4.offset = a.n + b.n + c.n + d.n) (o5 : f5.offset = a.n + b.n + c.n + d.n + g.n) (o6 : f6.offset = a.n + b.n + c.n + d.n + g.n + h.n)
  (n0 : P.cellsOf f0.type = a.n) (n1 : P.cellsOf f1.type = b.n) (n2 : P.cellsOf f2.type = c.n) (n3 : P.cellsOf f3.type = d.n) (n4 : P.cellsOf f4.type = g.n) (n5 : P.cellsOf f5.type = h.n) (n6 : P.cellsOf f6.type = k.n) (hs : P.cellsOf t = a.n + (b.n + (c.n + (d.n + (g.n + (h.n + k.n))))))
  (h0 : Opens enc P w f0.type a) (h1 : Opens enc P w f1.type b) (h2 : Opens enc P w f2.type c) (h3 : Opens enc P w f3.type d) (h4 : Opens enc P w f4.type g) (h5 : Opens enc P w f5.type h) (h6 : Opens enc P w f6.type k) (inv : α → β → γ → δ → ε → ζ → θ → η) (hi : ∀ x y z u v s q, f (inv x y z u v s q) = (x, y, z, u, v, s, q)) : Opens enc P w t (cMap (cPair a (cPair b (cPair c (cPair d (cPair g (cPair h k)))))) f) := by
 subst hf
 intro fuel cs x hh
 obtain ⟨xs, kk, _, _, hl, hxl, hfx⟩ := DataW.trod_struct ht hh
 have g0 := hfx 0 f0 rfl
 have g1 := hfx 1 f1 rfl
 have g2 := hfx 2 f2 rfl
 have g3 := hfx 3 f3 rfl
 have g4 := hfx 4 f4 rfl
 have g5 := hfx 5 f5 rfl
 have g6 := hfx 6 f6 rfl
 match xs, hxl with
 | [y0, y1, y2, y3, y4, y5, y6], _ =>
  obtain ⟨z0, r0⟩ := h0 _ _ _ g0
  obtain ⟨z1, r1⟩ := h1 _ _ _ g1
  obtain ⟨z2, r2⟩ := h2 _ _ _ g2
  obtain ⟨z3, r3⟩ := h3 _ _ _ g3
  obtain ⟨z4, r4⟩ := h4 _ _ _ g4
  obtain ⟨z5, r5⟩ := h5 _ _ _ g5
  obtain ⟨z6, r6⟩ := h6 _ _ _ g6
  refine ⟨inv z0 z1 z2 z3 z4 z5 z6, ?_⟩
  show (cPair a (cPair b (cPair c (cPair d (cPair g (cPair h k)))))).rd w (f (inv z0 z1 z2 z3 z4 z5 z6)) cs
  rw [hi]
  rw [o0, n0, List.drop_zero] at r0
  rw [o1, n1] at r1
  rw [o2, n2, ← List.drop_drop] at r2
  rw [o3, n3, ← List.drop_drop, ← List.drop_drop] at r3
  rw [o4, n4, ← List.drop_drop, ← List.drop_drop, ← List.drop_drop] at r4
  rw [o5, n5, ← List.drop_drop, ← List.drop_drop, ← List.drop_drop, ← List.drop_drop] at r5
  rw [o6, n6, List.take_of_length_le (by simp; omega), ← List.drop_drop, ← List.drop_drop, ← List.drop_drop, ← List.drop_drop, ← List.drop_drop] at r6
  exact ⟨_, _, (List.take_append_drop a.n cs).symm, r0, _, _, (List.take_append_drop b.n (cs.drop a.n)).symm, r1, _, _, (List.take_append_drop c.n ((cs.drop a.n).drop b.n)).symm, r2, _, _, (List.take_append_drop d.n (((cs.drop a.n).drop b.n).drop c.n)).symm, r3, _, _, (List.take_append_drop g.n ((((cs.drop a.n).drop b.n).drop c.n).drop d.n)).symm, r4, _, _, (List.take_append_drop h.n (((((cs.drop a.n).drop b.n).drop c.n).drop d.n).drop g.n)).symm, r5, r6⟩
end
end Go.Proofs.YtfaehioeepolhabGreat
namespace Go.Proofs.YtfaehioeepolhabGreat
open Go.RowKit
structure PF where
 name : List Nat
 kind : Int
 width : Int
def cField : Cod PF := cMap (cPair (cSl cByte 5) (cPair cInt cInt)) fun f => (f.name, f.kind, f.width)
theorem cField_rd {w : World} {f : PF} {cs : List Value} (h : cField.rd w f cs) : ∃ v, cs = [v, .int .i64 f.kind, .int .i64 f.width] ∧ RdSl cByte w f.name v ∧ IntIn f.kind ∧ IntIn f.width := by
 obtain ⟨c1, c2, rfl, ⟨v, rfl, h1⟩, c3, c4, rfl, ⟨rfl, h2⟩, rfl, h3⟩ := h
 exact ⟨v, rfl, h1, h2, h3⟩
theorem cField_mk {w : World} {f : PF} {v : Value} (h1 : RdSl cByte w f.name v) (h2 : IntIn f.kind) (h3 : IntIn f.width) : cField.rd w f [v, .int .i64 f.kind, .int .i64 f.width] :=
 ⟨[v], _, rfl, ⟨v, rfl, h1⟩, _, _, rfl, ⟨rfl, h2⟩, rfl, h3⟩
theorem cField_own {w : World} {f : PF} {v : Value} {bs : List Nat} (h1 : OwnSl cByte 5 w f.name v bs) (h2 : IntIn f.kind) (h3 : IntIn f.width) : cField.own w f [v, .int .i64 f.kind, .int .i64 f.width] bs :=
 ⟨[v], _, bs, [], rfl, by simp, ⟨v, rfl, h1⟩, _, _, [], [], rfl, rfl, ⟨rfl, h2, rfl⟩, rfl, h3, rfl⟩
theorem cField_owned {w : World} {f : PF} {cs : List Value} {bs : List Nat} (h : cField.own w f cs bs) : ∃ v, cs = [v, .int .i64 f.kind, .int .i64 f.width] ∧ OwnSl cByte 5 w f.name v bs ∧ IntIn f.kind ∧ IntIn f.width := by
 obtain ⟨c1, c2, b1, b2, rfl, rfl, ⟨v, rfl, h1⟩, c3, c4, b3, b4, rfl, rfl, ⟨rfl, h2, rfl⟩, rfl, h3, rfl⟩ := h
 exact ⟨v, rfl, by simpa using h1, h2, h3⟩
theorem cField_shape {w : World} {f : PF} {cs : List Value} (h : cField.rd w f cs) : ∃ a cap, cs = [.slice a f.name.length cap, .int .i64 f.kind, .int .i64 f.width] := by
 obtain ⟨v, rfl, ⟨a, cap, rfl, _⟩, _⟩ := cField_rd h
 exact ⟨a, cap, rfl⟩
end Go.Proofs.YtfaehioeepolhabGreat
namespace Go.Proofs.YtfaehioeepolhabGreat
open Go.ChangeShapes Go.WideShapes Go.ChangeAt Go.RowKit
theorem opens_bytes {H : Type} (enc : TypeId × Value → H) (W : World) : Opens enc Tryz.prog W 87 (cSl cByte 5) :=
 opens_slice Tryz.underlying87 (by kernel_rfl) (by decide) (opens_byte Tryz.underlying5) _
theorem opens_Field {H : Type} (enc : TypeId × Value → H) (W : World) : Opens enc Tryz.prog W 89 cField :=
 opens_struct3 Tryz.underlying89 rfl rfl rfl rfl (by kernel_rfl) (by kernel_rfl) (by kernel_rfl) (by kernel_rfl) (opens_bytes enc W) (opens_int Tryz.underlying3) (opens_int Tryz.underlying3) (fun x y z => ⟨x, y, z⟩) (fun _ _ _ => rfl)
theorem opens_FieldS {H : Type} (enc : TypeId × Value → H) (W : World) : Opens enc Tryz.prog W 22 (cSl cField 101) :=
 opens_slice Tryz.underlying22 (by kernel_rfl) (by decide) (opens_Field enc W) _
end Go.Proofs.YtfaehioeepolhabGreat
namespace Go.Proofs.YtfaehioeepolhabGreat
open Go.RowKit
structure PC where
 null : Bool
 num : Int
 text : List Nat
def cCell : Cod PC := cMap (cPair cBool (cPair cInt (cSl cByte 5))) fun f => (f.null, f.num, f.text)
theorem cCell_rd {w : World} {f : PC} {cs : List Value} (h : cCell.rd w f cs) : ∃ v, cs = [.bool f.null, .int .i64 f.num, v] ∧ RdSl cByte w f.text v ∧ IntIn f.num := by
 obtain ⟨c1, c2, rfl, h0, c3, c4, rfl, ⟨rfl, h2⟩, v, rfl, h3⟩ := h
 have h0 : c1 = [.bool f.null] := h0
 subst h0
 exact ⟨v, rfl, h3, h2⟩
theorem cCell_mk {w : World} {f : PC} {v : Value} (h1 : RdSl cByte w f.text v) (h2 : IntIn f.num) : cCell.rd w f [.bool f.null, .int .i64 f.num, v] :=
 ⟨[_], _, rfl, rfl, [_], _, rfl, ⟨rfl, h2⟩, v, rfl, h1⟩
theorem cCell_own {w : World} {f : PC} {v : Value} {bs : List Nat} (h1 : OwnSl cByte 5 w f.text v bs) (h2 : IntIn f.num) : cCell.own w f [.bool f.null, .int .i64 f.num, v] bs :=
 ⟨[_], _, [], bs, rfl, rfl, ⟨rfl, rfl⟩, [_], _, [], bs, rfl, rfl, ⟨rfl, h2, rfl⟩, v, rfl, h1⟩
theorem cCell_owned {w : World} {f : PC} {cs : List Value} {bs : List Nat} (h : cCell.own w f cs bs) : ∃ v, cs = [.bool f.null, .int .i64 f.num, v] ∧ OwnSl cByte 5 w f.text v bs ∧ IntIn f.num := by
 obtain ⟨c1, c2, b1, b2, rfl, rfl, ⟨h0, rfl⟩, c3, c4, b3, b4, rfl, rfl, ⟨rfl, h2, rfl⟩, v, rfl, h3⟩ := h
 have h0 : c1 = [.bool f.null] := h0
 subst h0
 exact ⟨v, rfl, by simpa using h3, h2⟩
theorem cCell_shape {w : World} {f : PC} {cs : List Value} (h : cCell.rd w f cs) : ∃ a cap, cs = [.bool f.null, .int .i64 f.num, .slice a f.text.length cap] := by
 obtain ⟨v, rfl, ⟨a, cap, rfl, _⟩, _⟩ := cCell_rd h
 exact ⟨a, cap, rfl⟩
end Go.Proofs.YtfaehioeepolhabGreat
namespace Go.Proofs.YtfaehioeepolhabGreat
open Go.ChangeShapes Go.WideShapes Go.ChangeAt Go.RowKit
theorem opens_Cell {H : Type} (enc : TypeId × Value → H) (W : World) : Opens enc Tryz.prog W 94 cCell :=
 opens_struct3 Tryz.underlying94 rfl rfl rfl rfl (by kernel_rfl) (by kernel_rfl) (by kernel_rfl) (by kernel_rfl) (opens_bool Tryz.underlying4) (opens_int Tryz.underlying3) (opens_bytes enc W) (fun x y z => ⟨x, y, z⟩) (fun _ _ _ => rfl)
theorem opens_CellS {H : Type} (enc : TypeId × Value → H) (W : World) : Opens enc Tryz.prog W 32 (cSl cCell 102) :=
 opens_slice Tryz.underlying32 (by kernel_rfl) (by decide) (opens_Cell enc W) _
end Go.Proofs.YtfaehioeepolhabGreat
namespace Go.Proofs.YtfaehioeepolhabGreat
open Go.RowKit
theorem infoByte : (Tryz.prog.info? 5).map (fun i => (i.zero, i.size, i.bytes)) = some (some (.int .u8 0), 1, 1) := by kernel_rfl
set_option maxHeartbeats 400000 in
theorem toByteS_some (b off cap : Nat) (xs : List Nat) (w : World) (hc : ∀ i, (h : i < xs.length) → w.cell? ⟨b, off + i, none⟩ = some (.int .u8 ((xs[i] : Nat) : Int))) (hbB : xs ≠ [] → b < w.heap.size) (hn : xs.length ≤ 1099511627776) :
  Calls Tryz.prog 115 #[.slice (some ⟨b, off, none⟩) xs.length cap] w fun e w' => ∃ g, e = .returned (.slice (some ⟨g, 0, none⟩) xs.length xs.length) ∧ w'.ownsRow w.heap.size 5 1 (.slice (some ⟨g, 0, none⟩) xs.length xs.length) xs.length (byt xs) ∧ Below w.heap.size w w' := by
 obtain ⟨i0, hi, hz0, hz1, hz2⟩ := info_parts infoByte
 go_enter Tryz.func115, Tryz.ntmps115
 go_wp2_with (first | (at_make; refine wpList_make_full _ rfl (.tmp 6) (.tmp 6) 87 rfl w.heap.size 5 i0 (.int .u8 0) 1 Tryz.underlying87 hi hz0 hz1 .i64 .i64 _ _ xs.length rfl rfl rfl rfl (by rw [hz2]; omega) (by unfold maxLen; omega) (by simp) ?_))
 intro w1 ho hg1
 have hb1 : Below w.heap.size w w1 := (Below.refl _ w).grown hg1 (Nat.le_refl _) (by intro k h; cases h)
 clear hg1 hi hz0 hz1 hz2
 go_wp2
 go_loopw [4] (fun i wr => ∃ k : Nat, k ≤ xs.length ∧ i = .int .i64 k ∧ wr.ownsRow w.heap.size 5 1 (.slice (some ⟨w.heap.size, 0, none⟩) xs.length xs.length) xs.length ((byt xs).take k ++ (List.replicate xs.length (Value.int .u8 0)).drop k) ∧ Below w.heap.size w wr) (fun i _ => xs.length - (intOf i).toNat)
 case atStart => exact ⟨0, Nat.zero_le _, rfl, by simpa [made_list] using ho, hb1⟩
 case round =>
  obtain ⟨k, hk, rfl, how, hbe⟩ := hrel
  by_cases hlt : k < xs.length
  ·have hcx : wr.cell? ⟨b, off + k, none⟩ = some (.int .u8 ((xs[k] : Nat) : Int)) := (hbe.cell (by exact hbB (by intro h; simp [h] at hlt))).trans (hc k hlt)
   have hfz := how.frozenAt k
   obtain ⟨o, hco⟩ := own_cell how hlt
   have hR := fill_round (byt_len xs) (by simp) (byt_at hlt) (Nat.le_refl _) how hbe
   clear how hbe ho hb1
   go_wp2
   go_roundw
   case rel => exact ⟨k + 1, by omega, by go_num, hR.1, hR.2⟩
   case measure => simp [intOf]; omega
  ·obtain rfl : k = xs.length := by omega
   rw [fill_done (byt_len xs) (by simp)] at how
   go_wp2
   go_ret
   exact ⟨_, rfl, how, hbe⟩
set_option maxHeartbeats 400000 in
theorem toByteS_none (a : Option Addr) (cap : Nat) (w : World) :
  Calls Tryz.prog 115 #[.slice a 0 cap] w fun e w' => ∃ g, e = .returned (.slice (some ⟨g, 0, none⟩) 0 0) ∧ w'.ownsRow w.heap.size 5 1 (.slice (some ⟨g, 0, none⟩) 0 0) 0 [] ∧ Below w.heap.size w w' := by
 obtain ⟨i0, hi, hz0, hz1, hz2⟩ := info_parts infoByte
 go_enter Tryz.func115, Tryz.ntmps115
 go_wp2_with (first | (at_make; refine wpList_make_full _ rfl (.tmp 6) (.tmp 6) 87 rfl w.heap.size 5 i0 (.int .u8 0) 1 Tryz.underlying87 hi hz0 hz1 .i64 .i64 _ _ 0 rfl rfl rfl rfl (by omega) (by unfold maxLen; omega) (by simp) ?_))
 intro w1 ho hg1
 have hb1 : Below w.heap.size w w1 := (Below.refl _ w).grown hg1 (Nat.le_refl _) (by intro k h; cases h)
 clear hg1 hi hz0 hz1 hz2
 go_wp2
 refine wp_loop_rounds 1 ?_; rw [rounds_succ]
 go_wp2
 go_ret
 exact ⟨_, rfl, by simpa [made_list] using ho, hb1⟩
theorem toByteS_any (a : Option Addr) (cap : Nat) (xs : List Nat) (w : World) (hr : Rd w a (byt xs)) (hn : xs.length ≤ 1099511627776) :
  Calls Tryz.prog 115 #[.slice a xs.length cap] w fun e w' => ∃ g, e = .returned (.slice (some ⟨g, 0, none⟩) xs.length xs.length) ∧ w'.ownsRow w.heap.size 5 1 (.slice (some ⟨g, 0, none⟩) xs.length xs.length) xs.length (byt xs) ∧ Below w.heap.size w w' := by
 have hlt := hr.lt
 rcases hr with h0 | ⟨b, off, rfl, hc⟩
 ·obtain rfl : xs = [] := by simpa [byt] using h0
  exact toByteS_none a cap w
 ·exact toByteS_some b off cap xs w (rdByte hc) (fun h => hlt _ rfl (by simpa [byt] using h)) hn
set_option maxHeartbeats 400000 in
theorem toCell_any (f : PC) (v0 : Value) (w : World) (hv : RdSl cByte w f.text v0) (hn : f.text.length ≤ 1048576) :
  Calls Tryz.prog 73 #[.agg #[.bool f.null, .int .i64 f.num, v0]] w fun e w' => ∃ v bs, e = .returned (.agg #[.bool f.null, .int .i64 f.num, v]) ∧ OwnSl cByte 5 w' f.text v bs ∧ (∀ b ∈ bs, w.heap.size ≤ b) ∧ bs.Nodup ∧ Below w.heap.size w w' := by
 obtain ⟨a, cap, rfl, hcap, hml, hnone, hrd, hby⟩ := hv.bytes
 have HRD := hid hrd
 clear hrd hv
 go_enter Tryz.func73, Tryz.ntmps73
 go_wp2_with fail
 refine (toByteS_any a cap f.text _ (HRD.out.later (below_new3 _ _ _ _)) (by omega)).mono ?_
 rintro e w2 ⟨g2, rfl, o2, b2⟩
 have hg := own_in o2 (g := g2) rfl
 rw [size3] at hg b2
 obtain ⟨k0, k1, k2⟩ := heap3 _ _ _ b2
 have c10 := cR w2 _ 0 _ _ _ k1
 have c11 := cR w2 _ 1 _ _ _ k1
 have c12 := cR w2 _ 2 _ _ _ k1
 have f10 := fR w2 _ 0 _ _ k1
 have f11 := fR w2 _ 1 _ _ k1
 have f12 := fR w2 _ 2 _ _ k1
 have c20 := cR w2 _ 0 _ _ _ k2
 have c21 := cR w2 _ 1 _ _ _ k2
 have c22 := cR w2 _ 2 _ _ _ k2
 have f22 := fR w2 _ 2 _ _ k2
 simp at c10 c11 c12 c20 c21 c22
 have K1 := hid k1
 clear k0 k1 k2
 go_wp2
 have hb : Below w.heap.size w w2 := (below_new3 w _ _ _).trans (b2.mono (by omega))
 have h12 : w.heap.size + 1 ≠ w.heap.size + 1 + 1 := by omega
 refine bodyPost_ret (results_cell_row rfl _ _ (w.heap.size + 1) 102 #[.bool f.null, .int .i64 f.num, .slice (some ⟨g2, 0, none⟩) f.text.length f.text.length] (0, 0) _ rfl (set3 ((Below.heap_setCell _ ⟨w.heap.size + 1 + 1, 2, none⟩ _ _ h12).trans K1.out)) Tryz.underlying102 rfl (by kernel_rfl)) rfl ?_
 refine ⟨_, [g2], rfl, ?_, by simp; omega, by simp, ?_⟩
 ·refine OwnSl.kept (ownSl_bytes o2 hby) (fun b hb => ?_)
  simp at hb
  subst hb
  have hb2 : b ≠ w.heap.size + 1 + 1 := by omega
  exact (set3o (by omega)).trans (Below.heap_setCell _ ⟨w.heap.size + 1 + 1, 2, none⟩ _ _ hb2)
 ·exact set3b (hb.setCell (p := ⟨w.heap.size + 1 + 1, 2, none⟩) (by simp only []; omega) _) (by omega)
theorem toCell_law : ToLaw Tryz.prog 73 cCell (fun f => f.text.length) := by
 intro w f cs h ht
 obtain ⟨v, rfl, hv, h1⟩ := cCell_rd h
 refine (toCell_any f v w hv ht).mono ?_
 rintro e w' ⟨v', bs, rfl, ho, hb, hn, hbe⟩
 exact ⟨_, bs, rfl, cCell_own ho h1, hb, hn, hbe⟩
theorem infoImCell : (Tryz.prog.info? 102).map (fun i => (i.zero, i.size, i.bytes)) = some (some (.agg #[.bool false, .int .i64 0, .slice none 0 0]), 3, 40) := by kernel_rfl
set_option maxHeartbeats 1000000 in
theorem toCellS_any (a : Option Addr) (cap : Nat) (xs : List PC) (w : World) (hr : RdSl cCell w xs (.slice a xs.length cap)) (ht : totL (fun f : PC => f.text.length) xs ≤ 1048576) :
  Calls Tryz.prog 31 #[.slice a xs.length cap] w fun e w' => ∃ v bs, e = .returned v ∧ OwnSl cCell 102 w' xs v bs ∧ (∀ b ∈ bs, w.heap.size ≤ b) ∧ bs.Nodup ∧ Below w.heap.size w w' := by
 obtain ⟨i0, hi, hz0, hz1, hz2⟩ := info_parts infoImCell
 have HR := hid hr
 clear hr
 have hlen : xs.length ≤ 1048576 := by unfold totL at ht; omega
 go_enter Tryz.func31, Tryz.ntmps31
 go_wp2_with (first | (at_make; refine wpList_make_full _ rfl (.tmp 6) (.tmp 6) 49 rfl w.heap.size 102 i0 (.agg #[.bool false, .int .i64 0, .slice none 0 0]) 3 Tryz.underlying49 hi hz0 hz1 .i64 .i64 _ _ xs.length rfl rfl rfl rfl (by rw [hz2]; omega) (by unfold maxLen; omega) (by simp) ?_))
 intro w1 ho hg1
 have HB1 : Hid (Below w.heap.size w w1) := hid ((Below.refl _ w).grown hg1 (Nat.le_refl _) (by intro k h; cases h))
 have HM : Hid (Made3 cCell 102 w w1 xs 0) := hid ⟨_, [], ho, rfl, fun i h h2 => by simp at h2, by simp, by simp⟩
 clear hg1 hi hz0 hz1 hz2 ho
 go_wp2
 go_loopw [4] (fun i wr => ∃ k : Nat, k ≤ xs.length ∧ i = .int .i64 k ∧ Made3 cCell 102 w wr xs k ∧ Below w.heap.size w wr) (fun i _ => xs.length - (intOf i).toNat)
 case atStart => exact ⟨0, Nat.zero_le _, rfl, HM.out, HB1.out⟩
 case round =>
  obtain ⟨k, hk, rfl, hm, hbe⟩ := hrel
  have HV := hid hm
  have HB := hid hbe
  clear hm hbe
  by_cases hlt : k < xs.length
  ·obtain ⟨b, off, v0, v1, v2, rfl, hes, d0, d1, d2⟩ := (HR.out.later HB.out).at3 rfl hlt
   have HE := hid hes
   have hki : (k : Int) < (xs.length : Int) := by omega
   clear hes
   go_wp2_with fail
   refine (toCell_law wr xs[k] _ HE.out (by have := tot_at (fun f : PC => f.text.length) xs k hlt; unfold totL at ht; simp only [] at this ⊢; omega)).mono ?_
   rintro e w2 ⟨cs', bs, rfl, o2, hbs, hnd, b2⟩
   obtain ⟨ax, cx, rfl⟩ := cCell_shape (cCell.ownRd o2)
   simp only [val]
   have HN : Hid (Made3 cCell 102 w (((w2.setCell ⟨w.heap.size, k * 3, none⟩ (.bool xs[k].null)).setCell ⟨w.heap.size, k * 3 + 1, none⟩ (.int .i64 xs[k].num)).setCell ⟨w.heap.size, k * 3 + 2, none⟩ (.slice ax xs[k].text.length cx)) xs (k + 1)) := hid (HV.out.step hlt b2 o2 hbs hnd)
   have HBB : Hid (Below w.heap.size w (((w2.setCell ⟨w.heap.size, k * 3, none⟩ (.bool xs[k].null)).setCell ⟨w.heap.size, k * 3 + 1, none⟩ (.int .i64 xs[k].num)).setCell ⟨w.heap.size, k * 3 + 2, none⟩ (.slice ax xs[k].text.length cx))) := hid ((((HB.out.trans (b2.mono HB.out.size)).setCell (p := ⟨w.heap.size, k * 3, none⟩) (Nat.le_refl _) _).setCell (p := ⟨w.heap.size, k * 3 + 1, none⟩) (Nat.le_refl _) _).setCell (p := ⟨w.heap.size, k * 3 + 2, none⟩) (Nat.le_refl _) _)
   obtain ⟨vs, hvl, how2⟩ := HV.out.row b2
   have f0 := how2.frozenAt (k * 3)
   have f1 := how2.frozenAt (k * 3 + 1)
   have f2 := how2.frozenAt (k * 3 + 2)
   have q0 := how2.cellAt (k * 3) (by omega)
   have q1 := how2.cellAt (k * 3 + 1) (by omega)
   have q2 := how2.cellAt (k * 3 + 2) (by omega)
   rw [List.getElem?_eq_getElem (by omega)] at q0 q1 q2
   generalize vs[k * 3] = y0 at q0
   generalize vs[k * 3 + 1] = y1 at q1
   generalize vs[k * 3 + 2] = y2 at q2
   clear o2 hbs hnd b2 how2 hvl
   go_wp2
   go_roundw
   case rel => exact ⟨k + 1, by omega, by go_num, HN.out, HBB.out⟩
   case measure => simp [intOf]; omega
  ·obtain rfl : k = xs.length := by omega
   obtain ⟨bs, h1, h2, h3⟩ := HV.out.done rfl
   have HF := hid h1
   clear h1
   go_wp2
   go_ret
   exact ⟨_, bs, rfl, HF.out, h2, h3, HB.out⟩
set_option maxHeartbeats 400000 in
theorem szCell_law : SzLaw Tryz.prog 56 cCell (fun f : PC => f.text.length) := by
 intro w x cs l hrd h0 h1
 obtain ⟨a, cap, rfl⟩ := cCell_shape hrd
 have hm : x.text.length ≤ maxLen := by
  obtain ⟨v, e, ⟨a', cap', rfl, h2, h3, _⟩, _⟩ := cCell_rd hrd
  omega
 simp only [val]
 by_cases hneg : rest l x.text.length < 0
 ·have hm1 := rest_neg1 hneg
  go_enter Tryz.func56, Tryz.ntmps56
  go_wp2_with fail
  refine (szBytes_any a _ cap l _ hm h0 h1).mono ?_
  rintro e w2 ⟨rfl, rfl⟩
  have HM := hid hm1
  clear hm1
  generalize hr : rest l x.text.length = r at *
  go_wp2
  go_ret
  exact ⟨by show _ = Ending.returned (.int .i64 (rest l x.text.length)); rw [hr, HM.out]; rfl, bN _ _⟩
 ·go_enter Tryz.func56, Tryz.ntmps56
  go_wp2_with fail
  refine (szBytes_any a _ cap l _ hm h0 h1).mono ?_
  rintro e w2 ⟨rfl, rfl⟩
  generalize hr : rest l x.text.length = r at *
  go_wp2
  go_ret
  exact ⟨by show _ = Ending.returned (.int .i64 (rest l x.text.length)); rw [hr]; rfl, bN _ _⟩
set_option maxHeartbeats 1000000 in
theorem szCellS_any (a : Option Addr) (cap : Nat) (xs : List PC) (l : Int) (w : World) (hr : RdSl cCell w xs (.slice a xs.length cap)) (h0 : 0 ≤ l) (h1 : l ≤ 1048576) :
  Calls Tryz.prog 22 #[.slice a xs.length cap, .int .i64 l] w fun e w' => e = .returned (.int .i64 (rest l (totL (fun f : PC => f.text.length) xs))) ∧ Below w.heap.size w w' := by
 have hml : xs.length ≤ maxLen := by
  obtain ⟨a', cap', e', g1, g2, _⟩ := hr
  omega
 unfold maxLen at hml
 have HR := hid hr
 clear hr
 by_cases hbig : l - (xs.length : Int) < 0
 ·have HM : Hid (rest l (totL (fun f : PC => f.text.length) xs) = -1) := hid (by unfold rest totL; rw [if_pos (by omega)])
  go_enter Tryz.func22, Tryz.ntmps22
  go_wp2
  go_ret
  exact ⟨by rw [HM.out]; rfl, Below.refl _ _⟩
 ·go_enter Tryz.func22, Tryz.ntmps22
  go_wp2
  go_loopw [1, 5] (fun q i wr => ∃ k : Nat, k ≤ xs.length ∧ i = .int .i64 k ∧ q = .int .i64 (rest l (xs.length + ((xs.take k).map (fun f : PC => f.text.length)).sum)) ∧ 0 ≤ rest l (xs.length + ((xs.take k).map (fun f : PC => f.text.length)).sum) ∧ Below w.heap.size w wr) (fun _ i _ => xs.length - (intOf i).toNat)
  case atStart => exact ⟨0, Nat.zero_le _, rfl, by simp [rest]; omega, by simp [rest]; omega, Below.refl _ _⟩
  case round =>
   obtain ⟨k, hk, rfl, rfl, hle, hbe⟩ := hrel
   have HB := hid hbe
   clear hbe
   by_cases hlt : k < xs.length
   ·obtain ⟨b, off, v0, v1, v2, rfl, hes, d0, d1, d2⟩ := (HR.out.later HB.out).at3 rfl hlt
    have HE := hid hes
    have hki : (k : Int) < (xs.length : Int) := by omega
    have HS := hid (sum_snoc (fun f : PC => f.text.length) xs k hlt)
    have HT := hid (rest_two (m := (fun f : PC => f.text.length) xs[k]) hle)
    have HNG : Hid (rest l (xs.length + ((xs.take (k + 1)).map (fun f : PC => f.text.length)).sum) < 0 → rest l (totL (fun f : PC => f.text.length) xs) = -1) := hid (fun h => by
     have h2 := sum_take (fun f : PC => f.text.length) xs (k + 1)
     have h3 := rest_neg (m := totL (fun f : PC => f.text.length) xs - (xs.length + ((xs.take (k + 1)).map (fun f : PC => f.text.length)).sum)) h
     unfold totL at *
     rw [show xs.length + ((xs.take (k + 1)).map (fun f : PC => f.text.length)).sum + (xs.length + (xs.map (fun f : PC => f.text.length)).sum - (xs.length + ((xs.take (k + 1)).map (fun f : PC => f.text.length)).sum)) = xs.length + (xs.map (fun f : PC => f.text.length)).sum from by omega] at h3
     exact h3)
    have hup := rest_le (n := xs.length + ((xs.take k).map (fun f : PC => f.text.length)).sum) h1
    clear hes
    generalize hq : rest l (xs.length + ((xs.take k).map (fun f : PC => f.text.length)).sum) = q at *
    go_wp2_with fail
    refine (szCell_law wr xs[k] _ q HE.out hle hup).mono ?_
    rintro e w2 ⟨rfl, b2⟩
    have HB2 := hid (HB.out.trans (b2.mono HB.out.size))
    clear b2
    have HQ : Hid (rest q ((fun f : PC => f.text.length) xs[k]) = rest l (xs.length + ((xs.take (k + 1)).map (fun f : PC => f.text.length)).sum)) := hid (by rw [HT.out, HS.out, Nat.add_assoc])
    generalize rest q ((fun f : PC => f.text.length) xs[k]) = r at *
    by_cases hneg : r < 0
    ·have hz := HNG.out (by rw [← HQ.out]; exact hneg)
     have HZ := hid hz
     clear hz
     go_wp2
     go_ret
     exact ⟨by rw [HZ.out]; rfl, HB2.out⟩
    ·go_wp2
     go_roundw
     case rel => exact ⟨k + 1, by omega, by go_num, by rw [HQ.out], by rw [← HQ.out]; omega, HB2.out⟩
     case measure => simp [intOf]; omega
   ·obtain rfl : k = xs.length := by omega
    have HF : Hid (rest l (xs.length + ((xs.take xs.length).map (fun f : PC => f.text.length)).sum) = rest l (totL (fun f : PC => f.text.length) xs)) := hid (by rw [List.take_length]; rfl)
    rw [HF.out]
    go_wp2
    go_ret
    exact ⟨rfl, HB.out⟩
end Go.Proofs.YtfaehioeepolhabGreat
