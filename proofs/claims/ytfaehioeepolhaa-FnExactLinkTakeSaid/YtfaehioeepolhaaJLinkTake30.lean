import Derived.Test.YtfaehioeepolhaaJLinkTake28
import Derived.Test.YtfaehioeepolhaaJLinkTake29
import Derived.Test.YtfaehioeepolhaaJLinkTake15
namespace Go.Proofs.Ytfaehioeepolhaa
open Go.RowKit
def fcAggI (lo : Nat) (e x : Int) (D : List Nat) : Fct := ⟨fun v w => ∃ a c, v = .agg #[.int .i64 e, .int .i64 x, .slice none 0 0, .slice a D.length c] ∧ w.ownsRow lo 5 1 (.slice a D.length c) D.length (byt D), fun _ _ _ ⟨a, c, e, h⟩ hb => ⟨a, c, e, own_later h hb⟩⟩
def fcNewI (lo : Nat) : Fct := ⟨fun v w => ∃ g, v = .pointer (some ⟨g, 0, none⟩) ∧ lo ≤ g ∧ w.heap[g]? = some (.cells #[.int .i64 0, .int .i64 0, .slice none 0 0, .slice none 0 0] 32 (0, 0)), fun _ _ _ ⟨g, e, l, h⟩ hb => ⟨g, e, l, (hb.block _ (Array.getElem?_eq_some_iff.1 h).1).trans h⟩⟩
def niH (lo : Nat) (e x : Int) (D : List Nat) (y : Nat → Bool) (t : Nat → Value) (w : World) : Prop := y 9 = true → ∃ g a c, t 8 = .pointer (some ⟨g, 0, none⟩) ∧ lo ≤ g ∧ w.heap[g]? = some (.cells #[.int .i64 e, .int .i64 x, .slice none 0 0, .slice a D.length c] 32 (0, 0)) ∧ w.ownsRow lo 5 1 (.slice a D.length c) D.length (byt D) ∧ ∀ x, (Value.slice a D.length c).ownBlock = some x → x ≠ g
set_option linter.unusedVariables false in
def niT (lo gO : Nat) (e x : Int) (pv : Value) (D : List Nat) : Nat → FX
  | 0 => FX.eq (.pointer (some ⟨gO, 0, none⟩))
  | 1 => FX.eq (.int .i64 e)
  | 2 => FX.eq (.pointer (some ⟨gO, 1, none⟩))
  | 3 => FX.eq (.int .i64 x)
  | 4 => FX.eq (.pointer (some ⟨gO, 3, none⟩))
  | 5 => FX.eq (pv)
  | 6 => FX.pre [9] (fcRowD lo D)
  | 7 => FX.pre [9] (fcAggI lo e x D)
  | 8 => FX.pre [9] (fcNewI lo)
  | 9 => FX.is Fct.any
  | _ => FX.eq undef
def InBox (B gm : Nat) (e x : Int) (pv : Value) (D us : List Nat) (xs : List PP) (w : World) : Prop :=
  ∃ a c bs, w.heap[gm]? = some (.cells #[.int .i64 e, .int .i64 x, .slice a xs.length c, pv] 32 (0, 0)) ∧ OwnSl cByte 5 w D pv us ∧ OwnSl cPkt 37 w xs (.slice a xs.length c) bs ∧ bs.Nodup ∧ (∀ b ∈ bs, B ≤ b) ∧ B ≤ w.heap.size
theorem InBox.later {B gm : Nat} {e x : Int} {pv : Value} {D us : List Nat} {xs : List PP} {w w' : World} (h : InBox B gm e x pv D us xs w) (hb : Below w.heap.size w w') : InBox B gm e x pv D us xs w' := by
  obtain ⟨a, c, bs, h1, h0, h2, h3, h4, h5⟩ := h
  exact ⟨a, c, bs, (hb.block _ (Array.getElem?_eq_some_iff.1 h1).1).trans h1, h0.kept (fun b hm => hb.block b (h0.lt b hm)), h2.kept (fun b hm => hb.block b (h2.lt b hm)), h3, h4, Nat.le_trans h5 hb.size⟩
def fcOneP (lo : Nat) (p : PP) : Fct := ⟨fun v w => ∃ g a c bk, v = .slice (some ⟨g, 0, none⟩) 1 1 ∧ w.heap[g]? = some (.cells #[.int .i64 p.kind, .int .i64 p.epoch, .int .i64 p.seq, .int .i64 p.count, .bool p.last, .slice a p.data.length c] 37 (0, 0)) ∧ OwnSl cByte 5 w p.data (.slice a p.data.length c) bk ∧ (∀ b ∈ bk, lo ≤ b) ∧ bk.Nodup,
  fun _ _ _ ⟨g, a, c, bk, e, h0, h1, h2, h3⟩ hb => ⟨g, a, c, bk, e, (hb.block _ (Array.getElem?_eq_some_iff.1 h0).1).trans h0, ownB_kept h1 hb, h2, h3⟩⟩
def fcGotP (B gm : Nat) (e x : Int) (pv : Value) (D us : List Nat) (acc : Value) (xs : List PP) : Fct := ⟨fun v w => w.heap[gm]? = some (.cells #[.int .i64 e, .int .i64 x, acc, pv] 32 (0, 0)) ∧ OwnSl cByte 5 w D pv us ∧ ∃ a c bs, v = .slice a xs.length c ∧ OwnSl cPkt 37 w xs (.slice a xs.length c) bs ∧ bs.Nodup ∧ (∀ b ∈ bs, B ≤ b) ∧ B ≤ w.heap.size,
  fun _ _ _ ⟨h1, h0, a, c, bs, e, h2, h3, h4, h5⟩ hb => ⟨(hb.block _ (Array.getElem?_eq_some_iff.1 h1).1).trans h1, h0.kept (fun b hm => hb.block b (h0.lt b hm)), a, c, bs, e, h2.kept (fun b hm => hb.block b (h2.lt b hm)), h3, h4, Nat.le_trans h5 hb.size⟩⟩
def fcPutP (B gm : Nat) (e x : Int) (pv : Value) (D us : List Nat) (xs : List PP) : Fct := ⟨fun _ w => InBox B gm e x pv D us xs w, fun _ _ _ h hb => h.later hb⟩
theorem inBox_put {B gm : Nat} {e x : Int} {pv acc : Value} {D us : List Nat} {xs : List PP} {w : World} {a : Option Addr} {c : Nat} {bs : List Nat} (h : w.heap[gm]? = some (.cells #[.int .i64 e, .int .i64 x, acc, pv] 32 (0, 0))) (h0 : OwnSl cByte 5 w D pv us) (ho : OwnSl cPkt 37 w xs (.slice a xs.length c) bs) (hn : bs.Nodup) (hb : ∀ b ∈ bs, B ≤ b) (h5 : B ≤ w.heap.size) (hg : gm < B) (hu : ∀ b ∈ us, b < B ∧ b ≠ gm) :
    InBox B gm e x pv D us xs (w.setCell ⟨gm, 2, none⟩ (.slice a xs.length c)) :=
  ⟨a, c, bs, heap_setCell_same _ _ 2 _ _ _ h, h0.kept (fun b hm => Below.heap_setCell _ ⟨gm, 2, none⟩ _ _ (hu b hm).2), ho.kept (fun b hm => Below.heap_setCell _ ⟨gm, 2, none⟩ _ _ (by have := hb b hm; simp only []; omega)), hn, hb, by simpa using h5⟩
set_option linter.unusedVariables false in
def shT (B lo gm gO bb off c n k : Nat) (p : PP) (an : Option Addr) (cn : Nat) (acc : Value) (e x : Int) (pv : Value) (D : List Nat) (us : List Nat) (xs : List PP) : Nat → FX
  | 0 => FX.eq (.pointer (some ⟨gm, 2, none⟩))
  | 1 => FX.eq (acc)
  | 2 => FX.eq (.pointer (some ⟨gO, 2, none⟩))
  | 3 => FX.eq (.slice (some ⟨bb, off, none⟩) n c)
  | 4 => FX.eq (.int .i64 (k : Int))
  | 5 => FX.eq (.pointer (some ⟨bb, off + k * 6, none⟩))
  | 6 => FX.eq (.agg #[.int .i64 p.kind, .int .i64 p.epoch, .int .i64 p.seq, .int .i64 p.count, .bool p.last, .slice an p.data.length cn])
  | 7 => FX.pre [9, 11] (fcPk lo p)
  | 8 => FX.pre [9, 11] (fcOneP lo p)
  | 9 => FX.pre [11] (fcGotP B gm e x pv D us acc (xs ++ [p]))
  | 10 => FX.eq (.pointer (some ⟨gm, 2, none⟩))
  | 11 => FX.is (fcPutP B gm e x pv D us (xs ++ [p]))
  | _ => FX.eq undef
end Go.Proofs.Ytfaehioeepolhaa
