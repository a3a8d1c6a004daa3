import Derived.Test.YtfaehioeepolhaaGreatJPoll20
import Derived.Test.YtfaehioeepolhaaGreatJPoll18
import Derived.Test.YtfaehioeepolhaaGreatJPoll21
import Derived.Test.YtfaehioeepolhaaGreatJPoll22
import Derived.Test.YtfaehioeepolhaaGreatJPoll12
namespace Go.Proofs.YtfaehioeepolhaaGreat
open Go.RowKit
theorem RowT.keptB {α : Type} {c : Cod α} {tk : Tk c} {e : TypeId} {B : Nat} {w w' : World} {v : Value} {xs : List α} (h : RowT tk e B w v xs) (hk : ∀ b, B ≤ b → b < w.heap.size → w'.heap[b]? = w.heap[b]?) : RowT tk e B w' v xs :=
  h.kept (fun b _ _ _ _ _ ho _ hp => hk b (World.ownsRow.lt ho b hp).1 (World.ownsRow.lt ho b hp).2)
end Go.Proofs.YtfaehioeepolhaaGreat
namespace Go.Proofs.YtfaehioeepolhaaGreat
open Go.RowKit
structure RcT (B : Nat) (w : World) (r : PRcv) (a1 : Option Addr) (c1 : Nat) (b1 : Option Addr) (d1 : Nat) (a2 : Option Addr) (c2 : Nat) (b2 : Option Addr) (d2 : Nat) (a3 : Option Addr) (c3 : Nat) (bi di : List Nat) : Prop where
  i : OwnIn w r.inn a1 c1 b1 d1 bi di
  l : ∀ x ∈ bi ++ di, B ≤ x
  f : FRow B w (.slice a2 r.str.fields.length c2) r.str.fields
  d : RowT tkTexts 123 B w (.slice b2 r.str.dicts.length d2) r.str.dicts
  t : RowT tkTable 111 B w (.slice a3 r.ready.length c3) r.ready
section
variable {B B' : Nat} {w w' : World} {r : PRcv} {a1 b1 a2 b2 a3 : Option Addr} {c1 d1 c2 d2 c3 : Nat} {bi di : List Nat}
theorem RcT.kept (h : RcT B w r a1 c1 b1 d1 a2 c2 b2 d2 a3 c3 bi di) (hk : ∀ b, B ≤ b → b < w.heap.size → w'.heap[b]? = w.heap[b]?) : RcT B w' r a1 c1 b1 d1 a2 c2 b2 d2 a3 c3 bi di :=
  ⟨keptI h.i (fun x hx => hk x (h.l x hx) (ltI h.i x hx)), h.l, RowT.keptB (tk := tkField) h.f hk, h.d.keptB hk, h.t.keptB hk⟩
theorem RcT.later (h : RcT B w r a1 c1 b1 d1 a2 c2 b2 d2 a3 c3 bi di) (hb : Below w.heap.size w w') : RcT B w' r a1 c1 b1 d1 a2 c2 b2 d2 a3 c3 bi di :=
  ⟨keptI h.i (fun x hx => hb.block x (ltI h.i x hx)), h.l, h.f.later hb, h.d.later hb, h.t.later hb⟩
theorem RcT.mono (h : RcT B w r a1 c1 b1 d1 a2 c2 b2 d2 a3 c3 bi di) (hb : B' ≤ B) : RcT B' w r a1 c1 b1 d1 a2 c2 b2 d2 a3 c3 bi di :=
  ⟨h.i, fun x hx => Nat.le_trans hb (h.l x hx), frow_mono h.f hb, h.d.mono hb, h.t.mono hb⟩
theorem RcT.rd (h : RcT B w r a1 c1 b1 d1 a2 c2 b2 d2 a3 c3 bi di) : RdRcv w r a1 c1 b1 d1 a2 c2 b2 d2 a3 c3 := ⟨h.i.rd, ⟨h.f.rd, h.d.rd⟩, h.t.rd⟩
end
def fcInR (lo : Nat) (r : PRcv) : Fct := ⟨fun v w => ∃ a1 c1 b1 d1 bi di, v = .agg #[.int .i64 r.inn.epoch, .int .i64 r.inn.expect, .slice a1 r.inn.held.length c1, .slice b1 r.inn.part.length d1] ∧ OwnIn w r.inn a1 c1 b1 d1 bi di ∧ ∀ x ∈ bi ++ di, lo ≤ x, fun _ _ _ ⟨a1, c1, b1, d1, bi, di, e, h1, h2⟩ hb => ⟨a1, c1, b1, d1, bi, di, e, keptI h1 (fun x hx => hb.block x (ltI h1 x hx)), h2⟩⟩
def fcStR (lo : Nat) (r : PRcv) : Fct := ⟨fun v w => ∃ a2 c2 b2 d2, v = .agg #[.bool r.str.opened, .slice a2 r.str.fields.length c2, .int .i64 r.str.next, .slice b2 r.str.dicts.length d2] ∧ FRow lo w (.slice a2 r.str.fields.length c2) r.str.fields ∧ RowT tkTexts 123 lo w (.slice b2 r.str.dicts.length d2) r.str.dicts, fun _ _ _ ⟨a2, c2, b2, d2, e, h1, h2⟩ hb => ⟨a2, c2, b2, d2, e, h1.later hb, h2.later hb⟩⟩
def fcTsR (lo : Nat) (r : PRcv) : Fct := ⟨fun v w => RowT tkTable 111 lo w v r.ready, fun _ _ _ h hb => h.later hb⟩
def fcAgR (lo : Nat) (r : PRcv) : Fct := ⟨fun v w => ∃ a1 c1 b1 d1 a2 c2 b2 d2 a3 c3 bi di, v = .agg #[.int .i64 r.epoch, .int .i64 r.count, .bool r.live, .int .i64 r.inn.epoch, .int .i64 r.inn.expect, .slice a1 r.inn.held.length c1, .slice b1 r.inn.part.length d1, .bool r.str.opened, .slice a2 r.str.fields.length c2, .int .i64 r.str.next, .slice b2 r.str.dicts.length d2, .slice a3 r.ready.length c3, .int .i64 r.errors] ∧ RcT lo w r a1 c1 b1 d1 a2 c2 b2 d2 a3 c3 bi di, fun _ _ _ ⟨a1, c1, b1, d1, a2, c2, b2, d2, a3, c3, bi, di, e, h⟩ hb => ⟨a1, c1, b1, d1, a2, c2, b2, d2, a3, c3, bi, di, e, h.later hb⟩⟩
def fcBxR (lo gR : Nat) (r : PRcv) : Fct := ⟨fun _ w => ∃ a1 c1 b1 d1 a2 c2 b2 d2 a3 c3 bi di, w.heap[gR]? = some (.cells #[.int .i64 r.epoch, .int .i64 r.count, .bool r.live, .int .i64 r.inn.epoch, .int .i64 r.inn.expect, .slice a1 r.inn.held.length c1, .slice b1 r.inn.part.length d1, .bool r.str.opened, .slice a2 r.str.fields.length c2, .int .i64 r.str.next, .slice b2 r.str.dicts.length d2, .slice a3 r.ready.length c3, .int .i64 r.errors] 43 (0, 0)) ∧ RcT lo w r a1 c1 b1 d1 a2 c2 b2 d2 a3 c3 bi di, fun _ _ _ ⟨a1, c1, b1, d1, a2, c2, b2, d2, a3, c3, bi, di, e, h⟩ hb => ⟨a1, c1, b1, d1, a2, c2, b2, d2, a3, c3, bi, di, (hb.block _ (Array.getElem?_eq_some_iff.1 e).1).trans e, h.later hb⟩⟩
set_option linter.unusedVariables false in
def l6T (lo gO gR : Nat) (r : PRcv) (a1 b1 a2 b2 a3 : Option Addr) (c1 d1 c2 d2 c3 : Nat) : Nat → FX
  | 0 => FX.eq (.pointer (some ⟨gO, 0, none⟩))
  | 1 => FX.eq (.int .i64 r.epoch)
  | 2 => FX.eq (.pointer (some ⟨gO, 1, none⟩))
  | 3 => FX.eq (.int .i64 r.count)
  | 4 => FX.eq (.pointer (some ⟨gO, 2, none⟩))
  | 5 => FX.eq (.bool r.live)
  | 6 => FX.eq (.pointer (some ⟨gO, 3, none⟩))
  | 7 => FX.eq (.agg #[.int .i64 r.inn.epoch, .int .i64 r.inn.expect, .slice a1 r.inn.held.length c1, .slice b1 r.inn.part.length d1])
  | 8 => FX.pre [18] (fcInR lo r)
  | 9 => FX.eq (.pointer (some ⟨gO, 7, none⟩))
  | 10 => FX.eq (.agg #[.bool r.str.opened, .slice a2 r.str.fields.length c2, .int .i64 r.str.next, .slice b2 r.str.dicts.length d2])
  | 11 => FX.pre [18] (fcStR lo r)
  | 12 => FX.eq (.pointer (some ⟨gO, 11, none⟩))
  | 13 => FX.eq (.slice a3 r.ready.length c3)
  | 14 => FX.pre [18] (fcTsR lo r)
  | 15 => FX.eq (.pointer (some ⟨gO, 12, none⟩))
  | 16 => FX.eq (.int .i64 r.errors)
  | 17 => FX.pre [18] (fcAgR lo r)
  | 18 => FX.is (fcBxR lo gR r)
  | _ => FX.eq undef
set_option maxRecDepth 100000 in
set_option maxHeartbeats 8000000 in
theorem l6receiver_any (r : PRcv) (a1 b1 a2 b2 a3 : Option Addr) (c1 d1 c2 d2 c3 : Nat) (w : World) (hr : RdRcv w r a1 c1 b1 d1 a2 c2 b2 d2 a3 c3) (ht : tRcv r ≤ 1048576) :
    Calls Tryz.prog 76 #[.agg #[.int .i64 r.epoch, .int .i64 r.count, .bool r.live, .int .i64 r.inn.epoch, .int .i64 r.inn.expect, .slice a1 r.inn.held.length c1, .slice b1 r.inn.part.length d1, .bool r.str.opened, .slice a2 r.str.fields.length c2, .int .i64 r.str.next, .slice b2 r.str.dicts.length d2, .slice a3 r.ready.length c3, .int .i64 r.errors]] w fun e w' => ∃ a1x c1x b1x d1x a2x c2x b2x d2x a3x c3x bi di, e = .returned (.agg #[.int .i64 r.epoch, .int .i64 r.count, .bool r.live, .int .i64 r.inn.epoch, .int .i64 r.inn.expect, .slice a1x r.inn.held.length c1x, .slice b1x r.inn.part.length d1x, .bool r.str.opened, .slice a2x r.str.fields.length c2x, .int .i64 r.str.next, .slice b2x r.str.dicts.length d2x, .slice a3x r.ready.length c3x, .int .i64 r.errors]) ∧ RcT w.heap.size w' r a1x c1x b1x d1x a2x c2x b2x d2x a3x c3x bi di ∧ Below w.heap.size w w' := by
  have HR := hid hr
  clear hr
  have hT : totL pN r.inn.held ≤ 1048576 ∧ r.inn.part.length ≤ 1048576 ∧ totL fN r.str.fields ≤ 1048576 ∧ totL tS r.str.dicts ≤ 1048576 ∧ totL totT r.ready ≤ 1048576 := by unfold tRcv tIn tStr at ht; omega
  have HK0 : Hid (((w.alloc (.cells #[.int .i64 r.epoch, .int .i64 r.count, .bool r.live, .int .i64 r.inn.epoch, .int .i64 r.inn.expect, .slice a1 r.inn.held.length c1, .slice b1 r.inn.part.length d1, .bool r.str.opened, .slice a2 r.str.fields.length c2, .int .i64 r.str.next, .slice b2 r.str.dicts.length d2, .slice a3 r.ready.length c3, .int .i64 r.errors] 43)).alloc (.cells #[.int .i64 0, .int .i64 0, .bool false, .int .i64 0, .int .i64 0, .slice none 0 0, .slice none 0 0, .bool false, .slice none 0 0, .int .i64 0, .slice none 0 0, .slice none 0 0, .int .i64 0] 43)).heap[w.heap.size]? = some (.cells #[.int .i64 r.epoch, .int .i64 r.count, .bool r.live, .int .i64 r.inn.epoch, .int .i64 r.inn.expect, .slice a1 r.inn.held.length c1, .slice b1 r.inn.part.length d1, .bool r.str.opened, .slice a2 r.str.fields.length c2, .int .i64 r.str.next, .slice b2 r.str.dicts.length d2, .slice a3 r.ready.length c3, .int .i64 r.errors] 43 (0, 0))) := hid (heap2 _ _ (Below.refl _ _)).1
  have HL0 : Hid (((w.alloc (.cells #[.int .i64 r.epoch, .int .i64 r.count, .bool r.live, .int .i64 r.inn.epoch, .int .i64 r.inn.expect, .slice a1 r.inn.held.length c1, .slice b1 r.inn.part.length d1, .bool r.str.opened, .slice a2 r.str.fields.length c2, .int .i64 r.str.next, .slice b2 r.str.dicts.length d2, .slice a3 r.ready.length c3, .int .i64 r.errors] 43)).alloc (.cells #[.int .i64 0, .int .i64 0, .bool false, .int .i64 0, .int .i64 0, .slice none 0 0, .slice none 0 0, .bool false, .slice none 0 0, .int .i64 0, .slice none 0 0, .slice none 0 0, .int .i64 0] 43)).heap[w.heap.size + 1]? = some (.cells #[.int .i64 0, .int .i64 0, .bool false, .int .i64 0, .int .i64 0, .slice none 0 0, .slice none 0 0, .bool false, .slice none 0 0, .int .i64 0, .slice none 0 0, .slice none 0 0, .int .i64 0] 43 (0, 0))) := hid (heap2 _ _ (Below.refl _ _)).2
  have HB0 := hid (below_new2 w (.cells #[.int .i64 r.epoch, .int .i64 r.count, .bool r.live, .int .i64 r.inn.epoch, .int .i64 r.inn.expect, .slice a1 r.inn.held.length c1, .slice b1 r.inn.part.length d1, .bool r.str.opened, .slice a2 r.str.fields.length c2, .int .i64 r.str.next, .slice b2 r.str.dicts.length d2, .slice a3 r.ready.length c3, .int .i64 r.errors] 43) (.cells #[.int .i64 0, .int .i64 0, .bool false, .int .i64 0, .int .i64 0, .slice none 0 0, .slice none 0 0, .bool false, .slice none 0 0, .int .i64 0, .slice none 0 0, .slice none 0 0, .int .i64 0] 43))
  have HSZ := hid (size2 w (.cells #[.int .i64 r.epoch, .int .i64 r.count, .bool r.live, .int .i64 r.inn.epoch, .int .i64 r.inn.expect, .slice a1 r.inn.held.length c1, .slice b1 r.inn.part.length d1, .bool r.str.opened, .slice a2 r.str.fields.length c2, .int .i64 r.str.next, .slice b2 r.str.dicts.length d2, .slice a3 r.ready.length c3, .int .i64 r.errors] 43) (.cells #[.int .i64 0, .int .i64 0, .bool false, .int .i64 0, .int .i64 0, .slice none 0 0, .slice none 0 0, .bool false, .slice none 0 0, .int .i64 0, .slice none 0 0, .slice none 0 0, .int .i64 0] 43))
  go_enter Tryz.func76, Tryz.ntmps76
  go_upto_region 1 with fail
  generalize ((w.alloc (.cells #[.int .i64 r.epoch, .int .i64 r.count, .bool r.live, .int .i64 r.inn.epoch, .int .i64 r.inn.expect, .slice a1 r.inn.held.length c1, .slice b1 r.inn.part.length d1, .bool r.str.opened, .slice a2 r.str.fields.length c2, .int .i64 r.str.next, .slice b2 r.str.dicts.length d2, .slice a3 r.ready.length c3, .int .i64 r.errors] 43)).alloc (.cells #[.int .i64 0, .int .i64 0, .bool false, .int .i64 0, .int .i64 0, .slice none 0 0, .slice none 0 0, .bool false, .slice none 0 0, .int .i64 0, .slice none 0 0, .slice none 0 0, .int .i64 0] 43)) = W0 at *
  have HR0 := hid (HR.out.later HB0.out)
  have HG1 : Hid (w.heap.size + 1 < W0.heap.size) := hid (by have := HSZ.out; omega)
  have q0 := cell_of_row _ _ 0 _ _ _ HK0.out
  have q1 := cell_of_row _ _ 1 _ _ _ HK0.out
  have q2 := cell_of_row _ _ 2 _ _ _ HK0.out
  have q3 := cell_of_row _ _ 3 _ _ _ HK0.out
  have q4 := cell_of_row _ _ 4 _ _ _ HK0.out
  have q5 := cell_of_row _ _ 5 _ _ _ HK0.out
  have q6 := cell_of_row _ _ 6 _ _ _ HK0.out
  have q7 := cell_of_row _ _ 7 _ _ _ HK0.out
  have q8 := cell_of_row _ _ 8 _ _ _ HK0.out
  have q9 := cell_of_row _ _ 9 _ _ _ HK0.out
  have q10 := cell_of_row _ _ 10 _ _ _ HK0.out
  have q11 := cell_of_row _ _ 11 _ _ _ HK0.out
  have q12 := cell_of_row _ _ 12 _ _ _ HK0.out
  simp only [List.getElem?_toArray, List.getElem?_cons_zero, List.getElem?_cons_succ] at q0 q1 q2 q3 q4 q5 q6 q7 q8 q9 q10 q11 q12
  refine region_turns (n := 19) (by kernel_rfl) (by kernel_rfl) ?_ (fun t => { tmps := #[.agg #[.int .i64 r.epoch, .int .i64 r.count, .bool r.live, .int .i64 r.inn.epoch, .int .i64 r.inn.expect, .slice a1 r.inn.held.length c1, .slice b1 r.inn.part.length d1, .bool r.str.opened, .slice a2 r.str.fields.length c2, .int .i64 r.str.next, .slice b2 r.str.dicts.length d2, .slice a3 r.ready.length c3, .int .i64 r.errors], .pointer (some ⟨w.heap.size, 0, none⟩), .pointer (some ⟨w.heap.size + 1, 0, none⟩), t 0, t 1, t 2, t 3, t 4, t 5, t 6, t 7, t 8, t 9, t 10, t 11, t 12, t 13, t 14, t 15, t 16, t 17], defers := [] }) (l6T W0.heap.size w.heap.size (w.heap.size + 1) r a1 b1 a2 b2 a3 c1 d1 c2 d2 c3) [18] (fcSame4 W0) w W0 (fun k => if k = 8 then [18] else if k = 11 then [18] else if k = 14 then [18] else if k = 17 then [18] else []) (fun k => !(k == 8 || k == 11 || k == 14 || k == 17 || k == 18)) (by kernel_rfl) (fun j hj => by rcases (by omega : j = 0 ∨ j = 1 ∨ j = 2 ∨ j = 3 ∨ j = 4 ∨ j = 5 ∨ j = 6 ∨ j = 7 ∨ j = 8 ∨ j = 9 ∨ j = 10 ∨ j = 11 ∨ j = 12 ∨ j = 13 ∨ j = 14 ∨ j = 15 ∨ j = 16 ∨ j = 17 ∨ j = 18) with rfl | rfl | rfl | rfl | rfl | rfl | rfl | rfl | rfl | rfl | rfl | rfl | rfl | rfl | rfl | rfl | rfl | rfl | rfl <;> rfl) (fun j hj hp => by rcases (by omega : j = 0 ∨ j = 1 ∨ j = 2 ∨ j = 3 ∨ j = 4 ∨ j = 5 ∨ j = 6 ∨ j = 7 ∨ j = 8 ∨ j = 9 ∨ j = 10 ∨ j = 11 ∨ j = 12 ∨ j = 13 ∨ j = 14 ∨ j = 15 ∨ j = 16 ∨ j = 17 ∨ j = 18) with rfl | rfl | rfl | rfl | rfl | rfl | rfl | rfl | rfl | rfl | rfl | rfl | rfl | rfl | rfl | rfl | rfl | rfl | rfl <;> first | rfl | (exact absurd hp (by decide))) (fun j => ([undef, undef, undef, undef, undef, undef, undef, undef, undef, undef, undef, undef, undef, undef, undef, undef, undef, undef, undef] : List Value).getD j undef) HB0.out (Below.refl _ _) ?_ ?_
  · rfl
  · intro i hi x t wx hxi hsh h0 hbx hgx hdp hall
    rcases (by omega : i = 0 ∨ i = 1 ∨ i = 2 ∨ i = 3 ∨ i = 4 ∨ i = 5 ∨ i = 6 ∨ i = 7 ∨ i = 8 ∨ i = 9 ∨ i = 10 ∨ i = 11 ∨ i = 12 ∨ i = 13 ∨ i = 14 ∨ i = 15 ∨ i = 16 ∨ i = 17 ∨ i = 18) with rfl | rfl | rfl | rfl | rfl | rfl | rfl | rfl | rfl | rfl | rfl | rfl | rfl | rfl | rfl | rfl | rfl | rfl | rfl
    · 
      try dsimp only
      clear h0
      refine wpOp_step rfl (fun K' hK => ?_)
      go_simp
      exact hK _ _ ⟨.pointer (some ⟨w.heap.size, 0, none⟩), (by simp [upd]), FX.eq_mk rfl, fun _ => Below.refl _ _, hbx⟩
    · 
      try dsimp only
      have x0 := depX hdp 0 (by kernel_rfl)
      have d0 := hall 0 (by omega) x0
      have e0 : t 0 = .pointer (some ⟨w.heap.size, 0, none⟩) := d0.1
      rw [e0]
      have y18 := notYet hsh hxi 18 (by kernel_rfl)
      have hz : Below W0.heap.size W0 wx := hgx (by simp [y18])
      have q0 := (hz.cell (World.block_lt_of_cell? _ _ q0)).trans q0
      clear y18 hz
      clear h0
      refine wpOp_step rfl (fun K' hK => ?_)
      go_simp
      exact hK _ _ ⟨.int .i64 r.epoch, (by simp [upd, e0]), FX.eq_mk rfl, fun _ => Below.refl _ _, hbx⟩
    · 
      try dsimp only
      clear h0
      refine wpOp_step rfl (fun K' hK => ?_)
      go_simp
      exact hK _ _ ⟨.pointer (some ⟨w.heap.size, 1, none⟩), (by simp [upd]), FX.eq_mk rfl, fun _ => Below.refl _ _, hbx⟩
    · 
      try dsimp only
      have x2 := depX hdp 2 (by kernel_rfl)
      have d2 := hall 2 (by omega) x2
      have e2 : t 2 = .pointer (some ⟨w.heap.size, 1, none⟩) := d2.1
      rw [e2]
      have y18 := notYet hsh hxi 18 (by kernel_rfl)
      have hz : Below W0.heap.size W0 wx := hgx (by simp [y18])
      have q1 := (hz.cell (World.block_lt_of_cell? _ _ q1)).trans q1
      clear y18 hz
      clear h0
      refine wpOp_step rfl (fun K' hK => ?_)
      go_simp
      exact hK _ _ ⟨.int .i64 r.count, (by simp [upd, e2]), FX.eq_mk rfl, fun _ => Below.refl _ _, hbx⟩
    · 
      try dsimp only
      clear h0
      refine wpOp_step rfl (fun K' hK => ?_)
      go_simp
      exact hK _ _ ⟨.pointer (some ⟨w.heap.size, 2, none⟩), (by simp [upd]), FX.eq_mk rfl, fun _ => Below.refl _ _, hbx⟩
    · 
      try dsimp only
      have x4 := depX hdp 4 (by kernel_rfl)
      have d4 := hall 4 (by omega) x4
      have e4 : t 4 = .pointer (some ⟨w.heap.size, 2, none⟩) := d4.1
      rw [e4]
      have y18 := notYet hsh hxi 18 (by kernel_rfl)
      have hz : Below W0.heap.size W0 wx := hgx (by simp [y18])
      have q2 := (hz.cell (World.block_lt_of_cell? _ _ q2)).trans q2
      clear y18 hz
      clear h0
      refine wpOp_step rfl (fun K' hK => ?_)
      go_simp
      exact hK _ _ ⟨.bool r.live, (by simp [upd, e4]), FX.eq_mk rfl, fun _ => Below.refl _ _, hbx⟩
    · 
      try dsimp only
      clear h0
      refine wpOp_step rfl (fun K' hK => ?_)
      go_simp
      exact hK _ _ ⟨.pointer (some ⟨w.heap.size, 3, none⟩), (by simp [upd]), FX.eq_mk rfl, fun _ => Below.refl _ _, hbx⟩
    · 
      try dsimp only
      have x6 := depX hdp 6 (by kernel_rfl)
      have d6 := hall 6 (by omega) x6
      have e6 : t 6 = .pointer (some ⟨w.heap.size, 3, none⟩) := d6.1
      rw [e6]
      have y18 := notYet hsh hxi 18 (by kernel_rfl)
      have hz : Below W0.heap.size W0 wx := hgx (by simp [y18])
      have q3 := (hz.cell (World.block_lt_of_cell? _ _ q3)).trans q3
      have q4 := (hz.cell (World.block_lt_of_cell? _ _ q4)).trans q4
      have q5 := (hz.cell (World.block_lt_of_cell? _ _ q5)).trans q5
      have q6 := (hz.cell (World.block_lt_of_cell? _ _ q6)).trans q6
      clear y18 hz
      clear h0
      refine wpOp_step rfl (fun K' hK => ?_)
      go_simp
      exact hK _ _ ⟨.agg #[.int .i64 r.inn.epoch, .int .i64 r.inn.expect, .slice a1 r.inn.held.length c1, .slice b1 r.inn.part.length d1], (by simp [upd, e6]), FX.eq_mk rfl, fun _ => Below.refl _ _, hbx⟩
    · 
      try dsimp only
      have x7 := depX hdp 7 (by kernel_rfl)
      have d7 := hall 7 (by omega) x7
      have e7 : t 7 = .agg #[.int .i64 r.inn.epoch, .int .i64 r.inn.expect, .slice a1 r.inn.held.length c1, .slice b1 r.inn.part.length d1] := d7.1
      rw [e7]
      have y18 := notYet hsh hxi 18 (by kernel_rfl)
      have hz : Below W0.heap.size W0 wx := hgx (by simp [y18])
      have hsz := hz.size
      clear h0
      refine wpOp_step rfl (fun K' hK => ?_)
      go_simp
      refine (l5in_any r.inn a1 b1 c1 d1 wx (HR0.out.i.later hz) hT.1 hT.2.1).mono ?_
      rintro e w2 ⟨a', c', b', d', bi, di, rfl, o2, l2, -, b2⟩
      exact hK _ _ ⟨_, (by simp [upd, e7]), FX.pre_mk ⟨a', c', b', d', bi, di, rfl, o2, fun x hx => Nat.le_trans hsz (l2 x hx)⟩, fun _ => b2, below_chain hbx b2⟩
    · 
      try dsimp only
      clear h0
      refine wpOp_step rfl (fun K' hK => ?_)
      go_simp
      exact hK _ _ ⟨.pointer (some ⟨w.heap.size, 7, none⟩), (by simp [upd]), FX.eq_mk rfl, fun _ => Below.refl _ _, hbx⟩
    · 
      try dsimp only
      have x9 := depX hdp 9 (by kernel_rfl)
      have d9 := hall 9 (by omega) x9
      have e9 : t 9 = .pointer (some ⟨w.heap.size, 7, none⟩) := d9.1
      rw [e9]
      have y18 := notYet hsh hxi 18 (by kernel_rfl)
      have hz : Below W0.heap.size W0 wx := hgx (by simp [y18])
      have q7 := (hz.cell (World.block_lt_of_cell? _ _ q7)).trans q7
      have q8 := (hz.cell (World.block_lt_of_cell? _ _ q8)).trans q8
      have q9 := (hz.cell (World.block_lt_of_cell? _ _ q9)).trans q9
      have q10 := (hz.cell (World.block_lt_of_cell? _ _ q10)).trans q10
      clear y18 hz
      clear h0
      refine wpOp_step rfl (fun K' hK => ?_)
      go_simp
      exact hK _ _ ⟨.agg #[.bool r.str.opened, .slice a2 r.str.fields.length c2, .int .i64 r.str.next, .slice b2 r.str.dicts.length d2], (by simp [upd, e9]), FX.eq_mk rfl, fun _ => Below.refl _ _, hbx⟩
    · 
      try dsimp only
      have x10 := depX hdp 10 (by kernel_rfl)
      have d10 := hall 10 (by omega) x10
      have e10 : t 10 = .agg #[.bool r.str.opened, .slice a2 r.str.fields.length c2, .int .i64 r.str.next, .slice b2 r.str.dicts.length d2] := d10.1
      rw [e10]
      have y18 := notYet hsh hxi 18 (by kernel_rfl)
      have hz : Below W0.heap.size W0 wx := hgx (by simp [y18])
      have hsz := hz.size
      clear h0
      refine wpOp_step rfl (fun K' hK => ?_)
      go_simp
      refine (l4stream_any r.str a2 b2 c2 d2 wx (HR0.out.s.later hz) hT.2.2.1 hT.2.2.2.1).mono ?_
      rintro e w2 ⟨a', c', b', d', rfl, o2, o3, b2⟩
      exact hK _ _ ⟨_, (by simp [upd, e10]), FX.pre_mk ⟨a', c', b', d', rfl, frow_mono o2 hsz, o3.mono hsz⟩, fun _ => b2, below_chain hbx b2⟩
    · 
      try dsimp only
      clear h0
      refine wpOp_step rfl (fun K' hK => ?_)
      go_simp
      exact hK _ _ ⟨.pointer (some ⟨w.heap.size, 11, none⟩), (by simp [upd]), FX.eq_mk rfl, fun _ => Below.refl _ _, hbx⟩
    · 
      try dsimp only
      have x12 := depX hdp 12 (by kernel_rfl)
      have d12 := hall 12 (by omega) x12
      have e12 : t 12 = .pointer (some ⟨w.heap.size, 11, none⟩) := d12.1
      rw [e12]
      have y18 := notYet hsh hxi 18 (by kernel_rfl)
      have hz : Below W0.heap.size W0 wx := hgx (by simp [y18])
      have q11 := (hz.cell (World.block_lt_of_cell? _ _ q11)).trans q11
      clear y18 hz
      clear h0
      refine wpOp_step rfl (fun K' hK => ?_)
      go_simp
      exact hK _ _ ⟨.slice a3 r.ready.length c3, (by simp [upd, e12]), FX.eq_mk rfl, fun _ => Below.refl _ _, hbx⟩
    · 
      try dsimp only
      have x13 := depX hdp 13 (by kernel_rfl)
      have d13 := hall 13 (by omega) x13
      have e13 : t 13 = .slice a3 r.ready.length c3 := d13.1
      rw [e13]
      have y18 := notYet hsh hxi 18 (by kernel_rfl)
      have hz : Below W0.heap.size W0 wx := hgx (by simp [y18])
      have hsz := hz.size
      clear h0
      refine wpOp_step rfl (fun K' hK => ?_)
      go_simp
      refine (l6tables_any a3 c3 r.ready wx (HR0.out.t.later hz) hT.2.2.2.2).mono ?_
      rintro e w2 ⟨v2, rfl, o2, b2⟩
      exact hK _ _ ⟨v2, (by simp [upd, e13]), FX.pre_mk (o2.mono hsz), fun _ => b2, below_chain hbx b2⟩
    · 
      try dsimp only
      clear h0
      refine wpOp_step rfl (fun K' hK => ?_)
      go_simp
      exact hK _ _ ⟨.pointer (some ⟨w.heap.size, 12, none⟩), (by simp [upd]), FX.eq_mk rfl, fun _ => Below.refl _ _, hbx⟩
    · 
      try dsimp only
      have x15 := depX hdp 15 (by kernel_rfl)
      have d15 := hall 15 (by omega) x15
      have e15 : t 15 = .pointer (some ⟨w.heap.size, 12, none⟩) := d15.1
      rw [e15]
      have y18 := notYet hsh hxi 18 (by kernel_rfl)
      have hz : Below W0.heap.size W0 wx := hgx (by simp [y18])
      have q12 := (hz.cell (World.block_lt_of_cell? _ _ q12)).trans q12
      clear y18 hz
      clear h0
      refine wpOp_step rfl (fun K' hK => ?_)
      go_simp
      exact hK _ _ ⟨.int .i64 r.errors, (by simp [upd, e15]), FX.eq_mk rfl, fun _ => Below.refl _ _, hbx⟩
    · 
      try dsimp only
      have x1 := depX hdp 1 (by kernel_rfl)
      have d1 := hall 1 (by omega) x1
      have e1 : t 1 = .int .i64 r.epoch := d1.1
      have x3 := depX hdp 3 (by kernel_rfl)
      have d3 := hall 3 (by omega) x3
      have e3 : t 3 = .int .i64 r.count := d3.1
      have x5 := depX hdp 5 (by kernel_rfl)
      have d5 := hall 5 (by omega) x5
      have e5 : t 5 = .bool r.live := d5.1
      have x8 := depX hdp 8 (by kernel_rfl)
      have d8 := hall 8 (by omega) x8
      have x11 := depX hdp 11 (by kernel_rfl)
      have d11 := hall 11 (by omega) x11
      have x14 := depX hdp 14 (by kernel_rfl)
      have d14 := hall 14 (by omega) x14
      have x16 := depX hdp 16 (by kernel_rfl)
      have d16 := hall 16 (by omega) x16
      have e16 : t 16 = .int .i64 r.errors := d16.1
      rw [e1, e3, e5, e16]
      have y18 := notYet hsh hxi 18 (by kernel_rfl)
      obtain ⟨a1x, c1x, b1x, d1x, bi, di, f8, o8, l8⟩ : (fcInR W0.heap.size r).p (t 8) wx := FX.pre_of d8 y18
      obtain ⟨a2x, c2x, b2x, d2x, f11, o11, p11⟩ : (fcStR W0.heap.size r).p (t 11) wx := FX.pre_of d11 y18
      have o14 : RowT tkTable 111 W0.heap.size wx (t 14) r.ready := FX.pre_of d14 y18
      obtain ⟨a3x, c3x, f14⟩ := o14.slice
      rw [f14] at o14
      rw [f8, f11, f14]
      clear y18
      clear h0
      refine wpOp_step rfl (fun K' hK => ?_)
      go_simp
      exact hK _ _ ⟨.agg #[.int .i64 r.epoch, .int .i64 r.count, .bool r.live, .int .i64 r.inn.epoch, .int .i64 r.inn.expect, .slice a1x r.inn.held.length c1x, .slice b1x r.inn.part.length d1x, .bool r.str.opened, .slice a2x r.str.fields.length c2x, .int .i64 r.str.next, .slice b2x r.str.dicts.length d2x, .slice a3x r.ready.length c3x, .int .i64 r.errors], (by simp [upd, f8, f11, f14, e1, e3, e5, e16]), FX.pre_mk ⟨a1x, c1x, b1x, d1x, a2x, c2x, b2x, d2x, a3x, c3x, bi, di, rfl, ⟨o8, l8, o11, p11, o14⟩⟩, fun _ => Below.refl _ _, hbx⟩
    · 
      try dsimp only
      have x17 := depX hdp 17 (by kernel_rfl)
      have d17 := hall 17 (by omega) x17
      obtain ⟨a1x, c1x, b1x, d1x, a2x, c2x, b2x, d2x, a3x, c3x, bi, di, eb, hc⟩ : (fcAgR W0.heap.size r).p (t 17) wx := FX.pre_of d17 hxi
      have hz : Below W0.heap.size W0 wx := hgx (by simp [hxi])
      rw [eb]
      have hb1 := (hz.block _ HG1.out).trans HL0.out
      have g0 := cell_of_row wx _ 0 _ _ _ hb1
      have g1 := cell_of_row wx _ 1 _ _ _ hb1
      have g2 := cell_of_row wx _ 2 _ _ _ hb1
      have g3 := cell_of_row wx _ 3 _ _ _ hb1
      have g4 := cell_of_row wx _ 4 _ _ _ hb1
      have g5 := cell_of_row wx _ 5 _ _ _ hb1
      have g6 := cell_of_row wx _ 6 _ _ _ hb1
      have g7 := cell_of_row wx _ 7 _ _ _ hb1
      have g8 := cell_of_row wx _ 8 _ _ _ hb1
      have g9 := cell_of_row wx _ 9 _ _ _ hb1
      have g10 := cell_of_row wx _ 10 _ _ _ hb1
      have g11 := cell_of_row wx _ 11 _ _ _ hb1
      have g12 := cell_of_row wx _ 12 _ _ _ hb1
      have z0 := frozen_of_row wx _ 0 _ _ hb1
      have z1 := frozen_of_row wx _ 1 _ _ hb1
      have z2 := frozen_of_row wx _ 2 _ _ hb1
      have z3 := frozen_of_row wx _ 3 _ _ hb1
      have z4 := frozen_of_row wx _ 4 _ _ hb1
      have z5 := frozen_of_row wx _ 5 _ _ hb1
      have z6 := frozen_of_row wx _ 6 _ _ hb1
      have z7 := frozen_of_row wx _ 7 _ _ hb1
      have z8 := frozen_of_row wx _ 8 _ _ hb1
      have z9 := frozen_of_row wx _ 9 _ _ hb1
      have z10 := frozen_of_row wx _ 10 _ _ hb1
      have z11 := frozen_of_row wx _ 11 _ _ hb1
      have z12 := frozen_of_row wx _ 12 _ _ hb1
      simp only [List.getElem?_toArray, List.getElem?_cons_zero, List.getElem?_cons_succ] at g0 g1 g2 g3 g4 g5 g6 g7 g8 g9 g10 g11 g12
      have HB1X := hid hb1
      have HC := hid hc
      clear hb1 hc hz
      clear h0
      refine wpOp_step rfl (fun K' hK => ?_)
      go_simp
      exact hK _ _ ⟨undef, (by simp [upd, eb]), FX.is_mk ⟨a1x, c1x, b1x, d1x, a2x, c2x, b2x, d2x, a3x, c3x, bi, di, set13 HB1X.out, HC.out.kept (fun b hb _ => set13o (by have := HG1.out; omega))⟩, fun h => absurd (by simp) h, set13b hbx (by omega)⟩
  · intro x t wx hx hbx hall
    obtain ⟨a1x, c1x, b1x, d1x, a2x, c2x, b2x, d2x, a3x, c3x, bi, di, hb9, hc9⟩ : (fcBxR W0.heap.size (w.heap.size + 1) r).p (t 18) wx := FX.is_of (hall 18 (by omega))
    have HB9 := hid hb9
    have HC9 := hid hc9
    have HBX := hid hbx
    clear hall hbx hb9 hc9 hx
    try dsimp only
    repeat go_step
    refine bodyPost_ret (results_cell_row rfl _ _ (w.heap.size + 1) 43 #[.int .i64 r.epoch, .int .i64 r.count, .bool r.live, .int .i64 r.inn.epoch, .int .i64 r.inn.expect, .slice a1x r.inn.held.length c1x, .slice b1x r.inn.part.length d1x, .bool r.str.opened, .slice a2x r.str.fields.length c2x, .int .i64 r.str.next, .slice b2x r.str.dicts.length d2x, .slice a3x r.ready.length c3x, .int .i64 r.errors] (0, 0) _ rfl HB9.out Tryz.underlying43 rfl (by kernel_rfl)) rfl ?_
    exact ⟨a1x, c1x, b1x, d1x, a2x, c2x, b2x, d2x, a3x, c3x, bi, di, rfl, HC9.out.mono HB0.out.size, HBX.out⟩
end Go.Proofs.YtfaehioeepolhaaGreat
