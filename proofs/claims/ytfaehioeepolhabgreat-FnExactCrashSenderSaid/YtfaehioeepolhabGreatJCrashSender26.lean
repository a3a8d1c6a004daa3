import Derived.Test.YtfaehioeepolhabGreatJCrashSender18
import Derived.Test.YtfaehioeepolhabGreatJCrashSender15
import Derived.Test.YtfaehioeepolhabGreatJCrashSender16
import Derived.Test.YtfaehioeepolhabGreatJCrashSender17
import Derived.Test.YtfaehioeepolhabGreatJCrashSender11
namespace Go.Proofs.YtfaehioeepolhabGreat
open Go.RowKit
structure SdT (B : Nat) (w : World) (r : PSnd) (a0 : Option Addr) (c0 : Nat) (a3 : Option Addr) (c3 : Nat) (a1 : Option Addr) (c1 : Nat) (a2 : Option Addr) (c2 : Nat) (b2 : Option Addr) (d2 : Nat) (bo : List Nat) : Prop where
 g : FRow B w (.slice a0 r.fields.length c0) r.fields
 t : RowT tkTable 51 B w (.slice a3 r.tables.length c3) r.tables
 o : OwnSl cSnt 141 w r.out.wait (.slice a1 r.out.wait.length c1) bo
 l : ∀ x ∈ bo, B ≤ x
 f : FRow B w (.slice a2 r.str.fields.length c2) r.str.fields
 d : RowT tkTexts 103 B w (.slice b2 r.str.dicts.length d2) r.str.dicts
section
variable {B B' : Nat} {w w' : World} {r : PSnd} {a0 a3 a1 a2 b2 : Option Addr} {c0 c3 c1 c2 d2 : Nat} {bo : List Nat}
theorem SdT.kept (h : SdT B w r a0 c0 a3 c3 a1 c1 a2 c2 b2 d2 bo) (hk : ∀ b, B ≤ b → b < w.heap.size → w'.heap[b]? = w.heap[b]?) : SdT B w' r a0 c0 a3 c3 a1 c1 a2 c2 b2 d2 bo :=
 ⟨RowT.keptB (tk := tkField) h.g hk, h.t.keptB hk, h.o.kept (fun x hx => hk x (h.l x hx) (h.o.lt x hx)), h.l, RowT.keptB (tk := tkField) h.f hk, h.d.keptB hk⟩
theorem SdT.later (h : SdT B w r a0 c0 a3 c3 a1 c1 a2 c2 b2 d2 bo) (hb : Below w.heap.size w w') : SdT B w' r a0 c0 a3 c3 a1 c1 a2 c2 b2 d2 bo := h.kept (fun b _ h2 => hb.block b h2)
theorem SdT.mono (h : SdT B w r a0 c0 a3 c3 a1 c1 a2 c2 b2 d2 bo) (hb : B' ≤ B) : SdT B' w r a0 c0 a3 c3 a1 c1 a2 c2 b2 d2 bo :=
 ⟨frow_mono h.g hb, h.t.mono hb, h.o, fun x hx => Nat.le_trans hb (h.l x hx), frow_mono h.f hb, h.d.mono hb⟩
theorem SdT.rd (h : SdT B w r a0 c0 a3 c3 a1 c1 a2 c2 b2 d2 bo) : RdSnd w r a0 c0 a3 c3 a1 c1 a2 c2 b2 d2 := ⟨h.g.rd, h.t.rd, h.o.rd, ⟨h.f.rd, h.d.rd⟩⟩
end
def fcTs8 (lo : Nat) (r : PSnd) : Fct := ⟨fun v w => RowT tkTable 51 lo w v r.tables, fun _ _ _ h hb => h.later hb⟩
def fcOu8 (lo : Nat) (r : PSnd) : Fct := ⟨fun v w => ∃ a1 c1 bo, v = .agg #[.int .i64 r.out.epoch, .int .i64 r.out.next, .int .i64 r.out.now, .slice a1 r.out.wait.length c1] ∧ OwnSl cSnt 141 w r.out.wait (.slice a1 r.out.wait.length c1) bo ∧ ∀ x ∈ bo, lo ≤ x, fun _ _ _ ⟨a1, c1, bo, e, h1, h2⟩ hb => ⟨a1, c1, bo, e, h1.kept (fun x hx => hb.block x (h1.lt x hx)), h2⟩⟩
def fcSt8 (lo : Nat) (r : PSnd) : Fct := ⟨fun v w => ∃ a2 c2 b2 d2, v = .agg #[.bool r.str.opened, .slice a2 r.str.fields.length c2, .int .i64 r.str.next, .slice b2 r.str.dicts.length d2] ∧ FRow lo w (.slice a2 r.str.fields.length c2) r.str.fields ∧ RowT tkTexts 103 lo w (.slice b2 r.str.dicts.length d2) r.str.dicts, fun _ _ _ ⟨a2, c2, b2, d2, e, h1, h2⟩ hb => ⟨a2, c2, b2, d2, e, h1.later hb, h2.later hb⟩⟩
def fcAg8 (lo : Nat) (r : PSnd) : Fct := ⟨fun v w => ∃ a0 c0 a3 c3 a1 c1 a2 c2 b2 d2 bo, v = .agg #[.slice a0 r.fields.length c0, .int .i64 r.epoch, .int .i64 r.base, .slice a3 r.tables.length c3, .int .i64 r.pushed, .int .i64 r.out.epoch, .int .i64 r.out.next, .int .i64 r.out.now, .slice a1 r.out.wait.length c1, .bool r.str.opened, .slice a2 r.str.fields.length c2, .int .i64 r.str.next, .slice b2 r.str.dicts.length d2] ∧ SdT lo w r a0 c0 a3 c3 a1 c1 a2 c2 b2 d2 bo, fun _ _ _ ⟨a0, c0, a3, c3, a1, c1, a2, c2, b2, d2, bo, e, h⟩ hb => ⟨a0, c0, a3, c3, a1, c1, a2, c2, b2, d2, bo, e, h.later hb⟩⟩
def fcBx8 (lo gR : Nat) (r : PSnd) : Fct := ⟨fun _ w => ∃ a0 c0 a3 c3 a1 c1 a2 c2 b2 d2 bo, w.heap[gR]? = some (.cells #[.slice a0 r.fields.length c0, .int .i64 r.epoch, .int .i64 r.base, .slice a3 r.tables.length c3, .int .i64 r.pushed, .int .i64 r.out.epoch, .int .i64 r.out.next, .int .i64 r.out.now, .slice a1 r.out.wait.length c1, .bool r.str.opened, .slice a2 r.str.fields.length c2, .int .i64 r.str.next, .slice b2 r.str.dicts.length d2] 45 (0, 0)) ∧ SdT lo w r a0 c0 a3 c3 a1 c1 a2 c2 b2 d2 bo, fun _ _ _ ⟨a0, c0, a3, c3, a1, c1, a2, c2, b2, d2, bo, e, h⟩ hb => ⟨a0, c0, a3, c3, a1, c1, a2, c2, b2, d2, bo, (hb.block _ (Array.getElem?_eq_some_iff.1 e).1).trans e, h.later hb⟩⟩
set_option linter.unusedVariables false in
def l8T (lo gO gR : Nat) (r : PSnd) (a0 a3 a1 a2 b2 : Option Addr) (c0 c3 c1 c2 d2 : Nat) : Nat → FX
 | 0 => FX.eq (.pointer (some ⟨gO, 0, none⟩))
 | 1 => FX.eq (.slice a0 r.fields.length c0)
 | 2 => FX.pre [19] (fcRow lo r.fields)
 | 3 => FX.eq (.pointer (some ⟨gO, 1, none⟩))
 | 4 => FX.eq (.int .i64 r.epoch)
 | 5 => FX.eq (.pointer (some ⟨gO, 2, none⟩))
 | 6 => FX.eq (.int .i64 r.base)
 | 7 => FX.eq (.pointer (some ⟨gO, 3, none⟩))
 | 8 => FX.eq (.slice a3 r.tables.length c3)
 | 9 => FX.pre [19] (fcTs8 lo r)
 | 10 => FX.eq (.pointer (some ⟨gO, 4, none⟩))
 | 11 => FX.eq (.int .i64 r.pushed)
 | 12 => FX.eq (.pointer (some ⟨gO, 5, none⟩))
 | 13 => FX.eq (.agg #[.int .i64 r.out.epoch, .int .i64 r.out.next, .int .i64 r.out.now, .slice a1 r.out.wait.length c1])
 | 14 => FX.pre [19] (fcOu8 lo r)
 | 15 => FX.eq (.pointer (some ⟨gO, 9, none⟩))
 | 16 => FX.eq (.agg #[.bool r.str.opened, .slice a2 r.str.fields.length c2, .int .i64 r.str.next, .slice b2 r.str.dicts.length d2])
 | 17 => FX.pre [19] (fcSt8 lo r)
 | 18 => FX.pre [19] (fcAg8 lo r)
 | 19 => FX.is (fcBx8 lo gR r)
 | _ => FX.eq undef
set_option maxRecDepth 100000 in
set_option maxHeartbeats 8000000 in
theorem l6sender_any (r : PSnd) (a0 a3 a1 a2 b2 : Option Addr) (c0 c3 c1 c2 d2 : Nat) (w : World) (hr : RdSnd w r a0 c0 a3 c3 a1 c1 a2 c2 b2 d2) (ht : tSnd r ≤ 1048576) :
  Calls Tryz.prog 25 #[.agg #[.slice a0 r.fields.length c0, .int .i64 r.epoch, .int .i64 r.base, .slice a3 r.tables.length c3, .int .i64 r.pushed, .int .i64 r.out.epoch, .int .i64 r.out.next, .int .i64 r.out.now, .slice a1 r.out.wait.length c1, .bool r.str.opened, .slice a2 r.str.fields.length c2, .int .i64 r.str.next, .slice b2 r.str.dicts.length d2]] w fun e w' => ∃ a0x c0x a3x c3x a1x c1x a2x c2x b2x d2x bo, e = .returned (.agg #[.slice a0x r.fields.length c0x, .int .i64 r.epoch, .int .i64 r.base, .slice a3x r.tables.length c3x, .int .i64 r.pushed, .int .i64 r.out.epoch, .int .i64 r.out.next, .int .i64 r.out.now, .slice a1x r.out.wait.length c1x, .bool r.str.opened, .slice a2x r.str.fields.length c2x, .int .i64 r.str.next, .slice b2x r.str.dicts.length d2x]) ∧ SdT w.heap.size w' r a0x c0x a3x c3x a1x c1x a2x c2x b2x d2x bo ∧ Below w.heap.size w w' := by
 have HR := hid hr
 clear hr
 have hT : totL fN r.fields ≤ 1048576 ∧ totL totT r.tables ≤ 1048576 ∧ totL wN r.out.wait ≤ 1048576 ∧ totL fN r.str.fields ≤ 1048576 ∧ totL tS r.str.dicts ≤ 1048576 := by unfold tSnd tStr at ht; omega
 have HK0 : Hid (((w.alloc (.cells #[.slice a0 r.fields.length c0, .int .i64 r.epoch, .int .i64 r.base, .slice a3 r.tables.length c3, .int .i64 r.pushed, .int .i64 r.out.epoch, .int .i64 r.out.next, .int .i64 r.out.now, .slice a1 r.out.wait.length c1, .bool r.str.opened, .slice a2 r.str.fields.length c2, .int .i64 r.str.next, .slice b2 r.str.dicts.length d2] 45)).alloc (.cells #[.slice none 0 0, .int .i64 0, .int .i64 0, .slice none 0 0, .int .i64 0, .int .i64 0, .int .i64 0, .int .i64 0, .slice none 0 0, .bool false, .slice none 0 0, .int .i64 0, .slice none 0 0] 45)).heap[w.heap.size]? = some (.cells #[.slice a0 r.fields.length c0, .int .i64 r.epoch, .int .i64 r.base, .slice a3 r.tables.length c3, .int .i64 r.pushed, .int .i64 r.out.epoch, .int .i64 r.out.next, .int .i64 r.out.now, .slice a1 r.out.wait.length c1, .bool r.str.opened, .slice a2 r.str.fields.length c2, .int .i64 r.str.next, .slice b2 r.str.dicts.length d2] 45 (0, 0))) := hid (heap2 _ _ (Below.refl _ _)).1
 have HL0 : Hid (((w.alloc (.cells #[.slice a0 r.fields.length c0, .int .i64 r.epoch, .int .i64 r.base, .slice a3 r.tables.length c3, .int .i64 r.pushed, .int .i64 r.out.epoch, .int .i64 r.out.next, .int .i64 r.out.now, .slice a1 r.out.wait.length c1, .bool r.str.opened, .slice a2 r.str.fields.length c2, .int .i64 r.str.next, .slice b2 r.str.dicts.length d2] 45)).alloc (.cells #[.slice none 0 0, .int .i64 0, .int .i64 0, .slice none 0 0, .int .i64 0, .int .i64 0, .int .i64 0, .int .i64 0, .slice none 0 0, .bool false, .slice none 0 0, .int .i64 0, .slice none 0 0] 45)).heap[w.heap.size + 1]? = some (.cells #[.slice none 0 0, .int .i64 0, .int .i64 0, .slice none 0 0, .int .i64 0, .int .i64 0, .int .i64 0, .int .i64 0, .slice none 0 0, .bool false, .slice none 0 0, .int .i64 0, .slice none 0 0] 45 (0, 0))) := hid (heap2 _ _ (Below.refl _ _)).2
 have HB0 := hid (below_new2 w (.cells #[.slice a0 r.fields.length c0, .int .i64 r.epoch, .int .i64 r.base, .slice a3 r.tables.length c3, .int .i64 r.pushed, .int .i64 r.out.epoch, .int .i64 r.out.next, .int .i64 r.out.now, .slice a1 r.out.wait.length c1, .bool r.str.opened, .slice a2 r.str.fields.length c2, .int .i64 r.str.next, .slice b2 r.str.dicts.length d2] 45) (.cells #[.slice none 0 0, .int .i64 0, .int .i64 0, .slice none 0 0, .int .i64 0, .int .i64 0, .int .i64 0, .int .i64 0, .slice none 0 0, .bool false, .slice none 0 0, .int .i64 0, .slice none 0 0] 45))
 have HSZ := hid (size2 w (.cells #[.slice a0 r.fields.length c0, .int .i64 r.epoch, .int .i64 r.base, .slice a3 r.tables.length c3, .int .i64 r.pushed, .int .i64 r.out.epoch, .int .i64 r.out.next, .int .i64 r.out.now, .slice a1 r.out.wait.length c1, .bool r.str.opened, .slice a2 r.str.fields.length c2, .int .i64 r.str.next, .slice b2 r.str.dicts.length d2] 45) (.cells #[.slice none 0 0, .int .i64 0, .int .i64 0, .slice none 0 0, .int .i64 0, .int .i64 0, .int .i64 0, .int .i64 0, .slice none 0 0, .bool false, .slice none 0 0, .int .i64 0, .slice none 0 0] 45))
 go_enter Tryz.func25, Tryz.ntmps25
 go_upto_region 1 with fail
 generalize ((w.alloc (.cells #[.slice a0 r.fields.length c0, .int .i64 r.epoch, .int .i64 r.base, .slice a3 r.tables.length c3, .int .i64 r.pushed, .int .i64 r.out.epoch, .int .i64 r.out.next, .int .i64 r.out.now, .slice a1 r.out.wait.length c1, .bool r.str.opened, .slice a2 r.str.fields.length c2, .int .i64 r.str.next, .slice b2 r.str.dicts.length d2] 45)).alloc (.cells #[.slice none 0 0, .int .i64 0, .int .i64 0, .slice none 0 0, .int .i64 0, .int .i64 0, .int .i64 0, .int .i64 0, .slice none 0 0, .bool false, .slice none 0 0, .int .i64 0, .slice none 0 0] 45)) = W0 at *
 have HR0 := hid (HR.out.later HB0.out)
 have HG1 : Hid (w.heap.size + 1 < W0.heap.size) := hid (by have := HSZ.out; omega)
 have q0 := cR _ _ 0 _ _ _ HK0.out
 have q1 := cR _ _ 1 _ _ _ HK0.out
 have q2 := cR _ _ 2 _ _ _ HK0.out
 have q3 := cR _ _ 3 _ _ _ HK0.out
 have q4 := cR _ _ 4 _ _ _ HK0.out
 have q5 := cR _ _ 5 _ _ _ HK0.out
 have q6 := cR _ _ 6 _ _ _ HK0.out
 have q7 := cR _ _ 7 _ _ _ HK0.out
 have q8 := cR _ _ 8 _ _ _ HK0.out
 have q9 := cR _ _ 9 _ _ _ HK0.out
 have q10 := cR _ _ 10 _ _ _ HK0.out
 have q11 := cR _ _ 11 _ _ _ HK0.out
 have q12 := cR _ _ 12 _ _ _ HK0.out
 simp only [gA, gZ, gU] at q0 q1 q2 q3 q4 q5 q6 q7 q8 q9 q10 q11 q12
 refine region_turns (n := 20) (by kernel_rfl) (by kernel_rfl) ?_ (fun t => { tmps := #[.agg #[.slice a0 r.fields.length c0, .int .i64 r.epoch, .int .i64 r.base, .slice a3 r.tables.length c3, .int .i64 r.pushed, .int .i64 r.out.epoch, .int .i64 r.out.next, .int .i64 r.out.now, .slice a1 r.out.wait.length c1, .bool r.str.opened, .slice a2 r.str.fields.length c2, .int .i64 r.str.next, .slice b2 r.str.dicts.length d2], .pointer (some ⟨w.heap.size, 0, none⟩), .pointer (some ⟨w.heap.size + 1, 0, none⟩), t 0, t 1, t 2, t 3, t 4, t 5, t 6, t 7, t 8, t 9, t 10, t 11, t 12, t 13, t 14, t 15, t 16, t 17, t 18], defers := [] }) (l8T W0.heap.size w.heap.size (w.heap.size + 1) r a0 a3 a1 a2 b2 c0 c3 c1 c2 d2) [19] (fcSame4 W0) w W0 (fun k => if k = 2 then [19] else if k = 9 then [19] else if k = 14 then [19] else if k = 17 then [19] else if k = 18 then [19] else []) (fun k => !(k == 2 || k == 9 || k == 14 || k == 17 || k == 18 || k == 19)) (by kernel_rfl) (fun j hj => by rcases (by omega : j = 0 ∨ j = 1 ∨ j = 2 ∨ j = 3 ∨ j = 4 ∨ j = 5 ∨ j = 6 ∨ j = 7 ∨ j = 8 ∨ j = 9 ∨ j = 10 ∨ j = 11 ∨ j = 12 ∨ j = 13 ∨ j = 14 ∨ j = 15 ∨ j = 16 ∨ j = 17 ∨ j = 18 ∨ j = 19) with rfl | rfl | rfl | rfl | rfl | rfl | rfl | rfl | rfl | rfl | rfl | rfl | rfl | rfl | rfl | rfl | rfl | rfl | rfl | rfl <;> rfl) (fun j hj hp => by rcases (by omega : j = 0 ∨ j = 1 ∨ j = 2 ∨ j = 3 ∨ j = 4 ∨ j = 5 ∨ j = 6 ∨ j = 7 ∨ j = 8 ∨ j = 9 ∨ j = 10 ∨ j = 11 ∨ j = 12 ∨ j = 13 ∨ j = 14 ∨ j = 15 ∨ j = 16 ∨ j = 17 ∨ j = 18 ∨ j = 19) with rfl | rfl | rfl | rfl | rfl | rfl | rfl | rfl | rfl | rfl | rfl | rfl | rfl | rfl | rfl | rfl | rfl | rfl | rfl | rfl <;> first | rfl | (exact absurd hp (by decide))) (fun j => ([undef, undef, undef, undef, undef, undef, undef, undef, undef, undef, undef, undef, undef, undef, undef, undef, undef, undef, undef, undef] : List Value).getD j undef) HB0.out (Below.refl _ _) ?_ ?_
 ·rfl
 ·intro i hi x t wx hxi hsh h0 hbx hgx hdp hall
  rcases (by omega : i = 0 ∨ i = 1 ∨ i = 2 ∨ i = 3 ∨ i = 4 ∨ i = 5 ∨ i = 6 ∨ i = 7 ∨ i = 8 ∨ i = 9 ∨ i = 10 ∨ i = 11 ∨ i = 12 ∨ i = 13 ∨ i = 14 ∨ i = 15 ∨ i = 16 ∨ i = 17 ∨ i = 18 ∨ i = 19) with rfl | rfl | rfl | rfl | rfl | rfl | rfl | rfl | rfl | rfl | rfl | rfl | rfl | rfl | rfl | rfl | rfl | rfl | rfl | rfl
  ·
   try dsimp only
   clear h0
   refine wpOp_step rfl (fun K' hK => ?_)
   go_simp
   exact hK _ _ ⟨.pointer (some ⟨w.heap.size, 0, none⟩), (by simp [upd]), FX.eq_mk rfl, fun _ => Below.refl _ _, hbx⟩
  ·
   try dsimp only
   have x0 := depX hdp 0 (by kernel_rfl)
   have d0 := hall 0 (by omega) x0
   have e0 : t 0 = .pointer (some ⟨w.heap.size, 0, none⟩) := d0.1
   rw [e0]
   have y19 := notYet hsh hxi 19 (by kernel_rfl)
   have hz : Below W0.heap.size W0 wx := hgx (by simp [y19])
   have q0 := (hz.cell (World.block_lt_of_cell? _ _ q0)).trans q0
   clear y19 hz
   clear h0
   refine wpOp_step rfl (fun K' hK => ?_)
   go_simp
   exact hK _ _ ⟨.slice a0 r.fields.length c0, (by simp [upd, e0]), FX.eq_mk rfl, fun _ => Below.refl _ _, hbx⟩
  ·
   try dsimp only
   have x1 := depX hdp 1 (by kernel_rfl)
   have d1 := hall 1 (by omega) x1
   have e1 : t 1 = .slice a0 r.fields.length c0 := d1.1
   rw [e1]
   have y19 := notYet hsh hxi 19 (by kernel_rfl)
   have hz : Below W0.heap.size W0 wx := hgx (by simp [y19])
   have hsz := hz.size
   clear h0
   refine wpOp_step rfl (fun K' hK => ?_)
   go_simp
   refine (l4fields_any a0 c0 r.fields wx (HR0.out.f.later hz) hT.1).mono ?_
   rintro e w2 ⟨v2, rfl, o2, b2⟩
   exact hK _ _ ⟨v2, (by simp [upd, e1]), FX.pre_mk (frow_mono o2 hsz), fun _ => b2, bC hbx b2⟩
  ·
   try dsimp only
   clear h0
   refine wpOp_step rfl (fun K' hK => ?_)
   go_simp
   exact hK _ _ ⟨.pointer (some ⟨w.heap.size, 1, none⟩), (by simp [upd]), FX.eq_mk rfl, fun _ => Below.refl _ _, hbx⟩
  ·
   try dsimp only
   have x3 := depX hdp 3 (by kernel_rfl)
   have d3 := hall 3 (by omega) x3
   have e3 : t 3 = .pointer (some ⟨w.heap.size, 1, none⟩) := d3.1
   rw [e3]
   have y19 := notYet hsh hxi 19 (by kernel_rfl)
   have hz : Below W0.heap.size W0 wx := hgx (by simp [y19])
   have q1 := (hz.cell (World.block_lt_of_cell? _ _ q1)).trans q1
   clear y19 hz
   clear h0
   refine wpOp_step rfl (fun K' hK => ?_)
   go_simp
   exact hK _ _ ⟨.int .i64 r.epoch, (by simp [upd, e3]), FX.eq_mk rfl, fun _ => Below.refl _ _, hbx⟩
  ·
   try dsimp only
   clear h0
   refine wpOp_step rfl (fun K' hK => ?_)
   go_simp
   exact hK _ _ ⟨.pointer (some ⟨w.heap.size, 2, none⟩), (by simp [upd]), FX.eq_mk rfl, fun _ => Below.refl _ _, hbx⟩
  ·
   try dsimp only
   have x5 := depX hdp 5 (by kernel_rfl)
   have d5 := hall 5 (by omega) x5
   have e5 : t 5 = .pointer (some ⟨w.heap.size, 2, none⟩) := d5.1
   rw [e5]
   have y19 := notYet hsh hxi 19 (by kernel_rfl)
   have hz : Below W0.heap.size W0 wx := hgx (by simp [y19])
   have q2 := (hz.cell (World.block_lt_of_cell? _ _ q2)).trans q2
   clear y19 hz
   clear h0
   refine wpOp_step rfl (fun K' hK => ?_)
   go_simp
   exact hK _ _ ⟨.int .i64 r.base, (by simp [upd, e5]), FX.eq_mk rfl, fun _ => Below.refl _ _, hbx⟩
  ·
   try dsimp only
   clear h0
   refine wpOp_step rfl (fun K' hK => ?_)
   go_simp
   exact hK _ _ ⟨.pointer (some ⟨w.heap.size, 3, none⟩), (by simp [upd]), FX.eq_mk rfl, fun _ => Below.refl _ _, hbx⟩
  ·
   try dsimp only
   have x7 := depX hdp 7 (by kernel_rfl)
   have d7 := hall 7 (by omega) x7
   have e7 : t 7 = .pointer (some ⟨w.heap.size, 3, none⟩) := d7.1
   rw [e7]
   have y19 := notYet hsh hxi 19 (by kernel_rfl)
   have hz : Below W0.heap.size W0 wx := hgx (by simp [y19])
   have q3 := (hz.cell (World.block_lt_of_cell? _ _ q3)).trans q3
   clear y19 hz
   clear h0
   refine wpOp_step rfl (fun K' hK => ?_)
   go_simp
   exact hK _ _ ⟨.slice a3 r.tables.length c3, (by simp [upd, e7]), FX.eq_mk rfl, fun _ => Below.refl _ _, hbx⟩
  ·
   try dsimp only
   have x8 := depX hdp 8 (by kernel_rfl)
   have d8 := hall 8 (by omega) x8
   have e8 : t 8 = .slice a3 r.tables.length c3 := d8.1
   rw [e8]
   have y19 := notYet hsh hxi 19 (by kernel_rfl)
   have hz : Below W0.heap.size W0 wx := hgx (by simp [y19])
   have hsz := hz.size
   clear h0
   refine wpOp_step rfl (fun K' hK => ?_)
   go_simp
   refine (l6tables_any a3 c3 r.tables wx (HR0.out.t.later hz) hT.2.1).mono ?_
   rintro e w2 ⟨v2, rfl, o2, b2⟩
   exact hK _ _ ⟨v2, (by simp [upd, e8]), FX.pre_mk (o2.mono hsz), fun _ => b2, bC hbx b2⟩
  ·
   try dsimp only
   clear h0
   refine wpOp_step rfl (fun K' hK => ?_)
   go_simp
   exact hK _ _ ⟨.pointer (some ⟨w.heap.size, 4, none⟩), (by simp [upd]), FX.eq_mk rfl, fun _ => Below.refl _ _, hbx⟩
  ·
   try dsimp only
   have x10 := depX hdp 10 (by kernel_rfl)
   have d10 := hall 10 (by omega) x10
   have e10 : t 10 = .pointer (some ⟨w.heap.size, 4, none⟩) := d10.1
   rw [e10]
   have y19 := notYet hsh hxi 19 (by kernel_rfl)
   have hz : Below W0.heap.size W0 wx := hgx (by simp [y19])
   have q4 := (hz.cell (World.block_lt_of_cell? _ _ q4)).trans q4
   clear y19 hz
   clear h0
   refine wpOp_step rfl (fun K' hK => ?_)
   go_simp
   exact hK _ _ ⟨.int .i64 r.pushed, (by simp [upd, e10]), FX.eq_mk rfl, fun _ => Below.refl _ _, hbx⟩
  ·
   try dsimp only
   clear h0
   refine wpOp_step rfl (fun K' hK => ?_)
   go_simp
   exact hK _ _ ⟨.pointer (some ⟨w.heap.size, 5, none⟩), (by simp [upd]), FX.eq_mk rfl, fun _ => Below.refl _ _, hbx⟩
  ·
   try dsimp only
   have x12 := depX hdp 12 (by kernel_rfl)
   have d12 := hall 12 (by omega) x12
   have e12 : t 12 = .pointer (some ⟨w.heap.size, 5, none⟩) := d12.1
   rw [e12]
   have y19 := notYet hsh hxi 19 (by kernel_rfl)
   have hz : Below W0.heap.size W0 wx := hgx (by simp [y19])
   have q5 := (hz.cell (World.block_lt_of_cell? _ _ q5)).trans q5
   have q6 := (hz.cell (World.block_lt_of_cell? _ _ q6)).trans q6
   have q7 := (hz.cell (World.block_lt_of_cell? _ _ q7)).trans q7
   have q8 := (hz.cell (World.block_lt_of_cell? _ _ q8)).trans q8
   clear y19 hz
   clear h0
   refine wpOp_step rfl (fun K' hK => ?_)
   go_simp
   exact hK _ _ ⟨.agg #[.int .i64 r.out.epoch, .int .i64 r.out.next, .int .i64 r.out.now, .slice a1 r.out.wait.length c1], (by simp [upd, e12]), FX.eq_mk rfl, fun _ => Below.refl _ _, hbx⟩
  ·
   try dsimp only
   have x13 := depX hdp 13 (by kernel_rfl)
   have d13 := hall 13 (by omega) x13
   have e13 : t 13 = .agg #[.int .i64 r.out.epoch, .int .i64 r.out.next, .int .i64 r.out.now, .slice a1 r.out.wait.length c1] := d13.1
   rw [e13]
   have y19 := notYet hsh hxi 19 (by kernel_rfl)
   have hz : Below W0.heap.size W0 wx := hgx (by simp [y19])
   have hsz := hz.size
   clear h0
   refine wpOp_step rfl (fun K' hK => ?_)
   go_simp
   refine (l5out_any r.out a1 c1 wx (HR0.out.o.later hz) hT.2.2.1).mono ?_
   rintro e w2 ⟨a', c', bo, rfl, o2, l2, -, b2⟩
   exact hK _ _ ⟨_, (by simp [upd, e13]), FX.pre_mk ⟨a', c', bo, rfl, o2, fun x hx => Nat.le_trans hsz (l2 x hx)⟩, fun _ => b2, bC hbx b2⟩
  ·
   try dsimp only
   clear h0
   refine wpOp_step rfl (fun K' hK => ?_)
   go_simp
   exact hK _ _ ⟨.pointer (some ⟨w.heap.size, 9, none⟩), (by simp [upd]), FX.eq_mk rfl, fun _ => Below.refl _ _, hbx⟩
  ·
   try dsimp only
   have x15 := depX hdp 15 (by kernel_rfl)
   have d15 := hall 15 (by omega) x15
   have e15 : t 15 = .pointer (some ⟨w.heap.size, 9, none⟩) := d15.1
   rw [e15]
   have y19 := notYet hsh hxi 19 (by kernel_rfl)
   have hz : Below W0.heap.size W0 wx := hgx (by simp [y19])
   have q9 := (hz.cell (World.block_lt_of_cell? _ _ q9)).trans q9
   have q10 := (hz.cell (World.block_lt_of_cell? _ _ q10)).trans q10
   have q11 := (hz.cell (World.block_lt_of_cell? _ _ q11)).trans q11
   have q12 := (hz.cell (World.block_lt_of_cell? _ _ q12)).trans q12
   clear y19 hz
   clear h0
   refine wpOp_step rfl (fun K' hK => ?_)
   go_simp
   exact hK _ _ ⟨.agg #[.bool r.str.opened, .slice a2 r.str.fields.length c2, .int .i64 r.str.next, .slice b2 r.str.dicts.length d2], (by simp [upd, e15]), FX.eq_mk rfl, fun _ => Below.refl _ _, hbx⟩
  ·
   try dsimp only
   have x16 := depX hdp 16 (by kernel_rfl)
   have d16 := hall 16 (by omega) x16
   have e16 : t 16 = .agg #[.bool r.str.opened, .slice a2 r.str.fields.length c2, .int .i64 r.str.next, .slice b2 r.str.dicts.length d2] := d16.1
   rw [e16]
   have y19 := notYet hsh hxi 19 (by kernel_rfl)
   have hz : Below W0.heap.size W0 wx := hgx (by simp [y19])
   have hsz := hz.size
   clear h0
   refine wpOp_step rfl (fun K' hK => ?_)
   go_simp
   refine (l4stream_any r.str a2 b2 c2 d2 wx (HR0.out.s.later hz) hT.2.2.2.1 hT.2.2.2.2).mono ?_
   rintro e w2 ⟨a', c', b', d', rfl, o2, o3, b2⟩
   exact hK _ _ ⟨_, (by simp [upd, e16]), FX.pre_mk ⟨a', c', b', d', rfl, frow_mono o2 hsz, o3.mono hsz⟩, fun _ => b2, bC hbx b2⟩
  ·
   try dsimp only
   have x2 := depX hdp 2 (by kernel_rfl)
   have d2 := hall 2 (by omega) x2
   have x4 := depX hdp 4 (by kernel_rfl)
   have d4 := hall 4 (by omega) x4
   have e4 : t 4 = .int .i64 r.epoch := d4.1
   have x6 := depX hdp 6 (by kernel_rfl)
   have d6 := hall 6 (by omega) x6
   have e6 : t 6 = .int .i64 r.base := d6.1
   have x9 := depX hdp 9 (by kernel_rfl)
   have d9 := hall 9 (by omega) x9
   have x11 := depX hdp 11 (by kernel_rfl)
   have d11 := hall 11 (by omega) x11
   have e11 : t 11 = .int .i64 r.pushed := d11.1
   have x14 := depX hdp 14 (by kernel_rfl)
   have d14 := hall 14 (by omega) x14
   have x17 := depX hdp 17 (by kernel_rfl)
   have d17 := hall 17 (by omega) x17
   rw [e4, e6, e11]
   have y19 := notYet hsh hxi 19 (by kernel_rfl)
   have o2 : FRow W0.heap.size wx (t 2) r.fields := FX.pre_of d2 y19
   obtain ⟨a0x, c0x, f2⟩ := o2.slice
   rw [f2] at o2
   have o9 : RowT tkTable 51 W0.heap.size wx (t 9) r.tables := FX.pre_of d9 y19
   obtain ⟨a3x, c3x, f9⟩ := o9.slice
   rw [f9] at o9
   obtain ⟨a1x, c1x, bo, f14, o14, l14⟩ : (fcOu8 W0.heap.size r).p (t 14) wx := FX.pre_of d14 y19
   obtain ⟨a2x, c2x, b2x, d2x, f17, o17, p17⟩ : (fcSt8 W0.heap.size r).p (t 17) wx := FX.pre_of d17 y19
   rw [f2, f9, f14, f17]
   clear y19
   clear h0
   refine wpOp_step rfl (fun K' hK => ?_)
   go_simp
   exact hK _ _ ⟨.agg #[.slice a0x r.fields.length c0x, .int .i64 r.epoch, .int .i64 r.base, .slice a3x r.tables.length c3x, .int .i64 r.pushed, .int .i64 r.out.epoch, .int .i64 r.out.next, .int .i64 r.out.now, .slice a1x r.out.wait.length c1x, .bool r.str.opened, .slice a2x r.str.fields.length c2x, .int .i64 r.str.next, .slice b2x r.str.dicts.length d2x], (by simp [upd, f2, f9, f14, f17, e4, e6, e11]), FX.pre_mk ⟨a0x, c0x, a3x, c3x, a1x, c1x, a2x, c2x, b2x, d2x, bo, rfl, ⟨o2, o9, o14, l14, o17, p17⟩⟩, fun _ => Below.refl _ _, hbx⟩
  ·
   try dsimp only
   have x18 := depX hdp 18 (by kernel_rfl)
   have d18 := hall 18 (by omega) x18
   obtain ⟨a0x, c0x, a3x, c3x, a1x, c1x, a2x, c2x, b2x, d2x, bo, eb, hc⟩ : (fcAg8 W0.heap.size r).p (t 18) wx := FX.pre_of d18 hxi
   have hz : Below W0.heap.size W0 wx := hgx (by simp [hxi])
   rw [eb]
   have hb1 := (hz.block _ HG1.out).trans HL0.out
   have g0 := cR wx _ 0 _ _ _ hb1
   have g1 := cR wx _ 1 _ _ _ hb1
   have g2 := cR wx _ 2 _ _ _ hb1
   have g3 := cR wx _ 3 _ _ _ hb1
   have g4 := cR wx _ 4 _ _ _ hb1
   have g5 := cR wx _ 5 _ _ _ hb1
   have g6 := cR wx _ 6 _ _ _ hb1
   have g7 := cR wx _ 7 _ _ _ hb1
   have g8 := cR wx _ 8 _ _ _ hb1
   have g9 := cR wx _ 9 _ _ _ hb1
   have g10 := cR wx _ 10 _ _ _ hb1
   have g11 := cR wx _ 11 _ _ _ hb1
   have g12 := cR wx _ 12 _ _ _ hb1
   have z0 := fR wx _ 0 _ _ hb1
   have z1 := fR wx _ 1 _ _ hb1
   have z2 := fR wx _ 2 _ _ hb1
   have z3 := fR wx _ 3 _ _ hb1
   have z4 := fR wx _ 4 _ _ hb1
   have z5 := fR wx _ 5 _ _ hb1
   have z6 := fR wx _ 6 _ _ hb1
   have z7 := fR wx _ 7 _ _ hb1
   have z8 := fR wx _ 8 _ _ hb1
   have z9 := fR wx _ 9 _ _ hb1
   have z10 := fR wx _ 10 _ _ hb1
   have z11 := fR wx _ 11 _ _ hb1
   have z12 := fR wx _ 12 _ _ hb1
   simp only [gA, gZ, gU] at g0 g1 g2 g3 g4 g5 g6 g7 g8 g9 g10 g11 g12
   have HB1X := hid hb1
   have HC := hid hc
   clear hb1 hc hz
   clear h0
   refine wpOp_step rfl (fun K' hK => ?_)
   go_simp
   exact hK _ _ ⟨undef, (by simp [upd, eb]), FX.is_mk ⟨a0x, c0x, a3x, c3x, a1x, c1x, a2x, c2x, b2x, d2x, bo, set13 HB1X.out, HC.out.kept (fun b hb _ => set13o (by have := HG1.out; omega))⟩, fun h => absurd (by simp) h, set13b hbx (by omega)⟩
 ·intro x t wx hx hbx hall
  obtain ⟨a0x, c0x, a3x, c3x, a1x, c1x, a2x, c2x, b2x, d2x, bo, hb9, hc9⟩ : (fcBx8 W0.heap.size (w.heap.size + 1) r).p (t 19) wx := FX.is_of (hall 19 (by omega))
  have HB9 := hid hb9
  have HC9 := hid hc9
  have HBX := hid hbx
  clear hall hbx hb9 hc9 hx
  try dsimp only
  repeat go_step
  refine bodyPost_ret (results_cell_row rfl _ _ (w.heap.size + 1) 45 #[.slice a0x r.fields.length c0x, .int .i64 r.epoch, .int .i64 r.base, .slice a3x r.tables.length c3x, .int .i64 r.pushed, .int .i64 r.out.epoch, .int .i64 r.out.next, .int .i64 r.out.now, .slice a1x r.out.wait.length c1x, .bool r.str.opened, .slice a2x r.str.fields.length c2x, .int .i64 r.str.next, .slice b2x r.str.dicts.length d2x] (0, 0) _ rfl HB9.out Tryz.underlying45 rfl (by kernel_rfl)) rfl ?_
  exact ⟨a0x, c0x, a3x, c3x, a1x, c1x, a2x, c2x, b2x, d2x, bo, rfl, HC9.out.mono HB0.out.size, HBX.out⟩
end Go.Proofs.YtfaehioeepolhabGreat
