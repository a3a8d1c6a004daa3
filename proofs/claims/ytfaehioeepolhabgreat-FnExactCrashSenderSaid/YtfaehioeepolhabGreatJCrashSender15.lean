import Derived.Test.YtfaehioeepolhabGreatJCrashSender14
import Derived.Test.YtfaehioeepolhabGreatJCrashSender7
import Derived.Test.YtfaehioeepolhabGreatJCrashSender6
import Derived.Deep.DeepCutAuto
namespace Go.Proofs.YtfaehioeepolhabGreat
open Go.RowKit
def fcSame4 (W : World) : Fct := ⟨fun _ w => Below W.heap.size W w, fun _ _ _ h hb => bC h hb⟩
theorem frow_mono {B B' : Nat} {w : World} {v : Value} {fs : List PF} (h : FRow B w v fs) (hb : B' ≤ B) : FRow B' w v fs := RowT.mono (tk := tkField) h hb
theorem row_set4 {α : Type} {c : Cod α} {tk : Tk c} {e : TypeId} {B : Nat} {w : World} {v : Value} {xs : List α} {g : Nat} {t : TypeId} {c0 c1 c2 c3 x y z u : Value} (h : RowT tk e B w v xs) (hb : w.heap[g]? = some (.cells #[c0, c1, c2, c3] t (0, 0))) (h1 : t ≠ e) (h2 : t ∉ tk.ty) : RowT tk e B ((((w.setCell ⟨g, 0, none⟩ x).setCell ⟨g, 1, none⟩ y).setCell ⟨g, 2, none⟩ z).setCell ⟨g, 3, none⟩ u) v xs := by
 have k1 := heap_setCell_same w g 0 _ t x hb
 have k2 := heap_setCell_same _ g 1 _ t y k1
 have k3 := heap_setCell_same _ g 2 _ t z k2
 exact (((h.box hb h1 h2).box k1 h1 h2).box k2 h1 h2).box k3 h1 h2
theorem frow_set4 {B : Nat} {w : World} {v : Value} {fs : List PF} {g : Nat} {c0 c1 c2 c3 x y z u : Value} (h : FRow B w v fs) (hb : w.heap[g]? = some (.cells #[c0, c1, c2, c3] 43 (0, 0))) : FRow B ((((w.setCell ⟨g, 0, none⟩ x).setCell ⟨g, 1, none⟩ y).setCell ⟨g, 2, none⟩ z).setCell ⟨g, 3, none⟩ u) v fs := row_set4 (tk := tkField) h hb (by decide) (by decide)
theorem box_far4 {w : World} {gm : Nat} {cs : Array Value} {t : TypeId} {B n s : Nat} {e : TypeId} {u : Value} {vs : List Value} (hb : w.heap[gm]? = some (.cells cs t (0, 0))) (ho : w.ownsRow B e s u n vs) (hne : e ≠ t) : u.ownBlock ≠ some gm := by
 intro hp
 rcases ho.2 with ⟨rfl, _⟩ | ⟨g, cap, cur, rfl, _, hh, _⟩
 ·simp [Value.ownBlock] at hp
 ·simp [Value.ownBlock] at hp
  subst hp
  rw [hb] at hh
  simp at hh
  exact hne hh.2.symm
theorem frow_grown {B B' n : Nat} {w w1 : World} {v acc : Value} {fs : List PF} {vals : List Value} (h : FRow B w v fs) (ho : w.ownsRow B' 103 1 acc n vals) (hg : w.grownBy w1 acc.ownBlock) : FRow B w1 v fs :=
 RowT.kept (tk := tkField) h (fun b e n s vs u h1 h2 h3 => hg.block b (World.ownsRow.lt h1 b h3).2 (fun e0 => own_apartS h1 ho (h2.elim (fun e => by subst e; decide) (fun h => by simp [tkField] at h; subst h; decide)) b b h3 e0.symm rfl))
def fcAgg4 (lo : Nat) (o : Bool) (x : Int) (fs : List PF) : Fct := ⟨fun v w => ∃ a c, v = .agg #[.bool o, .slice a fs.length c, .int .i64 x, .slice none 0 0] ∧ FRow lo w (.slice a fs.length c) fs, fun _ _ _ ⟨a, c, e, h⟩ hb => ⟨a, c, e, h.later hb⟩⟩
def fcNew4 (lo : Nat) : Fct := ⟨fun v w => ∃ g, v = .pointer (some ⟨g, 0, none⟩) ∧ lo ≤ g ∧ w.heap[g]? = some (.cells #[.bool false, .slice none 0 0, .int .i64 0, .slice none 0 0] 43 (0, 0)), fun _ _ _ ⟨g, e, l, h⟩ hb => ⟨g, e, l, (hb.block _ (Array.getElem?_eq_some_iff.1 h).1).trans h⟩⟩
def n4H (lo : Nat) (o : Bool) (x : Int) (fs : List PF) (y : Nat → Bool) (t : Nat → Value) (w : World) : Prop := y 9 = true → ∃ g a c, t 8 = .pointer (some ⟨g, 0, none⟩) ∧ lo ≤ g ∧ w.heap[g]? = some (.cells #[.bool o, .slice a fs.length c, .int .i64 x, .slice none 0 0] 43 (0, 0)) ∧ FRow lo w (.slice a fs.length c) fs
set_option linter.unusedVariables false in
def n4T (lo gO : Nat) (o : Bool) (x : Int) (fv : Value) (fs : List PF) : Nat → FX
 | 0 => FX.eq (.pointer (some ⟨gO, 0, none⟩))
 | 1 => FX.eq (.bool o)
 | 2 => FX.eq (.pointer (some ⟨gO, 1, none⟩))
 | 3 => FX.eq (fv)
 | 4 => FX.pre [9] (fcRow lo fs)
 | 5 => FX.eq (.pointer (some ⟨gO, 2, none⟩))
 | 6 => FX.eq (.int .i64 x)
 | 7 => FX.pre [9] (fcAgg4 lo o x fs)
 | 8 => FX.pre [9] (fcNew4 lo)
 | 9 => FX.is Fct.any
 | _ => FX.eq undef
def fcTx (lo : Nat) (p : List (List Nat)) : Fct := ⟨fun v w => RowT tkText 87 lo w v p, fun _ _ _ h hb => h.later hb⟩
def fcOne4 (lo : Nat) (p : List (List Nat)) : Fct := ⟨fun v w => ∃ g a c, v = .slice (some ⟨g, 0, none⟩) 1 1 ∧ w.heap[g]? = some (.cells #[.slice a p.length c] 103 (0, 0)) ∧ RowT tkText 87 lo w (.slice a p.length c) p, fun _ _ _ ⟨g, a, c, e, h0, h⟩ hb => ⟨g, a, c, e, (hb.block _ (Array.getElem?_eq_some_iff.1 h0).1).trans h0, h.later hb⟩⟩
def fcGot4 (B gm : Nat) (o : Bool) (x : Int) (fd : Value) (fs : List PF) (acc : Value) (xs : List (List (List Nat))) : Fct := ⟨fun v w => w.heap[gm]? = some (.cells #[.bool o, fd, .int .i64 x, acc] 43 (0, 0)) ∧ FRow B w fd fs ∧ RowT tkTexts 103 B w v xs, fun _ _ _ ⟨h1, h2, h3⟩ hb => ⟨(hb.block _ (Array.getElem?_eq_some_iff.1 h1).1).trans h1, h2.later hb, h3.later hb⟩⟩
def fcPut4 (B gm : Nat) (o : Bool) (x : Int) (fd : Value) (fs : List PF) (xs : List (List (List Nat))) : Fct := ⟨fun _ w => ∃ v, w.heap[gm]? = some (.cells #[.bool o, fd, .int .i64 x, v] 43 (0, 0)) ∧ FRow B w fd fs ∧ RowT tkTexts 103 B w v xs, fun _ _ _ ⟨v, h1, h2, h3⟩ hb => ⟨v, (hb.block _ (Array.getElem?_eq_some_iff.1 h1).1).trans h1, h2.later hb, h3.later hb⟩⟩
set_option linter.unusedVariables false in
def s4T (B lo gm gO bb off d n k : Nat) (p : List (List Nat)) (an : Option Addr) (cn : Nat) (acc : Value) (o : Bool) (x : Int) (fd : Value) (fs : List PF) (xs : List (List (List Nat))) : Nat → FX
 | 0 => FX.eq (.pointer (some ⟨gm, 3, none⟩))
 | 1 => FX.eq (acc)
 | 2 => FX.eq (.pointer (some ⟨gO, 3, none⟩))
 | 3 => FX.eq (.slice (some ⟨bb, off, none⟩) n d)
 | 4 => FX.eq (.int .i64 (k : Int))
 | 5 => FX.eq (.pointer (some ⟨bb, off + k, none⟩))
 | 6 => FX.eq (.slice an p.length cn)
 | 7 => FX.pre [9, 11] (fcTx lo p)
 | 8 => FX.pre [9, 11] (fcOne4 lo p)
 | 9 => FX.pre [11] (fcGot4 B gm o x fd fs acc (xs ++ [p]))
 | 10 => FX.eq (.pointer (some ⟨gm, 3, none⟩))
 | 11 => FX.is (fcPut4 B gm o x fd fs (xs ++ [p]))
 | _ => FX.eq undef
set_option maxRecDepth 100000 in
set_option maxHeartbeats 8000000 in
theorem l4stream_any (s : PStr) (a b : Option Addr) (c d : Nat) (w : World) (hr : RdStr w s a c b d) (htf : totL (fun f : PF => f.name.length) s.fields ≤ 1048576) (htd : totL tS s.dicts ≤ 1048576) :
  Calls Tryz.prog 68 #[.agg #[.bool s.opened, .slice a s.fields.length c, .int .i64 s.next, .slice b s.dicts.length d]] w fun e w' => ∃ a' c' b' d', e = .returned (.agg #[.bool s.opened, .slice a' s.fields.length c', .int .i64 s.next, .slice b' s.dicts.length d']) ∧ FRow w.heap.size w' (.slice a' s.fields.length c') s.fields ∧ RowT tkTexts 103 w.heap.size w' (.slice b' s.dicts.length d') s.dicts ∧ Below w.heap.size w w' := by
 obtain ⟨i0, hi0, hz0, hz1, hz2⟩ := info_parts infoSl3
 have HR := hid hr
 clear hr
 have hlen : s.dicts.length ≤ 1048576 := by unfold totL at htd; omega
 have HAT : Hid (∀ k, (h : k < s.dicts.length) → totL List.length s.dicts[k] ≤ 1048576) := hid (fun k h => by have h1 := tot_at tS s.dicts k h; unfold totL at htd; have h2 : tS s.dicts[k] = totL List.length s.dicts[k] := rfl; omega)
 have HK0 : Hid (((w.alloc (.cells #[.bool s.opened, .slice a s.fields.length c, .int .i64 s.next, .slice b s.dicts.length d] 43)).alloc (.cells #[.bool false, .slice none 0 0, .int .i64 0, .slice none 0 0] 43)).heap[w.heap.size]? = some (.cells #[.bool s.opened, .slice a s.fields.length c, .int .i64 s.next, .slice b s.dicts.length d] 43 (0, 0))) := hid (heap2 _ _ (Below.refl _ _)).1
 have HK1 : Hid (((w.alloc (.cells #[.bool s.opened, .slice a s.fields.length c, .int .i64 s.next, .slice b s.dicts.length d] 43)).alloc (.cells #[.bool false, .slice none 0 0, .int .i64 0, .slice none 0 0] 43)).heap[w.heap.size + 1]? = some (.cells #[.bool false, .slice none 0 0, .int .i64 0, .slice none 0 0] 43 (0, 0))) := hid (heap2 _ _ (Below.refl _ _)).2
 have HB0 := hid (below_new2 w (.cells #[.bool s.opened, .slice a s.fields.length c, .int .i64 s.next, .slice b s.dicts.length d] 43) (.cells #[.bool false, .slice none 0 0, .int .i64 0, .slice none 0 0] 43))
 have HSZ := hid (size2 w (.cells #[.bool s.opened, .slice a s.fields.length c, .int .i64 s.next, .slice b s.dicts.length d] 43) (.cells #[.bool false, .slice none 0 0, .int .i64 0, .slice none 0 0] 43))
 go_enter Tryz.func68, Tryz.ntmps68
 go_upto_region 1 with fail
 generalize ((w.alloc (.cells #[.bool s.opened, .slice a s.fields.length c, .int .i64 s.next, .slice b s.dicts.length d] 43)).alloc (.cells #[.bool false, .slice none 0 0, .int .i64 0, .slice none 0 0] 43)) = W0 at *
 have HGO : Hid (w.heap.size < W0.heap.size) := hid (by have := HSZ.out; omega)
 have HR0 := hid (HR.out.later HB0.out)
 have HCL : Hid (∀ wx, Below W0.heap.size W0 wx → _) := hid (fun wx hbx => l4fields_any a c s.fields wx (HR0.out.f.later hbx) htf)
 have c00 := cR _ _ 0 _ _ _ HK0.out
 have c01 := cR _ _ 1 _ _ _ HK0.out
 have c02 := cR _ _ 2 _ _ _ HK0.out
 simp only [gA, gZ, gU] at c00 c01 c02
 refine region_turns3 (n := 10) (by kernel_rfl) (by kernel_rfl) ?_ (fun t => { tmps := #[.agg #[.bool s.opened, .slice a s.fields.length c, .int .i64 s.next, .slice b s.dicts.length d], .pointer (some ⟨w.heap.size, 0, none⟩), .pointer (some ⟨w.heap.size + 1, 0, none⟩), t 8, undef, t 0, t 1, t 2, t 3, t 4, t 5, t 6, t 7, undef, undef, undef, undef, undef, undef, undef, undef, undef, undef, undef, undef, undef, undef, undef, undef, undef, undef, undef], defers := [] }) (n4T W0.heap.size w.heap.size s.opened s.next (.slice a s.fields.length c) s.fields) [9] (Fct.any) (n4H W0.heap.size s.opened s.next s.fields) W0 W0 (fun k => if k = 4 then [9] else if k = 7 then [9] else if k = 8 then [9] else []) (fun k => !(k == 4 || k == 7 || k == 8 || k == 9)) (fun _ _ _ => True) [9] (fun _ _ => false) (by kernel_rfl) (fun _ _ _ _ h => by cases h) (fun i hi hn => absurd hi hn) (fun j hj => by rcases (by omega : j = 0 ∨ j = 1 ∨ j = 2 ∨ j = 3 ∨ j = 4 ∨ j = 5 ∨ j = 6 ∨ j = 7 ∨ j = 8 ∨ j = 9) with rfl | rfl | rfl | rfl | rfl | rfl | rfl | rfl | rfl | rfl <;> rfl) (fun j hj hp => by rcases (by omega : j = 0 ∨ j = 1 ∨ j = 2 ∨ j = 3 ∨ j = 4 ∨ j = 5 ∨ j = 6 ∨ j = 7 ∨ j = 8 ∨ j = 9) with rfl | rfl | rfl | rfl | rfl | rfl | rfl | rfl | rfl | rfl <;> first | rfl | (exact absurd hp (by decide))) (fun j => ([undef, undef, undef, undef, undef, undef, undef, undef, undef, undef] : List Value).getD j undef) (fun h => by cases h) (Below.refl _ W0) (trivial) ?_ ?_
 ·rfl
 ·intro i hi x t wx hxi hsh h0 hbx hgx hdp hall hHx
  have c00 := (hbx.cell (World.block_lt_of_cell? _ _ c00)).trans c00
  have c01 := (hbx.cell (World.block_lt_of_cell? _ _ c01)).trans c01
  have c02 := (hbx.cell (World.block_lt_of_cell? _ _ c02)).trans c02
  rcases (by omega : i = 0 ∨ i = 1 ∨ i = 2 ∨ i = 3 ∨ i = 4 ∨ i = 5 ∨ i = 6 ∨ i = 7 ∨ i = 8 ∨ i = 9) with rfl | rfl | rfl | rfl | rfl | rfl | rfl | rfl | rfl | rfl
  ·
   try dsimp only
   have hy := notYet hsh hxi 9 (by kernel_rfl)
   clear h0
   refine wpOp_step rfl (fun K' hK => ?_)
   go_simp
   exact hK _ _ ⟨.pointer (some ⟨w.heap.size, 0, none⟩), (by simp [upd]), FX.eq_mk rfl, fun _ => Below.refl _ _, fun h => absurd h (by decide), hbx, fun h => absurd h (by simp [hy])⟩
  ·
   try dsimp only
   have x0 := depX hdp 0 (by kernel_rfl)
   have d0 := hall 0 (by omega) x0
   have e0 : t 0 = .pointer (some ⟨w.heap.size, 0, none⟩) := d0.1
   rw [e0]
   have hy := notYet hsh hxi 9 (by kernel_rfl)
   clear h0
   refine wpOp_step rfl (fun K' hK => ?_)
   go_simp
   exact hK _ _ ⟨.bool s.opened, (by simp [upd, e0]), FX.eq_mk rfl, fun _ => Below.refl _ _, fun h => absurd h (by decide), hbx, fun h => absurd h (by simp [hy])⟩
  ·
   try dsimp only
   have hy := notYet hsh hxi 9 (by kernel_rfl)
   clear h0
   refine wpOp_step rfl (fun K' hK => ?_)
   go_simp
   exact hK _ _ ⟨.pointer (some ⟨w.heap.size, 1, none⟩), (by simp [upd]), FX.eq_mk rfl, fun _ => Below.refl _ _, fun h => absurd h (by decide), hbx, fun h => absurd h (by simp [hy])⟩
  ·
   try dsimp only
   have x2 := depX hdp 2 (by kernel_rfl)
   have d2 := hall 2 (by omega) x2
   have e2 : t 2 = .pointer (some ⟨w.heap.size, 1, none⟩) := d2.1
   rw [e2]
   have hy := notYet hsh hxi 9 (by kernel_rfl)
   clear h0
   refine wpOp_step rfl (fun K' hK => ?_)
   go_simp
   exact hK _ _ ⟨.slice a s.fields.length c, (by simp [upd, e2]), FX.eq_mk rfl, fun _ => Below.refl _ _, fun h => absurd h (by decide), hbx, fun h => absurd h (by simp [hy])⟩
  ·
   try dsimp only
   have x3 := depX hdp 3 (by kernel_rfl)
   have d3 := hall 3 (by omega) x3
   have e3 : t 3 = .slice a s.fields.length c := d3.1
   rw [e3]
   have hy := notYet hsh hxi 9 (by kernel_rfl)
   clear h0
   refine wpOp_step rfl (fun K' hK => ?_)
   go_simp
   refine (HCL.out wx hbx).mono ?_
   rintro e w2 ⟨v2, rfl, o2, b2⟩
   exact hK _ _ ⟨v2, (by simp [upd, e3]), FX.pre_mk (frow_mono o2 hbx.size), fun _ => b2, fun h => absurd h (by decide), bC hbx b2, fun h => absurd h (by simp [hy])⟩
  ·
   try dsimp only
   have hy := notYet hsh hxi 9 (by kernel_rfl)
   clear h0
   refine wpOp_step rfl (fun K' hK => ?_)
   go_simp
   exact hK _ _ ⟨.pointer (some ⟨w.heap.size, 2, none⟩), (by simp [upd]), FX.eq_mk rfl, fun _ => Below.refl _ _, fun h => absurd h (by decide), hbx, fun h => absurd h (by simp [hy])⟩
  ·
   try dsimp only
   have x5 := depX hdp 5 (by kernel_rfl)
   have d5 := hall 5 (by omega) x5
   have e5 : t 5 = .pointer (some ⟨w.heap.size, 2, none⟩) := d5.1
   rw [e5]
   have hy := notYet hsh hxi 9 (by kernel_rfl)
   clear h0
   refine wpOp_step rfl (fun K' hK => ?_)
   go_simp
   exact hK _ _ ⟨.int .i64 s.next, (by simp [upd, e5]), FX.eq_mk rfl, fun _ => Below.refl _ _, fun h => absurd h (by decide), hbx, fun h => absurd h (by simp [hy])⟩
  ·
   try dsimp only
   have x1 := depX hdp 1 (by kernel_rfl)
   have d1 := hall 1 (by omega) x1
   have e1 : t 1 = .bool s.opened := d1.1
   have x4 := depX hdp 4 (by kernel_rfl)
   have d4 := hall 4 (by omega) x4
   have x6 := depX hdp 6 (by kernel_rfl)
   have d6 := hall 6 (by omega) x6
   have e6 : t 6 = .int .i64 s.next := d6.1
   rw [e1, e6]
   have hy := notYet hsh hxi 9 (by kernel_rfl)
   have f6 : FRow W0.heap.size wx (t 4) s.fields := FX.pre_of d4 hy
   obtain ⟨ad, cd, ed⟩ := f6.slice
   rw [ed]
   clear h0
   refine wpOp_step rfl (fun K' hK => ?_)
   go_simp
   exact hK _ _ ⟨.agg #[.bool s.opened, .slice ad s.fields.length cd, .int .i64 s.next, .slice none 0 0], (by simp [upd, ed, e1, e6]), FX.pre_mk ⟨ad, cd, rfl, ed ▸ f6⟩, fun _ => Below.refl _ _, fun h => absurd h (by decide), hbx, fun h => absurd h (by simp [hy])⟩
  ·
   try dsimp only
   have hy := notYet hsh hxi 9 (by kernel_rfl)
   clear h0
   refine wpOp_step rfl (fun K' hK => ?_)
   go_simp
   exact hK _ _ ⟨.pointer (some ⟨wx.heap.size, 0, none⟩), (by simp [upd]), FX.pre_mk ⟨wx.heap.size, rfl, hbx.size, heap_alloc_new wx _⟩, fun _ => bN _ _, fun h => absurd h (by decide), bC hbx (bN _ _), fun h => absurd h (by simp [hy])⟩
  ·
   try dsimp only
   have x8 := depX hdp 8 (by kernel_rfl)
   have d8 := hall 8 (by omega) x8
   have x7 := depX hdp 7 (by kernel_rfl)
   have d7 := hall 7 (by omega) x7
   obtain ⟨gs, ea, lg, hbox⟩ : (fcNew4 W0.heap.size).p (t 8) wx := FX.pre_of d8 hxi
   obtain ⟨ad, cd, eb, hrow⟩ : (fcAgg4 W0.heap.size s.opened s.next s.fields).p (t 7) wx := FX.pre_of d7 hxi
   rw [ea, eb]
   have k0 := cR wx _ 0 _ _ _ hbox
   have k1 := cR wx _ 1 _ _ _ hbox
   have k2 := cR wx _ 2 _ _ _ hbox
   have k3 := cR wx _ 3 _ _ _ hbox
   have z0 := fR wx _ 0 _ _ hbox
   have z1 := fR wx _ 1 _ _ hbox
   have z2 := fR wx _ 2 _ _ hbox
   have z3 := fR wx _ 3 _ _ hbox
   simp only [gA, gZ, gU] at k0 k1 k2 k3
   have HBX := hid hbox
   have HRW := hid hrow
   clear hbox hrow
   clear h0
   refine wpOp_step rfl (fun K' hK => ?_)
   go_simp
   exact hK _ _ ⟨undef, (by simp [upd, ea, eb]), FX.is_mk trivial, fun h => absurd (by decide) h, fun _ => trivial, set4b hbx lg, fun _ => ⟨gs, ad, cd, (by simp [upd]; exact ea), lg, set4 HBX.out, frow_set4 HRW.out HBX.out⟩⟩
 ·intro x t wx hx hbx hall hHx
  obtain ⟨gM, aD, cD, eA, lg, hM, hrow⟩ := hHx (hx 9 (by omega))
  try dsimp only
  rw [eA]
  generalize t 0 = v0
  generalize t 1 = v1
  generalize t 2 = v2
  generalize t 3 = v3
  generalize t 4 = v4
  generalize t 5 = v5
  generalize t 6 = v6
  generalize t 7 = v7
  have HM := hid hM
  have HROW := hid hrow
  have HLG := hid lg
  have HBX := hid hbx
  clear hall hbx hM hrow eA hHx hx lg c00 c01 c02
  go_wp2
  go_loopw [4] (fun i wr => ∃ k : Nat, k ≤ s.dicts.length ∧ i = .int .i64 k ∧ (∃ v, wr.heap[gM]? = some (.cells #[.bool s.opened, .slice aD s.fields.length cD, .int .i64 s.next, v] 43 (0, 0)) ∧ FRow W0.heap.size wr (.slice aD s.fields.length cD) s.fields ∧ RowT tkTexts 103 W0.heap.size wr v (s.dicts.take k)) ∧ Below W0.heap.size W0 wr) (fun i _ => s.dicts.length - (intOf i).toNat)
  case atStart => exact ⟨0, Nat.zero_le _, rfl, ⟨_, HM.out, HROW.out, by simpa using RowT.nil tkTexts _ _ wx⟩, HBX.out⟩
  case round =>
   obtain ⟨k, hk, rfl, ⟨vA, hkm, hfr, hacc⟩, hbe⟩ := hrel
   have HXL : Hid ((s.dicts.take k).length = k) := hid (by simp; omega)
   have HWR := hid hbe
   obtain ⟨aA, cA, rfl⟩ := hacc.slice
   have HKM := hid hkm
   have HFR := hid hfr
   have HACC := hid hacc
   clear hkm hfr hacc hbe
   by_cases hlt : k < s.dicts.length
   ·generalize hxs : s.dicts.take k = xs at *
    have HXS := hid hxs
    have hxl2 : xs.length ≤ 1048576 := by have := HXL.out; omega
    clear hxs
    obtain ⟨bb, off, an, cn, rfl, hcb, hrr⟩ := (HR0.out.t.later HWR.out).row3 hlt
    have HRR := hid hrr
    have hki : (k : Int) < (s.dicts.length : Int) := by omega
    have HWB : Hid (W0.heap.size ≤ wr.heap.size) := hid HWR.out.size
    have p3 := cR _ _ 3 _ _ _ ((HWR.out.block _ HGO.out).trans HK0.out)
    have g3 := cR _ _ 3 _ _ _ HKM.out
    simp only [gA, gZ, gU] at p3 g3
    clear hrr
    go_upto_region 5 with fail
    refine region_turns (n := 12) (by kernel_rfl) (by kernel_rfl) ?_ (fun t => { tmps := #[.agg #[.bool s.opened, .slice a s.fields.length c, .int .i64 s.next, .slice (some ⟨bb, off, none⟩) s.dicts.length d], .pointer (some ⟨w.heap.size, 0, none⟩), .pointer (some ⟨w.heap.size + 1, 0, none⟩), .pointer (some ⟨gM, 0, none⟩), .int .i64 (k : Int), v0, v1, v2, v3, v4, v5, v6, v7, .int .i64 (k : Int), .pointer (some ⟨w.heap.size, 3, none⟩), .slice (some ⟨bb, off, none⟩) s.dicts.length d, .int .i64 (s.dicts.length : Int), .bool true, u18, u19, t 0, t 1, t 2, t 3, t 4, t 5, t 6, t 7, t 8, t 9, t 10, undef], defers := [] }) (s4T W0.heap.size wr.heap.size gM w.heap.size bb off d s.dicts.length k s.dicts[k] an cn (.slice aA xs.length cA) s.opened s.next (.slice aD s.fields.length cD) s.fields xs) [9, 11] (fcSame4 wr) W0 wr (fun k => if k = 7 then [9, 11] else if k = 8 then [9, 11] else if k = 9 then [11] else []) (fun k => !(k == 7 || k == 8 || k == 9 || k == 11)) (by kernel_rfl) (fun j hj => by rcases (by omega : j = 0 ∨ j = 1 ∨ j = 2 ∨ j = 3 ∨ j = 4 ∨ j = 5 ∨ j = 6 ∨ j = 7 ∨ j = 8 ∨ j = 9 ∨ j = 10 ∨ j = 11) with rfl | rfl | rfl | rfl | rfl | rfl | rfl | rfl | rfl | rfl | rfl | rfl <;> rfl) (fun j hj hp => by rcases (by omega : j = 0 ∨ j = 1 ∨ j = 2 ∨ j = 3 ∨ j = 4 ∨ j = 5 ∨ j = 6 ∨ j = 7 ∨ j = 8 ∨ j = 9 ∨ j = 10 ∨ j = 11) with rfl | rfl | rfl | rfl | rfl | rfl | rfl | rfl | rfl | rfl | rfl | rfl <;> first | rfl | (exact absurd hp (by decide))) (fun j => ([u20, u21, u22, u23, u24, u25, u26, u27, u28, u29, u30, undef] : List Value).getD j undef) HWR.out (Below.refl _ _) ?_ ?_
    ·rfl
    ·intro i hi x t wx hxi hsh h0 hbx hgx hdp hall
     rcases (by omega : i = 0 ∨ i = 1 ∨ i = 2 ∨ i = 3 ∨ i = 4 ∨ i = 5 ∨ i = 6 ∨ i = 7 ∨ i = 8 ∨ i = 9 ∨ i = 10 ∨ i = 11) with rfl | rfl | rfl | rfl | rfl | rfl | rfl | rfl | rfl | rfl | rfl | rfl
     ·
      try dsimp only
      clear h0
      refine wpOp_step rfl (fun K' hK => ?_)
      go_simp
      exact hK _ _ ⟨.pointer (some ⟨gM, 3, none⟩), (by simp [upd]), FX.eq_mk rfl, fun _ => Below.refl _ _, hbx⟩
     ·
      try dsimp only
      have x0 := depX hdp 0 (by kernel_rfl)
      have d0 := hall 0 (by omega) x0
      have e0 : t 0 = .pointer (some ⟨gM, 3, none⟩) := d0.1
      rw [e0]
      have y9 := notYet hsh hxi 9 (by kernel_rfl)
      have y11 := notYet hsh hxi 11 (by kernel_rfl)
      have hz : Below wr.heap.size wr wx := hgx (by simp [y9, y11])
      have g3 := (hz.cell (World.block_lt_of_cell? _ _ g3)).trans g3
      clear y9 y11 hz
      clear h0
      refine wpOp_step rfl (fun K' hK => ?_)
      go_simp
      exact hK _ _ ⟨.slice aA xs.length cA, (by simp [upd, e0]), FX.eq_mk rfl, fun _ => Below.refl _ _, hbx⟩
     ·
      try dsimp only
      clear h0
      refine wpOp_step rfl (fun K' hK => ?_)
      go_simp
      exact hK _ _ ⟨.pointer (some ⟨w.heap.size, 3, none⟩), (by simp [upd]), FX.eq_mk rfl, fun _ => Below.refl _ _, hbx⟩
     ·
      try dsimp only
      have x2 := depX hdp 2 (by kernel_rfl)
      have d2 := hall 2 (by omega) x2
      have e2 : t 2 = .pointer (some ⟨w.heap.size, 3, none⟩) := d2.1
      rw [e2]
      have y9 := notYet hsh hxi 9 (by kernel_rfl)
      have y11 := notYet hsh hxi 11 (by kernel_rfl)
      have hz : Below wr.heap.size wr wx := hgx (by simp [y9, y11])
      have p3 := (hz.cell (World.block_lt_of_cell? _ _ p3)).trans p3
      clear y9 y11 hz
      clear h0
      refine wpOp_step rfl (fun K' hK => ?_)
      go_simp
      exact hK _ _ ⟨.slice (some ⟨bb, off, none⟩) s.dicts.length d, (by simp [upd, e2]), FX.eq_mk rfl, fun _ => Below.refl _ _, hbx⟩
     ·
      try dsimp only
      clear h0
      refine wpOp_step rfl (fun K' hK => ?_)
      go_simp
      exact hK _ _ ⟨.int .i64 (k : Int), (by simp [upd]), FX.eq_mk rfl, fun _ => Below.refl _ _, hbx⟩
     ·
      try dsimp only
      have x3 := depX hdp 3 (by kernel_rfl)
      have d3 := hall 3 (by omega) x3
      have e3 : t 3 = .slice (some ⟨bb, off, none⟩) s.dicts.length d := d3.1
      have x4 := depX hdp 4 (by kernel_rfl)
      have d4 := hall 4 (by omega) x4
      have e4 : t 4 = .int .i64 (k : Int) := d4.1
      rw [e3, e4]
      clear h0
      refine wpOp_step rfl (fun K' hK => ?_)
      go_simp
      exact hK _ _ ⟨.pointer (some ⟨bb, off + k, none⟩), (by simp [upd, e3, e4]), FX.eq_mk rfl, fun _ => Below.refl _ _, hbx⟩
     ·
      try dsimp only
      have x5 := depX hdp 5 (by kernel_rfl)
      have d5 := hall 5 (by omega) x5
      have e5 : t 5 = .pointer (some ⟨bb, off + k, none⟩) := d5.1
      rw [e5]
      have y9 := notYet hsh hxi 9 (by kernel_rfl)
      have y11 := notYet hsh hxi 11 (by kernel_rfl)
      have hz : Below wr.heap.size wr wx := hgx (by simp [y9, y11])
      have hcb := (hz.cell (World.block_lt_of_cell? _ _ hcb)).trans hcb
      clear y9 y11 hz
      clear h0
      refine wpOp_step rfl (fun K' hK => ?_)
      go_simp
      exact hK _ _ ⟨.slice an s.dicts[k].length cn, (by simp [upd, e5]), FX.eq_mk rfl, fun _ => Below.refl _ _, hbx⟩
     ·
      try dsimp only
      have x6 := depX hdp 6 (by kernel_rfl)
      have d6 := hall 6 (by omega) x6
      have e6 : t 6 = .slice an s.dicts[k].length cn := d6.1
      rw [e6]
      have y9 := notYet hsh hxi 9 (by kernel_rfl)
      have y11 := notYet hsh hxi 11 (by kernel_rfl)
      have hz : Below wr.heap.size wr wx := hgx (by simp [y9, y11])
      have hsz := hz.size
      clear h0
      refine wpOp_step rfl (fun K' hK => ?_)
      go_simp
      refine (l3texts_any an cn s.dicts[k] wx (HRR.out.later hz) (HAT.out k hlt)).mono ?_
      rintro e w2 ⟨v2, rfl, o2, b2⟩
      exact hK _ _ ⟨v2, (by simp [upd, e6]), FX.pre_mk (txts_row (o2.mono hsz)), fun _ => b2, bC hbx b2⟩
     ·
      try dsimp only
      have x7 := depX hdp 7 (by kernel_rfl)
      have d7 := hall 7 (by omega) x7
      have y9 := notYet hsh hxi 9 (by kernel_rfl)
      have y11 := notYet hsh hxi 11 (by kernel_rfl)
      have r8 : RowT tkText 87 wr.heap.size wx (t 7) s.dicts[k] := FX.pre_of2 d7 y9 y11
      obtain ⟨a4, c4, e7⟩ := r8.slice
      rw [e7] at r8 ⊢
      clear y9 y11
      clear h0
      refine wpOp_step rfl (fun K' hK => ?_)
      go_simp
      exact hK _ _ ⟨.slice (some ⟨wx.heap.size, 0, none⟩) 1 1, (by simp [upd, e7]), FX.pre_mk ⟨wx.heap.size, a4, c4, rfl, heap_alloc_new wx _, r8.later (bN _ _)⟩, fun _ => bN _ _, bC hbx (bN _ _)⟩
     ·
      try dsimp only
      have x1 := depX hdp 1 (by kernel_rfl)
      have d1 := hall 1 (by omega) x1
      have e1 : t 1 = .slice aA xs.length cA := d1.1
      have x8 := depX hdp 8 (by kernel_rfl)
      have d8 := hall 8 (by omega) x8
      rw [e1]
      have y11 := notYet hsh hxi 11 (by kernel_rfl)
      obtain ⟨g16, a4, c4, e8, h16, r8⟩ : (fcOne4 wr.heap.size s.dicts[k]).p (t 8) wx := FX.pre_of2 d8 hxi y11
      rw [e8]
      have hz : Below wr.heap.size wr wx := hgx (by simp [hxi, y11])
      have hbx0 : W0.heap.size ≤ wx.heap.size := hbx.size
      obtain ⟨vals, ho, hel⟩ := HACC.out.later hz
      have hkm := (hz.block _ (Array.getElem?_eq_some_iff.1 HKM.out).1).trans HKM.out
      have hfr := HFR.out.later hz
      clear h0
      refine wpOp_step rfl (fun K' hK => ?_)
      refine step_append_lies _ rfl (.tmp 21) (.tmp 28) 27 rfl W0.heap.size 103 i0 (.slice none 0 0) 1 24 Tryz.underlying27 hi0 hz0 hz1 hz2 rfl (by decide) (.slice aA xs.length cA) xs.length vals rfl ho ⟨g16, 0, none⟩ 1 1 [.slice a4 s.dicts[k].length c4] rfl rfl (World.news_of_block h16) (by simp [Value.oneCell']) (by omega) (by unfold maxLen; omega) (by omega) hbx0 _ rfl ?_
      intro g' cap' w9 hown hgrow hat hlt9
      have hrow := RowT.snoc (tk := tkTexts) ho hel (x := s.dicts[k]) ⟨_, rfl, r8.mono HWB.out⟩ (by decide) hown hgrow
      exact hK _ _ ⟨.slice (some ⟨g', 0, none⟩) (xs.length + 1) cap', (by simp [upd, e1, e8, Act.put]), FX.pre_mk ⟨(hgrow.block _ (Array.getElem?_eq_some_iff.1 hkm).1 (fun e => box_far4 hkm ho (by decide) e.symm)).trans hkm, frow_grown hfr ho hgrow, hrow⟩, fun h => absurd (by simp) h, hbx.grown hgrow hbx.size (fun p hp => (World.ownsRow.lt ho p hp).1)⟩
     ·
      try dsimp only
      clear h0
      refine wpOp_step rfl (fun K' hK => ?_)
      go_simp
      exact hK _ _ ⟨.pointer (some ⟨gM, 3, none⟩), (by simp [upd]), FX.eq_mk rfl, fun _ => Below.refl _ _, hbx⟩
     ·
      try dsimp only
      have x10 := depX hdp 10 (by kernel_rfl)
      have d10 := hall 10 (by omega) x10
      have e10 : t 10 = .pointer (some ⟨gM, 3, none⟩) := d10.1
      have x9 := depX hdp 9 (by kernel_rfl)
      have d9 := hall 9 (by omega) x9
      rw [e10]
      obtain ⟨hbm, hfr, hrow⟩ : (fcGot4 W0.heap.size gM s.opened s.next (.slice aD s.fields.length cD) s.fields (.slice aA xs.length cA) (xs ++ [s.dicts[k]])).p (t 9) wx := FX.pre_of d9 hxi
      obtain ⟨a17, c17, e9⟩ := hrow.slice
      rw [e9] at hrow ⊢
      rw [show (xs ++ [s.dicts[k]]).length = xs.length + 1 from by simp] at hrow
      have k2 := cR wx _ 3 _ _ _ hbm
      have z2 := fR wx _ 3 _ _ hbm
      simp only [gA, gZ, gU] at k2
      have HROW := hid hrow
      have HBM := hid hbm
      have HFX := hid hfr
      clear hrow hbm hfr
      clear h0
      refine wpOp_step rfl (fun K' hK => ?_)
      go_simp
      exact hK _ _ ⟨undef, (by simp [upd, e10, e9]), FX.is_mk ⟨_, heap_setCell_same _ _ 3 _ _ _ HBM.out, RowT.box (tk := tkField) HFX.out HBM.out (by decide) (by decide), HROW.out.box HBM.out (by decide) (by decide)⟩, fun h => absurd (by simp) h, hbx.setCell (p := ⟨gM, 3, none⟩) HLG.out _⟩
    ·intro x t wx hx hbx hall
     obtain ⟨v9, hb9, hf9, hr9⟩ : (fcPut4 W0.heap.size gM s.opened s.next (.slice aD s.fields.length cD) s.fields (xs ++ [s.dicts[k]])).p (t 11) wx := FX.is_of (hall 11 (by omega))
     rw [← HXS.out, ← List.take_succ_eq_append_getElem hlt] at hr9
     have HB9 := hid hb9
     have HF9 := hid hf9
     have HR9 := hid hr9
     have HBX := hid hbx
     clear hall hbx hb9 hf9 hr9
     try dsimp only
     go_wp2
     go_roundw
     case rel => exact ⟨k + 1, by omega, by go_num, ⟨v9, HB9.out, HF9.out, HR9.out⟩, HBX.out⟩
     case measure => simp [intOf]; omega
   ·obtain rfl : k = s.dicts.length := by omega
    rw [List.take_length] at HACC HKM
    have K1 := hid ((HWR.out.block _ (by have := HSZ.out; omega)).trans HK1.out)
    have p3 := cR _ _ 3 _ _ _ ((HWR.out.block _ HGO.out).trans HK0.out)
    simp only [gA, gZ, gU] at p3
    have c00 := cR wr _ 0 _ _ _ HKM.out
    have c10 := cR wr _ 0 _ _ _ K1.out
    have f10 := fR wr _ 0 _ _ K1.out
    have c01 := cR wr _ 1 _ _ _ HKM.out
    have c11 := cR wr _ 1 _ _ _ K1.out
    have f11 := fR wr _ 1 _ _ K1.out
    have c02 := cR wr _ 2 _ _ _ HKM.out
    have c12 := cR wr _ 2 _ _ _ K1.out
    have f12 := fR wr _ 2 _ _ K1.out
    have c03 := cR wr _ 3 _ _ _ HKM.out
    have c13 := cR wr _ 3 _ _ _ K1.out
    have f13 := fR wr _ 3 _ _ K1.out
    simp only [gA, gZ, gU] at c00 c10 c01 c11 c02 c12 c03 c13
    go_wp2
    refine bodyPost_ret (results_cell_row rfl _ _ (w.heap.size + 1) 43 #[.bool s.opened, .slice aD s.fields.length cD, .int .i64 s.next, .slice aA s.dicts.length cA] (0, 0) _ rfl (set4 K1.out) Tryz.underlying43 rfl (by kernel_rfl)) rfl ?_
    exact ⟨_, _, _, _, rfl, frow_mono (frow_set4 HFR.out K1.out) HB0.out.size, (row_set4 HACC.out K1.out (by decide) (by decide)).mono HB0.out.size, set4b (bC HB0.out HWR.out) (by omega)⟩
end Go.Proofs.YtfaehioeepolhabGreat
