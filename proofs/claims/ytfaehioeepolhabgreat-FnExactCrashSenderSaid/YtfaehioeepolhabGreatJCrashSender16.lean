import Derived.Test.YtfaehioeepolhabGreatJCrashSender14
import Derived.Test.YtfaehioeepolhabGreatJCrashSender10
import Derived.Deep.DeepCutAuto
namespace Go.Proofs.YtfaehioeepolhabGreat
open Go.RowKit
def fcSameT (W : World) : Fct := ⟨fun _ w => Below W.heap.size W w, fun _ _ _ h hb => bC h hb⟩
theorem box_farT {w : World} {gm : Nat} {cs : Array Value} {t : TypeId} {B n s : Nat} {e : TypeId} {u : Value} {vs : List Value} (hb : w.heap[gm]? = some (.cells cs t (0, 0))) (ho : w.ownsRow B e s u n vs) (hne : e ≠ t) : u.ownBlock ≠ some gm := by
 intro hp
 rcases ho.2 with ⟨rfl, _⟩ | ⟨g, cap, cur, rfl, _, hh, _⟩
 ·simp [Value.ownBlock] at hp
 ·simp [Value.ownBlock] at hp
  subst hp
  rw [hb] at hh
  simp at hh
  exact hne hh.2.symm
def fcAggT (B : Nat) (f : PC) : Fct := ⟨fun v w => ∃ a c, v = .agg #[.bool f.null, .int .i64 f.num, .slice a f.text.length c] ∧ w.ownsRow B 5 1 (.slice a f.text.length c) f.text.length (byt f.text), fun _ _ _ ⟨a, c, e, h⟩ hb => ⟨a, c, e, own_later h hb⟩⟩
def fcOneC (B : Nat) (f : PC) : Fct := ⟨fun v w => ∃ g a c, v = .slice (some ⟨g, 0, none⟩) 1 1 ∧ w.heap[g]? = some (.cells #[.bool f.null, .int .i64 f.num, .slice a f.text.length c] 102 (0, 0)) ∧ w.ownsRow B 5 1 (.slice a f.text.length c) f.text.length (byt f.text), fun _ _ _ ⟨g, a, c, e, h0, h⟩ hb => ⟨g, a, c, e, (hb.block _ (Array.getElem?_eq_some_iff.1 h0).1).trans h0, own_later h hb⟩⟩
def fcGotC (B gm : Nat) (rows : Int) (acc : Value) (xs : List PC) : Fct := ⟨fun v w => w.heap[gm]? = some (.cells #[.int .i64 rows, acc] 51 (0, 0)) ∧ RowT tkCell 102 B w v xs, fun _ _ _ ⟨h1, h2⟩ hb => ⟨(hb.block _ (Array.getElem?_eq_some_iff.1 h1).1).trans h1, h2.later hb⟩⟩
def fcPutC (B gm : Nat) (rows : Int) (xs : List PC) : Fct := ⟨fun _ w => ∃ v, w.heap[gm]? = some (.cells #[.int .i64 rows, v] 51 (0, 0)) ∧ RowT tkCell 102 B w v xs, fun _ _ _ ⟨v, h1, h2⟩ hb => ⟨v, (hb.block _ (Array.getElem?_eq_some_iff.1 h1).1).trans h1, h2.later hb⟩⟩
set_option linter.unusedVariables false in
def stT (B lo gm gf : Nat) (rows : Int) (acc : Value) (xs : List PC) (f : PC) (an : Option Addr) (cn : Nat) : Nat → FX
 | 0 => FX.eq (.pointer (some ⟨gm, 1, none⟩))
 | 1 => FX.eq (acc)
 | 2 => FX.eq (.pointer (some ⟨gf, 0, none⟩))
 | 3 => FX.eq (.bool f.null)
 | 4 => FX.eq (.pointer (some ⟨gf, 1, none⟩))
 | 5 => FX.eq (.int .i64 f.num)
 | 6 => FX.eq (.pointer (some ⟨gf, 2, none⟩))
 | 7 => FX.eq (.slice an f.text.length cn)
 | 8 => FX.pre [11, 13] (fcNm lo f.text)
 | 9 => FX.pre [11, 13] (fcAggT lo f)
 | 10 => FX.pre [11, 13] (fcOneC lo f)
 | 11 => FX.pre [13] (fcGotC B gm rows acc (xs ++ [f]))
 | 12 => FX.eq (.pointer (some ⟨gm, 1, none⟩))
 | 13 => FX.is (fcPutC B gm rows (xs ++ [f]))
 | _ => FX.eq undef
set_option maxRecDepth 100000 in
set_option maxHeartbeats 8000000 in
theorem l6table_any (t : PT) (a : Option Addr) (c : Nat) (w : World) (hr : RdSl cCell w t.cells (.slice a t.cells.length c)) (ht : totT t ≤ 1048576) :
  Calls Tryz.prog 26 #[.agg #[.int .i64 t.rows, .slice a t.cells.length c]] w fun e w' => ∃ a' c', e = .returned (.agg #[.int .i64 t.rows, .slice a' t.cells.length c']) ∧ RowT tkCell 102 w.heap.size w' (.slice a' t.cells.length c') t.cells ∧ Below w.heap.size w w' := by
 obtain ⟨i0, hi0, hz0, hz1', hz2'⟩ := info_parts infoImCell
 have HR := hid hr
 clear hr
 have hlen : t.cells.length ≤ 1048576 := by unfold totT totL at ht; omega
 have HK0 : Hid (((w.alloc (.cells #[.int .i64 t.rows, .slice a t.cells.length c] 51)).alloc (.cells #[.int .i64 0, .slice none 0 0] 51)).heap[w.heap.size]? = some (.cells #[.int .i64 t.rows, .slice a t.cells.length c] 51 (0, 0))) := hid (heap2 _ _ (Below.refl _ _)).1
 have HK1 : Hid (((w.alloc (.cells #[.int .i64 t.rows, .slice a t.cells.length c] 51)).alloc (.cells #[.int .i64 0, .slice none 0 0] 51)).heap[w.heap.size + 1]? = some (.cells #[.int .i64 0, .slice none 0 0] 51 (0, 0))) := hid (heap2 _ _ (Below.refl _ _)).2
 have HB0 := hid (below_new2 w (.cells #[.int .i64 t.rows, .slice a t.cells.length c] 51) (.cells #[.int .i64 0, .slice none 0 0] 51))
 have HSZ := hid (size2 w (.cells #[.int .i64 t.rows, .slice a t.cells.length c] 51) (.cells #[.int .i64 0, .slice none 0 0] 51))
 go_enter Tryz.func26, Tryz.ntmps26
 go_upto_region 1 with fail
 generalize ((w.alloc (.cells #[.int .i64 t.rows, .slice a t.cells.length c] 51)).alloc (.cells #[.int .i64 0, .slice none 0 0] 51)) = W0 at *
 have c00 := cR _ _ 0 _ _ _ HK0.out
 simp only [gA, gZ] at c00
 have HR1 := hid (HR.out.later HB0.out)
 have HG3 : Hid ((W0.alloc (.cells #[.int .i64 t.rows, .slice none 0 0] 51)).heap[w.heap.size + 2]? = some (.cells #[.int .i64 t.rows, .slice none 0 0] 51 (0, 0))) := hid (by have h := heap_alloc_new W0 (.cells #[.int .i64 t.rows, .slice none 0 0] 51); rw [HSZ.out] at h; exact h)
 have HB3 := hid (bN W0 (.cells #[.int .i64 t.rows, .slice none 0 0] 51))
 go_upto_region 2 with fail
 rw [HSZ.out]
 generalize (W0.alloc (.cells #[.int .i64 t.rows, .slice none 0 0] 51)) = V1 at *
 clear c00
 go_wp2
 go_loopw [4, 5] (fun i _ wr => ∃ k : Nat, k ≤ t.cells.length ∧ i = .int .i64 k ∧ (∃ v, wr.heap[w.heap.size + 2]? = some (.cells #[.int .i64 t.rows, v] 51 (0, 0)) ∧ RowT tkCell 102 W0.heap.size wr v (t.cells.take k)) ∧ Below W0.heap.size W0 wr) (fun i _ _ => t.cells.length - (intOf i).toNat)
 case atStart => exact ⟨0, Nat.zero_le _, rfl, ⟨_, HG3.out, by simpa using RowT.nil tkCell _ _ V1⟩, HB3.out⟩
 case round =>
  obtain ⟨k, hk, rfl, ⟨vA, hkg, hacc⟩, hbe⟩ := hrel
  have HBV := hid hbe
  obtain ⟨aA, cA, rfl⟩ := hacc.slice
  have HKG0 := hid hkg
  have HACC := hid hacc
  have HTK : Hid ((t.cells.take k).length = k) := hid (by simp; omega)
  have k0 := hid ((HBV.out.block _ (show w.heap.size < W0.heap.size by have := HSZ.out; omega)).trans HK0.out)
  have c01 := cR wr _ 1 _ _ _ k0.out
  simp only [gA, gZ, gU] at c01
  clear hkg hacc hbe
  by_cases hlt : k < t.cells.length
  ·generalize hxs : t.cells.take k = xs at *
   have HXS := hid hxs
   have hxl : xs.length ≤ 1048576 := by have := HTK.out; omega
   clear hxs
   obtain ⟨b, off, x0, x1, x2, rfl, hes, d0, d1, d2⟩ := (HR1.out.later HBV.out).at3 rfl hlt
   obtain ⟨an, cn, e3⟩ := cCell_shape hes
   simp only [List.cons.injEq, and_true] at e3
   obtain ⟨rfl, rfl, rfl⟩ := e3
   obtain ⟨vn, en, hnm, hik⟩ := cCell_rd hes
   simp only [List.cons.injEq, and_true, true_and] at en
   subst en
   have hki : (k : Int) < (t.cells.length : Int) := by omega
   have HNM := hid hnm
   have HOK : Hid ((∀ x ∈ t.cells[k].text, x < 256) ∧ IntIn t.cells[k].num) := hid ⟨rdSl_ok hnm, hik⟩
   have hnl : t.cells[k].text.length ≤ 1048576 := by have h := tot_at (fun f : PC => f.text.length) t.cells k hlt; unfold totT totL at ht; exact Nat.le_trans h (by omega)
   have HGF : Hid (wr.heap.size < (wr.alloc (.cells #[.bool t.cells[k].null, .int .i64 t.cells[k].num, .slice an t.cells[k].text.length cn] 102)).heap.size) := hid (by simp)
   have HLO : Hid (wr.heap.size ≤ (wr.alloc (.cells #[.bool t.cells[k].null, .int .i64 t.cells[k].num, .slice an t.cells[k].text.length cn] 102)).heap.size) := hid (by simp)
   have HKF : Hid ((wr.alloc (.cells #[.bool t.cells[k].null, .int .i64 t.cells[k].num, .slice an t.cells[k].text.length cn] 102)).heap[wr.heap.size]? = some (.cells #[.bool t.cells[k].null, .int .i64 t.cells[k].num, .slice an t.cells[k].text.length cn] 102 (0, 0))) := hid (heap_alloc_new wr _)
   have HGB : Hid (w.heap.size + 2 < (wr.alloc (.cells #[.bool t.cells[k].null, .int .i64 t.cells[k].num, .slice an t.cells[k].text.length cn] 102)).heap.size) := hid (by have := (Array.getElem?_eq_some_iff.1 HKG0.out).1; simp; omega)
   have HKG : Hid ((wr.alloc (.cells #[.bool t.cells[k].null, .int .i64 t.cells[k].num, .slice an t.cells[k].text.length cn] 102)).heap[w.heap.size + 2]? = some (.cells #[.int .i64 t.rows, .slice aA xs.length cA] 51 (0, 0))) := hid (((bN wr _).block _ (Array.getElem?_eq_some_iff.1 HKG0.out).1).trans HKG0.out)
   have HWB : Hid (W0.heap.size ≤ wr.heap.size) := hid HBV.out.size
   clear hes hnm hik
   go_upto_region 6 with fail
   refine region_turns (n := 14) (by kernel_rfl) (by kernel_rfl) ?_ (fun t' => { tmps := #[.agg #[.int .i64 t.rows, .slice (some ⟨b, off, none⟩) t.cells.length c], .pointer (some ⟨w.heap.size, 0, none⟩), .pointer (some ⟨w.heap.size + 1, 0, none⟩), .pointer (some ⟨w.heap.size + 2, 0, none⟩), .int .i64 ((k : Nat) : Int), .pointer (some ⟨wr.heap.size, 0, none⟩), .pointer (some ⟨w.heap.size, 0, none⟩), .int .i64 t.rows, .agg #[.int .i64 t.rows, .slice none 0 0], .int .i64 ((k : Nat) : Int), .pointer (some ⟨w.heap.size, 1, none⟩), .slice (some ⟨b, off, none⟩) t.cells.length c, .int .i64 ((t.cells.length : Nat) : Int), .bool true, u14, u15, .pointer (some ⟨w.heap.size, 1, none⟩), .slice (some ⟨b, off, none⟩) t.cells.length c, .int .i64 ((k : Nat) : Int), .pointer (some ⟨b, off + k * 3, none⟩), .agg #[.bool t.cells[k].null, .int .i64 t.cells[k].num, .slice an t.cells[k].text.length cn], t' 0, t' 1, t' 2, t' 3, t' 4, t' 5, t' 6, t' 7, t' 8, t' 9, t' 10, t' 11, t' 12, undef], defers := [] }) (stT W0.heap.size wr.heap.size (w.heap.size + 2) wr.heap.size t.rows (.slice aA xs.length cA) xs t.cells[k] an cn) [11, 13] (fcSameT (wr.alloc (.cells #[.bool t.cells[k].null, .int .i64 t.cells[k].num, .slice an t.cells[k].text.length cn] 102))) W0 (wr.alloc (.cells #[.bool t.cells[k].null, .int .i64 t.cells[k].num, .slice an t.cells[k].text.length cn] 102)) (fun k => if k = 8 then [11, 13] else if k = 9 then [11, 13] else if k = 10 then [11, 13] else if k = 11 then [13] else []) (fun k => !(k == 8 || k == 9 || k == 10 || k == 11 || k == 13)) (by kernel_rfl) (fun j hj => by rcases (by omega : j = 0 ∨ j = 1 ∨ j = 2 ∨ j = 3 ∨ j = 4 ∨ j = 5 ∨ j = 6 ∨ j = 7 ∨ j = 8 ∨ j = 9 ∨ j = 10 ∨ j = 11 ∨ j = 12 ∨ j = 13) with rfl | rfl | rfl | rfl | rfl | rfl | rfl | rfl | rfl | rfl | rfl | rfl | rfl | rfl <;> rfl) (fun j hj hp => by rcases (by omega : j = 0 ∨ j = 1 ∨ j = 2 ∨ j = 3 ∨ j = 4 ∨ j = 5 ∨ j = 6 ∨ j = 7 ∨ j = 8 ∨ j = 9 ∨ j = 10 ∨ j = 11 ∨ j = 12 ∨ j = 13) with rfl | rfl | rfl | rfl | rfl | rfl | rfl | rfl | rfl | rfl | rfl | rfl | rfl | rfl <;> first | rfl | (exact absurd hp (by decide))) (fun j => ([u21, u22, u23, u24, u25, u26, u27, u28, u29, u30, u31, u32, u33, undef] : List Value).getD j undef) (bC HBV.out (bN _ _)) (Below.refl _ _) ?_ ?_
   ·rfl
   ·intro i hi x t' wx hxi hsh h0 hbx hgx hdp hall
    rcases (by omega : i = 0 ∨ i = 1 ∨ i = 2 ∨ i = 3 ∨ i = 4 ∨ i = 5 ∨ i = 6 ∨ i = 7 ∨ i = 8 ∨ i = 9 ∨ i = 10 ∨ i = 11 ∨ i = 12 ∨ i = 13) with rfl | rfl | rfl | rfl | rfl | rfl | rfl | rfl | rfl | rfl | rfl | rfl | rfl | rfl
    ·
     try dsimp only
     clear h0
     refine wpOp_step rfl (fun K' hK => ?_)
     go_simp
     exact hK _ _ ⟨.pointer (some ⟨w.heap.size + 2, 1, none⟩), (by simp [upd]), FX.eq_mk rfl, fun _ => Below.refl _ _, hbx⟩
    ·
     try dsimp only
     have x0 := depX hdp 0 (by kernel_rfl)
     have d0 := hall 0 (by omega) x0
     have e0 : t' 0 = .pointer (some ⟨w.heap.size + 2, 1, none⟩) := d0.1
     rw [e0]
     have y11 := notYet hsh hxi 11 (by kernel_rfl)
     have y13 := notYet hsh hxi 13 (by kernel_rfl)
     have hz : Below (wr.alloc (.cells #[.bool t.cells[k].null, .int .i64 t.cells[k].num, .slice an t.cells[k].text.length cn] 102)).heap.size (wr.alloc (.cells #[.bool t.cells[k].null, .int .i64 t.cells[k].num, .slice an t.cells[k].text.length cn] 102)) wx := hgx (by simp [y11, y13])
     have g1 := cR _ _ 1 _ _ _ ((hz.block _ HGB.out).trans HKG.out)
     simp only [gA, gZ, gU] at g1
     clear y11 y13 hz
     clear h0
     refine wpOp_step rfl (fun K' hK => ?_)
     go_simp
     exact hK _ _ ⟨.slice aA xs.length cA, (by simp [upd, e0]), FX.eq_mk rfl, fun _ => Below.refl _ _, hbx⟩
    ·
     try dsimp only
     clear h0
     refine wpOp_step rfl (fun K' hK => ?_)
     go_simp
     exact hK _ _ ⟨.pointer (some ⟨wr.heap.size, 0, none⟩), (by simp [upd]), FX.eq_mk rfl, fun _ => Below.refl _ _, hbx⟩
    ·
     try dsimp only
     have x2 := depX hdp 2 (by kernel_rfl)
     have d2 := hall 2 (by omega) x2
     have e2 : t' 2 = .pointer (some ⟨wr.heap.size, 0, none⟩) := d2.1
     rw [e2]
     have y11 := notYet hsh hxi 11 (by kernel_rfl)
     have y13 := notYet hsh hxi 13 (by kernel_rfl)
     have hz : Below (wr.alloc (.cells #[.bool t.cells[k].null, .int .i64 t.cells[k].num, .slice an t.cells[k].text.length cn] 102)).heap.size (wr.alloc (.cells #[.bool t.cells[k].null, .int .i64 t.cells[k].num, .slice an t.cells[k].text.length cn] 102)) wx := hgx (by simp [y11, y13])
     have kf := cR _ _ 0 _ _ _ ((hz.block _ HGF.out).trans HKF.out)
     simp only [gA, gZ] at kf
     clear y11 y13 hz
     clear h0
     refine wpOp_step rfl (fun K' hK => ?_)
     go_simp
     exact hK _ _ ⟨.bool t.cells[k].null, (by simp [upd, e2]), FX.eq_mk rfl, fun _ => Below.refl _ _, hbx⟩
    ·
     try dsimp only
     clear h0
     refine wpOp_step rfl (fun K' hK => ?_)
     go_simp
     exact hK _ _ ⟨.pointer (some ⟨wr.heap.size, 1, none⟩), (by simp [upd]), FX.eq_mk rfl, fun _ => Below.refl _ _, hbx⟩
    ·
     try dsimp only
     have x4 := depX hdp 4 (by kernel_rfl)
     have d4 := hall 4 (by omega) x4
     have e4 : t' 4 = .pointer (some ⟨wr.heap.size, 1, none⟩) := d4.1
     rw [e4]
     have y11 := notYet hsh hxi 11 (by kernel_rfl)
     have y13 := notYet hsh hxi 13 (by kernel_rfl)
     have hz : Below (wr.alloc (.cells #[.bool t.cells[k].null, .int .i64 t.cells[k].num, .slice an t.cells[k].text.length cn] 102)).heap.size (wr.alloc (.cells #[.bool t.cells[k].null, .int .i64 t.cells[k].num, .slice an t.cells[k].text.length cn] 102)) wx := hgx (by simp [y11, y13])
     have kf := cR _ _ 1 _ _ _ ((hz.block _ HGF.out).trans HKF.out)
     simp only [gA, gZ, gU] at kf
     clear y11 y13 hz
     clear h0
     refine wpOp_step rfl (fun K' hK => ?_)
     go_simp
     exact hK _ _ ⟨.int .i64 t.cells[k].num, (by simp [upd, e4]), FX.eq_mk rfl, fun _ => Below.refl _ _, hbx⟩
    ·
     try dsimp only
     clear h0
     refine wpOp_step rfl (fun K' hK => ?_)
     go_simp
     exact hK _ _ ⟨.pointer (some ⟨wr.heap.size, 2, none⟩), (by simp [upd]), FX.eq_mk rfl, fun _ => Below.refl _ _, hbx⟩
    ·
     try dsimp only
     have x6 := depX hdp 6 (by kernel_rfl)
     have d6 := hall 6 (by omega) x6
     have e6 : t' 6 = .pointer (some ⟨wr.heap.size, 2, none⟩) := d6.1
     rw [e6]
     have y11 := notYet hsh hxi 11 (by kernel_rfl)
     have y13 := notYet hsh hxi 13 (by kernel_rfl)
     have hz : Below (wr.alloc (.cells #[.bool t.cells[k].null, .int .i64 t.cells[k].num, .slice an t.cells[k].text.length cn] 102)).heap.size (wr.alloc (.cells #[.bool t.cells[k].null, .int .i64 t.cells[k].num, .slice an t.cells[k].text.length cn] 102)) wx := hgx (by simp [y11, y13])
     have kf := cR _ _ 2 _ _ _ ((hz.block _ HGF.out).trans HKF.out)
     simp only [gA, gZ, gU] at kf
     clear y11 y13 hz
     clear h0
     refine wpOp_step rfl (fun K' hK => ?_)
     go_simp
     exact hK _ _ ⟨.slice an t.cells[k].text.length cn, (by simp [upd, e6]), FX.eq_mk rfl, fun _ => Below.refl _ _, hbx⟩
    ·
     try dsimp only
     have x7 := depX hdp 7 (by kernel_rfl)
     have d7 := hall 7 (by omega) x7
     have e7 : t' 7 = .slice an t.cells[k].text.length cn := d7.1
     rw [e7]
     have y11 := notYet hsh hxi 11 (by kernel_rfl)
     have y13 := notYet hsh hxi 13 (by kernel_rfl)
     have hz : Below (wr.alloc (.cells #[.bool t.cells[k].null, .int .i64 t.cells[k].num, .slice an t.cells[k].text.length cn] 102)).heap.size (wr.alloc (.cells #[.bool t.cells[k].null, .int .i64 t.cells[k].num, .slice an t.cells[k].text.length cn] 102)) wx := hgx (by simp [y11, y13])
     have hsz := hz.size
     clear h0
     refine wpOp_step rfl (fun K' hK => ?_)
     go_simp
     refine (l1copy_any an cn t.cells[k].text wx ((HNM.out.later (bN wr _)).later hz) hnl).mono ?_
     rintro e w2 ⟨v2, rfl, o2, b2⟩
     exact hK _ _ ⟨v2, (by simp [upd, e7]), FX.pre_mk (own_mono o2 (Nat.le_trans HLO.out hsz)), fun _ => b2, bC hbx b2⟩
    ·
     try dsimp only
     have x3 := depX hdp 3 (by kernel_rfl)
     have d3 := hall 3 (by omega) x3
     have e3 : t' 3 = .bool t.cells[k].null := d3.1
     have x5 := depX hdp 5 (by kernel_rfl)
     have d5 := hall 5 (by omega) x5
     have e5 : t' 5 = .int .i64 t.cells[k].num := d5.1
     have x8 := depX hdp 8 (by kernel_rfl)
     have d8 := hall 8 (by omega) x8
     rw [e3, e5]
     have y11 := notYet hsh hxi 11 (by kernel_rfl)
     have y13 := notYet hsh hxi 13 (by kernel_rfl)
     have r4 : wx.ownsRow wr.heap.size 5 1 (t' 8) t.cells[k].text.length (byt t.cells[k].text) := FX.pre_of2 d8 y11 y13
     obtain ⟨a4, c4, e4, -⟩ := rd_own r4
     rw [e4]
     clear y11 y13
     clear h0
     refine wpOp_step rfl (fun K' hK => ?_)
     go_simp
     exact hK _ _ ⟨.agg #[.bool t.cells[k].null, .int .i64 t.cells[k].num, .slice a4 t.cells[k].text.length c4], (by simp [upd, e4, e3, e5]), FX.pre_mk ⟨_, _, rfl, e4 ▸ r4⟩, fun _ => Below.refl _ _, hbx⟩
    ·
     try dsimp only
     have x9 := depX hdp 9 (by kernel_rfl)
     have d9 := hall 9 (by omega) x9
     have y11 := notYet hsh hxi 11 (by kernel_rfl)
     have y13 := notYet hsh hxi 13 (by kernel_rfl)
     obtain ⟨a4, c4, e9, r4⟩ : (fcAggT wr.heap.size t.cells[k]).p (t' 9) wx := FX.pre_of2 d9 y11 y13
     rw [e9]
     clear y11 y13
     clear h0
     refine wpOp_step rfl (fun K' hK => ?_)
     go_simp
     exact hK _ _ ⟨.slice (some ⟨wx.heap.size, 0, none⟩) 1 1, (by simp [upd, e9]), FX.pre_mk ⟨wx.heap.size, a4, c4, rfl, heap_alloc_new wx _, own_later r4 (bN _ _)⟩, fun _ => bN _ _, bC hbx (bN _ _)⟩
    ·
     try dsimp only
     have x1 := depX hdp 1 (by kernel_rfl)
     have d1 := hall 1 (by omega) x1
     have e1 : t' 1 = .slice aA xs.length cA := d1.1
     have x10 := depX hdp 10 (by kernel_rfl)
     have d10 := hall 10 (by omega) x10
     rw [e1]
     have y13 := notYet hsh hxi 13 (by kernel_rfl)
     obtain ⟨g16, a4, c4, e10, h16, r4⟩ : (fcOneC wr.heap.size t.cells[k]).p (t' 10) wx := FX.pre_of2 d10 hxi y13
     rw [e10]
     have hz : Below (wr.alloc (.cells #[.bool t.cells[k].null, .int .i64 t.cells[k].num, .slice an t.cells[k].text.length cn] 102)).heap.size (wr.alloc (.cells #[.bool t.cells[k].null, .int .i64 t.cells[k].num, .slice an t.cells[k].text.length cn] 102)) wx := hgx (by simp [hxi, y13])
     have hz2 := bC (bN wr _) hz
     have hbx0 : W0.heap.size ≤ wx.heap.size := hbx.size
     obtain ⟨vals, ho, hel⟩ := HACC.out.later hz2
     have hkm := (hz.block _ HGB.out).trans HKG.out
     clear h0
     refine wpOp_step rfl (fun K' hK => ?_)
     refine step_append_lies _ rfl (.tmp 22) (.tmp 31) 49 rfl W0.heap.size 102 i0 (.agg #[.bool false, .int .i64 0, .slice none 0 0]) 3 40 Tryz.underlying49 hi0 hz0 hz1' hz2' rfl (by decide) (.slice aA xs.length cA) xs.length vals rfl ho ⟨g16, 0, none⟩ 1 1 [.bool t.cells[k].null, .int .i64 t.cells[k].num, .slice a4 t.cells[k].text.length c4] rfl rfl (World.news_of_block h16) (by simp [Value.oneCell']) (by omega) (by unfold maxLen; omega) (by omega) hbx0 _ rfl ?_
     intro g' cap' w9 hown hgrow hat hlt9
     have hrow := RowT.snoc (tk := tkCell) ho hel (x := t.cells[k]) ⟨_, rfl, own_mono r4 HWB.out, HOK.out.1, HOK.out.2⟩ (by decide) hown hgrow
     exact hK _ _ ⟨.slice (some ⟨g', 0, none⟩) (xs.length + 1) cap', (by simp [upd, e1, e10, Act.put]), FX.pre_mk ⟨(hgrow.block _ (Array.getElem?_eq_some_iff.1 hkm).1 (fun e => box_farT hkm ho (by decide) e.symm)).trans hkm, hrow⟩, fun h => absurd (by simp) h, hbx.grown hgrow hbx.size (fun p hp => (World.ownsRow.lt ho p hp).1)⟩
    ·
     try dsimp only
     clear h0
     refine wpOp_step rfl (fun K' hK => ?_)
     go_simp
     exact hK _ _ ⟨.pointer (some ⟨w.heap.size + 2, 1, none⟩), (by simp [upd]), FX.eq_mk rfl, fun _ => Below.refl _ _, hbx⟩
    ·
     try dsimp only
     have x12 := depX hdp 12 (by kernel_rfl)
     have d12 := hall 12 (by omega) x12
     have e12 : t' 12 = .pointer (some ⟨w.heap.size + 2, 1, none⟩) := d12.1
     have x11 := depX hdp 11 (by kernel_rfl)
     have d11 := hall 11 (by omega) x11
     rw [e12]
     obtain ⟨hbm, hrow⟩ : (fcGotC W0.heap.size (w.heap.size + 2) t.rows (.slice aA xs.length cA) (xs ++ [t.cells[k]])).p (t' 11) wx := FX.pre_of d11 hxi
     obtain ⟨a17, c17, e11⟩ := hrow.slice
     rw [e11] at hrow ⊢
     rw [show (xs ++ [t.cells[k]]).length = xs.length + 1 from by simp] at hrow
     have k2 := cR wx _ 1 _ _ _ hbm
     have z2 := fR wx _ 1 _ _ hbm
     simp only [gA, gZ, gU] at k2
     have HROW := hid hrow
     have HBM := hid hbm
     clear hrow hbm
     clear h0
     refine wpOp_step rfl (fun K' hK => ?_)
     go_simp
     exact hK _ _ ⟨undef, (by simp [upd, e12, e11]), FX.is_mk ⟨_, heap_setCell_same _ _ 1 _ _ _ HBM.out, HROW.out.box HBM.out (by decide) (by decide)⟩, fun h => absurd (by simp) h, hbx.setCell (p := ⟨w.heap.size + 2, 1, none⟩) (show W0.heap.size ≤ w.heap.size + 2 by have := HSZ.out; omega) _⟩
   ·intro x t' wx hx hbx hall
    obtain ⟨v9, hb9, hr9⟩ : (fcPutC W0.heap.size (w.heap.size + 2) t.rows (xs ++ [t.cells[k]])).p (t' 13) wx := FX.is_of (hall 13 (by omega))
    rw [← HXS.out, ← List.take_succ_eq_append_getElem hlt] at hr9
    have HB9 := hid hb9
    have HR9 := hid hr9
    have HBX := hid hbx
    clear hall hbx hb9 hr9
    try dsimp only
    go_wp2
    go_roundw
    case rel => exact ⟨k + 1, by omega, by go_num, ⟨v9, HB9.out, HR9.out⟩, HBX.out⟩
    case measure => simp [intOf]; omega
  ·obtain rfl : k = t.cells.length := by omega
   rw [List.take_length] at HACC HKG0
   have k1 := hid ((HBV.out.block _ (show w.heap.size + 1 < W0.heap.size by have := HSZ.out; omega)).trans HK1.out)
   have g0 := cR _ _ 0 _ _ _ HKG0.out
   have g1 := cR _ _ 1 _ _ _ HKG0.out
   have q0 := cR _ _ 0 _ _ _ k1.out
   have q1 := cR _ _ 1 _ _ _ k1.out
   have z0 := fR _ _ 0 _ _ k1.out
   have z1 := fR _ _ 1 _ _ k1.out
   simp only [gA, gZ, gU] at g0 g1 q0 q1
   go_wp2
   refine bodyPost_ret (results_cell_row rfl _ _ (w.heap.size + 1) 51 #[.int .i64 t.rows, .slice aA t.cells.length cA] (0, 0) _ rfl (set2 k1.out) Tryz.underlying51 rfl (by kernel_rfl)) rfl ?_
   refine ⟨_, _, rfl, ?_, set2b (bC HB0.out HBV.out) (by omega)⟩
   have h1 := (HACC.out.mono (show w.heap.size ≤ W0.heap.size from HB0.out.size)).box (k := 0) (x := .int .i64 t.rows) k1.out (by decide) (by decide)
   exact h1.box (k := 1) (x := .slice aA t.cells.length cA) (heap_setCell_same _ _ 0 _ _ _ k1.out) (by decide) (by decide)
set_option maxRecDepth 100000 in
set_option maxHeartbeats 8000000 in
theorem l6tables_any (a : Option Addr) (c : Nat) (ts : List PT) (w : World) (hr : RdSl cTable w ts (.slice a ts.length c)) (ht : totL totT ts ≤ 1048576) :
  Calls Tryz.prog 66 #[.slice a ts.length c] w fun e w' => ∃ v, e = .returned v ∧ RowT tkTable 51 w.heap.size w' v ts ∧ Below w.heap.size w w' := by
 obtain ⟨i0, hi, hz0, hz1, hz2⟩ := info_parts infoImTable
 have HR := hid hr
 clear hr
 have hlen : ts.length ≤ 1048576 := by unfold totL at ht; omega
 have HAT : Hid (∀ k, (h : k < ts.length) → totT ts[k] ≤ 1048576) := hid (fun k h => by have h1 := tot_at totT ts k h; unfold totL at ht; omega)
 go_enter Tryz.func66, Tryz.ntmps66
 go_wp2
 go_loopw [3, 4] (fun v i wr => ∃ k : Nat, k ≤ ts.length ∧ i = .int .i64 k ∧ RowT tkTable 51 w.heap.size wr v (ts.take k) ∧ Below w.heap.size w wr) (fun _ i _ => ts.length - (intOf i).toNat)
 case atStart => exact ⟨0, Nat.zero_le _, rfl, by simpa using RowT.nil tkTable _ _ w, Below.refl _ _⟩
 case round =>
  obtain ⟨k, hk, rfl, htx, hbe⟩ := hrel
  have HX := hid htx
  have HB := hid hbe
  clear htx hbe
  by_cases hlt : k < ts.length
  ·obtain ⟨b, off, es, rfl, hes, hcs⟩ := (HR.out.later HB.out).atN hlt
   obtain ⟨an, cn, rfl, hnm, hpin⟩ := cTable_shape hes
   have d0 : wr.cell? ⟨b, off + k * 2, none⟩ = some (.int .i64 ts[k].rows) := by have h := hcs 0 (by decide); rw [show cTable.n = 2 from rfl] at h; simpa [Nat.add_assoc] using h
   have d1 : wr.cell? ⟨b, off + k * 2 + 1, none⟩ = some (.slice an ts[k].cells.length cn) := by have h := hcs 1 (by decide); rw [show cTable.n = 2 from rfl] at h; simpa [Nat.add_assoc] using h
   have HNM := hid hnm
   have HPIN := hid hpin
   have hki : (k : Int) < (ts.length : Int) := by omega
   have HTK : Hid (ts.take (k + 1) = ts.take k ++ [ts[k]]) := hid (List.take_succ_eq_append_getElem hlt)
   have HTL : Hid ((ts.take k).length = k) := hid (by simp; omega)
   clear hes hcs hnm hpin
   go_wp2_with fail
   refine (l6table_any ts[k] an cn wr HNM.out (HAT.out k hlt)).mono ?_
   rintro e w2 ⟨au, cu, rfl, o2, b2⟩
   obtain ⟨vals, how, hel⟩ := HX.out.later b2
   have hs2 : w.heap.size ≤ w2.heap.size := Nat.le_trans HB.out.size b2.size
   have HO := hid how
   have HEL := hid hel
   have HU := hid (o2.mono HB.out.size)
   have HB2 := hid (bC HB.out b2)
   rw [HTL.out] at how
   have HW := hid how
   clear how hel o2 b2 d0 d1
   go_wp2_with (first | (at_builtin; refine wpList_append_own _ rfl _ _ 38 rfl w.heap.size 51 i0 (.agg #[.int .i64 0, .slice none 0 0]) 2 32 Tryz.underlying38 hi hz0 hz1 hz2 rfl (by decide) _ k _ rfl (HW.out.alloc _) ⟨w2.heap.size, 0, none⟩ 1 1 [.int .i64 ts[k].rows, .slice au ts[k].cells.length cu] rfl rfl (World.news_of_block (heap_alloc_new w2 _)) (by simp [Value.oneCell']) (by unfold maxLen; omega) (by omega) (by simp; omega) ?_))
   intro v' w9 hown' hgrow _
   have HX9 : Hid (RowT tkTable 51 w.heap.size w9 v' (ts.take (k + 1))) := hid (by
    rw [HTK.out]
    refine RowT.snoc (tk := tkTable) (HO.out.alloc _) (fun i h => tkTable.later (HEL.out i h) (bN _ _)) (x := ts[k]) ⟨_, rfl, HU.out.later (bN _ _), HPIN.out⟩ (by decide) (by rw [HTL.out]; exact hown') hgrow)
   have HB9 : Hid (Below w.heap.size w w9) := hid ((HB2.out.alloc HB2.out.size _).grown hgrow (by simp; omega) (fun p hp => (World.ownsRow.lt HO.out p hp).1))
   clear hown' hgrow
   go_wp2
   go_roundw
   case rel => exact ⟨k + 1, by omega, by go_num, HX9.out, HB9.out⟩
   case measure => simp [intOf]; omega
  ·obtain rfl : k = ts.length := by omega
   have HF : Hid (RowT tkTable 51 w.heap.size wr _ ts) := hid (by have := HX.out; rw [List.take_length] at this; exact this)
   go_wp2
   go_ret
   exact ⟨_, rfl, HF.out, HB.out⟩
end Go.Proofs.YtfaehioeepolhabGreat
