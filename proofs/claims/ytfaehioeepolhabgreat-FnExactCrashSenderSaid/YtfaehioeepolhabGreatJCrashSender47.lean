import Derived.Test.YtfaehioeepolhabGreatJCrashSender35
import Derived.Test.YtfaehioeepolhabGreatJCrashSender10
import Derived.Test.YtfaehioeepolhabGreatJCrashSender17
import Derived.Deep.DeepCutAuto
namespace Go.Proofs.YtfaehioeepolhabGreat
open Go.RowKit
def fcMadeC (w : World) (fs : List PC) (k : Nat) : Fct := ⟨fun _ wx => Made3 cCell 102 w wx fs k, fun _ _ _ h hb => h.later hb⟩
def fcAggC (B : Nat) (f : PC) : Fct := ⟨fun v w => ∃ a c, v = .agg #[.bool f.null, .int .i64 f.num, .slice a f.text.length c] ∧ w.ownsRow B 5 1 (.slice a f.text.length c) f.text.length (byt f.text), fun _ _ _ ⟨a, c, e, h⟩ hb => ⟨a, c, e, own_later h hb⟩⟩
set_option linter.unusedVariables false in
def ctT (w : World) (lo gf k : Nat) (fs : List PC) (f : PC) (an : Option Addr) (cn : Nat) : Nat → FX
 | 0 => FX.eq (.slice (some ⟨w.heap.size, 0, none⟩) fs.length fs.length)
 | 1 => FX.eq (.int .i64 (k : Int))
 | 2 => FX.eq (.pointer (some ⟨gf, 0, none⟩))
 | 3 => FX.eq (.bool f.null)
 | 4 => FX.eq (.pointer (some ⟨gf, 1, none⟩))
 | 5 => FX.eq (.int .i64 f.num)
 | 6 => FX.eq (.pointer (some ⟨gf, 2, none⟩))
 | 7 => FX.eq (.slice an f.text.length cn)
 | 8 => FX.pre [11] (fcNm lo f.text)
 | 9 => FX.pre [11] (fcAggC lo f)
 | 10 => FX.eq (.pointer (some ⟨w.heap.size, k * 3, none⟩))
 | 11 => FX.is (fcMadeC w fs (k + 1))
 | _ => FX.eq undef
set_option maxRecDepth 100000 in
set_option maxHeartbeats 8000000 in
theorem copyTable_any (t : PT) (a : Option Addr) (c : Nat) (w : World) (hr : RdSl cCell w t.cells (.slice a t.cells.length c)) (ht : totT t ≤ 1048576) :
  Calls Tryz.prog 36 #[.agg #[.int .i64 t.rows, .slice a t.cells.length c]] w fun e w' => ∃ a' c' bs, e = .returned (.agg #[.int .i64 t.rows, .slice a' t.cells.length c']) ∧ OwnSl cCell 102 w' t.cells (.slice a' t.cells.length c') bs ∧ (∀ x ∈ bs, w.heap.size ≤ x) ∧ bs.Nodup ∧ Below w.heap.size w w' := by
 obtain ⟨i0, hi0, hz0, hz1, hz2⟩ := info_parts infoImCell
 have HR := hid hr
 clear hr
 have hlen : t.cells.length ≤ 1048576 := by unfold totT totL at ht; omega
 have HK0 : Hid (((w.alloc (.cells #[.int .i64 t.rows, .slice a t.cells.length c] 51)).alloc (.cells #[.int .i64 0, .slice none 0 0] 51)).heap[w.heap.size]? = some (.cells #[.int .i64 t.rows, .slice a t.cells.length c] 51 (0, 0))) := hid (heap2 _ _ (Below.refl _ _)).1
 have HK1 : Hid (((w.alloc (.cells #[.int .i64 t.rows, .slice a t.cells.length c] 51)).alloc (.cells #[.int .i64 0, .slice none 0 0] 51)).heap[w.heap.size + 1]? = some (.cells #[.int .i64 0, .slice none 0 0] 51 (0, 0))) := hid (heap2 _ _ (Below.refl _ _)).2
 have HB0 := hid (below_new2 w (.cells #[.int .i64 t.rows, .slice a t.cells.length c] 51) (.cells #[.int .i64 0, .slice none 0 0] 51))
 have HSZ := hid (size2 w (.cells #[.int .i64 t.rows, .slice a t.cells.length c] 51) (.cells #[.int .i64 0, .slice none 0 0] 51))
 go_enter Tryz.func36, Tryz.ntmps36
 go_upto_region 1 with fail
 generalize ((w.alloc (.cells #[.int .i64 t.rows, .slice a t.cells.length c] 51)).alloc (.cells #[.int .i64 0, .slice none 0 0] 51)) = W1 at *
 have c01 := cR _ _ 1 _ _ _ HK0.out
 simp only [gA, gZ, gU] at c01
 have HR1 := hid (HR.out.later HB0.out)
 go_wp2_with (first | (at_make; refine wpList_make_full _ rfl (.tmp 8) (.tmp 8) 49 rfl W1.heap.size 102 i0 (.agg #[.bool false, .int .i64 0, .slice none 0 0]) 3 Tryz.underlying49 hi0 hz0 hz1 .i64 .i64 _ _ t.cells.length rfl rfl rfl rfl (by rw [hz2]; omega) (by unfold maxLen; omega) (by simp) ?_))
 intro w1 ho hg1
 have HB1 : Hid (Below W1.heap.size W1 w1) := hid ((Below.refl _ W1).grown hg1 (Nat.le_refl _) (by intro k h; cases h))
 have HM : Hid (Made3 cCell 102 W1 w1 t.cells 0) := hid ⟨_, [], ho, rfl, fun i h h2 => by simp at h2, by simp, by simp⟩
 have c01' := (HB1.out.cell (World.block_lt_of_cell? _ _ c01)).trans c01
 clear hg1 hi0 hz0 hz1 hz2 ho c01
 go_wp2
 go_loopw [13] (fun i wr => ∃ k : Nat, k ≤ t.cells.length ∧ i = .int .i64 k ∧ Made3 cCell 102 W1 wr t.cells k ∧ Below W1.heap.size W1 wr) (fun i _ => t.cells.length - (intOf i).toNat)
 case atStart => exact ⟨0, Nat.zero_le _, rfl, HM.out, HB1.out⟩
 case round =>
  obtain ⟨k, hk, rfl, hm, hbe⟩ := hrel
  have HV := hid hm
  have HBV := hid hbe
  clear hm hbe c01'
  by_cases hlt : k < t.cells.length
  ·obtain ⟨b, off, x0, x1, x2, rfl, hes, d0, d1, d2⟩ := (HR1.out.later HBV.out).at3 rfl hlt
   obtain ⟨an, cn, e3⟩ := cCell_shape hes
   simp only [List.cons.injEq, and_true] at e3
   obtain ⟨rfl, rfl, rfl⟩ := e3
   obtain ⟨vn, en, hnm, hik⟩ := cCell_rd hes
   simp only [List.cons.injEq, and_true, true_and] at en
   subst en
   have hki : (k : Int) < (t.cells.length : Int) := by omega
   have HNM := hid hnm
   have HOK : Hid ((∀ x ∈ t.cells[k].text, x < 256) ∧ IntIn t.cells[k].num) := hid ⟨rdSl_ok hnm, hik⟩
   have hnl : t.cells[k].text.length ≤ 1048576 := by have h := tot_at (fun f : PC => f.text.length) t.cells k hlt; unfold totT totL at ht; exact Nat.le_trans h (by omega)
   have HGF : Hid (wr.heap.size < (wr.alloc (.cells #[.bool t.cells[k].null, .int .i64 t.cells[k].num, .slice an t.cells[k].text.length cn] 102)).heap.size) := hid (by simp)
   have HLO : Hid (wr.heap.size ≤ (wr.alloc (.cells #[.bool t.cells[k].null, .int .i64 t.cells[k].num, .slice an t.cells[k].text.length cn] 102)).heap.size) := hid (by simp)
   have HKF : Hid ((wr.alloc (.cells #[.bool t.cells[k].null, .int .i64 t.cells[k].num, .slice an t.cells[k].text.length cn] 102)).heap[wr.heap.size]? = some (.cells #[.bool t.cells[k].null, .int .i64 t.cells[k].num, .slice an t.cells[k].text.length cn] 102 (0, 0))) := hid (heap_alloc_new wr _)
   clear hes hnm hik
   go_wp2_with fail
   refine region_turns (n := 12) (by kernel_rfl) (by kernel_rfl) ?_ (fun t' => { tmps := #[.agg #[.int .i64 t.rows, .slice (some ⟨b, off, none⟩) t.cells.length c], .pointer (some ⟨w.heap.size, 0, none⟩), .pointer (some ⟨w.heap.size + 1, 0, none⟩), .slice (some ⟨W1.heap.size, 0, none⟩) t.cells.length t.cells.length, .int .i64 ((k : Nat) : Int), .pointer (some ⟨wr.heap.size, 0, none⟩), .pointer (some ⟨w.heap.size, 1, none⟩), .slice (some ⟨b, off, none⟩) t.cells.length c, .int .i64 ((t.cells.length : Nat) : Int), .slice (some ⟨W1.heap.size, 0, none⟩) t.cells.length t.cells.length, .pointer (some ⟨w.heap.size, 1, none⟩), .slice (some ⟨b, off, none⟩) t.cells.length c, .int .i64 ((t.cells.length : Nat) : Int), .int .i64 ((k : Nat) : Int), .bool true, .int .i64 ((k : Nat) : Int), .pointer (some ⟨b, off + k * 3, none⟩), .agg #[.bool t.cells[k].null, .int .i64 t.cells[k].num, .slice an t.cells[k].text.length cn], t' 0, t' 1, t' 2, t' 3, t' 4, t' 5, t' 6, t' 7, t' 8, t' 9, t' 10, u29, undef, undef, undef, undef], defers := [] }) (ctT W1 wr.heap.size wr.heap.size k t.cells t.cells[k] an cn) [11] (fcSameL (wr.alloc (.cells #[.bool t.cells[k].null, .int .i64 t.cells[k].num, .slice an t.cells[k].text.length cn] 102))) W1 (wr.alloc (.cells #[.bool t.cells[k].null, .int .i64 t.cells[k].num, .slice an t.cells[k].text.length cn] 102)) (fun k => if k = 8 then [11] else if k = 9 then [11] else []) (fun k => !(k == 8 || k == 9 || k == 11)) (by kernel_rfl) (fun j hj => by rcases (by omega : j = 0 ∨ j = 1 ∨ j = 2 ∨ j = 3 ∨ j = 4 ∨ j = 5 ∨ j = 6 ∨ j = 7 ∨ j = 8 ∨ j = 9 ∨ j = 10 ∨ j = 11) with rfl | rfl | rfl | rfl | rfl | rfl | rfl | rfl | rfl | rfl | rfl | rfl <;> rfl) (fun j hj hp => by rcases (by omega : j = 0 ∨ j = 1 ∨ j = 2 ∨ j = 3 ∨ j = 4 ∨ j = 5 ∨ j = 6 ∨ j = 7 ∨ j = 8 ∨ j = 9 ∨ j = 10 ∨ j = 11) with rfl | rfl | rfl | rfl | rfl | rfl | rfl | rfl | rfl | rfl | rfl | rfl <;> first | rfl | (exact absurd hp (by decide))) (fun j => ([u18, u19, u20, u21, u22, u23, u24, u25, u26, u27, u28, undef] : List Value).getD j undef) (bC HBV.out (bN _ _)) (Below.refl _ _) ?_ ?_
   ·rfl
   ·intro i hi x t' wx hxi hsh h0 hbx hgx hdp hall
    rcases (by omega : i = 0 ∨ i = 1 ∨ i = 2 ∨ i = 3 ∨ i = 4 ∨ i = 5 ∨ i = 6 ∨ i = 7 ∨ i = 8 ∨ i = 9 ∨ i = 10 ∨ i = 11) with rfl | rfl | rfl | rfl | rfl | rfl | rfl | rfl | rfl | rfl | rfl | rfl
    ·
     try dsimp only
     clear h0
     refine wpOp_step rfl (fun K' hK => ?_)
     go_simp
     exact hK _ _ ⟨.slice (some ⟨W1.heap.size, 0, none⟩) t.cells.length t.cells.length, (by simp [upd]), FX.eq_mk rfl, fun _ => Below.refl _ _, hbx⟩
    ·
     try dsimp only
     clear h0
     refine wpOp_step rfl (fun K' hK => ?_)
     go_simp
     exact hK _ _ ⟨.int .i64 (k : Int), (by simp [upd]), FX.eq_mk rfl, fun _ => Below.refl _ _, hbx⟩
    ·
     try dsimp only
     clear h0
     refine wpOp_step rfl (fun K' hK => ?_)
     go_simp
     exact hK _ _ ⟨.pointer (some ⟨wr.heap.size, 0, none⟩), (by simp [upd]), FX.eq_mk rfl, fun _ => Below.refl _ _, hbx⟩
    ·
     try dsimp only
     have x2 := depX hdp 2 (by kernel_rfl)
     have d2 := hall 2 (by omega) x2
     have e2 : t' 2 = .pointer (some ⟨wr.heap.size, 0, none⟩) := d2.1
     rw [e2]
     have y11 := notYet hsh hxi 11 (by kernel_rfl)
     have hz : Below (wr.alloc (.cells #[.bool t.cells[k].null, .int .i64 t.cells[k].num, .slice an t.cells[k].text.length cn] 102)).heap.size (wr.alloc (.cells #[.bool t.cells[k].null, .int .i64 t.cells[k].num, .slice an t.cells[k].text.length cn] 102)) wx := hgx (by simp [y11])
     have kf := cR _ _ 0 _ _ _ ((hz.block _ HGF.out).trans HKF.out)
     simp only [gA, gZ] at kf
     clear y11 hz
     clear h0
     refine wpOp_step rfl (fun K' hK => ?_)
     go_simp
     exact hK _ _ ⟨.bool t.cells[k].null, (by simp [upd, e2]), FX.eq_mk rfl, fun _ => Below.refl _ _, hbx⟩
    ·
     try dsimp only
     clear h0
     refine wpOp_step rfl (fun K' hK => ?_)
     go_simp
     exact hK _ _ ⟨.pointer (some ⟨wr.heap.size, 1, none⟩), (by simp [upd]), FX.eq_mk rfl, fun _ => Below.refl _ _, hbx⟩
    ·
     try dsimp only
     have x4 := depX hdp 4 (by kernel_rfl)
     have d4 := hall 4 (by omega) x4
     have e4 : t' 4 = .pointer (some ⟨wr.heap.size, 1, none⟩) := d4.1
     rw [e4]
     have y11 := notYet hsh hxi 11 (by kernel_rfl)
     have hz : Below (wr.alloc (.cells #[.bool t.cells[k].null, .int .i64 t.cells[k].num, .slice an t.cells[k].text.length cn] 102)).heap.size (wr.alloc (.cells #[.bool t.cells[k].null, .int .i64 t.cells[k].num, .slice an t.cells[k].text.length cn] 102)) wx := hgx (by simp [y11])
     have kf := cR _ _ 1 _ _ _ ((hz.block _ HGF.out).trans HKF.out)
     simp only [gA, gZ, gU] at kf
     clear y11 hz
     clear h0
     refine wpOp_step rfl (fun K' hK => ?_)
     go_simp
     exact hK _ _ ⟨.int .i64 t.cells[k].num, (by simp [upd, e4]), FX.eq_mk rfl, fun _ => Below.refl _ _, hbx⟩
    ·
     try dsimp only
     clear h0
     refine wpOp_step rfl (fun K' hK => ?_)
     go_simp
     exact hK _ _ ⟨.pointer (some ⟨wr.heap.size, 2, none⟩), (by simp [upd]), FX.eq_mk rfl, fun _ => Below.refl _ _, hbx⟩
    ·
     try dsimp only
     have x6 := depX hdp 6 (by kernel_rfl)
     have d6 := hall 6 (by omega) x6
     have e6 : t' 6 = .pointer (some ⟨wr.heap.size, 2, none⟩) := d6.1
     rw [e6]
     have y11 := notYet hsh hxi 11 (by kernel_rfl)
     have hz : Below (wr.alloc (.cells #[.bool t.cells[k].null, .int .i64 t.cells[k].num, .slice an t.cells[k].text.length cn] 102)).heap.size (wr.alloc (.cells #[.bool t.cells[k].null, .int .i64 t.cells[k].num, .slice an t.cells[k].text.length cn] 102)) wx := hgx (by simp [y11])
     have kf := cR _ _ 2 _ _ _ ((hz.block _ HGF.out).trans HKF.out)
     simp only [gA, gZ, gU] at kf
     clear y11 hz
     clear h0
     refine wpOp_step rfl (fun K' hK => ?_)
     go_simp
     exact hK _ _ ⟨.slice an t.cells[k].text.length cn, (by simp [upd, e6]), FX.eq_mk rfl, fun _ => Below.refl _ _, hbx⟩
    ·
     try dsimp only
     have x7 := depX hdp 7 (by kernel_rfl)
     have d7 := hall 7 (by omega) x7
     have e7 : t' 7 = .slice an t.cells[k].text.length cn := d7.1
     rw [e7]
     have y11 := notYet hsh hxi 11 (by kernel_rfl)
     have hz : Below (wr.alloc (.cells #[.bool t.cells[k].null, .int .i64 t.cells[k].num, .slice an t.cells[k].text.length cn] 102)).heap.size (wr.alloc (.cells #[.bool t.cells[k].null, .int .i64 t.cells[k].num, .slice an t.cells[k].text.length cn] 102)) wx := hgx (by simp [y11])
     have hsz := hz.size
     clear h0
     refine wpOp_step rfl (fun K' hK => ?_)
     go_simp
     refine (bclone_any an cn t.cells[k].text wx ((HNM.out.later (bN wr _)).later hz) hnl).mono ?_
     rintro e w2 ⟨v2, rfl, o2, b2⟩
     exact hK _ _ ⟨v2, (by simp [upd, e7]), FX.pre_mk (own_mono o2 (Nat.le_trans HLO.out hsz)), fun _ => b2, bC hbx b2⟩
    ·
     try dsimp only
     have x3 := depX hdp 3 (by kernel_rfl)
     have d3 := hall 3 (by omega) x3
     have e3 : t' 3 = .bool t.cells[k].null := d3.1
     have x5 := depX hdp 5 (by kernel_rfl)
     have d5 := hall 5 (by omega) x5
     have e5 : t' 5 = .int .i64 t.cells[k].num := d5.1
     have x8 := depX hdp 8 (by kernel_rfl)
     have d8 := hall 8 (by omega) x8
     rw [e3, e5]
     have y11 := notYet hsh hxi 11 (by kernel_rfl)
     have r4 : wx.ownsRow wr.heap.size 5 1 (t' 8) t.cells[k].text.length (byt t.cells[k].text) := FX.pre_of d8 y11
     obtain ⟨a4, c4, e4, -⟩ := rd_own r4
     rw [e4]
     clear y11
     clear h0
     refine wpOp_step rfl (fun K' hK => ?_)
     go_simp
     exact hK _ _ ⟨.agg #[.bool t.cells[k].null, .int .i64 t.cells[k].num, .slice a4 t.cells[k].text.length c4], (by simp [upd, e4, e3, e5]), FX.pre_mk ⟨_, _, rfl, e4 ▸ r4⟩, fun _ => Below.refl _ _, hbx⟩
    ·
     try dsimp only
     have x0 := depX hdp 0 (by kernel_rfl)
     have d0 := hall 0 (by omega) x0
     have e0 : t' 0 = .slice (some ⟨W1.heap.size, 0, none⟩) t.cells.length t.cells.length := d0.1
     have x1 := depX hdp 1 (by kernel_rfl)
     have d1 := hall 1 (by omega) x1
     have e1 : t' 1 = .int .i64 (k : Int) := d1.1
     rw [e0, e1]
     clear h0
     refine wpOp_step rfl (fun K' hK => ?_)
     go_simp
     exact hK _ _ ⟨.pointer (some ⟨W1.heap.size, k * 3, none⟩), (by simp [upd, e0, e1]), FX.eq_mk rfl, fun _ => Below.refl _ _, hbx⟩
    ·
     try dsimp only
     have x10 := depX hdp 10 (by kernel_rfl)
     have d10 := hall 10 (by omega) x10
     have e10 : t' 10 = .pointer (some ⟨W1.heap.size, k * 3, none⟩) := d10.1
     have x9 := depX hdp 9 (by kernel_rfl)
     have d9 := hall 9 (by omega) x9
     rw [e10]
     obtain ⟨a4, c4, e9, r4⟩ : (fcAggC wr.heap.size t.cells[k]).p (t' 9) wx := FX.pre_of d9 hxi
     have hz : Below (wr.alloc (.cells #[.bool t.cells[k].null, .int .i64 t.cells[k].num, .slice an t.cells[k].text.length cn] 102)).heap.size (wr.alloc (.cells #[.bool t.cells[k].null, .int .i64 t.cells[k].num, .slice an t.cells[k].text.length cn] 102)) wx := hgx (by simp [hxi])
     have hz2 := bC (bN wr _) hz
     obtain ⟨vs, hvl, how2⟩ := HV.out.row hz2
     have f0 := how2.frozenAt (k * 3)
     have f1 := how2.frozenAt (k * 3 + 1)
     have f2 := how2.frozenAt (k * 3 + 2)
     have q0 := how2.cellAt (k * 3) (by omega)
     have q1 := how2.cellAt (k * 3 + 1) (by omega)
     have q2 := how2.cellAt (k * 3 + 2) (by omega)
     rw [List.getElem?_eq_getElem (by omega)] at q0 q1 q2
     generalize vs[k * 3] = y0 at q0
     generalize vs[k * 3 + 1] = y1 at q1
     generalize vs[k * 3 + 2] = y2 at q2
     have HN := hid (HV.out.step (x := .bool t.cells[k].null) (y := .int .i64 t.cells[k].num) (z := .slice a4 t.cells[k].text.length c4) hlt hz2 (cCell_own (ownSl_bytes r4 HOK.out.1) HOK.out.2) (fun b hb => (own_in r4 (by simpa using hb)).1) (by cases (Value.slice a4 t.cells[k].text.length c4).ownBlock <;> simp))
     have HS3 := hid (set3bk (x := .bool t.cells[k].null) (y := .int .i64 t.cells[k].num) (z := .slice a4 t.cells[k].text.length c4) hbx (Nat.le_refl _) (k := k))
     rw [e9]
     clear how2 hvl hz hz2
     clear h0
     refine wpOp_step rfl (fun K' hK => ?_)
     go_simp
     exact hK _ _ ⟨undef, (by simp [upd, e9, e10]), FX.is_mk HN.out, fun h => absurd (by simp) h, HS3.out⟩
   ·intro x t' wx hx hbx hall
    have HN : Hid (Made3 cCell 102 W1 wx t.cells (k + 1)) := hid (FX.is_of (hall 11 (by omega)))
    have HBX := hid hbx
    clear hall hbx
    try dsimp only
    go_wp2
    go_roundw
    case rel => exact ⟨k + 1, by omega, by go_num, HN.out, HBX.out⟩
    case measure => simp [intOf]; omega
  ·obtain rfl : k = t.cells.length := by omega
   obtain ⟨bs, h1, h2, h3⟩ := Made3.done (c := cCell) rfl HV.out
   have HF := hid h1
   have HL := hid h2
   have HND := hid h3
   have hsw := HBV.out.size
   have hs1 := HSZ.out
   have HBW := hid (bC HB0.out HBV.out)
   have k0 := hid ((HBV.out.block _ (show w.heap.size < W1.heap.size by omega)).trans HK0.out)
   have k1 := hid ((HBV.out.block _ (show w.heap.size + 1 < W1.heap.size by omega)).trans HK1.out)
   have c00 := cR wr _ 0 _ _ _ k0.out
   simp only [gA, gZ] at c00
   have g0 := cR _ _ 0 _ _ _ k1.out
   have zg0 := fR _ _ 0 _ _ k1.out
   have g1 := cR _ _ 1 _ _ _ k1.out
   have zg1 := fR _ _ 1 _ _ k1.out
   simp only [gA, gZ, gU] at g0 g1
   clear h1 h2 h3
   have HG1 : Hid (w.heap.size + 1 < wr.heap.size) := hid (by omega)
   have HS1 := hid hs1
   clear hs1
   go_wp2
   refine bodyPost_ret (results_cell_row rfl _ _ (w.heap.size + 1) 51 #[.int .i64 t.rows, .slice (some ⟨W1.heap.size, 0, none⟩) t.cells.length t.cells.length] (0, 0) _ rfl (set2 k1.out) Tryz.underlying51 rfl (by kernel_rfl)) rfl ?_
   refine ⟨_, _, bs, rfl, HF.out.kept (fun x hx => set2o (by have := HL.out x hx; have := HS1.out; omega)), fun x hx => by have := HL.out x hx; have := HS1.out; omega, HND.out, set2b HBW.out (by omega)⟩
theorem wset2t (w : World) (g off : Nat) (x0 x1 : Value) : wsetAll w g off [x0, x1] = ((w.setCell ⟨g, off, none⟩ x0).setCell ⟨g, off + 1, none⟩ x1) := by simp only [wsetAll]
set_option maxRecDepth 100000 in
set_option maxHeartbeats 8000000 in
theorem copyTables_any (a : Option Addr) (c : Nat) (ts : List PT) (w : World) (hr : RdSl cTable w ts (.slice a ts.length c)) (ht : totL totT ts ≤ 1048576) :
  Calls Tryz.prog 86 #[.slice a ts.length c] w fun e w' => ∃ v bs, e = .returned v ∧ OwnSl cTable 51 w' ts v bs ∧ (∀ b ∈ bs, w.heap.size ≤ b) ∧ bs.Nodup ∧ Below w.heap.size w w' := by
 obtain ⟨i0, hi, hz0, hz1, hz2⟩ := info_parts infoImTable
 have HR := hid hr
 clear hr
 have hlen : ts.length ≤ 1048576 := by unfold totL at ht; omega
 have HAT : Hid (∀ k, (h : k < ts.length) → totT ts[k] ≤ 1048576) := hid (fun k h => by have h1 := tot_at totT ts k h; unfold totL at ht; omega)
 go_enter Tryz.func86, Tryz.ntmps86
 go_wp2_with (first | (at_make; refine wpList_make_full _ rfl (.tmp 7) (.tmp 7) 38 rfl w.heap.size 51 i0 (.agg #[.int .i64 0, .slice none 0 0]) 2 Tryz.underlying38 hi hz0 hz1 .i64 .i64 _ _ ts.length rfl rfl rfl rfl (by rw [hz2]; omega) (by unfold maxLen; omega) (by simp) ?_))
 intro w1 ho hg1
 have HB1 : Hid (Below w.heap.size w w1) := hid ((Below.refl _ w).grown hg1 (Nat.le_refl _) (by intro k h; cases h))
 have HM : Hid (MadeN 2 cTable 51 w w1 ts 0) := hid ⟨_, [], ho, rfl, fun i h h2 => by simp at h2, by simp, by simp⟩
 clear hg1 hi hz0 hz1 hz2 ho
 go_wp2
 go_loopw [4, 5, 11] (fun _ _ i wr => ∃ k : Nat, k ≤ ts.length ∧ i = .int .i64 k ∧ MadeN 2 cTable 51 w wr ts k ∧ Below w.heap.size w wr) (fun _ _ i _ => ts.length - (intOf i).toNat)
 case atStart => exact ⟨0, Nat.zero_le _, rfl, HM.out, HB1.out⟩
 case round =>
  obtain ⟨k, hk, rfl, hm, hbe⟩ := hrel
  have HV := hid hm
  have HBV := hid hbe
  clear hm hbe
  by_cases hlt : k < ts.length
  ·obtain ⟨bb, off, es, rfl, hes, hcs⟩ := (HR.out.later HBV.out).atN hlt
   obtain ⟨an, cn, rfl, hnm, hpin⟩ := cTable_shape hes
   have d0 : wr.cell? ⟨bb, off + k * 2, none⟩ = some (.int .i64 ts[k].rows) := by have h := hcs 0 (by decide); rw [show cTable.n = 2 from rfl] at h; simpa [Nat.add_assoc] using h
   have d1 : wr.cell? ⟨bb, off + k * 2 + 1, none⟩ = some (.slice an ts[k].cells.length cn) := by have h := hcs 1 (by decide); rw [show cTable.n = 2 from rfl] at h; simpa [Nat.add_assoc] using h
   have hki : (k : Int) < (ts.length : Int) := by omega
   have HNM := hid hnm
   have HPIN := hid hpin
   clear hes hcs hnm hpin
   have HKF : Hid ((wr.alloc (.cells #[.int .i64 ts[k].rows, .slice an ts[k].cells.length cn] 51)).heap[wr.heap.size]? = some (.cells #[.int .i64 ts[k].rows, .slice an ts[k].cells.length cn] 51 (0, 0))) := hid (heap_alloc_new wr _)
   have HBF := hid (bN wr (.cells #[.int .i64 ts[k].rows, .slice an ts[k].cells.length cn] 51))
   go_upto_region 5 with fail
   generalize (wr.alloc (.cells #[.int .i64 ts[k].rows, .slice an ts[k].cells.length cn] 51)) = W2 at *
   clear d0 d1
   have e0 := cR _ _ 0 _ _ _ HKF.out
   have e1 := cR _ _ 1 _ _ _ HKF.out
   simp only [gA, gZ, gU] at e0 e1
   go_wp2_with fail
   refine (copyTable_any ts[k] an cn W2 (HNM.out.later HBF.out) (HAT.out k hlt)).mono ?_
   rintro e w2 ⟨a2, c2, bk, rfl, o2, lk, nk, b2⟩
   have hz2 := bC HBF.out b2
   have HN := HV.out.step rfl hlt hz2 (cTable_own (t := ts[k]) o2 HPIN.out) (fun x hx => Nat.le_trans HBF.out.size (lk x hx)) nk
   rw [wset2t] at HN
   have HS3 := wsetAll_below [.int .i64 ts[k].rows, .slice a2 ts[k].cells.length c2] w2 w.heap.size (k * 2) (bC HBV.out hz2) (Nat.le_refl _)
   rw [wset2t] at HS3
   have HN := hid HN
   have HS3 := hid HS3
   obtain ⟨vs, hvl, how2⟩ := HV.out.row hz2
   have f0 := how2.frozenAt (k * 2)
   have q0 := how2.cellAt (k * 2) (by omega)
   have f1 := how2.frozenAt (k * 2 + 1)
   have q1 := how2.cellAt (k * 2 + 1) (by omega)
   rw [List.getElem?_eq_getElem (by omega)] at q0 q1
   generalize vs[k * 2] = y0 at q0
   generalize vs[k * 2 + 1] = y1 at q1
   clear o2 lk nk b2 how2 hvl hz2 e0 e1
   go_wp2
   go_roundw
   case rel => exact ⟨k + 1, by omega, by go_num, HN.out, HS3.out⟩
   case measure => simp [intOf]; omega
  ·obtain rfl : k = ts.length := by omega
   obtain ⟨bs, h1, h2, h3⟩ := MadeN.done (n := 2) (c := cTable) rfl HV.out
   have HF := hid h1
   clear h1
   go_wp2
   go_ret
   exact ⟨_, bs, rfl, HF.out, h2, h3, HBV.out⟩
end Go.Proofs.YtfaehioeepolhabGreat
