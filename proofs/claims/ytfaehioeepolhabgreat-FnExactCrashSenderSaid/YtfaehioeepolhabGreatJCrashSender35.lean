import Derived.Test.YtfaehioeepolhabGreatJCrashSender14
import Derived.Test.YtfaehioeepolhabGreatJCrashSender20
import Derived.Test.YtfaehioeepolhabGreatJCrashSender23
import Derived.Test.YtfaehioeepolhabGreatJCrashSender19
import Derived.Test.YtfaehioeepolhabGreatJCrashSender0
import Derived.Test.YtfaehioeepolhabGreatJCrashSender6
import Derived.Test.YtfaehioeepolhabGreatJCrashSender5
import Derived.Deep.WholeRow
import Derived.Laws.CopyOwn
namespace Go.Proofs.YtfaehioeepolhabGreat
open Go.RowKit
theorem Made3.later {α : Type} {c : Cod α} {e : TypeId} {w wr w2 : World} {xs : List α} {k : Nat} (hm : Made3 c e w wr xs k) (b2 : Below wr.heap.size wr w2) : Made3 c e w w2 xs k := by
 obtain ⟨vs, bss, how, hbl, hown, hin, hnn⟩ := hm
 refine ⟨vs, bss, ownsRow_kept how (fun b hb => b2.block b (World.ownsRow.lt how b hb).2), hbl, fun i h1 h2 => c.ownLater (hown i h1 h2) b2, fun b hb => ?_, hnn⟩
 have := hin b hb
 have := b2.size
 omega
def fcMade (w : World) (fs : List PF) (k : Nat) : Fct := ⟨fun _ wx => Made3 cField 101 w wx fs k, fun _ _ _ h hb => h.later hb⟩
theorem set3bk {B : Nat} {a w : World} {g k : Nat} {x y z : Value} (h : Below B a w) (hg : B ≤ g) : Below B a (((w.setCell ⟨g, k * 3, none⟩ x).setCell ⟨g, k * 3 + 1, none⟩ y).setCell ⟨g, k * 3 + 2, none⟩ z) :=
 ((h.setCell (p := ⟨g, k * 3, none⟩) hg _).setCell (p := ⟨g, k * 3 + 1, none⟩) hg _).setCell (p := ⟨g, k * 3 + 2, none⟩) hg _
def cfT (w : World) (lo gf k : Nat) (fs : List PF) (f : PF) (an : Option Addr) (cn : Nat) : Nat → FX
 | 0 => FX.eq (.slice (some ⟨w.heap.size, 0, none⟩) fs.length fs.length)
 | 1 => FX.eq (.int .i64 (k : Int))
 | 2 => FX.eq (.pointer (some ⟨gf, 0, none⟩))
 | 3 => FX.eq (.slice an f.name.length cn)
 | 4 => FX.pre [11] (fcNm lo f.name)
 | 5 => FX.eq (.pointer (some ⟨gf, 1, none⟩))
 | 6 => FX.eq (.int .i64 f.kind)
 | 7 => FX.eq (.pointer (some ⟨gf, 2, none⟩))
 | 8 => FX.eq (.int .i64 f.width)
 | 9 => FX.pre [11] (fcAgg lo f)
 | 10 => FX.eq (.pointer (some ⟨w.heap.size, k * 3, none⟩))
 | 11 => FX.is (fcMade w fs (k + 1))
 | _ => FX.eq undef
set_option maxHeartbeats 4000000 in
theorem copyFields_any (a : Option Addr) (c : Nat) (fs : List PF) (w : World) (hr : RdSl cField w fs (.slice a fs.length c)) (ht : totL (fun f : PF => f.name.length) fs ≤ 1048576) :
  Calls Tryz.prog 85 #[.slice a fs.length c] w fun e w' => ∃ v bs, e = .returned v ∧ OwnSl cField 101 w' fs v bs ∧ (∀ b ∈ bs, w.heap.size ≤ b) ∧ bs.Nodup ∧ Below w.heap.size w w' := by
 obtain ⟨i0, hi, hz0, hz1, hz2⟩ := info_parts infoImField
 have HR := hid hr
 clear hr
 have hlen : fs.length ≤ 1048576 := by unfold totL at ht; omega
 go_enter Tryz.func85, Tryz.ntmps85
 go_wp2_with (first | (at_make; refine wpList_make_full _ rfl (.tmp 7) (.tmp 7) 37 rfl w.heap.size 101 i0 (.agg #[.slice none 0 0, .int .i64 0, .int .i64 0]) 3 Tryz.underlying37 hi hz0 hz1 .i64 .i64 _ _ fs.length rfl rfl rfl rfl (by rw [hz2]; omega) (by unfold maxLen; omega) (by simp) ?_))
 intro w1 ho hg1
 have HB1 : Hid (Below w.heap.size w w1) := hid ((Below.refl _ w).grown hg1 (Nat.le_refl _) (by intro k h; cases h))
 have HM : Hid (Made3 cField 101 w w1 fs 0) := hid ⟨_, [], ho, rfl, fun i h h2 => by simp at h2, by simp, by simp⟩
 clear hg1 hi hz0 hz1 hz2 ho
 go_wp2
 go_loopw [11] (fun i wr => ∃ k : Nat, k ≤ fs.length ∧ i = .int .i64 k ∧ Made3 cField 101 w wr fs k ∧ Below w.heap.size w wr) (fun i _ => fs.length - (intOf i).toNat)
 case atStart => exact ⟨0, Nat.zero_le _, rfl, HM.out, HB1.out⟩
 case round =>
  obtain ⟨k, hk, rfl, hm, hbe⟩ := hrel
  have HV := hid hm
  have HBW := hid hbe
  clear hm hbe
  by_cases hlt : k < fs.length
  ·obtain ⟨b, off, x0, x1, x2, rfl, hes, d0, d1, d2⟩ := (HR.out.later HBW.out).at3 rfl hlt
   obtain ⟨an, cn, e3⟩ := cField_shape hes
   simp only [List.cons.injEq, and_true] at e3
   obtain ⟨rfl, rfl, rfl⟩ := e3
   obtain ⟨vn, en, hnm, hik, hiw⟩ := cField_rd hes
   simp only [List.cons.injEq, and_true] at en
   obtain ⟨rfl, -⟩ := en
   have hki : (k : Int) < (fs.length : Int) := by omega
   have HNM := hid hnm
   have HOK : Hid (FOK fs[k]) := hid ⟨rdSl_ok hnm, hik, hiw⟩
   have hnl : fs[k].name.length ≤ 1048576 := by have h := tot_at (fun f : PF => f.name.length) fs k hlt; unfold totL at ht; exact Nat.le_trans h (by omega)
   have HGF : Hid (wr.heap.size < (wr.alloc (.cells #[.slice an fs[k].name.length cn, .int .i64 fs[k].kind, .int .i64 fs[k].width] 101)).heap.size) := hid (by simp)
   have HLO : Hid (wr.heap.size ≤ (wr.alloc (.cells #[.slice an fs[k].name.length cn, .int .i64 fs[k].kind, .int .i64 fs[k].width] 101)).heap.size) := hid (by simp)
   have HKF : Hid ((wr.alloc (.cells #[.slice an fs[k].name.length cn, .int .i64 fs[k].kind, .int .i64 fs[k].width] 101)).heap[wr.heap.size]? = some (.cells #[.slice an fs[k].name.length cn, .int .i64 fs[k].kind, .int .i64 fs[k].width] 101 (0, 0))) := hid (heap_alloc_new wr _)
   clear hes hnm hik hiw
   go_wp2_with fail
   refine region_turns (n := 12) (by kernel_rfl) (by kernel_rfl) ?_ (fun t => { tmps := #[.slice (some ⟨b, off, none⟩) fs.length c, undef, .slice none 0 0, .slice (some ⟨w.heap.size, 0, none⟩) fs.length fs.length, .int .i64 (k : Int), .pointer (some ⟨wr.heap.size, 0, none⟩), .slice (some ⟨b, off, none⟩) fs.length c, .int .i64 (fs.length : Int), .slice (some ⟨w.heap.size, 0, none⟩) fs.length fs.length, .slice (some ⟨b, off, none⟩) fs.length c, .int .i64 (fs.length : Int), .int .i64 (k : Int), .bool true, .int .i64 (k : Int), .pointer (some ⟨b, off + k * 3, none⟩), .agg #[.slice an fs[k].name.length cn, .int .i64 fs[k].kind, .int .i64 fs[k].width], t 0, t 1, t 2, t 3, t 4, t 5, t 6, t 7, t 8, t 9, t 10, u27, undef], defers := [] }) (cfT w wr.heap.size wr.heap.size k fs fs[k] an cn) [11] (fcSame (wr.alloc (.cells #[.slice an fs[k].name.length cn, .int .i64 fs[k].kind, .int .i64 fs[k].width] 101))) w (wr.alloc (.cells #[.slice an fs[k].name.length cn, .int .i64 fs[k].kind, .int .i64 fs[k].width] 101)) (fun k => if k = 4 then [11] else if k = 9 then [11] else []) (fun k => !(k == 4 || k == 9 || k == 11)) (by kernel_rfl) (fun j hj => by rcases (by omega : j = 0 ∨ j = 1 ∨ j = 2 ∨ j = 3 ∨ j = 4 ∨ j = 5 ∨ j = 6 ∨ j = 7 ∨ j = 8 ∨ j = 9 ∨ j = 10 ∨ j = 11) with rfl | rfl | rfl | rfl | rfl | rfl | rfl | rfl | rfl | rfl | rfl | rfl <;> rfl) (fun j hj hp => by rcases (by omega : j = 0 ∨ j = 1 ∨ j = 2 ∨ j = 3 ∨ j = 4 ∨ j = 5 ∨ j = 6 ∨ j = 7 ∨ j = 8 ∨ j = 9 ∨ j = 10 ∨ j = 11) with rfl | rfl | rfl | rfl | rfl | rfl | rfl | rfl | rfl | rfl | rfl | rfl <;> first | rfl | (exact absurd hp (by decide))) (fun j => ([u16, u17, u18, u19, u20, u21, u22, u23, u24, u25, u26, undef] : List Value).getD j undef) (bC HBW.out (bN _ _)) (Below.refl _ _) ?_ ?_
   ·rfl
   ·intro i hi x t wx hxi hsh h0 hbx hgx hdp hall
    rcases (by omega : i = 0 ∨ i = 1 ∨ i = 2 ∨ i = 3 ∨ i = 4 ∨ i = 5 ∨ i = 6 ∨ i = 7 ∨ i = 8 ∨ i = 9 ∨ i = 10 ∨ i = 11) with rfl | rfl | rfl | rfl | rfl | rfl | rfl | rfl | rfl | rfl | rfl | rfl
    ·
     try dsimp only
     clear h0
     refine wpOp_step rfl (fun K' hK => ?_)
     go_simp
     exact hK _ _ ⟨.slice (some ⟨w.heap.size, 0, none⟩) fs.length fs.length, (by simp [upd]), FX.eq_mk rfl, fun _ => Below.refl _ _, hbx⟩
    ·
     try dsimp only
     clear h0
     refine wpOp_step rfl (fun K' hK => ?_)
     go_simp
     exact hK _ _ ⟨.int .i64 (k : Int), (by simp [upd]), FX.eq_mk rfl, fun _ => Below.refl _ _, hbx⟩
    ·
     try dsimp only
     clear h0
     refine wpOp_step rfl (fun K' hK => ?_)
     go_simp
     exact hK _ _ ⟨.pointer (some ⟨wr.heap.size, 0, none⟩), (by simp [upd]), FX.eq_mk rfl, fun _ => Below.refl _ _, hbx⟩
    ·
     try dsimp only
     have x2 := depX hdp 2 (by kernel_rfl)
     have d2 := hall 2 (by omega) x2
     have e2 : t 2 = .pointer (some ⟨wr.heap.size, 0, none⟩) := d2.1
     rw [e2]
     have y11 := notYet hsh hxi 11 (by kernel_rfl)
     have hz : Below (wr.alloc (.cells #[.slice an fs[k].name.length cn, .int .i64 fs[k].kind, .int .i64 fs[k].width] 101)).heap.size (wr.alloc (.cells #[.slice an fs[k].name.length cn, .int .i64 fs[k].kind, .int .i64 fs[k].width] 101)) wx := hgx (by simp [y11])
     have kf := cR _ _ 0 _ _ _ ((hz.block _ HGF.out).trans HKF.out)
     simp only [gA, gZ] at kf
     clear y11 hz
     clear h0
     refine wpOp_step rfl (fun K' hK => ?_)
     go_simp
     exact hK _ _ ⟨.slice an fs[k].name.length cn, (by simp [upd, e2]), FX.eq_mk rfl, fun _ => Below.refl _ _, hbx⟩
    ·
     try dsimp only
     have x3 := depX hdp 3 (by kernel_rfl)
     have d3 := hall 3 (by omega) x3
     have e3 : t 3 = .slice an fs[k].name.length cn := d3.1
     rw [e3]
     have y11 := notYet hsh hxi 11 (by kernel_rfl)
     have hz : Below (wr.alloc (.cells #[.slice an fs[k].name.length cn, .int .i64 fs[k].kind, .int .i64 fs[k].width] 101)).heap.size (wr.alloc (.cells #[.slice an fs[k].name.length cn, .int .i64 fs[k].kind, .int .i64 fs[k].width] 101)) wx := hgx (by simp [y11])
     have hsz := hz.size
     clear h0
     refine wpOp_step rfl (fun K' hK => ?_)
     go_simp
     refine (bclone_any an cn fs[k].name wx ((HNM.out.later (bN wr _)).later hz) hnl).mono ?_
     rintro e w2 ⟨v2, rfl, o2, b2⟩
     exact hK _ _ ⟨v2, (by simp [upd, e3]), FX.pre_mk (own_mono o2 (Nat.le_trans HLO.out hsz)), fun _ => b2, bC hbx b2⟩
    ·
     try dsimp only
     clear h0
     refine wpOp_step rfl (fun K' hK => ?_)
     go_simp
     exact hK _ _ ⟨.pointer (some ⟨wr.heap.size, 1, none⟩), (by simp [upd]), FX.eq_mk rfl, fun _ => Below.refl _ _, hbx⟩
    ·
     try dsimp only
     have x5 := depX hdp 5 (by kernel_rfl)
     have d5 := hall 5 (by omega) x5
     have e5 : t 5 = .pointer (some ⟨wr.heap.size, 1, none⟩) := d5.1
     rw [e5]
     have y11 := notYet hsh hxi 11 (by kernel_rfl)
     have hz : Below (wr.alloc (.cells #[.slice an fs[k].name.length cn, .int .i64 fs[k].kind, .int .i64 fs[k].width] 101)).heap.size (wr.alloc (.cells #[.slice an fs[k].name.length cn, .int .i64 fs[k].kind, .int .i64 fs[k].width] 101)) wx := hgx (by simp [y11])
     have kf := cR _ _ 1 _ _ _ ((hz.block _ HGF.out).trans HKF.out)
     simp only [gA, gZ, gU] at kf
     clear y11 hz
     clear h0
     refine wpOp_step rfl (fun K' hK => ?_)
     go_simp
     exact hK _ _ ⟨.int .i64 fs[k].kind, (by simp [upd, e5]), FX.eq_mk rfl, fun _ => Below.refl _ _, hbx⟩
    ·
     try dsimp only
     clear h0
     refine wpOp_step rfl (fun K' hK => ?_)
     go_simp
     exact hK _ _ ⟨.pointer (some ⟨wr.heap.size, 2, none⟩), (by simp [upd]), FX.eq_mk rfl, fun _ => Below.refl _ _, hbx⟩
    ·
     try dsimp only
     have x7 := depX hdp 7 (by kernel_rfl)
     have d7 := hall 7 (by omega) x7
     have e7 : t 7 = .pointer (some ⟨wr.heap.size, 2, none⟩) := d7.1
     rw [e7]
     have y11 := notYet hsh hxi 11 (by kernel_rfl)
     have hz : Below (wr.alloc (.cells #[.slice an fs[k].name.length cn, .int .i64 fs[k].kind, .int .i64 fs[k].width] 101)).heap.size (wr.alloc (.cells #[.slice an fs[k].name.length cn, .int .i64 fs[k].kind, .int .i64 fs[k].width] 101)) wx := hgx (by simp [y11])
     have kf := cR _ _ 2 _ _ _ ((hz.block _ HGF.out).trans HKF.out)
     simp only [gA, gZ, gU] at kf
     clear y11 hz
     clear h0
     refine wpOp_step rfl (fun K' hK => ?_)
     go_simp
     exact hK _ _ ⟨.int .i64 fs[k].width, (by simp [upd, e7]), FX.eq_mk rfl, fun _ => Below.refl _ _, hbx⟩
    ·
     try dsimp only
     have x4 := depX hdp 4 (by kernel_rfl)
     have d4 := hall 4 (by omega) x4
     have x6 := depX hdp 6 (by kernel_rfl)
     have d6 := hall 6 (by omega) x6
     have e6 : t 6 = .int .i64 fs[k].kind := d6.1
     have x8 := depX hdp 8 (by kernel_rfl)
     have d8 := hall 8 (by omega) x8
     have e8 : t 8 = .int .i64 fs[k].width := d8.1
     rw [e6, e8]
     have y11 := notYet hsh hxi 11 (by kernel_rfl)
     have r4 : wx.ownsRow wr.heap.size 5 1 (t 4) fs[k].name.length (byt fs[k].name) := FX.pre_of d4 y11
     obtain ⟨a4, c4, e4, -⟩ := rd_own r4
     rw [e4]
     clear y11
     clear h0
     refine wpOp_step rfl (fun K' hK => ?_)
     go_simp
     exact hK _ _ ⟨.agg #[.slice a4 fs[k].name.length c4, .int .i64 fs[k].kind, .int .i64 fs[k].width], (by simp [upd, e4, e6, e8]), FX.pre_mk ⟨_, _, rfl, e4 ▸ r4⟩, fun _ => Below.refl _ _, hbx⟩
    ·
     try dsimp only
     have x0 := depX hdp 0 (by kernel_rfl)
     have d0 := hall 0 (by omega) x0
     have e0 : t 0 = .slice (some ⟨w.heap.size, 0, none⟩) fs.length fs.length := d0.1
     have x1 := depX hdp 1 (by kernel_rfl)
     have d1 := hall 1 (by omega) x1
     have e1 : t 1 = .int .i64 (k : Int) := d1.1
     rw [e0, e1]
     clear h0
     refine wpOp_step rfl (fun K' hK => ?_)
     go_simp
     exact hK _ _ ⟨.pointer (some ⟨w.heap.size, k * 3, none⟩), (by simp [upd, e0, e1]), FX.eq_mk rfl, fun _ => Below.refl _ _, hbx⟩
    ·
     try dsimp only
     have x10 := depX hdp 10 (by kernel_rfl)
     have d10 := hall 10 (by omega) x10
     have e10 : t 10 = .pointer (some ⟨w.heap.size, k * 3, none⟩) := d10.1
     have x9 := depX hdp 9 (by kernel_rfl)
     have d9 := hall 9 (by omega) x9
     rw [e10]
     obtain ⟨a4, c4, e9, r4⟩ : (fcAgg wr.heap.size fs[k]).p (t 9) wx := FX.pre_of d9 hxi
     have hz : Below (wr.alloc (.cells #[.slice an fs[k].name.length cn, .int .i64 fs[k].kind, .int .i64 fs[k].width] 101)).heap.size (wr.alloc (.cells #[.slice an fs[k].name.length cn, .int .i64 fs[k].kind, .int .i64 fs[k].width] 101)) wx := hgx (by simp [hxi])
     have hz2 := bC (bN wr _) hz
     obtain ⟨vs, hvl, how2⟩ := HV.out.row hz2
     have f0 := how2.frozenAt (k * 3)
     have f1 := how2.frozenAt (k * 3 + 1)
     have f2 := how2.frozenAt (k * 3 + 2)
     have q0 := how2.cellAt (k * 3) (by omega)
     have q1 := how2.cellAt (k * 3 + 1) (by omega)
     have q2 := how2.cellAt (k * 3 + 2) (by omega)
     rw [List.getElem?_eq_getElem (by omega)] at q0 q1 q2
     generalize vs[k * 3] = y0 at q0
     generalize vs[k * 3 + 1] = y1 at q1
     generalize vs[k * 3 + 2] = y2 at q2
     have HN := hid (HV.out.step (x := .slice a4 fs[k].name.length c4) (y := .int .i64 fs[k].kind) (z := .int .i64 fs[k].width) hlt hz2 (cField_own (ownSl_bytes r4 HOK.out.1) HOK.out.2.1 HOK.out.2.2) (fun b hb => (own_in r4 (by simpa using hb)).1) (by cases (Value.slice a4 fs[k].name.length c4).ownBlock <;> simp))
     have HS3 := hid (set3bk (x := .slice a4 fs[k].name.length c4) (y := .int .i64 fs[k].kind) (z := .int .i64 fs[k].width) hbx (Nat.le_refl _) (k := k))
     rw [e9]
     clear how2 hvl hz hz2
     clear h0
     refine wpOp_step rfl (fun K' hK => ?_)
     go_simp
     exact hK _ _ ⟨undef, (by simp [upd, e9, e10]), FX.is_mk HN.out, fun h => absurd (by simp) h, HS3.out⟩
   ·intro x t wx hx hbx hall
    have HN : Hid (Made3 cField 101 w wx fs (k + 1)) := hid (FX.is_of (hall 11 (by omega)))
    have HBX := hid hbx
    clear hall hbx
    try dsimp only
    go_wp2
    go_roundw
    case rel => exact ⟨k + 1, by omega, by go_num, HN.out, HBX.out⟩
    case measure => simp [intOf]; omega
  ·obtain rfl : k = fs.length := by omega
   obtain ⟨bs, h1, h2, h3⟩ := HV.out.done rfl
   have HF := hid h1
   clear h1
   go_wp2
   go_ret
   exact ⟨_, bs, rfl, HF.out, h2, h3, HBW.out⟩
set_option maxHeartbeats 1000000 in
set_option maxRecDepth 100000 in
theorem app_u64 (B : Nat) (v : Value) (n : Nat) (xs : List Nat) (u : Nat) (w : World) (ho : w.ownsRow B 5 1 v n (byt xs)) (hB : B ≤ w.heap.size) (hn : n ≤ 1099511627776) (hu : u < 18446744073709551616) :
  Calls Tryz.prog 166 #[v, .int .u64 (u : Int), .int .i64 8] w fun e w' => ∃ v', e = .returned v' ∧ w'.ownsRow B 5 1 v' (n + 8) (byt (xs ++ digs u 8)) ∧ Below B w w' := by
 obtain ⟨i0, hi, hz0, hz1, hz2⟩ := info_parts infoByteP
 have HL := hid hu
 have HO0 := hid ho
 clear hu ho
 go_enter Tryz.func166, Tryz.ntmps166
 go_wp2
 go_loopw [0, 7, 10] (fun o r i wr => ∃ k : Nat, k ≤ 8 ∧ i = .int .i64 k ∧ r = .int .u64 ((u / 256 ^ k : Nat) : Int) ∧ wr.ownsRow B 5 1 o (n + k) (byt (xs ++ (digs u 8).take k)) ∧ Below B w wr) (fun _ _ i _ => 8 - (intOf i).toNat)
 case atStart => exact ⟨0, Nat.zero_le _, rfl, by simp, by simpa using HO0.out, Below.refl _ _⟩
 case round =>
  obtain ⟨k, hk, rfl, rfl, how, hbe⟩ := hrel
  have HO := hid how
  have HB := hid hbe
  clear how hbe
  by_cases hlt : k < 8
  ·have HD := hid (digs_snoc u 8 k hlt)
   have HN := hid (div_next u k)
   have HR := hid (div_lt u k HL.out)
   have hBr : B ≤ wr.heap.size := Nat.le_trans hB HB.out.size
   generalize u / 256 ^ k = R at *
   have hki : decide ((k : Int) < 8) = true := by simp; omega
   go_wp2_with (first | (at_builtin; refine wpList_append_own _ rfl _ _ 87 rfl B 5 i0 (.int .u8 0) 1 1 Tryz.underlying87 hi hz0 hz1 hz2 rfl (by decide) _ (n + k) _ rfl (HO.out.alloc _) ⟨wr.heap.size, 0, none⟩ 1 1 [.int .u8 ((R : Int) % 256)] rfl rfl (cell_one_new _ _ _) (one_cell rfl) (by unfold maxLen; omega) (by omega) (by simp; omega) ?_))
   intro v' w1 hown' hgrow _
   have HB1 : Hid (Below B w w1) := hid ((HB.out.alloc hBr _).grown hgrow (by simp; omega) (fun k h => (World.ownsRow.lt HO.out k h).1))
   have HO1 : Hid (w1.ownsRow B 5 1 v' (n + (k + 1)) (byt (xs ++ (digs u 8).take (k + 1)))) := hid (by
    rw [HD.out, ← List.append_assoc, byt_snoc, ← Nat.add_assoc]
    simpa using hown')
   clear hown' hgrow
   go_wp2
   go_roundw
   case rel => exact ⟨k + 1, by omega, by go_num, by rw [← HN.out]; simp, HO1.out, HB1.out⟩
   case measure => simp [intOf]; omega
  ·have hki : decide ((k : Int) < 8) = false := by simp; omega
   have HK : Hid (k = 8) := hid (by omega)
   have hO := HO.out
   rw [HK.out, List.take_of_length_le (by rw [digs_len]; exact Nat.le_refl _)] at hO
   have HO2 := hid hO
   clear hO HO
   go_wp2
   go_ret
   exact ⟨_, rfl, HO2.out, HB.out⟩
theorem u64_wrap (n : Nat) (h : n < 18446744073709551616) : IntKind.u64.wrap (n : Int) = n := by
 simp [IntKind.wrap, IntKind.bits, IntKind.signed]; omega
set_option maxHeartbeats 4000000 in
theorem headerOf_any (a b : Option Addr) (c d nd : Nat) (fs : List PF) (N : Nat) (w : World) (hr : RdSl cField w fs (.slice a fs.length c)) (hf : fieldsOK fs = true) (hN : N ≤ 1000000000) :
  Calls Tryz.prog 154 #[.agg #[.bool true, .slice a fs.length c, .int .i64 (N : Int), .slice b nd d]] w fun e w' => ∃ v, e = .returned (.agg #[.int .i64 1, .int .i64 0, .int .i64 (fs.length : Int), v]) ∧ Txts w.heap.size w' v (hdrB fs N) ∧ Below w.heap.size w w' := by
 obtain ⟨i0, hi0, hz0, hz1, hz2⟩ := info_parts infoByteM
 obtain ⟨j0, hj0, hy0, hy1, hy2⟩ := info_parts infoSlM
 have HR := hid hr
 have HBD := hid (fieldsOK_bounds hf)
 have hfl : fs.length ≤ 12 := HBD.out.1
 have hu := u64_wrap N (by omega)
 have HB0 := hid (below_new2 w (.cells #[.bool true, .slice a fs.length c, .int .i64 (N : Int), .slice b nd d] 43) (.cells #[.int .i64 0, .int .i64 0, .int .i64 0, .slice none 0 0] 161))
 have hsz0 : ((w.alloc (.cells #[.bool true, .slice a fs.length c, .int .i64 (N : Int), .slice b nd d] 43)).alloc (.cells #[.int .i64 0, .int .i64 0, .int .i64 0, .slice none 0 0] 161)).heap.size = w.heap.size + 2 := by simp
 have HK0 : Hid (((w.alloc (.cells #[.bool true, .slice a fs.length c, .int .i64 (N : Int), .slice b nd d] 43)).alloc (.cells #[.int .i64 0, .int .i64 0, .int .i64 0, .slice none 0 0] 161)).heap[w.heap.size]? = some (.cells #[.bool true, .slice a fs.length c, .int .i64 (N : Int), .slice b nd d] 43 (0, 0)) ∧ ((w.alloc (.cells #[.bool true, .slice a fs.length c, .int .i64 (N : Int), .slice b nd d] 43)).alloc (.cells #[.int .i64 0, .int .i64 0, .int .i64 0, .slice none 0 0] 161)).heap[w.heap.size + 1]? = some (.cells #[.int .i64 0, .int .i64 0, .int .i64 0, .slice none 0 0] 161 (0, 0))) := hid (heap2 _ _ (by rw [← hsz0]; exact Below.refl _ _))
 clear hr hf
 go_enter Tryz.func154, Tryz.ntmps154
 go_wp2_with fail
 generalize ((w.alloc (.cells #[.bool true, .slice a fs.length c, .int .i64 (N : Int), .slice b nd d] 43)).alloc (.cells #[.int .i64 0, .int .i64 0, .int .i64 0, .slice none 0 0] 161)) = W0 at *
 have hsz1 : w.heap.size + 2 ≤ W0.heap.size := by omega
 clear hsz0
 refine (app_u64 W0.heap.size (.slice none 0 0) 0 [] N W0 (World.ownsRow_nil _ _ _ _) (Nat.le_refl _) (by omega) (by omega)).mono ?_
 rintro e w1 ⟨v1, rfl, o1, b1⟩
 rw [List.nil_append] at o1
 obtain ⟨a1, c1, rfl, -⟩ := rd_own o1
 have HO1 := hid o1
 have HB1 := hid b1
 have k0 := (b1.block w.heap.size (by omega)).trans HK0.out.1
 have p1 := cR w1 _ 1 _ _ _ k0
 simp only [gA, gZ, gU] at p1
 have hs1 : W0.heap.size ≤ w1.heap.size := b1.size
 have p1' : (w1.alloc (.cells #[.slice a1 (0 + 8) c1] 87)).cell? ⟨w.heap.size, 1, none⟩ = some (.slice a fs.length c) := ((bN w1 _).cell (World.block_lt_of_cell? _ _ p1)).trans p1
 have HTX : Hid (Txts W0.heap.size (w1.alloc (.cells #[.slice a1 (0 + 8) c1] 87)) (.slice (some ⟨w1.heap.size, 0, none⟩) 1 1) ((hdrB fs N).take (0 + 1))) := hid (by
  have h := own_built (w := w1) (B := W0.heap.size) (e := 87) (cs := #[.slice a1 (0 + 8) c1]) hs1 (by unfold maxLen; simp)
  refine ⟨[.slice a1 (0 + 8) c1], h, fun i hi => ?_⟩
  obtain rfl : i = 0 := by simp [hdrB] at hi; omega
  have e : ((hdrB fs N).take (0 + 1))[0]'hi = digs N 8 := by simp [hdrB]
  rw [e]
  refine ⟨_, rfl, ?_, digs_lt _ _⟩
  rw [digs_len]
  exact own_later HO1.out (bN _ _))
 have HBL : Hid (Below W0.heap.size W0 (w1.alloc (.cells #[.slice a1 (0 + 8) c1] 87))) := hid (bC b1 (bN _ _))
 clear o1 b1 k0 p1
 go_wp2
 go_loopw [3, 14] (fun v i wr => ∃ k : Nat, k ≤ fs.length ∧ i = .int .i64 k ∧ Txts W0.heap.size wr v ((hdrB fs N).take (k + 1)) ∧ Below W0.heap.size W0 wr) (fun _ i _ => fs.length - (intOf i).toNat)
 case atStart => exact ⟨0, Nat.zero_le _, rfl, HTX.out, HBL.out⟩
 case round =>
  obtain ⟨k, hk, rfl, htx, hbe⟩ := hrel
  have HX := hid htx
  have HBW := hid hbe
  clear htx hbe HTX HBL p1'
  by_cases hlt : k < fs.length
  ·obtain ⟨b2, off, x0, x1, x2, rfl, hes, d0, d1, d2⟩ := (HR.out.later (bC HB0.out HBW.out)).at3 rfl hlt
   obtain ⟨an, cn, e3⟩ := cField_shape hes
   simp only [List.cons.injEq, and_true] at e3
   obtain ⟨rfl, rfl, rfl⟩ := e3
   obtain ⟨vn, en, hnm, hik, hiw⟩ := cField_rd hes
   simp only [List.cons.injEq, and_true] at en
   obtain ⟨rfl, -⟩ := en
   have hki : (k : Int) < (fs.length : Int) := by omega
   obtain ⟨hp1, hp2, hk0, hk3, hw0, hw8⟩ := HBD.out.2 k hlt
   have hwk : IntKind.u8.wrap fs[k].kind = fs[k].kind := by simp [IntKind.wrap, IntKind.bits, IntKind.signed]; omega
   have hww : IntKind.u8.wrap fs[k].width = fs[k].width := by simp [IntKind.wrap, IntKind.bits, IntKind.signed]; omega
   have HNM := hid hnm
   have HBT : Hid (∀ x ∈ hdrF fs[k], x < 256) := hid (by
    intro x hx
    simp only [hdrF, List.mem_cons] at hx
    rcases hx with rfl | rfl | hx
    ·omega
    ·omega
    ·exact rdSl_ok HNM.out x hx)
   have hs := HBW.out.size
   have HW2 := hid (below_new2 wr (.cells #[.slice an fs[k].name.length cn, .int .i64 fs[k].kind, .int .i64 fs[k].width] 101) (.cells #[.int .u8 fs[k].kind, .int .u8 fs[k].width] 5))
   have H8 : Hid ((fcTwo W0.heap.size wr.heap.size fs[k]).p (.slice (some ⟨wr.heap.size + 1, 0, none⟩) 2 2) ((wr.alloc (.cells #[.slice an fs[k].name.length cn, .int .i64 fs[k].kind, .int .i64 fs[k].width] 101)).alloc (.cells #[.int .u8 fs[k].kind, .int .u8 fs[k].width] 5))) := hid (by
    have h := two_new8 (B := W0.heap.size) (lo := wr.heap.size) (w := wr.alloc (.cells #[.slice an fs[k].name.length cn, .int .i64 fs[k].kind, .int .i64 fs[k].width] 101)) (f := fs[k]) ⟨hk0, hk3⟩ ⟨hw0, hw8⟩ (by simp) (by simp; omega)
    rw [show (wr.alloc (.cells #[.slice an fs[k].name.length cn, .int .i64 fs[k].kind, .int .i64 fs[k].width] 101)).heap.size = wr.heap.size + 1 from by simp] at h
    exact h)
   obtain ⟨g8, e8, -, o8⟩ := H8.out
   simp only [Value.slice.injEq, Option.some.injEq, Addr.mk.injEq, and_true] at e8
   have HG8 := hid e8
   rw [← e8] at o8
   have HO8 := hid o8
   have HRD := hid (HNM.out.later HW2.out).rdB.1
   have HNI := hid (HNM.out.later HW2.out).nil0
   clear hes hnm hik hiw e8 o8
   go_wp2_with (first | (at_builtin; refine append_any rfl _ _ 87 rfl W0.heap.size 5 i0 (.int .u8 0) 1 Tryz.underlying87 hi0 hz0 hz1 hz2 rfl _ 2 _ rfl HO8.out an fs[k].name.length cn (byt fs[k].name) rfl (byt_len _) HNI.out HRD.out (byt_one _) (by unfold maxLen; omega) (by omega) (by simp; omega) ?_))
   intro v9 w9 hown hgrow
   have hl : 2 + fs[k].name.length = (hdrF fs[k]).length := by simp [hdrF]; omega
   rw [hl, ← byt_append, show [fs[k].kind.toNat, fs[k].width.toNat] ++ fs[k].name = hdrF fs[k] from rfl] at hown
   obtain ⟨a9, c9, rfl, -⟩ := rd_own hown
   have HB9 : Hid (Below wr.heap.size wr w9) := hid (HW2.out.grown hgrow (by simp; omega) (fun p hp => by simp [Value.ownBlock] at hp; omega))
   have HO9 := hid hown
   have hs9 : W0.heap.size ≤ w9.heap.size := Nat.le_trans hs HB9.out.size
   have HX9 := hid ((HX.out.later HB9.out).later (bN w9 (.cells #[.slice a9 (hdrF fs[k]).length c9] 87)))
   obtain ⟨vals, ho, hi'⟩ := HX9.out
   have htl : ((hdrB fs N).take (k + 1)).length = k + 1 := by simp [hdrB_len]; omega
   rw [htl] at ho
   have HOA := hid ho
   have HI' := hid hi'
   have HTL := hid htl
   clear hown hgrow ho hi' hl htl H8 HO8 HW2 HRD HNI
   generalize hln : (hdrF fs[k]).length = ln at *
   have HLN := hid hln
   clear hln
   go_wp2_with (first | (at_builtin; refine append_any rfl _ _ 103 rfl W0.heap.size 87 j0 (.slice none 0 0) 24 Tryz.underlying103 hj0 hy0 hy1 hy2 rfl _ (k + 1) _ rfl HOA.out (some ⟨w9.heap.size, 0, none⟩) 1 1 [.slice a9 ln c9] rfl rfl (by simp) (.inr ⟨w9.heap.size, 0, rfl, fun j hj => (by obtain rfl : j = 0 := (by simpa using hj); exact cell_one_new _ _ _ 0 _ rfl)⟩) (one_cell rfl) (by unfold maxLen; omega) (by omega) (by simp; omega) ?_))
   intro v10 w10 hown hgrow
   have HN : Hid (Txts W0.heap.size w10 v10 ((hdrB fs N).take (k + 1 + 1))) := hid (by
    rw [show k + 1 + 1 = k + 2 from rfl, hdrB_take fs N k hlt]
    exact Txts.snoc (by rw [HTL.out]; exact HOA.out) HI'.out (own_later (by rw [HLN.out]; exact HO9.out) (bN _ _)) HBT.out (by rw [HTL.out]; exact hown) hgrow)
   have HB10 : Hid (Below W0.heap.size W0 w10) := hid ((bC (bC HBW.out HB9.out) (bN _ _)).grown hgrow (by simp; omega) (fun p hp => (own_in HOA.out hp).1))
   clear hown hgrow
   go_wp2
   go_roundw
   case rel => exact ⟨k + 1, by omega, by go_num, HN.out, HB10.out⟩
   case measure => simp [intOf]; omega
  ·obtain rfl : k = fs.length := by omega
   have hX := HX.out
   rw [List.take_of_length_le (by rw [hdrB_len]; exact Nat.le_refl _)] at hX
   obtain ⟨aX, cX, eX⟩ := hX.len
   subst eX
   have k0 := (HBW.out.block w.heap.size (by omega)).trans HK0.out.1
   have k1 := (HBW.out.block (w.heap.size + 1) (by omega)).trans HK0.out.2
   have p1 := cR wr _ 1 _ _ _ k0
   have c0 := cR wr _ 0 _ _ _ k1
   have c1' := cR wr _ 1 _ _ _ k1
   have c2 := cR wr _ 2 _ _ _ k1
   have c3 := cR wr _ 3 _ _ _ k1
   have f0 := fR wr _ 0 _ _ k1
   have f1 := fR wr _ 1 _ _ k1
   have f2 := fR wr _ 2 _ _ k1
   have f3 := fR wr _ 3 _ _ k1
   simp only [gA, gZ, gU] at p1 c0 c1' c2 c3
   have HX2 := hid hX
   have K1 := hid k1
   have HBA := hid (bC HB0.out HBW.out)
   clear hX k0 k1
   go_wp2
   refine bodyPost_ret (results_cell_row rfl _ _ (w.heap.size + 1) 161 #[.int .i64 1, .int .i64 0, .int .i64 (fs.length : Int), .slice aX (hdrB fs N).length cX] (0, 0) _ rfl (set4 K1.out) Tryz.underlying161 rfl (by kernel_rfl)) rfl ?_
   refine ⟨_, rfl, (HX2.out.kept (fun p e n vs u ho he hp => set4o (fun e' => ?_))).mono (by omega), set4b HBA.out (by omega)⟩
   subst e'
   exact box_farH K1.out ho (by rcases he with rfl | rfl <;> decide) hp
set_option maxHeartbeats 1000000 in
theorem validNext_any (n : Int) (w : World) :
  Calls Tryz.prog 147 #[.int .i64 n] w fun e w' => e = .returned (.bool (decide (0 ≤ n ∧ n ≤ 1000000000))) ∧ w' = w := by
 by_cases h1 : 0 ≤ n
 ·by_cases h2 : n ≤ 1000000000
  ·rw [decide_eq_true ⟨h1, h2⟩]
   go_enter Tryz.func147, Tryz.ntmps147
   go_wp2
   go_ret
   exact ⟨rfl, rfl⟩
  ·rw [decide_eq_false (fun h => h2 h.2)]
   go_enter Tryz.func147, Tryz.ntmps147
   go_wp2
   go_ret
   exact ⟨rfl, rfl⟩
 ·rw [decide_eq_false (fun h => h1 h.1)]
  go_enter Tryz.func147, Tryz.ntmps147
  go_wp2
  go_ret
  exact ⟨rfl, rfl⟩
theorem tot_le_join (xss : List (List Nat)) : tot xss ≤ (join xss).length := by
 have key : ∀ k, k ≤ xss.length → tot (xss.take k) ≤ (join (xss.take k)).length := by
  intro k
  induction k with
  | zero => intro _; simp [tot]
  | succ k ih =>
   intro h
   have h1 := join_next xss k (by omega)
   have h2 := tot_snoc xss k (by omega)
   have h3 := (evn_le xss[k].length).1
   have := ih (by omega)
   omega
 have := key xss.length (Nat.le_refl _)
 rwa [List.take_length] at this
theorem encR_ok {m : PM} (h : msgOK m = true) (hl : (encB m).length ≤ 20000) : encR m = encB m := by unfold encR; rw [if_pos ⟨h, hl⟩]
set_option maxHeartbeats 1000000 in
set_option maxRecDepth 100000 in
theorem app_u32 (B : Nat) (v : Value) (n : Nat) (xs : List Nat) (N : Int) (w : World) (ho : w.ownsRow B 5 1 v n (byt xs)) (hB : B ≤ w.heap.size) (hn : n ≤ 1099511627776) (hN : IntIn N) :
  Calls Tryz.prog 173 #[v, .int .u32 N, .int .i64 4] w fun e w' => ∃ v', e = .returned v' ∧ w'.ownsRow B 5 1 v' (n + 4) (byt (xs ++ digs (U N) 4)) ∧ Below B w w' := by
 obtain ⟨i0, hi, hz0, hz1, hz2⟩ := info_parts infoByteP
 have hU := U_eq N
 have HL := hid (U_lt N)
 have HN' := hid hN
 have HO0 := hid ho
 clear hN ho
 generalize U N = u at *
 go_enter Tryz.func173, Tryz.ntmps173
 go_wp2
 go_loopw [0, 7, 11] (fun o r i wr => ∃ k : Nat, k ≤ 4 ∧ i = .int .i64 k ∧ r = .int .u64 ((u / 256 ^ k : Nat) : Int) ∧ wr.ownsRow B 5 1 o (n + k) (byt (xs ++ (digs u 4).take k)) ∧ Below B w wr) (fun _ _ i _ => 4 - (intOf i).toNat)
 case atStart => exact ⟨0, Nat.zero_le _, rfl, by simp, by simpa using HO0.out, Below.refl _ _⟩
 case round =>
  obtain ⟨k, hk, rfl, rfl, how, hbe⟩ := hrel
  have HO := hid how
  have HB := hid hbe
  clear how hbe hU
  by_cases hlt : k < 4
  ·have HD := hid (digs_snoc u 4 k hlt)
   have HN := hid (div_next u k)
   have HR := hid (div_lt u k HL.out)
   have hBr : B ≤ wr.heap.size := Nat.le_trans hB HB.out.size
   generalize u / 256 ^ k = R at *
   have hki : decide ((k : Int) < 4) = true := by simp; omega
   go_wp2_with (first | (at_builtin; refine wpList_append_own _ rfl _ _ 87 rfl B 5 i0 (.int .u8 0) 1 1 Tryz.underlying87 hi hz0 hz1 hz2 rfl (by decide) _ (n + k) _ rfl (HO.out.alloc _) ⟨wr.heap.size, 0, none⟩ 1 1 [.int .u8 ((R : Int) % 256)] rfl rfl (cell_one_new _ _ _) (one_cell rfl) (by unfold maxLen; omega) (by omega) (by simp; omega) ?_))
   intro v' w1 hown' hgrow _
   have HB1 : Hid (Below B w w1) := hid ((HB.out.alloc hBr _).grown hgrow (by simp; omega) (fun k h => (World.ownsRow.lt HO.out k h).1))
   have HO1 : Hid (w1.ownsRow B 5 1 v' (n + (k + 1)) (byt (xs ++ (digs u 4).take (k + 1)))) := hid (by
    rw [HD.out, ← List.append_assoc, byt_snoc, ← Nat.add_assoc]
    simpa using hown')
   clear hown' hgrow
   go_wp2
   go_roundw
   case rel => exact ⟨k + 1, by omega, by go_num, by rw [← HN.out]; simp, HO1.out, HB1.out⟩
   case measure => simp [intOf]; omega
  ·have hki : decide ((k : Int) < 4) = false := by simp; omega
   have HK : Hid (k = 4) := hid (by omega)
   have hO := HO.out
   rw [HK.out, List.take_of_length_le (by rw [digs_len]; exact Nat.le_refl _)] at hO
   have HO2 := hid hO
   clear hO HO
   go_wp2
   go_ret
   exact ⟨_, rfl, HO2.out, HB.out⟩
def u32s (xs : List Nat) : List Value := xs.map fun x : Nat => Value.int .u32 (x : Int)
def crcTab : List Nat := (List.range 256).map (csteps 8)
theorem crcTab_len : (u32s crcTab).length = 256 := by simp [u32s, crcTab]
theorem crcTab_at (k : Nat) (h : k < 256) : (u32s crcTab)[k]? = some (.int .u32 ((csteps 8 k : Nat) : Int)) := by simp [u32s, crcTab, h]
theorem u32s_one (xs : List Nat) : (u32s xs).toArray.all (·.oneCell') = true := by
 rw [Array.all_eq_true_iff_forall_mem]
 intro v hv
 simp [u32s] at hv
 obtain ⟨x, _, rfl⟩ := hv
 rfl
theorem infoTab : (Tryz.prog.info? 199).map (fun i => (i.zero, i.size)) = some (some (.agg (Array.replicate 256 (.int .u32 0))), 256) := by kernel_rfl
theorem zeroTab : ∃ Z : List Value, Z.length = 256 ∧ (∀ w, (zeroValue 199).run Tryz.prog w = .ok (.agg Z.toArray) w) :=
 ⟨(Array.replicate 256 (.int .u32 0)).toList, by rw [Array.length_toList, Array.size_replicate], fun w => by rw [Array.toArray_toList]; exact (zero_of_info infoTab).1 w⟩
theorem sizeTab (vs : List Value) (h : vs.length = 256) : (Tryz.prog.info? 199).map (·.size) = some vs.toArray.size := by
 rw [(zero_of_info infoTab).2]; simp [h]
theorem own_block {w : World} {B g : Nat} {e : TypeId} {vs : List Value} (hg : B ≤ g) (hh : w.heap[g]? = some (.cells vs.toArray e (0, 0))) (hl : vs.length ≤ maxLen) : w.ownsRow B e 1 (.slice (some ⟨g, 0, none⟩) vs.length vs.length) vs.length vs :=
 ⟨by omega, .inr ⟨g, vs.length, vs.toArray, rfl, hg, hh, Nat.le_refl _, hl, by simp, by simp⟩⟩
theorem block_own {w : World} {B g n : Nat} {e : TypeId} {vs : List Value} (h : w.ownsRow B e 1 (.slice (some ⟨g, 0, none⟩) n n) n vs) : w.heap[g]? = some (.cells vs.toArray e (0, 0)) := by
 rcases h.2 with ⟨h', _⟩ | ⟨g', cap', cur, h', _, hg, _, _, hs, ht⟩
 ·simp at h'
 ·simp only [Value.slice.injEq, Option.some.injEq, Addr.mk.injEq, and_true, true_and] at h'
  obtain ⟨rfl, rfl⟩ := h'
  rw [hg]
  have : cur.toList = vs := by rw [← ht, List.take_of_length_le (by simp; omega)]
  rw [← this]
set_option maxHeartbeats 800000 in
set_option maxRecDepth 100000 in
theorem crcTable_any (w : World) :
  Calls Tryz.prog 181 #[] w fun e w' => e = .returned (.agg (u32s crcTab).toArray) ∧ Below w.heap.size w w' := by
 obtain ⟨Z, hZ, hzv⟩ := zeroTab
 go_enter Tryz.func181, Tryz.ntmps181
 go_wp2
 clear hzv
 have hs0 : ((w.alloc (.cells Z.toArray 199)).alloc (.cells Z.toArray 199)).heap[w.heap.size]? = some (.cells Z.toArray 199 (0, 0)) := heap_alloc2_old _ _ _
 have hs1 : ((w.alloc (.cells Z.toArray 199)).alloc (.cells Z.toArray 199)).heap[w.heap.size + 1]? = some (.cells Z.toArray 199 (0, 0)) := heap_alloc2_new _ _ _
 have hb0 : Below w.heap.size w ((w.alloc (.cells Z.toArray 199)).alloc (.cells Z.toArray 199)) := ((Below.refl _ _).alloc (Nat.le_refl _) _).alloc (by simp) _
 go_loopw [4] (fun i wr => ∃ k : Nat, k ≤ 256 ∧ i = .int .i64 k ∧ wr.ownsRow (w.heap.size + 1) 199 1 (.slice (some ⟨w.heap.size + 1, 0, none⟩) 256 256) 256 ((u32s crcTab).take k ++ Z.drop k) ∧ wr.heap[w.heap.size]? = some (.cells Z.toArray 199 (0, 0)) ∧ Below w.heap.size w wr) (fun i _ => 256 - (intOf i).toNat)
 case atStart =>
  refine ⟨0, Nat.zero_le _, rfl, ?_, hs0, hb0⟩
  have := own_block (B := w.heap.size + 1) (Nat.le_refl _) hs1 (by rw [hZ]; decide)
  rw [hZ] at this
  simpa using this
 case round =>
  obtain ⟨k, hk, rfl, how, h0, hbe⟩ := hrel
  clear hs0 hs1 hb0
  have HO := hid how
  have H0 := hid h0
  have HB := hid hbe
  have HZ := hid hZ
  clear how h0 hbe hZ
  by_cases hlt : k < 256
  ·have hki : decide ((k : Int) < 256) = true := by simp; omega
   go_wp2
   go_loop [3, 9] (fun h i => ∃ j : Nat, j ≤ 8 ∧ i = .int .i64 j ∧ h = .int .u32 ((csteps j k : Nat) : Int)) (fun _ i => 8 - (intOf i).toNat)
   case atStart => exact ⟨0, Nat.zero_le _, rfl, rfl⟩
   case round =>
    obtain ⟨j, hj, rfl, rfl⟩ := hrel
    have hsl := csteps_lt j (h := k) (by omega)
    have HJ : Hid (csteps (j + 1) k = cstep (csteps j k)) := rfl
    by_cases hj8 : j < 8
    ·generalize csteps j k = s at *
     by_cases hod : s % 2 = 1
     ·have ht : ((s : Int) % 2 == 1) = true := by simp; omega
      have HX : Hid (bits .xor .u32 ((s : Int) / 2) 3988292384 = ((cstep s : Nat) : Int)) := xor_odd hsl hod
      clear hod
      go_wp2
      go_round
      case rel => exact ⟨j + 1, by omega, by go_num, by rw [HJ.out, ← HX.out]⟩
      case measure => simp [intOf]; omega
     ·have ht : ((s : Int) % 2 == 1) = false := by simp; omega
      have HX : Hid (((s : Int) / 2) = ((cstep s : Nat) : Int)) := hid (by rw [cstep_not hod]; simp)
      clear hod
      go_wp2
      go_round
      case rel => exact ⟨j + 1, by omega, by go_num, by rw [HJ.out, ← HX.out]⟩
      case measure => simp [intOf]; omega
    ·obtain rfl : j = 8 := by omega
     have hfz := HO.out.frozenAt k
     obtain ⟨o, hco⟩ := own_cell HO.out hlt
     have hR := hid (fill_round crcTab_len HZ.out (crcTab_at k hlt) (Nat.le_refl _) HO.out (Below.refl (w.heap.size + 1) wr))
     have hR0 : Hid ((wr.setCell ⟨w.heap.size + 1, k, none⟩ (.int .u32 ((csteps 8 k : Nat) : Int))).heap[w.heap.size]? = some (.cells Z.toArray 199 (0, 0))) := hid ((Below.heap_setCell wr _ _ w.heap.size (by simp)).trans H0.out)
     generalize csteps 8 k = s8 at *
     go_wp2
     go_roundw
     case rel => exact ⟨k + 1, by omega, by go_num, hR.out.1, hR0.out, HB.out.setCell (by simp) _⟩
     case measure => simp [intOf]; omega
  ·have hki : decide ((k : Int) < 256) = false := by simp; omega
   have HK : Hid (k = 256) := hid (by omega)
   have hD := HO.out
   rw [HK.out, fill_done crcTab_len HZ.out] at hD
   have hD' := block_own hD
   clear HO hD
   have hT := sizeTab _ crcTab_len
   have hS : (u32s crcTab).toArray.size = 256 := by rw [List.size_toArray, crcTab_len]
   have HT : Hid ((u32s crcTab).toArray.all (·.oneCell') = true) := hid (u32s_one _)
   generalize hTE : (u32s crcTab).toArray = T at *
   have HE := hid hTE
   clear hTE
   have HS := hid hS
   have HI := hid hT
   clear hS hT
   go_wp2_with (first | (refine wpList_load_row rfl 199 _ rfl (w.heap.size + 1) rfl 199 _ (0, 0) _ hD' Tryz.underlying199 rfl HI.out ?_) | (refine wpList_store_row rfl 199 _ _ rfl w.heap.size T rfl rfl 199 Z.toArray H0.out HI.out (by rw [HS.out, List.size_toArray]; exact HZ.out) HT.out ?_))
   refine bodyPost_ret (v := .agg T) (results_cell_row Tryz.results181 _ _ w.heap.size 199 T (0, 0) _ rfl (setRow_heap wr w.heap.size Z.toArray T 199 (0, 0) H0.out) Tryz.underlying199 rfl HI.out) rfl ⟨by rw [HE.out], ?_⟩
   exact below_setRow HB.out (Nat.le_refl _) T
end Go.Proofs.YtfaehioeepolhabGreat
