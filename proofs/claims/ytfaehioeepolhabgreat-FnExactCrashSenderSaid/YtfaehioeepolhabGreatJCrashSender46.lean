import Derived.Test.YtfaehioeepolhabGreatJCrashSender20
import Derived.Test.YtfaehioeepolhabGreatJCrashSender4
import Derived.Test.YtfaehioeepolhabGreatJCrashSender35
import Derived.Test.YtfaehioeepolhabGreatJCrashSender7
import Derived.Test.YtfaehioeepolhabGreatJCrashSender17
import Derived.Test.YtfaehioeepolhabGreatJCrashSender6
import Derived.Deep.DeepCutAuto
namespace Go.Proofs.YtfaehioeepolhabGreat
open Go.RowKit
set_option maxHeartbeats 2000000 in
theorem copyTx_any (a : Option Addr) (cap : Nat) (xs : List (List Nat)) (w : World) (hr : RdSl cSS w xs (.slice a xs.length cap)) (ht : totL List.length xs ≤ 1048576) :
  Calls Tryz.prog 128 #[.slice a xs.length cap] w fun e w' => ∃ v bs, e = .returned v ∧ OwnSl cSS 87 w' xs v bs ∧ (∀ b ∈ bs, w.heap.size ≤ b) ∧ bs.Nodup ∧ Below w.heap.size w w' := by
 obtain ⟨i0, hi, hz0, hz1, hz2⟩ := info_parts infoSlT
 have HR := hid hr
 clear hr
 have hlen : xs.length ≤ 1048576 := by unfold totL at ht; omega
 go_enter Tryz.func128, Tryz.ntmps128
 go_wp2_with (first | (at_make; refine wpList_make_full _ rfl (.tmp 7) (.tmp 7) 103 rfl w.heap.size 87 i0 (.slice none 0 0) 1 Tryz.underlying103 hi hz0 hz1 .i64 .i64 _ _ xs.length rfl rfl rfl rfl (by rw [hz2]; omega) (by unfold maxLen; omega) (by simp) ?_))
 intro w1 ho hg1
 have HB1 : Hid (Below w.heap.size w w1) := hid ((Below.refl _ w).grown hg1 (Nat.le_refl _) (by intro k h; cases h))
 have HM : Hid (Made1 cSS 87 w w1 xs 0) := hid ⟨_, [], ho, rfl, fun i h h2 => by simp at h2, by simp, by simp⟩
 clear hg1 hi hz0 hz1 hz2 ho
 go_wp2
 go_loopw [4, 5, 11] (fun _ _ i wr => ∃ k : Nat, k ≤ xs.length ∧ i = .int .i64 k ∧ Made1 cSS 87 w wr xs k ∧ Below w.heap.size w wr) (fun _ _ i _ => xs.length - (intOf i).toNat)
 case atStart => exact ⟨0, Nat.zero_le _, rfl, HM.out, HB1.out⟩
 case round =>
  obtain ⟨k, hk, rfl, hm, hbe⟩ := hrel
  have HV := hid hm
  have HB := hid hbe
  clear hm hbe
  by_cases hlt : k < xs.length
  ·obtain ⟨b, off, a', c', rfl, hcb, hrr⟩ := (HR.out.later HB.out).row hlt
   have HRR := hid hrr
   have HBY := hid hrr.rdB.2
   have hki : (k : Int) < (xs.length : Int) := by omega
   clear hrr
   go_wp2_with fail
   refine (bclone_any a' c' xs[k] wr HRR.out (by have := tot_at List.length xs k hlt; unfold totL at ht; omega)).mono ?_
   rintro e w2 ⟨v2, rfl, o2, b2⟩
   obtain ⟨a2, c2, rfl, -⟩ := rd_own o2
   have hg2 : ∀ b ∈ (Value.slice a2 xs[k].length c2).ownBlock.toList, wr.heap.size ≤ b := fun b hb => (own_in o2 (by simpa using hb)).1
   have HN : Hid (Made1 cSS 87 w (w2.setCell ⟨w.heap.size, k, none⟩ (.slice a2 xs[k].length c2)) xs (k + 1)) := hid (HV.out.step hlt b2 ⟨_, rfl, ownSl_bytes o2 HBY.out⟩ hg2 (by cases (Value.slice a2 xs[k].length c2).ownBlock <;> simp))
   have HBB : Hid (Below w.heap.size w (w2.setCell ⟨w.heap.size, k, none⟩ (.slice a2 xs[k].length c2))) := hid ((HB.out.trans (b2.mono HB.out.size)).setCell (p := ⟨w.heap.size, k, none⟩) (Nat.le_refl _) _)
   obtain ⟨vs, hvl, how2⟩ := HV.out.row b2
   have f0 := how2.frozenAt k
   have q0 := how2.cellAt k (by omega)
   rw [List.getElem?_eq_getElem (by omega)] at q0
   generalize vs[k] = y0 at q0
   clear o2 b2 how2 hvl hg2
   go_wp2
   go_roundw
   case rel => exact ⟨k + 1, by omega, by go_num, HN.out, HBB.out⟩
   case measure => simp [intOf]; omega
  ·obtain rfl : k = xs.length := by omega
   obtain ⟨bs, h1, h2, h3⟩ := HV.out.done rfl
   have HF := hid h1
   clear h1
   go_wp2
   go_ret
   exact ⟨_, bs, rfl, HF.out, h2, h3, HB.out⟩
theorem ownF_kept {w w' : World} {fs : List PF} {v : Value} {bs : List Nat} (h : OwnSl cField 101 w fs v bs) (hb : Below w.heap.size w w') : OwnSl cField 101 w' fs v bs := h.kept (fun b hm => hb.block b (h.lt b hm))
def fcFldS (lo : Nat) (fs : List PF) : Fct := ⟨fun v w => ∃ bk, OwnSl cField 101 w fs v bk ∧ (∀ b ∈ bk, lo ≤ b) ∧ bk.Nodup, fun _ _ _ ⟨bk, h1, h2, h3⟩ hb => ⟨bk, ownF_kept h1 hb, h2, h3⟩⟩
def fcAggS (lo : Nat) (o : Bool) (x : Int) (hv : Value) (fs : List PF) : Fct := ⟨fun v w => ∃ a c bk, v = .agg #[.bool o, .slice a fs.length c, .int .i64 x, hv] ∧ OwnSl cField 101 w fs (.slice a fs.length c) bk ∧ (∀ b ∈ bk, lo ≤ b) ∧ bk.Nodup, fun _ _ _ ⟨a, c, bk, e, h1, h2, h3⟩ hb => ⟨a, c, bk, e, ownF_kept h1 hb, h2, h3⟩⟩
def fcBoxS (W : World) (lo gR : Nat) (o : Bool) (x : Int) (hv : Value) (fs : List PF) : Fct := ⟨fun _ w => W.heap.size ≤ w.heap.size ∧ (∀ k, k ≠ gR → k < W.heap.size → w.heap[k]? = W.heap[k]?) ∧ ∃ a c bk, w.heap[gR]? = some (.cells #[.bool o, .slice a fs.length c, .int .i64 x, hv] 43 (0, 0)) ∧ OwnSl cField 101 w fs (.slice a fs.length c) bk ∧ (∀ b ∈ bk, lo ≤ b) ∧ bk.Nodup, fun _ _ _ ⟨h0, hk, a, c, bk, e, h1, h2, h3⟩ hb => ⟨Nat.le_trans h0 hb.size, fun k h1 h2 => (hb.block k (Nat.lt_of_lt_of_le h2 h0)).trans (hk k h1 h2), a, c, bk, (hb.block _ (Array.getElem?_eq_some_iff.1 e).1).trans e, ownF_kept h1 hb, h2, h3⟩⟩
set_option linter.unusedVariables false in
def cyT (W : World) (lo gO gR : Nat) (o : Bool) (x : Int) (hv fv : Value) (fs : List PF) : Nat → FX
 | 0 => FX.eq (.pointer (some ⟨gO, 0, none⟩))
 | 1 => FX.eq (.bool o)
 | 2 => FX.eq (.pointer (some ⟨gO, 1, none⟩))
 | 3 => FX.eq (fv)
 | 4 => FX.pre [9] (fcFldS lo fs)
 | 5 => FX.eq (.pointer (some ⟨gO, 2, none⟩))
 | 6 => FX.eq (.int .i64 x)
 | 7 => FX.eq (hv)
 | 8 => FX.pre [9] (fcAggS lo o x hv fs)
 | 9 => FX.is (fcBoxS W lo gR o x hv fs)
 | _ => FX.eq undef
set_option maxRecDepth 100000 in
set_option maxHeartbeats 8000000 in
theorem copyStream_any (s : PStr) (a b : Option Addr) (c d : Nat) (w : World) (hr : RdStr w s a c b d) (htf : totL (fun f : PF => f.name.length) s.fields ≤ 1048576) (htd : totL tS s.dicts ≤ 1048576) :
  Calls Tryz.prog 88 #[.agg #[.bool s.opened, .slice a s.fields.length c, .int .i64 s.next, .slice b s.dicts.length d]] w fun e w' => ∃ a' c' b' d' bs ds, e = .returned (.agg #[.bool s.opened, .slice a' s.fields.length c', .int .i64 s.next, .slice b' s.dicts.length d']) ∧ OwnStr w' s a' c' b' d' bs ds ∧ (∀ x ∈ bs ++ ds, w.heap.size ≤ x) ∧ (bs ++ ds).Nodup ∧ Below w.heap.size w w' := by
 obtain ⟨i0, hi0, hz0, hz1, hz2⟩ := info_parts infoSl3
 have HR := hid hr
 have HRF := hid hr.f
 clear hr
 have hlen : s.dicts.length ≤ 1048576 := by unfold totL at htd; omega
 have HAT : Hid (∀ k, (h : k < s.dicts.length) → totL List.length s.dicts[k] ≤ 1048576) := hid (fun k h => by have h1 := tot_at tS s.dicts k h; unfold totL at htd; have h2 : tS s.dicts[k] = totL List.length s.dicts[k] := rfl; omega)
 have HK0 : Hid (((w.alloc (.cells #[.bool s.opened, .slice a s.fields.length c, .int .i64 s.next, .slice b s.dicts.length d] 43)).alloc (.cells #[.bool false, .slice none 0 0, .int .i64 0, .slice none 0 0] 43)).heap[w.heap.size]? = some (.cells #[.bool s.opened, .slice a s.fields.length c, .int .i64 s.next, .slice b s.dicts.length d] 43 (0, 0))) := hid (heap2 _ _ (Below.refl _ _)).1
 have HK1 : Hid (((w.alloc (.cells #[.bool s.opened, .slice a s.fields.length c, .int .i64 s.next, .slice b s.dicts.length d] 43)).alloc (.cells #[.bool false, .slice none 0 0, .int .i64 0, .slice none 0 0] 43)).heap[w.heap.size + 1]? = some (.cells #[.bool false, .slice none 0 0, .int .i64 0, .slice none 0 0] 43 (0, 0))) := hid (heap2 _ _ (Below.refl _ _)).2
 have HB0 := hid (below_new2 w (.cells #[.bool s.opened, .slice a s.fields.length c, .int .i64 s.next, .slice b s.dicts.length d] 43) (.cells #[.bool false, .slice none 0 0, .int .i64 0, .slice none 0 0] 43))
 have HSZ := hid (size2 w (.cells #[.bool s.opened, .slice a s.fields.length c, .int .i64 s.next, .slice b s.dicts.length d] 43) (.cells #[.bool false, .slice none 0 0, .int .i64 0, .slice none 0 0] 43))
 go_enter Tryz.func88, Tryz.ntmps88
 go_upto_region 1 with fail
 generalize ((w.alloc (.cells #[.bool s.opened, .slice a s.fields.length c, .int .i64 s.next, .slice b s.dicts.length d] 43)).alloc (.cells #[.bool false, .slice none 0 0, .int .i64 0, .slice none 0 0] 43)) = W1 at *
 have c02 := cR _ _ 3 _ _ _ HK0.out
 simp only [gA, gZ, gU] at c02
 have HR1 := hid (HR.out.t.later HB0.out)
 go_wp2_with (first | (at_make; refine wpList_make_full _ rfl (.tmp 8) (.tmp 8) 27 rfl W1.heap.size 103 i0 (.slice none 0 0) 1 Tryz.underlying27 hi0 hz0 hz1 .i64 .i64 _ _ s.dicts.length rfl rfl rfl rfl (by rw [hz2]; omega) (by unfold maxLen; omega) (by simp) ?_))
 intro w1 ho hg1
 have HB1 : Hid (Below W1.heap.size W1 w1) := hid ((Below.refl _ W1).grown hg1 (Nat.le_refl _) (by intro k h; cases h))
 have HM : Hid (Made1 cSSS 103 W1 w1 s.dicts 0) := hid ⟨_, [], ho, rfl, fun i h h2 => by simp at h2, by simp, by simp⟩
 have c02' := (HB1.out.cell (World.block_lt_of_cell? _ _ c02)).trans c02
 clear hg1 hi0 hz0 hz1 hz2 ho c02
 go_wp2
 go_loopw [4, 5, 13] (fun _ _ i wr => ∃ k : Nat, k ≤ s.dicts.length ∧ i = .int .i64 k ∧ Made1 cSSS 103 W1 wr s.dicts k ∧ Below W1.heap.size W1 wr) (fun _ _ i _ => s.dicts.length - (intOf i).toNat)
 case atStart => exact ⟨0, Nat.zero_le _, rfl, HM.out, HB1.out⟩
 case round =>
  obtain ⟨k, hk, rfl, hm, hbe⟩ := hrel
  have HV := hid hm
  have HBV := hid hbe
  clear hm hbe c02'
  by_cases hlt : k < s.dicts.length
  ·obtain ⟨bb, off, ax, cx, rfl, hcb, hrr⟩ := (HR1.out.later HBV.out).row3 hlt
   have HRR := hid hrr
   have hki : (k : Int) < (s.dicts.length : Int) := by omega
   clear hrr
   go_wp2_with fail
   refine (copyTx_any ax cx s.dicts[k] wr HRR.out (HAT.out k hlt)).mono ?_
   rintro e w2 ⟨v2, bk, rfl, o2, l2, n2, b2⟩
   have hz2 := b2
   have HN := hid (HV.out.step hlt hz2 ⟨_, rfl, o2⟩ l2 n2)
   have HS3 := hid ((bC HBV.out b2).setCell (p := ⟨W1.heap.size, k, none⟩) (Nat.le_refl _) v2)
   obtain ⟨vs, hvl, how2⟩ := HV.out.row hz2
   have f0 := how2.frozenAt k
   have q0 := how2.cellAt k (by omega)
   rw [List.getElem?_eq_getElem (by omega)] at q0
   generalize vs[k] = y0 at q0
   obtain ⟨a2, c2, rfl, -⟩ := id o2.rd
   clear o2 l2 n2 b2 how2 hvl hz2
   go_wp2
   go_roundw
   case rel => exact ⟨k + 1, by omega, by go_num, HN.out, HS3.out⟩
   case measure => simp [intOf]; omega
  ·obtain rfl : k = s.dicts.length := by omega
   obtain ⟨bs, h1, h2, h3⟩ := HV.out.done rfl
   have HF := hid h1
   have HL := hid h2
   have HND := hid h3
   have hsw := HBV.out.size
   have hs1 := HSZ.out
   have HBW := hid (bC HB0.out HBV.out)
   have k0 := hid ((HBV.out.block _ (show w.heap.size < W1.heap.size by omega)).trans HK0.out)
   have k1 := hid ((HBV.out.block _ (show w.heap.size + 1 < W1.heap.size by omega)).trans HK1.out)
   have c00 := cR wr _ 0 _ _ _ k0.out
   have c01 := cR wr _ 1 _ _ _ k0.out
   have c02 := cR wr _ 2 _ _ _ k0.out
   simp only [gA, gZ, gU] at c00 c01 c02
   clear h1 h2 h3
   have HG1 : Hid (w.heap.size + 1 < wr.heap.size) := hid (by omega)
   have HS1 := hid hs1
   clear hs1
   go_upto_region 7 with fail
   refine region_turns (n := 10) (by kernel_rfl) (by kernel_rfl) ?_ (fun t => { tmps := #[.agg #[.bool s.opened, .slice a s.fields.length c, .int .i64 s.next, .slice b s.dicts.length d], .pointer (some ⟨w.heap.size, 0, none⟩), .pointer (some ⟨w.heap.size + 1, 0, none⟩), .slice (some ⟨W1.heap.size, 0, none⟩) s.dicts.length s.dicts.length, u4, u5, .pointer (some ⟨w.heap.size, 3, none⟩), .slice b s.dicts.length d, .int .i64 ((s.dicts.length : Nat) : Int), .slice (some ⟨W1.heap.size, 0, none⟩) s.dicts.length s.dicts.length, .pointer (some ⟨w.heap.size, 3, none⟩), .slice b s.dicts.length d, .int .i64 ((s.dicts.length : Nat) : Int), .int .i64 ((s.dicts.length : Nat) : Int), .bool false, u15, u16, u17, u18, u19, u20, u21, u22, u23, t 0, t 1, t 2, t 3, t 4, t 5, t 6, t 7, t 8], defers := [] }) (cyT wr wr.heap.size w.heap.size (w.heap.size + 1) s.opened s.next (.slice (some ⟨W1.heap.size, 0, none⟩) s.dicts.length s.dicts.length) (.slice a s.fields.length c) s.fields) [9] (fcSameL wr) w wr (fun k => if k = 4 then [9] else if k = 8 then [9] else []) (fun k => !(k == 4 || k == 8 || k == 9)) (by kernel_rfl) (fun j hj => by rcases (by omega : j = 0 ∨ j = 1 ∨ j = 2 ∨ j = 3 ∨ j = 4 ∨ j = 5 ∨ j = 6 ∨ j = 7 ∨ j = 8 ∨ j = 9) with rfl | rfl | rfl | rfl | rfl | rfl | rfl | rfl | rfl | rfl <;> rfl) (fun j hj hp => by rcases (by omega : j = 0 ∨ j = 1 ∨ j = 2 ∨ j = 3 ∨ j = 4 ∨ j = 5 ∨ j = 6 ∨ j = 7 ∨ j = 8 ∨ j = 9) with rfl | rfl | rfl | rfl | rfl | rfl | rfl | rfl | rfl | rfl <;> first | rfl | (exact absurd hp (by decide))) (fun j => ([undef, undef, undef, undef, undef, undef, undef, undef, undef, undef] : List Value).getD j undef) HBW.out (Below.refl _ _) ?_ ?_
   ·rfl
   ·intro i hi x t wx hxi hsh h0 hbx hgx hdp hall
    rcases (by omega : i = 0 ∨ i = 1 ∨ i = 2 ∨ i = 3 ∨ i = 4 ∨ i = 5 ∨ i = 6 ∨ i = 7 ∨ i = 8 ∨ i = 9) with rfl | rfl | rfl | rfl | rfl | rfl | rfl | rfl | rfl | rfl
    ·
     try dsimp only
     clear h0
     refine wpOp_step rfl (fun K' hK => ?_)
     go_simp
     exact hK _ _ ⟨.pointer (some ⟨w.heap.size, 0, none⟩), (by simp [upd]), FX.eq_mk rfl, fun _ => Below.refl _ _, hbx⟩
    ·
     try dsimp only
     have x0 := depX hdp 0 (by kernel_rfl)
     have d0 := hall 0 (by omega) x0
     have e0 : t 0 = .pointer (some ⟨w.heap.size, 0, none⟩) := d0.1
     rw [e0]
     have y9 := notYet hsh hxi 9 (by kernel_rfl)
     have hz : Below wr.heap.size wr wx := hgx (by simp [y9])
     have c00 := (hz.cell (World.block_lt_of_cell? _ _ c00)).trans c00
     clear y9 hz
     clear h0
     refine wpOp_step rfl (fun K' hK => ?_)
     go_simp
     exact hK _ _ ⟨.bool s.opened, (by simp [upd, e0]), FX.eq_mk rfl, fun _ => Below.refl _ _, hbx⟩
    ·
     try dsimp only
     clear h0
     refine wpOp_step rfl (fun K' hK => ?_)
     go_simp
     exact hK _ _ ⟨.pointer (some ⟨w.heap.size, 1, none⟩), (by simp [upd]), FX.eq_mk rfl, fun _ => Below.refl _ _, hbx⟩
    ·
     try dsimp only
     have x2 := depX hdp 2 (by kernel_rfl)
     have d2 := hall 2 (by omega) x2
     have e2 : t 2 = .pointer (some ⟨w.heap.size, 1, none⟩) := d2.1
     rw [e2]
     have y9 := notYet hsh hxi 9 (by kernel_rfl)
     have hz : Below wr.heap.size wr wx := hgx (by simp [y9])
     have c01 := (hz.cell (World.block_lt_of_cell? _ _ c01)).trans c01
     clear y9 hz
     clear h0
     refine wpOp_step rfl (fun K' hK => ?_)
     go_simp
     exact hK _ _ ⟨.slice a s.fields.length c, (by simp [upd, e2]), FX.eq_mk rfl, fun _ => Below.refl _ _, hbx⟩
    ·
     try dsimp only
     have x3 := depX hdp 3 (by kernel_rfl)
     have d3 := hall 3 (by omega) x3
     have e3 : t 3 = .slice a s.fields.length c := d3.1
     rw [e3]
     have y9 := notYet hsh hxi 9 (by kernel_rfl)
     have hz : Below wr.heap.size wr wx := hgx (by simp [y9])
     have hsz := hz.size
     clear h0
     refine wpOp_step rfl (fun K' hK => ?_)
     go_simp
     refine (copyFields_any a c s.fields wx ((HRF.out.later HBW.out).later hz) htf).mono ?_
     rintro e w2 ⟨v2, bk, rfl, o2, l2, n2, b2⟩
     exact hK _ _ ⟨v2, (by simp [upd, e3]), FX.pre_mk ⟨bk, o2, fun x hx => Nat.le_trans hsz (l2 x hx), n2⟩, fun _ => b2, bC hbx b2⟩
    ·
     try dsimp only
     clear h0
     refine wpOp_step rfl (fun K' hK => ?_)
     go_simp
     exact hK _ _ ⟨.pointer (some ⟨w.heap.size, 2, none⟩), (by simp [upd]), FX.eq_mk rfl, fun _ => Below.refl _ _, hbx⟩
    ·
     try dsimp only
     have x5 := depX hdp 5 (by kernel_rfl)
     have d5 := hall 5 (by omega) x5
     have e5 : t 5 = .pointer (some ⟨w.heap.size, 2, none⟩) := d5.1
     rw [e5]
     have y9 := notYet hsh hxi 9 (by kernel_rfl)
     have hz : Below wr.heap.size wr wx := hgx (by simp [y9])
     have c02 := (hz.cell (World.block_lt_of_cell? _ _ c02)).trans c02
     clear y9 hz
     clear h0
     refine wpOp_step rfl (fun K' hK => ?_)
     go_simp
     exact hK _ _ ⟨.int .i64 s.next, (by simp [upd, e5]), FX.eq_mk rfl, fun _ => Below.refl _ _, hbx⟩
    ·
     try dsimp only
     clear h0
     refine wpOp_step rfl (fun K' hK => ?_)
     go_simp
     exact hK _ _ ⟨.slice (some ⟨W1.heap.size, 0, none⟩) s.dicts.length s.dicts.length, (by simp [upd]), FX.eq_mk rfl, fun _ => Below.refl _ _, hbx⟩
    ·
     try dsimp only
     have x1 := depX hdp 1 (by kernel_rfl)
     have d1 := hall 1 (by omega) x1
     have e1 : t 1 = .bool s.opened := d1.1
     have x4 := depX hdp 4 (by kernel_rfl)
     have d4 := hall 4 (by omega) x4
     have x6 := depX hdp 6 (by kernel_rfl)
     have d6 := hall 6 (by omega) x6
     have e6 : t 6 = .int .i64 s.next := d6.1
     have x7 := depX hdp 7 (by kernel_rfl)
     have d7 := hall 7 (by omega) x7
     have e7 : t 7 = .slice (some ⟨W1.heap.size, 0, none⟩) s.dicts.length s.dicts.length := d7.1
     rw [e1, e6, e7]
     have y9 := notYet hsh hxi 9 (by kernel_rfl)
     obtain ⟨bk, o4, l4, n4⟩ : (fcFldS wr.heap.size s.fields).p (t 4) wx := FX.pre_of d4 y9
     obtain ⟨ad, cd, ed, -⟩ := id o4.rd
     rw [ed] at o4 ⊢
     clear y9
     clear h0
     refine wpOp_step rfl (fun K' hK => ?_)
     go_simp
     exact hK _ _ ⟨.agg #[.bool s.opened, .slice ad s.fields.length cd, .int .i64 s.next, .slice (some ⟨W1.heap.size, 0, none⟩) s.dicts.length s.dicts.length], (by simp [upd, ed, e1, e6, e7]), FX.pre_mk ⟨ad, cd, bk, rfl, o4, l4, n4⟩, fun _ => Below.refl _ _, hbx⟩
    ·
     try dsimp only
     have x8 := depX hdp 8 (by kernel_rfl)
     have d8 := hall 8 (by omega) x8
     obtain ⟨ad, cd, bk, eb, o8, l8, n8⟩ : (fcAggS wr.heap.size s.opened s.next (.slice (some ⟨W1.heap.size, 0, none⟩) s.dicts.length s.dicts.length) s.fields).p (t 8) wx := FX.pre_of d8 hxi
     have hz : Below wr.heap.size wr wx := hgx (by simp [hxi])
     rw [eb]
     have hb1 := (hz.block _ HG1.out).trans k1.out
     have g0 := cR wx _ 0 _ _ _ hb1
     have g1 := cR wx _ 1 _ _ _ hb1
     have g2 := cR wx _ 2 _ _ _ hb1
     have g3 := cR wx _ 3 _ _ _ hb1
     have z0 := fR wx _ 0 _ _ hb1
     have z1 := fR wx _ 1 _ _ hb1
     have z2 := fR wx _ 2 _ _ hb1
     have z3 := fR wx _ 3 _ _ hb1
     simp only [gA, gZ, gU] at g0 g1 g2 g3
     have HB1X := hid hb1
     have HO8 := hid o8
     have HL8 := hid l8
     have HN8 := hid n8
     have HZ := hid hz
     clear hb1 o8 l8 n8 hz
     clear h0
     refine wpOp_step rfl (fun K' hK => ?_)
     go_simp
     exact hK _ _ ⟨undef, (by simp [upd, eb]), FX.is_mk ⟨by simp; exact HZ.out.size, fun k h1 h2 => (set4o h1).trans (HZ.out.block k h2), ad, cd, bk, set4 HB1X.out, HO8.out.kept (fun x hx => set4o (by have := HL8.out x hx; have := HG1.out; omega)), HL8.out, HN8.out⟩, fun h => absurd (by simp) h, set4b hbx (by omega)⟩
   ·intro x t wx hx hbx hall
    obtain ⟨-, hkx, ad, cd, bk, hbx9, ho9, hl9, hn9⟩ : (fcBoxS wr wr.heap.size (w.heap.size + 1) s.opened s.next (.slice (some ⟨W1.heap.size, 0, none⟩) s.dicts.length s.dicts.length) s.fields).p (t 9) wx := FX.is_of (hall 9 (by omega))
    have HBX9 := hid hbx9
    have HO9 := hid ho9
    have HL9 := hid hl9
    have HN9 := hid hn9
    have HKX : Hid (∀ k, W1.heap.size ≤ k → k < wr.heap.size → wx.heap[k]? = wr.heap[k]?) := hid (fun k h1 h2 => hkx k (by have := HS1.out; omega) h2)
    have HBX := hid hbx
    clear hall hbx hbx9 ho9 hl9 hn9 hx hkx
    try dsimp only
    repeat go_step
    refine bodyPost_ret (results_cell_row rfl _ _ (w.heap.size + 1) 43 #[.bool s.opened, .slice ad s.fields.length cd, .int .i64 s.next, .slice (some ⟨W1.heap.size, 0, none⟩) s.dicts.length s.dicts.length] (0, 0) _ rfl HBX9.out Tryz.underlying43 rfl (by kernel_rfl)) rfl ?_
    refine ⟨_, _, _, _, bk, bs, rfl, ⟨HO9.out, HF.out.kept (fun x hx => HKX.out x (by have := HL.out x hx; have := HS1.out; omega) (HF.out.lt x hx))⟩, ?_, ?_, HBX.out⟩
    ·intro x hx
     rcases List.mem_append.1 hx with h | h
     ·have := HL9.out x h; have := HG1.out; omega
     ·have := HL.out x h; have := HS1.out; omega
    ·refine List.nodup_append.2 ⟨HN9.out, HND.out, fun x hx y hy e => ?_⟩
     have := HF.out.lt y hy
     have := HL9.out x hx
     omega
end Go.Proofs.YtfaehioeepolhabGreat
