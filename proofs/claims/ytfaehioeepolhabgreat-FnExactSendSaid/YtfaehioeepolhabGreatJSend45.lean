import Derived.Test.YtfaehioeepolhabGreatJSend32
import Derived.Test.YtfaehioeepolhabGreatJSend44
import Derived.Test.YtfaehioeepolhabGreatJSend7
import Derived.Test.YtfaehioeepolhabGreatJSend18
import Derived.Test.YtfaehioeepolhabGreatJSend6
import Derived.Deep.DeepCutAuto
import Derived.Test.YtfaehioeepolhabGreatJSend10
namespace Go.Proofs.YtfaehioeepolhabGreat
open Go.RowKit
theorem ownF_kept {w w' : World} {fs : List PF} {v : Value} {bs : List Nat} (h : OwnSl cField 101 w fs v bs) (hb : Below w.heap.size w w') : OwnSl cField 101 w' fs v bs := h.kept (fun b hm => hb.block b (h.lt b hm))
def fcFldS (lo : Nat) (fs : List PF) : Fct := ⟨fun v w => ∃ bk, OwnSl cField 101 w fs v bk ∧ (∀ b ∈ bk, lo ≤ b) ∧ bk.Nodup, fun _ _ _ ⟨bk, h1, h2, h3⟩ hb => ⟨bk, ownF_kept h1 hb, h2, h3⟩⟩
def fcAggS (lo : Nat) (o : Bool) (x : Int) (hv : Value) (fs : List PF) : Fct := ⟨fun v w => ∃ a c bk, v = .agg #[.bool o, .slice a fs.length c, .int .i64 x, hv] ∧ OwnSl cField 101 w fs (.slice a fs.length c) bk ∧ (∀ b ∈ bk, lo ≤ b) ∧ bk.Nodup, fun _ _ _ ⟨a, c, bk, e, h1, h2, h3⟩ hb => ⟨a, c, bk, e, ownF_kept h1 hb, h2, h3⟩⟩
def fcBoxS (W : World) (lo gR : Nat) (o : Bool) (x : Int) (hv : Value) (fs : List PF) : Fct := ⟨fun _ w => W.heap.size ≤ w.heap.size ∧ (∀ k, k ≠ gR → k < W.heap.size → w.heap[k]? = W.heap[k]?) ∧ ∃ a c bk, w.heap[gR]? = some (.cells #[.bool o, .slice a fs.length c, .int .i64 x, hv] 43 (0, 0)) ∧ OwnSl cField 101 w fs (.slice a fs.length c) bk ∧ (∀ b ∈ bk, lo ≤ b) ∧ bk.Nodup, fun _ _ _ ⟨h0, hk, a, c, bk, e, h1, h2, h3⟩ hb => ⟨Nat.le_trans h0 hb.size, fun k h1 h2 => (hb.block k (Nat.lt_of_lt_of_le h2 h0)).trans (hk k h1 h2), a, c, bk, (hb.block _ (Array.getElem?_eq_some_iff.1 e).1).trans e, ownF_kept h1 hb, h2, h3⟩⟩
set_option linter.unusedVariables false in
def cyT (W : World) (lo gO gR : Nat) (o : Bool) (x : Int) (hv fv : Value) (fs : List PF) : Nat → FX
  | 0 => FX.eq (.pointer (some ⟨gO, 0, none⟩))
  | 1 => FX.eq (.bool o)
  | 2 => FX.eq (.pointer (some ⟨gO, 1, none⟩))
  | 3 => FX.eq (fv)
  | 4 => FX.pre [9] (fcFldS lo fs)
  | 5 => FX.eq (.pointer (some ⟨gO, 2, none⟩))
  | 6 => FX.eq (.int .i64 x)
  | 7 => FX.eq (hv)
  | 8 => FX.pre [9] (fcAggS lo o x hv fs)
  | 9 => FX.is (fcBoxS W lo gR o x hv fs)
  | _ => FX.eq undef
set_option maxRecDepth 100000 in
set_option maxHeartbeats 8000000 in
theorem copyStream_any (s : PStr) (a b : Option Addr) (c d : Nat) (w : World) (hr : RdStr w s a c b d) (htf : totL (fun f : PF => f.name.length) s.fields ≤ 1048576) (htd : totL tS s.dicts ≤ 1048576) :
    Calls Tryz.prog 88 #[.agg #[.bool s.opened, .slice a s.fields.length c, .int .i64 s.next, .slice b s.dicts.length d]] w fun e w' => ∃ a' c' b' d' bs ds, e = .returned (.agg #[.bool s.opened, .slice a' s.fields.length c', .int .i64 s.next, .slice b' s.dicts.length d']) ∧ OwnStr w' s a' c' b' d' bs ds ∧ (∀ x ∈ bs ++ ds, w.heap.size ≤ x) ∧ (bs ++ ds).Nodup ∧ Below w.heap.size w w' := by
  obtain ⟨i0, hi0, hz0, hz1, hz2⟩ := info_parts infoSl3
  have HR := hid hr
  have HRF := hid hr.f
  clear hr
  have hlen : s.dicts.length ≤ 1048576 := by unfold totL at htd; omega
  have HAT : Hid (∀ k, (h : k < s.dicts.length) → totL List.length s.dicts[k] ≤ 1048576) := hid (fun k h => by have h1 := tot_at tS s.dicts k h; unfold totL at htd; have h2 : tS s.dicts[k] = totL List.length s.dicts[k] := rfl; omega)
  have HK0 : Hid (((w.alloc (.cells #[.bool s.opened, .slice a s.fields.length c, .int .i64 s.next, .slice b s.dicts.length d] 43)).alloc (.cells #[.bool false, .slice none 0 0, .int .i64 0, .slice none 0 0] 43)).heap[w.heap.size]? = some (.cells #[.bool s.opened, .slice a s.fields.length c, .int .i64 s.next, .slice b s.dicts.length d] 43 (0, 0))) := hid (heap2 _ _ (Below.refl _ _)).1
  have HK1 : Hid (((w.alloc (.cells #[.bool s.opened, .slice a s.fields.length c, .int .i64 s.next, .slice b s.dicts.length d] 43)).alloc (.cells #[.bool false, .slice none 0 0, .int .i64 0, .slice none 0 0] 43)).heap[w.heap.size + 1]? = some (.cells #[.bool false, .slice none 0 0, .int .i64 0, .slice none 0 0] 43 (0, 0))) := hid (heap2 _ _ (Below.refl _ _)).2
  have HB0 := hid (below_new2 w (.cells #[.bool s.opened, .slice a s.fields.length c, .int .i64 s.next, .slice b s.dicts.length d] 43) (.cells #[.bool false, .slice none 0 0, .int .i64 0, .slice none 0 0] 43))
  have HSZ := hid (size2 w (.cells #[.bool s.opened, .slice a s.fields.length c, .int .i64 s.next, .slice b s.dicts.length d] 43) (.cells #[.bool false, .slice none 0 0, .int .i64 0, .slice none 0 0] 43))
  go_enter Tryz.func88, Tryz.ntmps88
  go_upto_region 1 with fail
  generalize ((w.alloc (.cells #[.bool s.opened, .slice a s.fields.length c, .int .i64 s.next, .slice b s.dicts.length d] 43)).alloc (.cells #[.bool false, .slice none 0 0, .int .i64 0, .slice none 0 0] 43)) = W1 at *
  have c02 := cell_of_row _ _ 3 _ _ _ HK0.out
  simp only [List.getElem?_toArray, List.getElem?_cons_zero, List.getElem?_cons_succ] at c02
  have HR1 := hid (HR.out.t.later HB0.out)
  go_wp2_with (first | (at_make; refine wpList_make_full _ rfl (.tmp 8) (.tmp 8) 27 rfl W1.heap.size 103 i0 (.slice none 0 0) 1 Tryz.underlying27 hi0 hz0 hz1 .i64 .i64 _ _ s.dicts.length rfl rfl rfl rfl (by rw [hz2]; omega) (by unfold maxLen; omega) (by simp) ?_))
  intro w1 ho hg1
  have HB1 : Hid (Below W1.heap.size W1 w1) := hid ((Below.refl _ W1).grown hg1 (Nat.le_refl _) (by intro k h; cases h))
  have HM : Hid (Made1 cSSS 103 W1 w1 s.dicts 0) := hid ⟨_, [], ho, rfl, fun i h h2 => by simp at h2, by simp, by simp⟩
  have c02' := (HB1.out.cell (World.block_lt_of_cell? _ _ c02)).trans c02
  clear hg1 hi0 hz0 hz1 hz2 ho c02
  go_wp2
  go_loopw [4, 5, 13] (fun _ _ i wr => ∃ k : Nat, k ≤ s.dicts.length ∧ i = .int .i64 k ∧ Made1 cSSS 103 W1 wr s.dicts k ∧ Below W1.heap.size W1 wr) (fun _ _ i _ => s.dicts.length - (intOf i).toNat)
  case atStart => exact ⟨0, Nat.zero_le _, rfl, HM.out, HB1.out⟩
  case round =>
    obtain ⟨k, hk, rfl, hm, hbe⟩ := hrel
    have HV := hid hm
    have HBV := hid hbe
    clear hm hbe c02'
    by_cases hlt : k < s.dicts.length
    · obtain ⟨bb, off, ax, cx, rfl, hcb, hrr⟩ := (HR1.out.later HBV.out).row3 hlt
      have HRR := hid hrr
      have hki : (k : Int) < (s.dicts.length : Int) := by omega
      clear hrr
      go_wp2_with fail
      refine (copyTx_any ax cx s.dicts[k] wr HRR.out (HAT.out k hlt)).mono ?_
      rintro e w2 ⟨v2, bk, rfl, o2, l2, n2, b2⟩
      have hz2 := b2
      have HN := hid (HV.out.step hlt hz2 ⟨_, rfl, o2⟩ l2 n2)
      have HS3 := hid ((below_chain HBV.out b2).setCell (p := ⟨W1.heap.size, k, none⟩) (Nat.le_refl _) v2)
      obtain ⟨vs, hvl, how2⟩ := HV.out.row hz2
      have f0 := how2.frozenAt k
      have q0 := how2.cellAt k (by omega)
      rw [List.getElem?_eq_getElem (by omega)] at q0
      generalize vs[k] = y0 at q0
      obtain ⟨a2, c2, rfl, -⟩ := id o2.rd
      clear o2 l2 n2 b2 how2 hvl hz2
      go_wp2
      go_roundw
      case rel => exact ⟨k + 1, by omega, by go_num, HN.out, HS3.out⟩
      case measure => simp [intOf]; omega
    · obtain rfl : k = s.dicts.length := by omega
      obtain ⟨bs, h1, h2, h3⟩ := HV.out.done rfl
      have HF := hid h1
      have HL := hid h2
      have HND := hid h3
      have hsw := HBV.out.size
      have hs1 := HSZ.out
      have HBW := hid (below_chain HB0.out HBV.out)
      have k0 := hid ((HBV.out.block _ (show w.heap.size < W1.heap.size by omega)).trans HK0.out)
      have k1 := hid ((HBV.out.block _ (show w.heap.size + 1 < W1.heap.size by omega)).trans HK1.out)
      have c00 := cell_of_row wr _ 0 _ _ _ k0.out
      have c01 := cell_of_row wr _ 1 _ _ _ k0.out
      have c02 := cell_of_row wr _ 2 _ _ _ k0.out
      simp only [List.getElem?_toArray, List.getElem?_cons_zero, List.getElem?_cons_succ] at c00 c01 c02
      clear h1 h2 h3
      have HG1 : Hid (w.heap.size + 1 < wr.heap.size) := hid (by omega)
      have HS1 := hid hs1
      clear hs1
      go_upto_region 7 with fail
      refine region_turns (n := 10) (by kernel_rfl) (by kernel_rfl) ?_ (fun t => { tmps := #[.agg #[.bool s.opened, .slice a s.fields.length c, .int .i64 s.next, .slice b s.dicts.length d], .pointer (some ⟨w.heap.size, 0, none⟩), .pointer (some ⟨w.heap.size + 1, 0, none⟩), .slice (some ⟨W1.heap.size, 0, none⟩) s.dicts.length s.dicts.length, u4, u5, .pointer (some ⟨w.heap.size, 3, none⟩), .slice b s.dicts.length d, .int .i64 ((s.dicts.length : Nat) : Int), .slice (some ⟨W1.heap.size, 0, none⟩) s.dicts.length s.dicts.length, .pointer (some ⟨w.heap.size, 3, none⟩), .slice b s.dicts.length d, .int .i64 ((s.dicts.length : Nat) : Int), .int .i64 ((s.dicts.length : Nat) : Int), .bool false, u15, u16, u17, u18, u19, u20, u21, u22, u23, t 0, t 1, t 2, t 3, t 4, t 5, t 6, t 7, t 8], defers := [] }) (cyT wr wr.heap.size w.heap.size (w.heap.size + 1) s.opened s.next (.slice (some ⟨W1.heap.size, 0, none⟩) s.dicts.length s.dicts.length) (.slice a s.fields.length c) s.fields) [9] (fcSameL wr) w wr (fun k => if k = 4 then [9] else if k = 8 then [9] else []) (fun k => !(k == 4 || k == 8 || k == 9)) (by kernel_rfl) (fun j hj => by rcases (by omega : j = 0 ∨ j = 1 ∨ j = 2 ∨ j = 3 ∨ j = 4 ∨ j = 5 ∨ j = 6 ∨ j = 7 ∨ j = 8 ∨ j = 9) with rfl | rfl | rfl | rfl | rfl | rfl | rfl | rfl | rfl | rfl <;> rfl) (fun j hj hp => by rcases (by omega : j = 0 ∨ j = 1 ∨ j = 2 ∨ j = 3 ∨ j = 4 ∨ j = 5 ∨ j = 6 ∨ j = 7 ∨ j = 8 ∨ j = 9) with rfl | rfl | rfl | rfl | rfl | rfl | rfl | rfl | rfl | rfl <;> first | rfl | (exact absurd hp (by decide))) (fun j => ([undef, undef, undef, undef, undef, undef, undef, undef, undef, undef] : List Value).getD j undef) HBW.out (Below.refl _ _) ?_ ?_
      · rfl
      · intro i hi x t wx hxi hsh h0 hbx hgx hdp hall
        rcases (by omega : i = 0 ∨ i = 1 ∨ i = 2 ∨ i = 3 ∨ i = 4 ∨ i = 5 ∨ i = 6 ∨ i = 7 ∨ i = 8 ∨ i = 9) with rfl | rfl | rfl | rfl | rfl | rfl | rfl | rfl | rfl | rfl
        · 
          try dsimp only
          clear h0
          refine wpOp_step rfl (fun K' hK => ?_)
          go_simp
          exact hK _ _ ⟨.pointer (some ⟨w.heap.size, 0, none⟩), (by simp [upd]), FX.eq_mk rfl, fun _ => Below.refl _ _, hbx⟩
        · 
          try dsimp only
          have x0 := depX hdp 0 (by kernel_rfl)
          have d0 := hall 0 (by omega) x0
          have e0 : t 0 = .pointer (some ⟨w.heap.size, 0, none⟩) := d0.1
          rw [e0]
          have y9 := notYet hsh hxi 9 (by kernel_rfl)
          have hz : Below wr.heap.size wr wx := hgx (by simp [y9])
          have c00 := (hz.cell (World.block_lt_of_cell? _ _ c00)).trans c00
          clear y9 hz
          clear h0
          refine wpOp_step rfl (fun K' hK => ?_)
          go_simp
          exact hK _ _ ⟨.bool s.opened, (by simp [upd, e0]), FX.eq_mk rfl, fun _ => Below.refl _ _, hbx⟩
        · 
          try dsimp only
          clear h0
          refine wpOp_step rfl (fun K' hK => ?_)
          go_simp
          exact hK _ _ ⟨.pointer (some ⟨w.heap.size, 1, none⟩), (by simp [upd]), FX.eq_mk rfl, fun _ => Below.refl _ _, hbx⟩
        · 
          try dsimp only
          have x2 := depX hdp 2 (by kernel_rfl)
          have d2 := hall 2 (by omega) x2
          have e2 : t 2 = .pointer (some ⟨w.heap.size, 1, none⟩) := d2.1
          rw [e2]
          have y9 := notYet hsh hxi 9 (by kernel_rfl)
          have hz : Below wr.heap.size wr wx := hgx (by simp [y9])
          have c01 := (hz.cell (World.block_lt_of_cell? _ _ c01)).trans c01
          clear y9 hz
          clear h0
          refine wpOp_step rfl (fun K' hK => ?_)
          go_simp
          exact hK _ _ ⟨.slice a s.fields.length c, (by simp [upd, e2]), FX.eq_mk rfl, fun _ => Below.refl _ _, hbx⟩
        · 
          try dsimp only
          have x3 := depX hdp 3 (by kernel_rfl)
          have d3 := hall 3 (by omega) x3
          have e3 : t 3 = .slice a s.fields.length c := d3.1
          rw [e3]
          have y9 := notYet hsh hxi 9 (by kernel_rfl)
          have hz : Below wr.heap.size wr wx := hgx (by simp [y9])
          have hsz := hz.size
          clear h0
          refine wpOp_step rfl (fun K' hK => ?_)
          go_simp
          refine (copyFields_any a c s.fields wx ((HRF.out.later HBW.out).later hz) htf).mono ?_
          rintro e w2 ⟨v2, bk, rfl, o2, l2, n2, b2⟩
          exact hK _ _ ⟨v2, (by simp [upd, e3]), FX.pre_mk ⟨bk, o2, fun x hx => Nat.le_trans hsz (l2 x hx), n2⟩, fun _ => b2, below_chain hbx b2⟩
        · 
          try dsimp only
          clear h0
          refine wpOp_step rfl (fun K' hK => ?_)
          go_simp
          exact hK _ _ ⟨.pointer (some ⟨w.heap.size, 2, none⟩), (by simp [upd]), FX.eq_mk rfl, fun _ => Below.refl _ _, hbx⟩
        · 
          try dsimp only
          have x5 := depX hdp 5 (by kernel_rfl)
          have d5 := hall 5 (by omega) x5
          have e5 : t 5 = .pointer (some ⟨w.heap.size, 2, none⟩) := d5.1
          rw [e5]
          have y9 := notYet hsh hxi 9 (by kernel_rfl)
          have hz : Below wr.heap.size wr wx := hgx (by simp [y9])
          have c02 := (hz.cell (World.block_lt_of_cell? _ _ c02)).trans c02
          clear y9 hz
          clear h0
          refine wpOp_step rfl (fun K' hK => ?_)
          go_simp
          exact hK _ _ ⟨.int .i64 s.next, (by simp [upd, e5]), FX.eq_mk rfl, fun _ => Below.refl _ _, hbx⟩
        · 
          try dsimp only
          clear h0
          refine wpOp_step rfl (fun K' hK => ?_)
          go_simp
          exact hK _ _ ⟨.slice (some ⟨W1.heap.size, 0, none⟩) s.dicts.length s.dicts.length, (by simp [upd]), FX.eq_mk rfl, fun _ => Below.refl _ _, hbx⟩
        · 
          try dsimp only
          have x1 := depX hdp 1 (by kernel_rfl)
          have d1 := hall 1 (by omega) x1
          have e1 : t 1 = .bool s.opened := d1.1
          have x4 := depX hdp 4 (by kernel_rfl)
          have d4 := hall 4 (by omega) x4
          have x6 := depX hdp 6 (by kernel_rfl)
          have d6 := hall 6 (by omega) x6
          have e6 : t 6 = .int .i64 s.next := d6.1
          have x7 := depX hdp 7 (by kernel_rfl)
          have d7 := hall 7 (by omega) x7
          have e7 : t 7 = .slice (some ⟨W1.heap.size, 0, none⟩) s.dicts.length s.dicts.length := d7.1
          rw [e1, e6, e7]
          have y9 := notYet hsh hxi 9 (by kernel_rfl)
          obtain ⟨bk, o4, l4, n4⟩ : (fcFldS wr.heap.size s.fields).p (t 4) wx := FX.pre_of d4 y9
          obtain ⟨ad, cd, ed, -⟩ := id o4.rd
          rw [ed] at o4 ⊢
          clear y9
          clear h0
          refine wpOp_step rfl (fun K' hK => ?_)
          go_simp
          exact hK _ _ ⟨.agg #[.bool s.opened, .slice ad s.fields.length cd, .int .i64 s.next, .slice (some ⟨W1.heap.size, 0, none⟩) s.dicts.length s.dicts.length], (by simp [upd, ed, e1, e6, e7]), FX.pre_mk ⟨ad, cd, bk, rfl, o4, l4, n4⟩, fun _ => Below.refl _ _, hbx⟩
        · 
          try dsimp only
          have x8 := depX hdp 8 (by kernel_rfl)
          have d8 := hall 8 (by omega) x8
          obtain ⟨ad, cd, bk, eb, o8, l8, n8⟩ : (fcAggS wr.heap.size s.opened s.next (.slice (some ⟨W1.heap.size, 0, none⟩) s.dicts.length s.dicts.length) s.fields).p (t 8) wx := FX.pre_of d8 hxi
          have hz : Below wr.heap.size wr wx := hgx (by simp [hxi])
          rw [eb]
          have hb1 := (hz.block _ HG1.out).trans k1.out
          have g0 := cell_of_row wx _ 0 _ _ _ hb1
          have g1 := cell_of_row wx _ 1 _ _ _ hb1
          have g2 := cell_of_row wx _ 2 _ _ _ hb1
          have g3 := cell_of_row wx _ 3 _ _ _ hb1
          have z0 := frozen_of_row wx _ 0 _ _ hb1
          have z1 := frozen_of_row wx _ 1 _ _ hb1
          have z2 := frozen_of_row wx _ 2 _ _ hb1
          have z3 := frozen_of_row wx _ 3 _ _ hb1
          simp only [List.getElem?_toArray, List.getElem?_cons_zero, List.getElem?_cons_succ] at g0 g1 g2 g3
          have HB1X := hid hb1
          have HO8 := hid o8
          have HL8 := hid l8
          have HN8 := hid n8
          have HZ := hid hz
          clear hb1 o8 l8 n8 hz
          clear h0
          refine wpOp_step rfl (fun K' hK => ?_)
          go_simp
          exact hK _ _ ⟨undef, (by simp [upd, eb]), FX.is_mk ⟨by simp; exact HZ.out.size, fun k h1 h2 => (set4o h1).trans (HZ.out.block k h2), ad, cd, bk, set4 HB1X.out, HO8.out.kept (fun x hx => set4o (by have := HL8.out x hx; have := HG1.out; omega)), HL8.out, HN8.out⟩, fun h => absurd (by simp) h, set4b hbx (by omega)⟩
      · intro x t wx hx hbx hall
        obtain ⟨-, hkx, ad, cd, bk, hbx9, ho9, hl9, hn9⟩ : (fcBoxS wr wr.heap.size (w.heap.size + 1) s.opened s.next (.slice (some ⟨W1.heap.size, 0, none⟩) s.dicts.length s.dicts.length) s.fields).p (t 9) wx := FX.is_of (hall 9 (by omega))
        have HBX9 := hid hbx9
        have HO9 := hid ho9
        have HL9 := hid hl9
        have HN9 := hid hn9
        have HKX : Hid (∀ k, W1.heap.size ≤ k → k < wr.heap.size → wx.heap[k]? = wr.heap[k]?) := hid (fun k h1 h2 => hkx k (by have := HS1.out; omega) h2)
        have HBX := hid hbx
        clear hall hbx hbx9 ho9 hl9 hn9 hx hkx
        try dsimp only
        repeat go_step
        refine bodyPost_ret (results_cell_row rfl _ _ (w.heap.size + 1) 43 #[.bool s.opened, .slice ad s.fields.length cd, .int .i64 s.next, .slice (some ⟨W1.heap.size, 0, none⟩) s.dicts.length s.dicts.length] (0, 0) _ rfl HBX9.out Tryz.underlying43 rfl (by kernel_rfl)) rfl ?_
        refine ⟨_, _, _, _, bk, bs, rfl, ⟨HO9.out, HF.out.kept (fun x hx => HKX.out x (by have := HL.out x hx; have := HS1.out; omega) (HF.out.lt x hx))⟩, ?_, ?_, HBX.out⟩
        · intro x hx
          rcases List.mem_append.1 hx with h | h
          · have := HL9.out x h; have := HG1.out; omega
          · have := HL.out x h; have := HS1.out; omega
        · refine List.nodup_append.2 ⟨HN9.out, HND.out, fun x hx y hy e => ?_⟩
          have := HF.out.lt y hy
          have := HL9.out x hx
          omega
end Go.Proofs.YtfaehioeepolhabGreat
namespace Go.Proofs.YtfaehioeepolhabGreat
open Go.RowKit
def fcMadeC (w : World) (fs : List PC) (k : Nat) : Fct := ⟨fun _ wx => Made3 cCell 102 w wx fs k, fun _ _ _ h hb => h.later hb⟩
def fcAggC (B : Nat) (f : PC) : Fct := ⟨fun v w => ∃ a c, v = .agg #[.bool f.null, .int .i64 f.num, .slice a f.text.length c] ∧ w.ownsRow B 5 1 (.slice a f.text.length c) f.text.length (byt f.text), fun _ _ _ ⟨a, c, e, h⟩ hb => ⟨a, c, e, own_later h hb⟩⟩
set_option linter.unusedVariables false in
def ctT (w : World) (lo gf k : Nat) (fs : List PC) (f : PC) (an : Option Addr) (cn : Nat) : Nat → FX
  | 0 => FX.eq (.slice (some ⟨w.heap.size, 0, none⟩) fs.length fs.length)
  | 1 => FX.eq (.int .i64 (k : Int))
  | 2 => FX.eq (.pointer (some ⟨gf, 0, none⟩))
  | 3 => FX.eq (.bool f.null)
  | 4 => FX.eq (.pointer (some ⟨gf, 1, none⟩))
  | 5 => FX.eq (.int .i64 f.num)
  | 6 => FX.eq (.pointer (some ⟨gf, 2, none⟩))
  | 7 => FX.eq (.slice an f.text.length cn)
  | 8 => FX.pre [11] (fcNm lo f.text)
  | 9 => FX.pre [11] (fcAggC lo f)
  | 10 => FX.eq (.pointer (some ⟨w.heap.size, k * 3, none⟩))
  | 11 => FX.is (fcMadeC w fs (k + 1))
  | _ => FX.eq undef
set_option maxRecDepth 100000 in
set_option maxHeartbeats 8000000 in
theorem copyTable_any (t : PT) (a : Option Addr) (c : Nat) (w : World) (hr : RdSl cCell w t.cells (.slice a t.cells.length c)) (ht : totT t ≤ 1048576) :
    Calls Tryz.prog 36 #[.agg #[.int .i64 t.rows, .slice a t.cells.length c]] w fun e w' => ∃ a' c' bs, e = .returned (.agg #[.int .i64 t.rows, .slice a' t.cells.length c']) ∧ OwnSl cCell 102 w' t.cells (.slice a' t.cells.length c') bs ∧ (∀ x ∈ bs, w.heap.size ≤ x) ∧ bs.Nodup ∧ Below w.heap.size w w' := by
  obtain ⟨i0, hi0, hz0, hz1, hz2⟩ := info_parts infoImCell
  have HR := hid hr
  clear hr
  have hlen : t.cells.length ≤ 1048576 := by unfold totT totL at ht; omega
  have HK0 : Hid (((w.alloc (.cells #[.int .i64 t.rows, .slice a t.cells.length c] 51)).alloc (.cells #[.int .i64 0, .slice none 0 0] 51)).heap[w.heap.size]? = some (.cells #[.int .i64 t.rows, .slice a t.cells.length c] 51 (0, 0))) := hid (heap2 _ _ (Below.refl _ _)).1
  have HK1 : Hid (((w.alloc (.cells #[.int .i64 t.rows, .slice a t.cells.length c] 51)).alloc (.cells #[.int .i64 0, .slice none 0 0] 51)).heap[w.heap.size + 1]? = some (.cells #[.int .i64 0, .slice none 0 0] 51 (0, 0))) := hid (heap2 _ _ (Below.refl _ _)).2
  have HB0 := hid (below_new2 w (.cells #[.int .i64 t.rows, .slice a t.cells.length c] 51) (.cells #[.int .i64 0, .slice none 0 0] 51))
  have HSZ := hid (size2 w (.cells #[.int .i64 t.rows, .slice a t.cells.length c] 51) (.cells #[.int .i64 0, .slice none 0 0] 51))
  go_enter Tryz.func36, Tryz.ntmps36
  go_upto_region 1 with fail
  generalize ((w.alloc (.cells #[.int .i64 t.rows, .slice a t.cells.length c] 51)).alloc (.cells #[.int .i64 0, .slice none 0 0] 51)) = W1 at *
  have c01 := cell_of_row _ _ 1 _ _ _ HK0.out
  simp only [List.getElem?_toArray, List.getElem?_cons_zero, List.getElem?_cons_succ] at c01
  have HR1 := hid (HR.out.later HB0.out)
  go_wp2_with (first | (at_make; refine wpList_make_full _ rfl (.tmp 8) (.tmp 8) 49 rfl W1.heap.size 102 i0 (.agg #[.bool false, .int .i64 0, .slice none 0 0]) 3 Tryz.underlying49 hi0 hz0 hz1 .i64 .i64 _ _ t.cells.length rfl rfl rfl rfl (by rw [hz2]; omega) (by unfold maxLen; omega) (by simp) ?_))
  intro w1 ho hg1
  have HB1 : Hid (Below W1.heap.size W1 w1) := hid ((Below.refl _ W1).grown hg1 (Nat.le_refl _) (by intro k h; cases h))
  have HM : Hid (Made3 cCell 102 W1 w1 t.cells 0) := hid ⟨_, [], ho, rfl, fun i h h2 => by simp at h2, by simp, by simp⟩
  have c01' := (HB1.out.cell (World.block_lt_of_cell? _ _ c01)).trans c01
  clear hg1 hi0 hz0 hz1 hz2 ho c01
  go_wp2
  go_loopw [13] (fun i wr => ∃ k : Nat, k ≤ t.cells.length ∧ i = .int .i64 k ∧ Made3 cCell 102 W1 wr t.cells k ∧ Below W1.heap.size W1 wr) (fun i _ => t.cells.length - (intOf i).toNat)
  case atStart => exact ⟨0, Nat.zero_le _, rfl, HM.out, HB1.out⟩
  case round =>
    obtain ⟨k, hk, rfl, hm, hbe⟩ := hrel
    have HV := hid hm
    have HBV := hid hbe
    clear hm hbe c01'
    by_cases hlt : k < t.cells.length
    · obtain ⟨b, off, x0, x1, x2, rfl, hes, d0, d1, d2⟩ := (HR1.out.later HBV.out).at3 rfl hlt
      obtain ⟨an, cn, e3⟩ := cCell_shape hes
      simp only [List.cons.injEq, and_true] at e3
      obtain ⟨rfl, rfl, rfl⟩ := e3
      obtain ⟨vn, en, hnm, hik⟩ := cCell_rd hes
      simp only [List.cons.injEq, and_true, true_and] at en
      subst en
      have hki : (k : Int) < (t.cells.length : Int) := by omega
      have HNM := hid hnm
      have HOK : Hid ((∀ x ∈ t.cells[k].text, x < 256) ∧ IntIn t.cells[k].num) := hid ⟨rdSl_ok hnm, hik⟩
      have hnl : t.cells[k].text.length ≤ 1048576 := by have h := tot_at (fun f : PC => f.text.length) t.cells k hlt; unfold totT totL at ht; exact Nat.le_trans h (by omega)
      have HGF : Hid (wr.heap.size < (wr.alloc (.cells #[.bool t.cells[k].null, .int .i64 t.cells[k].num, .slice an t.cells[k].text.length cn] 102)).heap.size) := hid (by simp)
      have HLO : Hid (wr.heap.size ≤ (wr.alloc (.cells #[.bool t.cells[k].null, .int .i64 t.cells[k].num, .slice an t.cells[k].text.length cn] 102)).heap.size) := hid (by simp)
      have HKF : Hid ((wr.alloc (.cells #[.bool t.cells[k].null, .int .i64 t.cells[k].num, .slice an t.cells[k].text.length cn] 102)).heap[wr.heap.size]? = some (.cells #[.bool t.cells[k].null, .int .i64 t.cells[k].num, .slice an t.cells[k].text.length cn] 102 (0, 0))) := hid (heap_alloc_new wr _)
      clear hes hnm hik
      go_wp2_with fail
      refine region_turns (n := 12) (by kernel_rfl) (by kernel_rfl) ?_ (fun t' => { tmps := #[.agg #[.int .i64 t.rows, .slice (some ⟨b, off, none⟩) t.cells.length c], .pointer (some ⟨w.heap.size, 0, none⟩), .pointer (some ⟨w.heap.size + 1, 0, none⟩), .slice (some ⟨W1.heap.size, 0, none⟩) t.cells.length t.cells.length, .int .i64 ((k : Nat) : Int), .pointer (some ⟨wr.heap.size, 0, none⟩), .pointer (some ⟨w.heap.size, 1, none⟩), .slice (some ⟨b, off, none⟩) t.cells.length c, .int .i64 ((t.cells.length : Nat) : Int), .slice (some ⟨W1.heap.size, 0, none⟩) t.cells.length t.cells.length, .pointer (some ⟨w.heap.size, 1, none⟩), .slice (some ⟨b, off, none⟩) t.cells.length c, .int .i64 ((t.cells.length : Nat) : Int), .int .i64 ((k : Nat) : Int), .bool true, .int .i64 ((k : Nat) : Int), .pointer (some ⟨b, off + k * 3, none⟩), .agg #[.bool t.cells[k].null, .int .i64 t.cells[k].num, .slice an t.cells[k].text.length cn], t' 0, t' 1, t' 2, t' 3, t' 4, t' 5, t' 6, t' 7, t' 8, t' 9, t' 10, u29, undef, undef, undef, undef], defers := [] }) (ctT W1 wr.heap.size wr.heap.size k t.cells t.cells[k] an cn) [11] (fcSameL (wr.alloc (.cells #[.bool t.cells[k].null, .int .i64 t.cells[k].num, .slice an t.cells[k].text.length cn] 102))) W1 (wr.alloc (.cells #[.bool t.cells[k].null, .int .i64 t.cells[k].num, .slice an t.cells[k].text.length cn] 102)) (fun k => if k = 8 then [11] else if k = 9 then [11] else []) (fun k => !(k == 8 || k == 9 || k == 11)) (by kernel_rfl) (fun j hj => by rcases (by omega : j = 0 ∨ j = 1 ∨ j = 2 ∨ j = 3 ∨ j = 4 ∨ j = 5 ∨ j = 6 ∨ j = 7 ∨ j = 8 ∨ j = 9 ∨ j = 10 ∨ j = 11) with rfl | rfl | rfl | rfl | rfl | rfl | rfl | rfl | rfl | rfl | rfl | rfl <;> rfl) (fun j hj hp => by rcases (by omega : j = 0 ∨ j = 1 ∨ j = 2 ∨ j = 3 ∨ j = 4 ∨ j = 5 ∨ j = 6 ∨ j = 7 ∨ j = 8 ∨ j = 9 ∨ j = 10 ∨ j = 11) with rfl | rfl | rfl | rfl | rfl | rfl | rfl | rfl | rfl | rfl | rfl | rfl <;> first | rfl | (exact absurd hp (by decide))) (fun j => ([u18, u19, u20, u21, u22, u23, u24, u25, u26, u27, u28, undef] : List Value).getD j undef) (below_chain HBV.out (below_new1 _ _)) (Below.refl _ _) ?_ ?_
      · rfl
      · intro i hi x t' wx hxi hsh h0 hbx hgx hdp hall
        rcases (by omega : i = 0 ∨ i = 1 ∨ i = 2 ∨ i = 3 ∨ i = 4 ∨ i = 5 ∨ i = 6 ∨ i = 7 ∨ i = 8 ∨ i = 9 ∨ i = 10 ∨ i = 11) with rfl | rfl | rfl | rfl | rfl | rfl | rfl | rfl | rfl | rfl | rfl | rfl
        · 
          try dsimp only
          clear h0
          refine wpOp_step rfl (fun K' hK => ?_)
          go_simp
          exact hK _ _ ⟨.slice (some ⟨W1.heap.size, 0, none⟩) t.cells.length t.cells.length, (by simp [upd]), FX.eq_mk rfl, fun _ => Below.refl _ _, hbx⟩
        · 
          try dsimp only
          clear h0
          refine wpOp_step rfl (fun K' hK => ?_)
          go_simp
          exact hK _ _ ⟨.int .i64 (k : Int), (by simp [upd]), FX.eq_mk rfl, fun _ => Below.refl _ _, hbx⟩
        · 
          try dsimp only
          clear h0
          refine wpOp_step rfl (fun K' hK => ?_)
          go_simp
          exact hK _ _ ⟨.pointer (some ⟨wr.heap.size, 0, none⟩), (by simp [upd]), FX.eq_mk rfl, fun _ => Below.refl _ _, hbx⟩
        · 
          try dsimp only
          have x2 := depX hdp 2 (by kernel_rfl)
          have d2 := hall 2 (by omega) x2
          have e2 : t' 2 = .pointer (some ⟨wr.heap.size, 0, none⟩) := d2.1
          rw [e2]
          have y11 := notYet hsh hxi 11 (by kernel_rfl)
          have hz : Below (wr.alloc (.cells #[.bool t.cells[k].null, .int .i64 t.cells[k].num, .slice an t.cells[k].text.length cn] 102)).heap.size (wr.alloc (.cells #[.bool t.cells[k].null, .int .i64 t.cells[k].num, .slice an t.cells[k].text.length cn] 102)) wx := hgx (by simp [y11])
          have kf := cell_of_row _ _ 0 _ _ _ ((hz.block _ HGF.out).trans HKF.out)
          simp only [List.getElem?_toArray, List.getElem?_cons_zero] at kf
          clear y11 hz
          clear h0
          refine wpOp_step rfl (fun K' hK => ?_)
          go_simp
          exact hK _ _ ⟨.bool t.cells[k].null, (by simp [upd, e2]), FX.eq_mk rfl, fun _ => Below.refl _ _, hbx⟩
        · 
          try dsimp only
          clear h0
          refine wpOp_step rfl (fun K' hK => ?_)
          go_simp
          exact hK _ _ ⟨.pointer (some ⟨wr.heap.size, 1, none⟩), (by simp [upd]), FX.eq_mk rfl, fun _ => Below.refl _ _, hbx⟩
        · 
          try dsimp only
          have x4 := depX hdp 4 (by kernel_rfl)
          have d4 := hall 4 (by omega) x4
          have e4 : t' 4 = .pointer (some ⟨wr.heap.size, 1, none⟩) := d4.1
          rw [e4]
          have y11 := notYet hsh hxi 11 (by kernel_rfl)
          have hz : Below (wr.alloc (.cells #[.bool t.cells[k].null, .int .i64 t.cells[k].num, .slice an t.cells[k].text.length cn] 102)).heap.size (wr.alloc (.cells #[.bool t.cells[k].null, .int .i64 t.cells[k].num, .slice an t.cells[k].text.length cn] 102)) wx := hgx (by simp [y11])
          have kf := cell_of_row _ _ 1 _ _ _ ((hz.block _ HGF.out).trans HKF.out)
          simp only [List.getElem?_toArray, List.getElem?_cons_zero, List.getElem?_cons_succ] at kf
          clear y11 hz
          clear h0
          refine wpOp_step rfl (fun K' hK => ?_)
          go_simp
          exact hK _ _ ⟨.int .i64 t.cells[k].num, (by simp [upd, e4]), FX.eq_mk rfl, fun _ => Below.refl _ _, hbx⟩
        · 
          try dsimp only
          clear h0
          refine wpOp_step rfl (fun K' hK => ?_)
          go_simp
          exact hK _ _ ⟨.pointer (some ⟨wr.heap.size, 2, none⟩), (by simp [upd]), FX.eq_mk rfl, fun _ => Below.refl _ _, hbx⟩
        · 
          try dsimp only
          have x6 := depX hdp 6 (by kernel_rfl)
          have d6 := hall 6 (by omega) x6
          have e6 : t' 6 = .pointer (some ⟨wr.heap.size, 2, none⟩) := d6.1
          rw [e6]
          have y11 := notYet hsh hxi 11 (by kernel_rfl)
          have hz : Below (wr.alloc (.cells #[.bool t.cells[k].null, .int .i64 t.cells[k].num, .slice an t.cells[k].text.length cn] 102)).heap.size (wr.alloc (.cells #[.bool t.cells[k].null, .int .i64 t.cells[k].num, .slice an t.cells[k].text.length cn] 102)) wx := hgx (by simp [y11])
          have kf := cell_of_row _ _ 2 _ _ _ ((hz.block _ HGF.out).trans HKF.out)
          simp only [List.getElem?_toArray, List.getElem?_cons_zero, List.getElem?_cons_succ] at kf
          clear y11 hz
          clear h0
          refine wpOp_step rfl (fun K' hK => ?_)
          go_simp
          exact hK _ _ ⟨.slice an t.cells[k].text.length cn, (by simp [upd, e6]), FX.eq_mk rfl, fun _ => Below.refl _ _, hbx⟩
        · 
          try dsimp only
          have x7 := depX hdp 7 (by kernel_rfl)
          have d7 := hall 7 (by omega) x7
          have e7 : t' 7 = .slice an t.cells[k].text.length cn := d7.1
          rw [e7]
          have y11 := notYet hsh hxi 11 (by kernel_rfl)
          have hz : Below (wr.alloc (.cells #[.bool t.cells[k].null, .int .i64 t.cells[k].num, .slice an t.cells[k].text.length cn] 102)).heap.size (wr.alloc (.cells #[.bool t.cells[k].null, .int .i64 t.cells[k].num, .slice an t.cells[k].text.length cn] 102)) wx := hgx (by simp [y11])
          have hsz := hz.size
          clear h0
          refine wpOp_step rfl (fun K' hK => ?_)
          go_simp
          refine (bclone_any an cn t.cells[k].text wx ((HNM.out.later (below_new1 wr _)).later hz) hnl).mono ?_
          rintro e w2 ⟨v2, rfl, o2, b2⟩
          exact hK _ _ ⟨v2, (by simp [upd, e7]), FX.pre_mk (own_mono o2 (Nat.le_trans HLO.out hsz)), fun _ => b2, below_chain hbx b2⟩
        · 
          try dsimp only
          have x3 := depX hdp 3 (by kernel_rfl)
          have d3 := hall 3 (by omega) x3
          have e3 : t' 3 = .bool t.cells[k].null := d3.1
          have x5 := depX hdp 5 (by kernel_rfl)
          have d5 := hall 5 (by omega) x5
          have e5 : t' 5 = .int .i64 t.cells[k].num := d5.1
          have x8 := depX hdp 8 (by kernel_rfl)
          have d8 := hall 8 (by omega) x8
          rw [e3, e5]
          have y11 := notYet hsh hxi 11 (by kernel_rfl)
          have r4 : wx.ownsRow wr.heap.size 5 1 (t' 8) t.cells[k].text.length (byt t.cells[k].text) := FX.pre_of d8 y11
          obtain ⟨a4, c4, e4, -⟩ := rd_own r4
          rw [e4]
          clear y11
          clear h0
          refine wpOp_step rfl (fun K' hK => ?_)
          go_simp
          exact hK _ _ ⟨.agg #[.bool t.cells[k].null, .int .i64 t.cells[k].num, .slice a4 t.cells[k].text.length c4], (by simp [upd, e4, e3, e5]), FX.pre_mk ⟨_, _, rfl, e4 ▸ r4⟩, fun _ => Below.refl _ _, hbx⟩
        · 
          try dsimp only
          have x0 := depX hdp 0 (by kernel_rfl)
          have d0 := hall 0 (by omega) x0
          have e0 : t' 0 = .slice (some ⟨W1.heap.size, 0, none⟩) t.cells.length t.cells.length := d0.1
          have x1 := depX hdp 1 (by kernel_rfl)
          have d1 := hall 1 (by omega) x1
          have e1 : t' 1 = .int .i64 (k : Int) := d1.1
          rw [e0, e1]
          clear h0
          refine wpOp_step rfl (fun K' hK => ?_)
          go_simp
          exact hK _ _ ⟨.pointer (some ⟨W1.heap.size, k * 3, none⟩), (by simp [upd, e0, e1]), FX.eq_mk rfl, fun _ => Below.refl _ _, hbx⟩
        · 
          try dsimp only
          have x10 := depX hdp 10 (by kernel_rfl)
          have d10 := hall 10 (by omega) x10
          have e10 : t' 10 = .pointer (some ⟨W1.heap.size, k * 3, none⟩) := d10.1
          have x9 := depX hdp 9 (by kernel_rfl)
          have d9 := hall 9 (by omega) x9
          rw [e10]
          obtain ⟨a4, c4, e9, r4⟩ : (fcAggC wr.heap.size t.cells[k]).p (t' 9) wx := FX.pre_of d9 hxi
          have hz : Below (wr.alloc (.cells #[.bool t.cells[k].null, .int .i64 t.cells[k].num, .slice an t.cells[k].text.length cn] 102)).heap.size (wr.alloc (.cells #[.bool t.cells[k].null, .int .i64 t.cells[k].num, .slice an t.cells[k].text.length cn] 102)) wx := hgx (by simp [hxi])
          have hz2 := below_chain (below_new1 wr _) hz
          obtain ⟨vs, hvl, how2⟩ := HV.out.row hz2
          have f0 := how2.frozenAt (k * 3)
          have f1 := how2.frozenAt (k * 3 + 1)
          have f2 := how2.frozenAt (k * 3 + 2)
          have q0 := how2.cellAt (k * 3) (by omega)
          have q1 := how2.cellAt (k * 3 + 1) (by omega)
          have q2 := how2.cellAt (k * 3 + 2) (by omega)
          rw [List.getElem?_eq_getElem (by omega)] at q0 q1 q2
          generalize vs[k * 3] = y0 at q0
          generalize vs[k * 3 + 1] = y1 at q1
          generalize vs[k * 3 + 2] = y2 at q2
          have HN := hid (HV.out.step (x := .bool t.cells[k].null) (y := .int .i64 t.cells[k].num) (z := .slice a4 t.cells[k].text.length c4) hlt hz2 (cCell_own (ownSl_bytes r4 HOK.out.1) HOK.out.2) (fun b hb => (own_in r4 (by simpa using hb)).1) (by cases (Value.slice a4 t.cells[k].text.length c4).ownBlock <;> simp))
          have HS3 := hid (set3bk (x := .bool t.cells[k].null) (y := .int .i64 t.cells[k].num) (z := .slice a4 t.cells[k].text.length c4) hbx (Nat.le_refl _) (k := k))
          rw [e9]
          clear how2 hvl hz hz2
          clear h0
          refine wpOp_step rfl (fun K' hK => ?_)
          go_simp
          exact hK _ _ ⟨undef, (by simp [upd, e9, e10]), FX.is_mk HN.out, fun h => absurd (by simp) h, HS3.out⟩
      · intro x t' wx hx hbx hall
        have HN : Hid (Made3 cCell 102 W1 wx t.cells (k + 1)) := hid (FX.is_of (hall 11 (by omega)))
        have HBX := hid hbx
        clear hall hbx
        try dsimp only
        go_wp2
        go_roundw
        case rel => exact ⟨k + 1, by omega, by go_num, HN.out, HBX.out⟩
        case measure => simp [intOf]; omega
    · obtain rfl : k = t.cells.length := by omega
      obtain ⟨bs, h1, h2, h3⟩ := Made3.done (c := cCell) rfl HV.out
      have HF := hid h1
      have HL := hid h2
      have HND := hid h3
      have hsw := HBV.out.size
      have hs1 := HSZ.out
      have HBW := hid (below_chain HB0.out HBV.out)
      have k0 := hid ((HBV.out.block _ (show w.heap.size < W1.heap.size by omega)).trans HK0.out)
      have k1 := hid ((HBV.out.block _ (show w.heap.size + 1 < W1.heap.size by omega)).trans HK1.out)
      have c00 := cell_of_row wr _ 0 _ _ _ k0.out
      simp only [List.getElem?_toArray, List.getElem?_cons_zero] at c00
      have g0 := cell_of_row _ _ 0 _ _ _ k1.out
      have zg0 := frozen_of_row _ _ 0 _ _ k1.out
      have g1 := cell_of_row _ _ 1 _ _ _ k1.out
      have zg1 := frozen_of_row _ _ 1 _ _ k1.out
      simp only [List.getElem?_toArray, List.getElem?_cons_zero, List.getElem?_cons_succ] at g0 g1
      clear h1 h2 h3
      have HG1 : Hid (w.heap.size + 1 < wr.heap.size) := hid (by omega)
      have HS1 := hid hs1
      clear hs1
      go_wp2
      refine bodyPost_ret (results_cell_row rfl _ _ (w.heap.size + 1) 51 #[.int .i64 t.rows, .slice (some ⟨W1.heap.size, 0, none⟩) t.cells.length t.cells.length] (0, 0) _ rfl (set2 k1.out) Tryz.underlying51 rfl (by kernel_rfl)) rfl ?_
      refine ⟨_, _, bs, rfl, HF.out.kept (fun x hx => set2o (by have := HL.out x hx; have := HS1.out; omega)), fun x hx => by have := HL.out x hx; have := HS1.out; omega, HND.out, set2b HBW.out (by omega)⟩
theorem wset2t (w : World) (g off : Nat) (x0 x1 : Value) : wsetAll w g off [x0, x1] = ((w.setCell ⟨g, off, none⟩ x0).setCell ⟨g, off + 1, none⟩ x1) := by simp only [wsetAll]
set_option maxRecDepth 100000 in
set_option maxHeartbeats 8000000 in
theorem copyTables_any (a : Option Addr) (c : Nat) (ts : List PT) (w : World) (hr : RdSl cTable w ts (.slice a ts.length c)) (ht : totL totT ts ≤ 1048576) :
    Calls Tryz.prog 86 #[.slice a ts.length c] w fun e w' => ∃ v bs, e = .returned v ∧ OwnSl cTable 51 w' ts v bs ∧ (∀ b ∈ bs, w.heap.size ≤ b) ∧ bs.Nodup ∧ Below w.heap.size w w' := by
  obtain ⟨i0, hi, hz0, hz1, hz2⟩ := info_parts infoImTable
  have HR := hid hr
  clear hr
  have hlen : ts.length ≤ 1048576 := by unfold totL at ht; omega
  have HAT : Hid (∀ k, (h : k < ts.length) → totT ts[k] ≤ 1048576) := hid (fun k h => by have h1 := tot_at totT ts k h; unfold totL at ht; omega)
  go_enter Tryz.func86, Tryz.ntmps86
  go_wp2_with (first | (at_make; refine wpList_make_full _ rfl (.tmp 7) (.tmp 7) 38 rfl w.heap.size 51 i0 (.agg #[.int .i64 0, .slice none 0 0]) 2 Tryz.underlying38 hi hz0 hz1 .i64 .i64 _ _ ts.length rfl rfl rfl rfl (by rw [hz2]; omega) (by unfold maxLen; omega) (by simp) ?_))
  intro w1 ho hg1
  have HB1 : Hid (Below w.heap.size w w1) := hid ((Below.refl _ w).grown hg1 (Nat.le_refl _) (by intro k h; cases h))
  have HM : Hid (MadeN 2 cTable 51 w w1 ts 0) := hid ⟨_, [], ho, rfl, fun i h h2 => by simp at h2, by simp, by simp⟩
  clear hg1 hi hz0 hz1 hz2 ho
  go_wp2
  go_loopw [4, 5, 11] (fun _ _ i wr => ∃ k : Nat, k ≤ ts.length ∧ i = .int .i64 k ∧ MadeN 2 cTable 51 w wr ts k ∧ Below w.heap.size w wr) (fun _ _ i _ => ts.length - (intOf i).toNat)
  case atStart => exact ⟨0, Nat.zero_le _, rfl, HM.out, HB1.out⟩
  case round =>
    obtain ⟨k, hk, rfl, hm, hbe⟩ := hrel
    have HV := hid hm
    have HBV := hid hbe
    clear hm hbe
    by_cases hlt : k < ts.length
    · obtain ⟨bb, off, es, rfl, hes, hcs⟩ := (HR.out.later HBV.out).atN hlt
      obtain ⟨an, cn, rfl, hnm, hpin⟩ := cTable_shape hes
      have d0 : wr.cell? ⟨bb, off + k * 2, none⟩ = some (.int .i64 ts[k].rows) := by have h := hcs 0 (by decide); rw [show cTable.n = 2 from rfl] at h; simpa [Nat.add_assoc] using h
      have d1 : wr.cell? ⟨bb, off + k * 2 + 1, none⟩ = some (.slice an ts[k].cells.length cn) := by have h := hcs 1 (by decide); rw [show cTable.n = 2 from rfl] at h; simpa [Nat.add_assoc] using h
      have hki : (k : Int) < (ts.length : Int) := by omega
      have HNM := hid hnm
      have HPIN := hid hpin
      clear hes hcs hnm hpin
      have HKF : Hid ((wr.alloc (.cells #[.int .i64 ts[k].rows, .slice an ts[k].cells.length cn] 51)).heap[wr.heap.size]? = some (.cells #[.int .i64 ts[k].rows, .slice an ts[k].cells.length cn] 51 (0, 0))) := hid (heap_alloc_new wr _)
      have HBF := hid (below_new1 wr (.cells #[.int .i64 ts[k].rows, .slice an ts[k].cells.length cn] 51))
      go_upto_region 5 with fail
      generalize (wr.alloc (.cells #[.int .i64 ts[k].rows, .slice an ts[k].cells.length cn] 51)) = W2 at *
      clear d0 d1
      have e0 := cell_of_row _ _ 0 _ _ _ HKF.out
      have e1 := cell_of_row _ _ 1 _ _ _ HKF.out
      simp only [List.getElem?_toArray, List.getElem?_cons_zero, List.getElem?_cons_succ] at e0 e1
      go_wp2_with fail
      refine (copyTable_any ts[k] an cn W2 (HNM.out.later HBF.out) (HAT.out k hlt)).mono ?_
      rintro e w2 ⟨a2, c2, bk, rfl, o2, lk, nk, b2⟩
      have hz2 := below_chain HBF.out b2
      have HN := HV.out.step rfl hlt hz2 (cTable_own (t := ts[k]) o2 HPIN.out) (fun x hx => Nat.le_trans HBF.out.size (lk x hx)) nk
      rw [wset2t] at HN
      have HS3 := wsetAll_below [.int .i64 ts[k].rows, .slice a2 ts[k].cells.length c2] w2 w.heap.size (k * 2) (below_chain HBV.out hz2) (Nat.le_refl _)
      rw [wset2t] at HS3
      have HN := hid HN
      have HS3 := hid HS3
      obtain ⟨vs, hvl, how2⟩ := HV.out.row hz2
      have f0 := how2.frozenAt (k * 2)
      have q0 := how2.cellAt (k * 2) (by omega)
      have f1 := how2.frozenAt (k * 2 + 1)
      have q1 := how2.cellAt (k * 2 + 1) (by omega)
      rw [List.getElem?_eq_getElem (by omega)] at q0 q1
      generalize vs[k * 2] = y0 at q0
      generalize vs[k * 2 + 1] = y1 at q1
      clear o2 lk nk b2 how2 hvl hz2 e0 e1
      go_wp2
      go_roundw
      case rel => exact ⟨k + 1, by omega, by go_num, HN.out, HS3.out⟩
      case measure => simp [intOf]; omega
    · obtain rfl : k = ts.length := by omega
      obtain ⟨bs, h1, h2, h3⟩ := MadeN.done (n := 2) (c := cTable) rfl HV.out
      have HF := hid h1
      clear h1
      go_wp2
      go_ret
      exact ⟨_, bs, rfl, HF.out, h2, h3, HBV.out⟩
end Go.Proofs.YtfaehioeepolhabGreat
