import Derived.Test.YtfaehioeepolhaaJLinkTake30
import Derived.Test.YtfaehioeepolhaaJLinkTake36
import Derived.Deep.DeepCutAuto
namespace Go.Proofs.Ytfaehioeepolhaa
open Go.RowKit
def fcAggH (lo : Nat) (e x : Int) (hv : Value) (D : List Nat) : Fct := ⟨fun v w => ∃ a c, v = .agg #[.int .i64 e, .int .i64 x, hv, .slice a D.length c] ∧ w.ownsRow lo 5 1 (.slice a D.length c) D.length (byt D), fun _ _ _ ⟨a, c, e, h⟩ hb => ⟨a, c, e, own_later h hb⟩⟩
def fcBoxH (W : World) (lo gR : Nat) (e x : Int) (hv : Value) (D : List Nat) : Fct := ⟨fun _ w => W.heap.size ≤ w.heap.size ∧ (∀ k, k ≠ gR → k < W.heap.size → w.heap[k]? = W.heap[k]?) ∧ ∃ a c, w.heap[gR]? = some (.cells #[.int .i64 e, .int .i64 x, hv, .slice a D.length c] 32 (0, 0)) ∧ w.ownsRow lo 5 1 (.slice a D.length c) D.length (byt D), fun _ _ _ ⟨h0, hk, a, c, e, h⟩ hb => ⟨Nat.le_trans h0 hb.size, fun k h1 h2 => (hb.block k (Nat.lt_of_lt_of_le h2 h0)).trans (hk k h1 h2), a, c, (hb.block _ (Array.getElem?_eq_some_iff.1 e).1).trans e, own_later h hb⟩⟩
set_option linter.unusedVariables false in
def ciT (W : World) (lo gO gR : Nat) (e x : Int) (hv pv : Value) (D : List Nat) : Nat → FX
  | 0 => FX.eq (.pointer (some ⟨gO, 0, none⟩))
  | 1 => FX.eq (.int .i64 e)
  | 2 => FX.eq (.pointer (some ⟨gO, 1, none⟩))
  | 3 => FX.eq (.int .i64 x)
  | 4 => FX.eq (hv)
  | 5 => FX.eq (.pointer (some ⟨gO, 3, none⟩))
  | 6 => FX.eq (pv)
  | 7 => FX.pre [9] (fcRowD lo D)
  | 8 => FX.pre [9] (fcAggH lo e x hv D)
  | 9 => FX.is (fcBoxH W lo gR e x hv D)
  | _ => FX.eq undef
set_option maxRecDepth 100000 in
set_option maxHeartbeats 8000000 in
theorem copyIn_any (s : PI) (a b : Option Addr) (c d : Nat) (w : World) (hr : RdIn w s a c b d) (ht : totL pN s.held ≤ 1048576) (hp20 : s.part.length ≤ 1048576) :
    Calls Try.prog 31 #[.agg #[.int .i64 s.epoch, .int .i64 s.expect, .slice a s.held.length c, .slice b s.part.length d]] w fun e w' => ∃ a' c' b' d' bs ds, e = .returned (.agg #[.int .i64 s.epoch, .int .i64 s.expect, .slice a' s.held.length c', .slice b' s.part.length d']) ∧ OwnIn w' s a' c' b' d' bs ds ∧ (∀ x ∈ bs ++ ds, w.heap.size ≤ x) ∧ (bs ++ ds).Nodup ∧ Below w.heap.size w w' := by
  obtain ⟨i0, hi0, hz0, hz1, hz2⟩ := info_parts infoImPacket
  have HR := hid hr
  have HRT := hid hr.t
  have HBY : Hid (∀ x ∈ s.part, x < 256) := hid (by obtain ⟨_, _, _, _, _, _, _, h⟩ := hr.t.bytes; exact h)
  clear hr
  have hlen : s.held.length ≤ 1048576 := by unfold totL at ht; omega
  have HK0 : Hid (((w.alloc (.cells #[.int .i64 s.epoch, .int .i64 s.expect, .slice a s.held.length c, .slice b s.part.length d] 32)).alloc (.cells #[.int .i64 0, .int .i64 0, .slice none 0 0, .slice none 0 0] 32)).heap[w.heap.size]? = some (.cells #[.int .i64 s.epoch, .int .i64 s.expect, .slice a s.held.length c, .slice b s.part.length d] 32 (0, 0))) := hid (heap2 _ _ (Below.refl _ _)).1
  have HK1 : Hid (((w.alloc (.cells #[.int .i64 s.epoch, .int .i64 s.expect, .slice a s.held.length c, .slice b s.part.length d] 32)).alloc (.cells #[.int .i64 0, .int .i64 0, .slice none 0 0, .slice none 0 0] 32)).heap[w.heap.size + 1]? = some (.cells #[.int .i64 0, .int .i64 0, .slice none 0 0, .slice none 0 0] 32 (0, 0))) := hid (heap2 _ _ (Below.refl _ _)).2
  have HB0 := hid (below_new2 w (.cells #[.int .i64 s.epoch, .int .i64 s.expect, .slice a s.held.length c, .slice b s.part.length d] 32) (.cells #[.int .i64 0, .int .i64 0, .slice none 0 0, .slice none 0 0] 32))
  have HSZ := hid (size2 w (.cells #[.int .i64 s.epoch, .int .i64 s.expect, .slice a s.held.length c, .slice b s.part.length d] 32) (.cells #[.int .i64 0, .int .i64 0, .slice none 0 0, .slice none 0 0] 32))
  go_enter Try.func31, Try.ntmps31
  go_upto_region 1 with fail
  generalize ((w.alloc (.cells #[.int .i64 s.epoch, .int .i64 s.expect, .slice a s.held.length c, .slice b s.part.length d] 32)).alloc (.cells #[.int .i64 0, .int .i64 0, .slice none 0 0, .slice none 0 0] 32)) = W1 at *
  have c02 := cell_of_row _ _ 2 _ _ _ HK0.out
  simp only [List.getElem?_toArray, List.getElem?_cons_zero, List.getElem?_cons_succ] at c02
  have HR1 := hid (HR.out.f.later HB0.out)
  go_wp2_with (first | (at_make; refine wpList_make_full _ rfl (.tmp 8) (.tmp 8) 30 rfl W1.heap.size 37 i0 (.agg #[.int .i64 0, .int .i64 0, .int .i64 0, .int .i64 0, .bool false, .slice none 0 0]) 6 Try.underlying30 hi0 hz0 hz1 .i64 .i64 _ _ s.held.length rfl rfl rfl rfl (by rw [hz2]; omega) (by unfold maxLen; omega) (by simp) ?_))
  intro w1 ho hg1
  have HB1 : Hid (Below W1.heap.size W1 w1) := hid ((Below.refl _ W1).grown hg1 (Nat.le_refl _) (by intro k h; cases h))
  have HM : Hid (MadeN 6 cPkt 37 W1 w1 s.held 0) := hid ⟨_, [], ho, rfl, fun i h h2 => by simp at h2, by simp, by simp⟩
  have c02' := (HB1.out.cell (World.block_lt_of_cell? _ _ c02)).trans c02
  clear hg1 hi0 hz0 hz1 hz2 ho c02
  go_wp2
  go_loopw [4, 5, 13] (fun _ _ i wr => ∃ k : Nat, k ≤ s.held.length ∧ i = .int .i64 k ∧ MadeN 6 cPkt 37 W1 wr s.held k ∧ Below W1.heap.size W1 wr) (fun _ _ i _ => s.held.length - (intOf i).toNat)
  case atStart => exact ⟨0, Nat.zero_le _, rfl, HM.out, HB1.out⟩
  case round =>
    obtain ⟨k, hk, rfl, hm, hbe⟩ := hrel
    have HV := hid hm
    have HBV := hid hbe
    clear hm hbe c02'
    by_cases hlt : k < s.held.length
    · obtain ⟨bb, off, es, rfl, hes, hcs⟩ := (HR1.out.later HBV.out).atN hlt
      obtain ⟨an, cn, rfl, hnm, hpin⟩ := cPkt_rd hes
      have d0 : wr.cell? ⟨bb, off + k * 6, none⟩ = some (.int .i64 s.held[k].kind) := by have h := hcs 0 (by decide); rw [show cPkt.n = 6 from rfl] at h; simpa [Nat.add_assoc] using h
      have d1 : wr.cell? ⟨bb, off + k * 6 + 1, none⟩ = some (.int .i64 s.held[k].epoch) := by have h := hcs 1 (by decide); rw [show cPkt.n = 6 from rfl] at h; simpa [Nat.add_assoc] using h
      have d2 : wr.cell? ⟨bb, off + k * 6 + 2, none⟩ = some (.int .i64 s.held[k].seq) := by have h := hcs 2 (by decide); rw [show cPkt.n = 6 from rfl] at h; simpa [Nat.add_assoc] using h
      have d3 : wr.cell? ⟨bb, off + k * 6 + 3, none⟩ = some (.int .i64 s.held[k].count) := by have h := hcs 3 (by decide); rw [show cPkt.n = 6 from rfl] at h; simpa [Nat.add_assoc] using h
      have d4 : wr.cell? ⟨bb, off + k * 6 + 4, none⟩ = some (.bool s.held[k].last) := by have h := hcs 4 (by decide); rw [show cPkt.n = 6 from rfl] at h; simpa [Nat.add_assoc] using h
      have d5 : wr.cell? ⟨bb, off + k * 6 + 5, none⟩ = some (.slice an s.held[k].data.length cn) := by have h := hcs 5 (by decide); rw [show cPkt.n = 6 from rfl] at h; simpa [Nat.add_assoc] using h
      have hki : (k : Int) < (s.held.length : Int) := by omega
      have HNM := hid hnm
      have HPIN := hid hpin
      have hnl : s.held[k].data.length ≤ 1048576 := by have h := tot_at pN s.held k hlt; unfold totL at ht; exact Nat.le_trans h (by omega)
      clear hes hcs hnm hpin
      have HKF : Hid ((wr.alloc (.cells #[.int .i64 s.held[k].kind, .int .i64 s.held[k].epoch, .int .i64 s.held[k].seq, .int .i64 s.held[k].count, .bool s.held[k].last, .slice an s.held[k].data.length cn] 37)).heap[wr.heap.size]? = some (.cells #[.int .i64 s.held[k].kind, .int .i64 s.held[k].epoch, .int .i64 s.held[k].seq, .int .i64 s.held[k].count, .bool s.held[k].last, .slice an s.held[k].data.length cn] 37 (0, 0))) := hid (heap_alloc_new wr _)
      have HBF := hid (below_new1 wr (.cells #[.int .i64 s.held[k].kind, .int .i64 s.held[k].epoch, .int .i64 s.held[k].seq, .int .i64 s.held[k].count, .bool s.held[k].last, .slice an s.held[k].data.length cn] 37))
      go_upto_region 5 with fail
      generalize (wr.alloc (.cells #[.int .i64 s.held[k].kind, .int .i64 s.held[k].epoch, .int .i64 s.held[k].seq, .int .i64 s.held[k].count, .bool s.held[k].last, .slice an s.held[k].data.length cn] 37)) = W2 at *
      clear d0 d1 d2 d3 d4 d5
      have e0 := cell_of_row _ _ 0 _ _ _ HKF.out
      have e1 := cell_of_row _ _ 1 _ _ _ HKF.out
      have e2 := cell_of_row _ _ 2 _ _ _ HKF.out
      have e3 := cell_of_row _ _ 3 _ _ _ HKF.out
      have e4 := cell_of_row _ _ 4 _ _ _ HKF.out
      have e5 := cell_of_row _ _ 5 _ _ _ HKF.out
      simp only [List.getElem?_toArray, List.getElem?_cons_zero, List.getElem?_cons_succ] at e0 e1 e2 e3 e4 e5
      go_wp2_with fail
      refine (copyPacket_any s.held[k] an cn W2 (HNM.out.later HBF.out) hnl).mono ?_
      rintro e w2 ⟨a2, c2, bk, rfl, o2, lk, nk, b2⟩
      have hz2 := below_chain HBF.out b2
      have HN := HV.out.step rfl hlt hz2 (cPkt_own (p := s.held[k]) o2 HPIN.out) (fun x hx => Nat.le_trans HBF.out.size (lk x hx)) nk
      rw [wset6] at HN
      have HS3 := wsetAll_below [.int .i64 s.held[k].kind, .int .i64 s.held[k].epoch, .int .i64 s.held[k].seq, .int .i64 s.held[k].count, .bool s.held[k].last, .slice a2 s.held[k].data.length c2] w2 W1.heap.size (k * 6) (below_chain HBV.out hz2) (Nat.le_refl _)
      rw [wset6] at HS3
      have HN := hid HN
      have HS3 := hid HS3
      obtain ⟨vs, hvl, how2⟩ := HV.out.row hz2
      have f0 := how2.frozenAt (k * 6)
      have q0 := how2.cellAt (k * 6) (by omega)
      have f1 := how2.frozenAt (k * 6 + 1)
      have q1 := how2.cellAt (k * 6 + 1) (by omega)
      have f2 := how2.frozenAt (k * 6 + 2)
      have q2 := how2.cellAt (k * 6 + 2) (by omega)
      have f3 := how2.frozenAt (k * 6 + 3)
      have q3 := how2.cellAt (k * 6 + 3) (by omega)
      have f4 := how2.frozenAt (k * 6 + 4)
      have q4 := how2.cellAt (k * 6 + 4) (by omega)
      have f5 := how2.frozenAt (k * 6 + 5)
      have q5 := how2.cellAt (k * 6 + 5) (by omega)
      rw [List.getElem?_eq_getElem (by omega)] at q0 q1 q2 q3 q4 q5
      generalize vs[k * 6] = y0 at q0
      generalize vs[k * 6 + 1] = y1 at q1
      generalize vs[k * 6 + 2] = y2 at q2
      generalize vs[k * 6 + 3] = y3 at q3
      generalize vs[k * 6 + 4] = y4 at q4
      generalize vs[k * 6 + 5] = y5 at q5
      clear o2 lk nk b2 how2 hvl hz2 e0 e1 e2 e3 e4 e5
      go_wp2
      go_roundw
      case rel => exact ⟨k + 1, by omega, by go_num, HN.out, HS3.out⟩
      case measure => simp [intOf]; omega
    · obtain rfl : k = s.held.length := by omega
      obtain ⟨bs, h1, h2, h3⟩ := MadeN.done (n := 6) (c := cPkt) rfl HV.out
      have HF := hid h1
      have HL := hid h2
      have HND := hid h3
      have hsw := HBV.out.size
      have hs1 := HSZ.out
      have HBW := hid (below_chain HB0.out HBV.out)
      have k0 := hid ((HBV.out.block _ (show w.heap.size < W1.heap.size by omega)).trans HK0.out)
      have k1 := hid ((HBV.out.block _ (show w.heap.size + 1 < W1.heap.size by omega)).trans HK1.out)
      have c00 := cell_of_row wr _ 0 _ _ _ k0.out
      have c01 := cell_of_row wr _ 1 _ _ _ k0.out
      have c03 := cell_of_row wr _ 3 _ _ _ k0.out
      simp only [List.getElem?_toArray, List.getElem?_cons_zero, List.getElem?_cons_succ] at c00 c01 c03
      clear h1 h2 h3
      have HG1 : Hid (w.heap.size + 1 < wr.heap.size) := hid (by omega)
      have HS1 := hid hs1
      clear hs1
      go_upto_region 7 with fail
      refine region_turns (n := 10) (by kernel_rfl) (by kernel_rfl) ?_ (fun t => { tmps := #[.agg #[.int .i64 s.epoch, .int .i64 s.expect, .slice a s.held.length c, .slice b s.part.length d], .pointer (some ⟨w.heap.size, 0, none⟩), .pointer (some ⟨w.heap.size + 1, 0, none⟩), .slice (some ⟨W1.heap.size, 0, none⟩) s.held.length s.held.length, u4, u5, .pointer (some ⟨w.heap.size, 2, none⟩), .slice a s.held.length c, .int .i64 (s.held.length : Int), .slice (some ⟨W1.heap.size, 0, none⟩) s.held.length s.held.length, .pointer (some ⟨w.heap.size, 2, none⟩), .slice a s.held.length c, .int .i64 (s.held.length : Int), .int .i64 (s.held.length : Int), .bool false, u15, u16, u17, u18, u19, u20, u21, u22, u23, t 0, t 1, t 2, t 3, t 4, t 5, t 6, t 7, t 8], defers := [] }) (ciT wr wr.heap.size w.heap.size (w.heap.size + 1) s.epoch s.expect (.slice (some ⟨W1.heap.size, 0, none⟩) s.held.length s.held.length) (.slice b s.part.length d) s.part) [9] (fcSameL wr) w wr (fun k => if k = 7 then [9] else if k = 8 then [9] else []) (fun k => !(k == 7 || k == 8 || k == 9)) (by kernel_rfl) (fun j hj => by rcases (by omega : j = 0 ∨ j = 1 ∨ j = 2 ∨ j = 3 ∨ j = 4 ∨ j = 5 ∨ j = 6 ∨ j = 7 ∨ j = 8 ∨ j = 9) with rfl | rfl | rfl | rfl | rfl | rfl | rfl | rfl | rfl | rfl <;> rfl) (fun j hj hp => by rcases (by omega : j = 0 ∨ j = 1 ∨ j = 2 ∨ j = 3 ∨ j = 4 ∨ j = 5 ∨ j = 6 ∨ j = 7 ∨ j = 8 ∨ j = 9) with rfl | rfl | rfl | rfl | rfl | rfl | rfl | rfl | rfl | rfl <;> first | rfl | (exact absurd hp (by decide))) (fun j => ([undef, undef, undef, undef, undef, undef, undef, undef, undef, undef] : List Value).getD j undef) HBW.out (Below.refl _ _) ?_ ?_
      · rfl
      · intro i hi x t wx hxi hsh h0 hbx hgx hdp hall
        rcases (by omega : i = 0 ∨ i = 1 ∨ i = 2 ∨ i = 3 ∨ i = 4 ∨ i = 5 ∨ i = 6 ∨ i = 7 ∨ i = 8 ∨ i = 9) with rfl | rfl | rfl | rfl | rfl | rfl | rfl | rfl | rfl | rfl
        · 
          try dsimp only
          clear h0
          refine wpOp_step rfl (fun K' hK => ?_)
          go_simp
          exact hK _ _ ⟨.pointer (some ⟨w.heap.size, 0, none⟩), (by simp [upd]), FX.eq_mk rfl, fun _ => Below.refl _ _, hbx⟩
        · 
          try dsimp only
          have x0 := depX hdp 0 (by kernel_rfl)
          have d0 := hall 0 (by omega) x0
          have e0 : t 0 = .pointer (some ⟨w.heap.size, 0, none⟩) := d0.1
          rw [e0]
          have y9 := notYet hsh hxi 9 (by kernel_rfl)
          have hz : Below wr.heap.size wr wx := hgx (by simp [y9])
          have c00 := (hz.cell (World.block_lt_of_cell? _ _ c00)).trans c00
          clear y9 hz
          clear h0
          refine wpOp_step rfl (fun K' hK => ?_)
          go_simp
          exact hK _ _ ⟨.int .i64 s.epoch, (by simp [upd, e0]), FX.eq_mk rfl, fun _ => Below.refl _ _, hbx⟩
        · 
          try dsimp only
          clear h0
          refine wpOp_step rfl (fun K' hK => ?_)
          go_simp
          exact hK _ _ ⟨.pointer (some ⟨w.heap.size, 1, none⟩), (by simp [upd]), FX.eq_mk rfl, fun _ => Below.refl _ _, hbx⟩
        · 
          try dsimp only
          have x2 := depX hdp 2 (by kernel_rfl)
          have d2 := hall 2 (by omega) x2
          have e2 : t 2 = .pointer (some ⟨w.heap.size, 1, none⟩) := d2.1
          rw [e2]
          have y9 := notYet hsh hxi 9 (by kernel_rfl)
          have hz : Below wr.heap.size wr wx := hgx (by simp [y9])
          have c01 := (hz.cell (World.block_lt_of_cell? _ _ c01)).trans c01
          clear y9 hz
          clear h0
          refine wpOp_step rfl (fun K' hK => ?_)
          go_simp
          exact hK _ _ ⟨.int .i64 s.expect, (by simp [upd, e2]), FX.eq_mk rfl, fun _ => Below.refl _ _, hbx⟩
        · 
          try dsimp only
          clear h0
          refine wpOp_step rfl (fun K' hK => ?_)
          go_simp
          exact hK _ _ ⟨.slice (some ⟨W1.heap.size, 0, none⟩) s.held.length s.held.length, (by simp [upd]), FX.eq_mk rfl, fun _ => Below.refl _ _, hbx⟩
        · 
          try dsimp only
          clear h0
          refine wpOp_step rfl (fun K' hK => ?_)
          go_simp
          exact hK _ _ ⟨.pointer (some ⟨w.heap.size, 3, none⟩), (by simp [upd]), FX.eq_mk rfl, fun _ => Below.refl _ _, hbx⟩
        · 
          try dsimp only
          have x5 := depX hdp 5 (by kernel_rfl)
          have d5 := hall 5 (by omega) x5
          have e5 : t 5 = .pointer (some ⟨w.heap.size, 3, none⟩) := d5.1
          rw [e5]
          have y9 := notYet hsh hxi 9 (by kernel_rfl)
          have hz : Below wr.heap.size wr wx := hgx (by simp [y9])
          have c03 := (hz.cell (World.block_lt_of_cell? _ _ c03)).trans c03
          clear y9 hz
          clear h0
          refine wpOp_step rfl (fun K' hK => ?_)
          go_simp
          exact hK _ _ ⟨.slice b s.part.length d, (by simp [upd, e5]), FX.eq_mk rfl, fun _ => Below.refl _ _, hbx⟩
        · 
          try dsimp only
          have x6 := depX hdp 6 (by kernel_rfl)
          have d6 := hall 6 (by omega) x6
          have e6 : t 6 = .slice b s.part.length d := d6.1
          rw [e6]
          have y9 := notYet hsh hxi 9 (by kernel_rfl)
          have hz : Below wr.heap.size wr wx := hgx (by simp [y9])
          have hsz := hz.size
          clear h0
          refine wpOp_step rfl (fun K' hK => ?_)
          go_simp
          refine (bclone_any b d s.part wx ((HRT.out.later HBW.out).later hz) hp20).mono ?_
          rintro e w2 ⟨v2, rfl, o2, b2⟩
          exact hK _ _ ⟨v2, (by simp [upd, e6]), FX.pre_mk (own_mono o2 hsz), fun _ => b2, below_chain hbx b2⟩
        · 
          try dsimp only
          have x1 := depX hdp 1 (by kernel_rfl)
          have d1 := hall 1 (by omega) x1
          have e1 : t 1 = .int .i64 s.epoch := d1.1
          have x3 := depX hdp 3 (by kernel_rfl)
          have d3 := hall 3 (by omega) x3
          have e3 : t 3 = .int .i64 s.expect := d3.1
          have x4 := depX hdp 4 (by kernel_rfl)
          have d4 := hall 4 (by omega) x4
          have e4 : t 4 = .slice (some ⟨W1.heap.size, 0, none⟩) s.held.length s.held.length := d4.1
          have x7 := depX hdp 7 (by kernel_rfl)
          have d7 := hall 7 (by omega) x7
          rw [e1, e3, e4]
          have y9 := notYet hsh hxi 9 (by kernel_rfl)
          have f7 : wx.ownsRow wr.heap.size 5 1 (t 7) s.part.length (byt s.part) := FX.pre_of d7 y9
          obtain ⟨ad, cd, ed, -⟩ := rd_own f7
          rw [ed]
          clear y9
          clear h0
          refine wpOp_step rfl (fun K' hK => ?_)
          go_simp
          exact hK _ _ ⟨.agg #[.int .i64 s.epoch, .int .i64 s.expect, .slice (some ⟨W1.heap.size, 0, none⟩) s.held.length s.held.length, .slice ad s.part.length cd], (by simp [upd, ed, e1, e3, e4]), FX.pre_mk ⟨ad, cd, rfl, ed ▸ f7⟩, fun _ => Below.refl _ _, hbx⟩
        · 
          try dsimp only
          have x8 := depX hdp 8 (by kernel_rfl)
          have d8 := hall 8 (by omega) x8
          obtain ⟨ad, cd, eb, hrow⟩ : (fcAggH wr.heap.size s.epoch s.expect (.slice (some ⟨W1.heap.size, 0, none⟩) s.held.length s.held.length) s.part).p (t 8) wx := FX.pre_of d8 hxi
          have hz : Below wr.heap.size wr wx := hgx (by simp [hxi])
          rw [eb]
          have hb1 := (hz.block _ HG1.out).trans k1.out
          have g0 := cell_of_row wx _ 0 _ _ _ hb1
          have g1 := cell_of_row wx _ 1 _ _ _ hb1
          have g2 := cell_of_row wx _ 2 _ _ _ hb1
          have g3 := cell_of_row wx _ 3 _ _ _ hb1
          have z0 := frozen_of_row wx _ 0 _ _ hb1
          have z1 := frozen_of_row wx _ 1 _ _ hb1
          have z2 := frozen_of_row wx _ 2 _ _ hb1
          have z3 := frozen_of_row wx _ 3 _ _ hb1
          simp only [List.getElem?_toArray, List.getElem?_cons_zero, List.getElem?_cons_succ] at g0 g1 g2 g3
          have HB1X := hid hb1
          have HRW := hid hrow
          have HZ := hid hz
          clear hb1 hrow hz
          clear h0
          refine wpOp_step rfl (fun K' hK => ?_)
          go_simp
          exact hK _ _ ⟨undef, (by simp [upd, eb]), FX.is_mk ⟨by simp; exact HZ.out.size, fun k h1 h2 => (set4o h1).trans (HZ.out.block k h2), ad, cd, set4 HB1X.out, ownsRow_kept HRW.out (fun x hx => set4o (by have := (own_in HRW.out hx).1; have := HG1.out; omega))⟩, fun h => absurd (by simp) h, set4b hbx (by omega)⟩
      · intro x t wx hx hbx hall
        obtain ⟨-, hkx, ad, cd, hbx9, hrow9⟩ : (fcBoxH wr wr.heap.size (w.heap.size + 1) s.epoch s.expect (.slice (some ⟨W1.heap.size, 0, none⟩) s.held.length s.held.length) s.part).p (t 9) wx := FX.is_of (hall 9 (by omega))
        have HBX9 := hid hbx9
        have HRW9 := hid hrow9
        have HKX : Hid (∀ k, W1.heap.size ≤ k → k < wr.heap.size → wx.heap[k]? = wr.heap[k]?) := hid (fun k h1 h2 => hkx k (by have := HS1.out; omega) h2)
        have HBX := hid hbx
        clear hall hbx hbx9 hrow9 hx hkx
        try dsimp only
        repeat go_step
        refine bodyPost_ret (results_cell_row rfl _ _ (w.heap.size + 1) 32 #[.int .i64 s.epoch, .int .i64 s.expect, .slice (some ⟨W1.heap.size, 0, none⟩) s.held.length s.held.length, .slice ad s.part.length cd] (0, 0) _ rfl HBX9.out Try.underlying32 rfl (by kernel_rfl)) rfl ?_
        have o9 := ownSl_bytes HRW9.out HBY.out
        refine ⟨_, _, _, _, bs, _, rfl, ⟨HF.out.kept (fun x hx => HKX.out x (by have := HL.out x hx; have := HS1.out; omega) (HF.out.lt x hx)), o9⟩, ?_, ?_, HBX.out⟩
        · intro x hx
          rcases List.mem_append.1 hx with h | h
          · have := HL.out x h; have := HS1.out; omega
          · have := (own_in HRW9.out (by simpa using h)).1; have := HG1.out; omega
        · refine List.nodup_append.2 ⟨HND.out, by cases (Value.slice ad s.part.length cd).ownBlock <;> simp, fun x hx y hy e => ?_⟩
          have := HF.out.lt x hx
          have := (own_in HRW9.out (by simpa using hy)).1
          omega
end Go.Proofs.Ytfaehioeepolhaa
