import Derived.Test.YtfaehioeepolhaaJLinkTake30
import Derived.Test.YtfaehioeepolhaaJLinkTake42
namespace Go.Proofs.Ytfaehioeepolhaa
open Go.RowKit
set_option maxRecDepth 100000 in
set_option maxHeartbeats 8000000 in
theorem l5in_any (s : PI) (a b : Option Addr) (c d : Nat) (w : World) (hr : RdIn w s a c b d) (ht : totL pN s.held ≤ 1048576) (hp : s.part.length ≤ 1048576) :
    Calls Try.prog 22 #[.agg #[.int .i64 s.epoch, .int .i64 s.expect, .slice a s.held.length c, .slice b s.part.length d]] w fun e w' => ∃ a' c' b' d' bs ds, e = .returned (.agg #[.int .i64 s.epoch, .int .i64 s.expect, .slice a' s.held.length c', .slice b' s.part.length d']) ∧ OwnIn w' s a' c' b' d' bs ds ∧ (∀ x ∈ bs ++ ds, w.heap.size ≤ x) ∧ (bs ++ ds).Nodup ∧ Below w.heap.size w w' := by
  obtain ⟨i0, hi0, hz0, hz1, hz2⟩ := info_parts infoImPacket
  have HR := hid hr
  have HBY : Hid (∀ x ∈ s.part, x < 256) := hid (by obtain ⟨_, _, _, _, _, _, _, h⟩ := hr.t.bytes; exact h)
  clear hr
  have hlen : s.held.length ≤ 1048576 := by unfold totL at ht; omega
  have HK0 : Hid (((w.alloc (.cells #[.int .i64 s.epoch, .int .i64 s.expect, .slice a s.held.length c, .slice b s.part.length d] 32)).alloc (.cells #[.int .i64 0, .int .i64 0, .slice none 0 0, .slice none 0 0] 32)).heap[w.heap.size]? = some (.cells #[.int .i64 s.epoch, .int .i64 s.expect, .slice a s.held.length c, .slice b s.part.length d] 32 (0, 0))) := hid (heap2 _ _ (Below.refl _ _)).1
  have HK1 : Hid (((w.alloc (.cells #[.int .i64 s.epoch, .int .i64 s.expect, .slice a s.held.length c, .slice b s.part.length d] 32)).alloc (.cells #[.int .i64 0, .int .i64 0, .slice none 0 0, .slice none 0 0] 32)).heap[w.heap.size + 1]? = some (.cells #[.int .i64 0, .int .i64 0, .slice none 0 0, .slice none 0 0] 32 (0, 0))) := hid (heap2 _ _ (Below.refl _ _)).2
  have HB0 := hid (below_new2 w (.cells #[.int .i64 s.epoch, .int .i64 s.expect, .slice a s.held.length c, .slice b s.part.length d] 32) (.cells #[.int .i64 0, .int .i64 0, .slice none 0 0, .slice none 0 0] 32))
  have HSZ := hid (size2 w (.cells #[.int .i64 s.epoch, .int .i64 s.expect, .slice a s.held.length c, .slice b s.part.length d] 32) (.cells #[.int .i64 0, .int .i64 0, .slice none 0 0, .slice none 0 0] 32))
  go_enter Try.func22, Try.ntmps22
  go_upto_region 1 with fail
  generalize ((w.alloc (.cells #[.int .i64 s.epoch, .int .i64 s.expect, .slice a s.held.length c, .slice b s.part.length d] 32)).alloc (.cells #[.int .i64 0, .int .i64 0, .slice none 0 0, .slice none 0 0] 32)) = W0 at *
  have HGO : Hid (w.heap.size < W0.heap.size) := hid (by have := HSZ.out; omega)
  have HR0 := hid (HR.out.later HB0.out)
  have HCL : Hid (∀ wx, Below W0.heap.size W0 wx → _) := hid (fun wx hbx => l1copy_any b d s.part wx (HR0.out.t.later hbx) hp)
  have c00 := cell_of_row _ _ 0 _ _ _ HK0.out
  have c01 := cell_of_row _ _ 1 _ _ _ HK0.out
  have c03 := cell_of_row _ _ 3 _ _ _ HK0.out
  simp only [List.getElem?_toArray, List.getElem?_cons_zero, List.getElem?_cons_succ] at c00 c01 c03
  refine region_turns3 (n := 10) (by kernel_rfl) (by kernel_rfl) ?_ (fun t => { tmps := #[.agg #[.int .i64 s.epoch, .int .i64 s.expect, .slice a s.held.length c, .slice b s.part.length d], .pointer (some ⟨w.heap.size, 0, none⟩), .pointer (some ⟨w.heap.size + 1, 0, none⟩), t 8, undef, t 0, t 1, t 2, t 3, t 4, t 5, t 6, t 7, undef, undef, undef, undef, undef, undef, undef, undef, undef, undef, undef, undef, undef, undef, undef, undef, undef, undef, undef], defers := [] }) (niT W0.heap.size w.heap.size s.epoch s.expect (.slice b s.part.length d) s.part) [9] (Fct.any) (niH W0.heap.size s.epoch s.expect s.part) W0 W0 (fun k => if k = 6 then [9] else if k = 7 then [9] else if k = 8 then [9] else []) (fun k => !(k == 6 || k == 7 || k == 8 || k == 9)) (fun _ _ _ => True) [9] (fun _ _ => false) (by kernel_rfl) (fun _ _ _ _ h => by cases h) (fun i hi hn => absurd hi hn) (fun j hj => by rcases (by omega : j = 0 ∨ j = 1 ∨ j = 2 ∨ j = 3 ∨ j = 4 ∨ j = 5 ∨ j = 6 ∨ j = 7 ∨ j = 8 ∨ j = 9) with rfl | rfl | rfl | rfl | rfl | rfl | rfl | rfl | rfl | rfl <;> rfl) (fun j hj hp => by rcases (by omega : j = 0 ∨ j = 1 ∨ j = 2 ∨ j = 3 ∨ j = 4 ∨ j = 5 ∨ j = 6 ∨ j = 7 ∨ j = 8 ∨ j = 9) with rfl | rfl | rfl | rfl | rfl | rfl | rfl | rfl | rfl | rfl <;> first | rfl | (exact absurd hp (by decide))) (fun j => ([undef, undef, undef, undef, undef, undef, undef, undef, undef, undef] : List Value).getD j undef) (fun h => by cases h) (Below.refl _ W0) (trivial) ?_ ?_
  · rfl
  · intro i hi x t wx hxi hsh h0 hbx hgx hdp hall hHx
    have c00 := (hbx.cell (World.block_lt_of_cell? _ _ c00)).trans c00
    have c01 := (hbx.cell (World.block_lt_of_cell? _ _ c01)).trans c01
    have c03 := (hbx.cell (World.block_lt_of_cell? _ _ c03)).trans c03
    rcases (by omega : i = 0 ∨ i = 1 ∨ i = 2 ∨ i = 3 ∨ i = 4 ∨ i = 5 ∨ i = 6 ∨ i = 7 ∨ i = 8 ∨ i = 9) with rfl | rfl | rfl | rfl | rfl | rfl | rfl | rfl | rfl | rfl
    · 
      try dsimp only
      have hy := notYet hsh hxi 9 (by kernel_rfl)
      clear h0
      refine wpOp_step rfl (fun K' hK => ?_)
      go_simp
      exact hK _ _ ⟨.pointer (some ⟨w.heap.size, 0, none⟩), (by simp [upd]), FX.eq_mk rfl, fun _ => Below.refl _ _, fun h => absurd h (by decide), hbx, fun h => absurd h (by simp [hy])⟩
    · 
      try dsimp only
      have x0 := depX hdp 0 (by kernel_rfl)
      have d0 := hall 0 (by omega) x0
      have e0 : t 0 = .pointer (some ⟨w.heap.size, 0, none⟩) := d0.1
      rw [e0]
      have hy := notYet hsh hxi 9 (by kernel_rfl)
      clear h0
      refine wpOp_step rfl (fun K' hK => ?_)
      go_simp
      exact hK _ _ ⟨.int .i64 s.epoch, (by simp [upd, e0]), FX.eq_mk rfl, fun _ => Below.refl _ _, fun h => absurd h (by decide), hbx, fun h => absurd h (by simp [hy])⟩
    · 
      try dsimp only
      have hy := notYet hsh hxi 9 (by kernel_rfl)
      clear h0
      refine wpOp_step rfl (fun K' hK => ?_)
      go_simp
      exact hK _ _ ⟨.pointer (some ⟨w.heap.size, 1, none⟩), (by simp [upd]), FX.eq_mk rfl, fun _ => Below.refl _ _, fun h => absurd h (by decide), hbx, fun h => absurd h (by simp [hy])⟩
    · 
      try dsimp only
      have x2 := depX hdp 2 (by kernel_rfl)
      have d2 := hall 2 (by omega) x2
      have e2 : t 2 = .pointer (some ⟨w.heap.size, 1, none⟩) := d2.1
      rw [e2]
      have hy := notYet hsh hxi 9 (by kernel_rfl)
      clear h0
      refine wpOp_step rfl (fun K' hK => ?_)
      go_simp
      exact hK _ _ ⟨.int .i64 s.expect, (by simp [upd, e2]), FX.eq_mk rfl, fun _ => Below.refl _ _, fun h => absurd h (by decide), hbx, fun h => absurd h (by simp [hy])⟩
    · 
      try dsimp only
      have hy := notYet hsh hxi 9 (by kernel_rfl)
      clear h0
      refine wpOp_step rfl (fun K' hK => ?_)
      go_simp
      exact hK _ _ ⟨.pointer (some ⟨w.heap.size, 3, none⟩), (by simp [upd]), FX.eq_mk rfl, fun _ => Below.refl _ _, fun h => absurd h (by decide), hbx, fun h => absurd h (by simp [hy])⟩
    · 
      try dsimp only
      have x4 := depX hdp 4 (by kernel_rfl)
      have d4 := hall 4 (by omega) x4
      have e4 : t 4 = .pointer (some ⟨w.heap.size, 3, none⟩) := d4.1
      rw [e4]
      have hy := notYet hsh hxi 9 (by kernel_rfl)
      clear h0
      refine wpOp_step rfl (fun K' hK => ?_)
      go_simp
      exact hK _ _ ⟨.slice b s.part.length d, (by simp [upd, e4]), FX.eq_mk rfl, fun _ => Below.refl _ _, fun h => absurd h (by decide), hbx, fun h => absurd h (by simp [hy])⟩
    · 
      try dsimp only
      have x5 := depX hdp 5 (by kernel_rfl)
      have d5 := hall 5 (by omega) x5
      have e5 : t 5 = .slice b s.part.length d := d5.1
      rw [e5]
      have hy := notYet hsh hxi 9 (by kernel_rfl)
      clear h0
      refine wpOp_step rfl (fun K' hK => ?_)
      go_simp
      refine (HCL.out wx hbx).mono ?_
      rintro e w2 ⟨v2, rfl, o2, b2⟩
      exact hK _ _ ⟨v2, (by simp [upd, e5]), FX.pre_mk (own_mono o2 hbx.size), fun _ => b2, fun h => absurd h (by decide), below_chain hbx b2, fun h => absurd h (by simp [hy])⟩
    · 
      try dsimp only
      have x1 := depX hdp 1 (by kernel_rfl)
      have d1 := hall 1 (by omega) x1
      have e1 : t 1 = .int .i64 s.epoch := d1.1
      have x3 := depX hdp 3 (by kernel_rfl)
      have d3 := hall 3 (by omega) x3
      have e3 : t 3 = .int .i64 s.expect := d3.1
      have x6 := depX hdp 6 (by kernel_rfl)
      have d6 := hall 6 (by omega) x6
      rw [e1, e3]
      have hy := notYet hsh hxi 9 (by kernel_rfl)
      have f6 : wx.ownsRow W0.heap.size 5 1 (t 6) s.part.length (byt s.part) := FX.pre_of d6 hy
      obtain ⟨ad, cd, ed, -⟩ := rd_own f6
      rw [ed]
      clear h0
      refine wpOp_step rfl (fun K' hK => ?_)
      go_simp
      exact hK _ _ ⟨.agg #[.int .i64 s.epoch, .int .i64 s.expect, .slice none 0 0, .slice ad s.part.length cd], (by simp [upd, ed, e1, e3]), FX.pre_mk ⟨ad, cd, rfl, ed ▸ f6⟩, fun _ => Below.refl _ _, fun h => absurd h (by decide), hbx, fun h => absurd h (by simp [hy])⟩
    · 
      try dsimp only
      have hy := notYet hsh hxi 9 (by kernel_rfl)
      clear h0
      refine wpOp_step rfl (fun K' hK => ?_)
      go_simp
      exact hK _ _ ⟨.pointer (some ⟨wx.heap.size, 0, none⟩), (by simp [upd]), FX.pre_mk ⟨wx.heap.size, rfl, hbx.size, heap_alloc_new wx _⟩, fun _ => below_new1 _ _, fun h => absurd h (by decide), below_chain hbx (below_new1 _ _), fun h => absurd h (by simp [hy])⟩
    · 
      try dsimp only
      have x8 := depX hdp 8 (by kernel_rfl)
      have d8 := hall 8 (by omega) x8
      have x7 := depX hdp 7 (by kernel_rfl)
      have d7 := hall 7 (by omega) x7
      obtain ⟨gs, ea, lg, hbox⟩ : (fcNewI W0.heap.size).p (t 8) wx := FX.pre_of d8 hxi
      obtain ⟨ad, cd, eb, hrow⟩ : (fcAggI W0.heap.size s.epoch s.expect s.part).p (t 7) wx := FX.pre_of d7 hxi
      rw [ea, eb]
      have k0 := cell_of_row wx _ 0 _ _ _ hbox
      have k1 := cell_of_row wx _ 1 _ _ _ hbox
      have k2 := cell_of_row wx _ 2 _ _ _ hbox
      have k3 := cell_of_row wx _ 3 _ _ _ hbox
      have z0 := frozen_of_row wx _ 0 _ _ hbox
      have z1 := frozen_of_row wx _ 1 _ _ hbox
      have z2 := frozen_of_row wx _ 2 _ _ hbox
      have z3 := frozen_of_row wx _ 3 _ _ hbox
      simp only [List.getElem?_toArray, List.getElem?_cons_zero, List.getElem?_cons_succ] at k0 k1 k2 k3
      have HBX := hid hbox
      have HRW := hid hrow
      clear hbox hrow
      clear h0
      refine wpOp_step rfl (fun K' hK => ?_)
      go_simp
      exact hK _ _ ⟨undef, (by simp [upd, ea, eb]), FX.is_mk trivial, fun h => absurd (by decide) h, fun _ => trivial, set4b hbx lg, fun _ => ⟨gs, ad, cd, (by simp [upd]; exact ea), lg, set4 HBX.out, ownsRow_kept HRW.out (fun x hx => set4o (box_far HBX.out HRW.out (by decide) hx)), fun x hx => box_far HBX.out HRW.out (by decide) hx⟩⟩
  · intro x t wx hx hbx hall hHx
    obtain ⟨gM, aD, cD, eA, lg, hM, hrow, hfar⟩ := hHx (hx 9 (by omega))
    try dsimp only
    rw [eA]
    generalize t 0 = v0
    generalize t 1 = v1
    generalize t 2 = v2
    generalize t 3 = v3
    generalize t 4 = v4
    generalize t 5 = v5
    generalize t 6 = v6
    generalize t 7 = v7
    have HM := hid hM
    have HROW := hid hrow
    have HLG := hid lg
    have HFAR := hid hfar
    have HBX := hid hbx
    clear hall hbx hM hrow eA hHx hx lg hfar c00 c01 c03
    have o0 := ownSl_bytes HROW.out HBY.out
    have n0 : (Value.slice aD s.part.length cD).ownBlock.toList.Nodup := by cases (Value.slice aD s.part.length cD).ownBlock <;> simp
    have l0 : ∀ x ∈ (Value.slice aD s.part.length cD).ownBlock.toList, W0.heap.size ≤ x ∧ x ≠ gM := fun x hx => ⟨(own_in HROW.out (by simpa using hx)).1, HFAR.out x (by simpa using hx)⟩
    generalize (Value.slice aD s.part.length cD).ownBlock.toList = us at *
    have HUS : Hid (∀ x ∈ us, x < wx.heap.size ∧ x ≠ gM) := hid (fun x hx => ⟨o0.lt x hx, (l0 x hx).2⟩)
    have HUL : Hid (∀ x ∈ us, W0.heap.size ≤ x) := hid (fun x hx => (l0 x hx).1)
    have HUN := hid n0
    have HGM : Hid (gM < wx.heap.size) := hid (Array.getElem?_eq_some_iff.1 HM.out).1
    have HOB0 : Hid (InBox wx.heap.size gM s.epoch s.expect (.slice aD s.part.length cD) s.part us [] wx) := hid ⟨none, 0, [], HM.out, o0, .inl ⟨rfl, rfl, rfl⟩, by simp, by simp, Nat.le_refl _⟩
    have HV01 : Hid (W0.heap.size ≤ wx.heap.size) := hid HBX.out.size
    clear n0 o0 l0 HROW HFAR HM
    obtain ⟨V1, hV1⟩ : ∃ V, V = wx := ⟨_, rfl⟩
    subst hV1
    go_wp2
    go_loopw [4] (fun i wr => ∃ k : Nat, k ≤ s.held.length ∧ i = .int .i64 k ∧ InBox V1.heap.size gM s.epoch s.expect (.slice aD s.part.length cD) s.part us (s.held.take k) wr ∧ Below W0.heap.size W0 wr) (fun i _ => s.held.length - (intOf i).toNat)
    case atStart => exact ⟨0, Nat.zero_le _, rfl, by simpa using HOB0.out, HBX.out⟩
    case round =>
      obtain ⟨k, hk, rfl, hob, hbe⟩ := hrel
      have HXL : Hid ((s.held.take k).length = k) := hid (by simp; omega)
      have HOB := hid hob
      have HWR := hid hbe
      have HVS : Hid (V1.heap.size ≤ wr.heap.size) := hid (by obtain ⟨_, _, _, _, _, _, _, _, h⟩ := hob; exact h)
      clear hob hbe
      by_cases hlt : k < s.held.length
      · generalize hxs : s.held.take k = xs at *
        have HXS := hid hxs
        have hxl := HXL.out
        have hxl2 : xs.length ≤ 1048576 := by omega
        clear hxs hxl
        obtain ⟨bb, off, es, rfl, hes, hcs⟩ := (HR0.out.f.later HWR.out).atN hlt
        obtain ⟨an, cn, rfl, hnm, hpin⟩ := cPkt_rd hes
        have q0 : wr.cell? ⟨bb, off + k * 6, none⟩ = some (.int .i64 s.held[k].kind) := by have h := hcs 0 (by decide); rw [show cPkt.n = 6 from rfl] at h; simpa [Nat.add_assoc] using h
        have q1 : wr.cell? ⟨bb, off + k * 6 + 1, none⟩ = some (.int .i64 s.held[k].epoch) := by have h := hcs 1 (by decide); rw [show cPkt.n = 6 from rfl] at h; simpa [Nat.add_assoc] using h
        have q2 : wr.cell? ⟨bb, off + k * 6 + 2, none⟩ = some (.int .i64 s.held[k].seq) := by have h := hcs 2 (by decide); rw [show cPkt.n = 6 from rfl] at h; simpa [Nat.add_assoc] using h
        have q3 : wr.cell? ⟨bb, off + k * 6 + 3, none⟩ = some (.int .i64 s.held[k].count) := by have h := hcs 3 (by decide); rw [show cPkt.n = 6 from rfl] at h; simpa [Nat.add_assoc] using h
        have q4 : wr.cell? ⟨bb, off + k * 6 + 4, none⟩ = some (.bool s.held[k].last) := by have h := hcs 4 (by decide); rw [show cPkt.n = 6 from rfl] at h; simpa [Nat.add_assoc] using h
        have q5 : wr.cell? ⟨bb, off + k * 6 + 5, none⟩ = some (.slice an s.held[k].data.length cn) := by have h := hcs 5 (by decide); rw [show cPkt.n = 6 from rfl] at h; simpa [Nat.add_assoc] using h
        have hki : (k : Int) < (s.held.length : Int) := by omega
        have HNM := hid hnm
        have HOK : Hid (PPIn s.held[k]) := hid hpin
        have hnl : s.held[k].data.length ≤ 1048576 := by have h := tot_at pN s.held k hlt; unfold totL at ht; exact Nat.le_trans h (by omega)
        obtain ⟨aA, cA, bsA, hkm, hpx, hox, hnb, hbb, -⟩ := HOB.out
        have HKM := hid hkm
        have HPX := hid hpx
        have HOX := hid hox
        have HNB := hid hnb
        have HBB := hid hbb
        have p2 := cell_of_row _ _ 2 _ _ _ ((HWR.out.block _ HGO.out).trans HK0.out)
        have g2 := cell_of_row _ _ 2 _ _ _ hkm
        simp only [List.getElem?_toArray, List.getElem?_cons_zero, List.getElem?_cons_succ] at p2 g2
        clear hes hnm hpin hcs hkm hpx hox hnb hbb
        go_wp2_with fail
        refine region_turns (n := 12) (by kernel_rfl) (by kernel_rfl) ?_ (fun t => { tmps := #[.agg #[.int .i64 s.epoch, .int .i64 s.expect, .slice (some ⟨bb, off, none⟩) s.held.length c, .slice b s.part.length d], .pointer (some ⟨w.heap.size, 0, none⟩), .pointer (some ⟨w.heap.size + 1, 0, none⟩), .pointer (some ⟨gM, 0, none⟩), .int .i64 (k : Int), v0, v1, v2, v3, v4, v5, v6, v7, .int .i64 (k : Int), .pointer (some ⟨w.heap.size, 2, none⟩), .slice (some ⟨bb, off, none⟩) s.held.length c, .int .i64 (s.held.length : Int), .bool true, u18, u19, t 0, t 1, t 2, t 3, t 4, t 5, t 6, t 7, t 8, t 9, t 10, undef], defers := [] }) (shT V1.heap.size wr.heap.size gM w.heap.size bb off c s.held.length k s.held[k] an cn (.slice aA xs.length cA) s.epoch s.expect (.slice aD s.part.length cD) s.part us xs) [9, 11] (fcSameL wr) W0 wr (fun k => if k = 7 then [9, 11] else if k = 8 then [9, 11] else if k = 9 then [11] else []) (fun k => !(k == 7 || k == 8 || k == 9 || k == 11)) (by kernel_rfl) (fun j hj => by rcases (by omega : j = 0 ∨ j = 1 ∨ j = 2 ∨ j = 3 ∨ j = 4 ∨ j = 5 ∨ j = 6 ∨ j = 7 ∨ j = 8 ∨ j = 9 ∨ j = 10 ∨ j = 11) with rfl | rfl | rfl | rfl | rfl | rfl | rfl | rfl | rfl | rfl | rfl | rfl <;> rfl) (fun j hj hp => by rcases (by omega : j = 0 ∨ j = 1 ∨ j = 2 ∨ j = 3 ∨ j = 4 ∨ j = 5 ∨ j = 6 ∨ j = 7 ∨ j = 8 ∨ j = 9 ∨ j = 10 ∨ j = 11) with rfl | rfl | rfl | rfl | rfl | rfl | rfl | rfl | rfl | rfl | rfl | rfl <;> first | rfl | (exact absurd hp (by decide))) (fun j => ([u20, u21, u22, u23, u24, u25, u26, u27, u28, u29, u30, undef] : List Value).getD j undef) HWR.out (Below.refl _ _) ?_ ?_
        · rfl
        · intro i hi x t wx hxi hsh h0 hbx hgx hdp hall
          rcases (by omega : i = 0 ∨ i = 1 ∨ i = 2 ∨ i = 3 ∨ i = 4 ∨ i = 5 ∨ i = 6 ∨ i = 7 ∨ i = 8 ∨ i = 9 ∨ i = 10 ∨ i = 11) with rfl | rfl | rfl | rfl | rfl | rfl | rfl | rfl | rfl | rfl | rfl | rfl
          · 
            try dsimp only
            clear h0
            refine wpOp_step rfl (fun K' hK => ?_)
            go_simp
            exact hK _ _ ⟨.pointer (some ⟨gM, 2, none⟩), (by simp [upd]), FX.eq_mk rfl, fun _ => Below.refl _ _, hbx⟩
          · 
            try dsimp only
            have x0 := depX hdp 0 (by kernel_rfl)
            have d0 := hall 0 (by omega) x0
            have e0 : t 0 = .pointer (some ⟨gM, 2, none⟩) := d0.1
            rw [e0]
            have y9 := notYet hsh hxi 9 (by kernel_rfl)
            have y11 := notYet hsh hxi 11 (by kernel_rfl)
            have hz : Below wr.heap.size wr wx := hgx (by simp [y9, y11])
            have g2 := (hz.cell (World.block_lt_of_cell? _ _ g2)).trans g2
            clear y9 y11 hz
            clear h0
            refine wpOp_step rfl (fun K' hK => ?_)
            go_simp
            exact hK _ _ ⟨.slice aA xs.length cA, (by simp [upd, e0]), FX.eq_mk rfl, fun _ => Below.refl _ _, hbx⟩
          · 
            try dsimp only
            clear h0
            refine wpOp_step rfl (fun K' hK => ?_)
            go_simp
            exact hK _ _ ⟨.pointer (some ⟨w.heap.size, 2, none⟩), (by simp [upd]), FX.eq_mk rfl, fun _ => Below.refl _ _, hbx⟩
          · 
            try dsimp only
            have x2 := depX hdp 2 (by kernel_rfl)
            have d2 := hall 2 (by omega) x2
            have e2 : t 2 = .pointer (some ⟨w.heap.size, 2, none⟩) := d2.1
            rw [e2]
            have y9 := notYet hsh hxi 9 (by kernel_rfl)
            have y11 := notYet hsh hxi 11 (by kernel_rfl)
            have hz : Below wr.heap.size wr wx := hgx (by simp [y9, y11])
            have p2 := (hz.cell (World.block_lt_of_cell? _ _ p2)).trans p2
            clear y9 y11 hz
            clear h0
            refine wpOp_step rfl (fun K' hK => ?_)
            go_simp
            exact hK _ _ ⟨.slice (some ⟨bb, off, none⟩) s.held.length c, (by simp [upd, e2]), FX.eq_mk rfl, fun _ => Below.refl _ _, hbx⟩
          · 
            try dsimp only
            clear h0
            refine wpOp_step rfl (fun K' hK => ?_)
            go_simp
            exact hK _ _ ⟨.int .i64 (k : Int), (by simp [upd]), FX.eq_mk rfl, fun _ => Below.refl _ _, hbx⟩
          · 
            try dsimp only
            have x3 := depX hdp 3 (by kernel_rfl)
            have d3 := hall 3 (by omega) x3
            have e3 : t 3 = .slice (some ⟨bb, off, none⟩) s.held.length c := d3.1
            have x4 := depX hdp 4 (by kernel_rfl)
            have d4 := hall 4 (by omega) x4
            have e4 : t 4 = .int .i64 (k : Int) := d4.1
            rw [e3, e4]
            clear h0
            refine wpOp_step rfl (fun K' hK => ?_)
            go_simp
            exact hK _ _ ⟨.pointer (some ⟨bb, off + k * 6, none⟩), (by simp [upd, e3, e4]), FX.eq_mk rfl, fun _ => Below.refl _ _, hbx⟩
          · 
            try dsimp only
            have x5 := depX hdp 5 (by kernel_rfl)
            have d5 := hall 5 (by omega) x5
            have e5 : t 5 = .pointer (some ⟨bb, off + k * 6, none⟩) := d5.1
            rw [e5]
            have y9 := notYet hsh hxi 9 (by kernel_rfl)
            have y11 := notYet hsh hxi 11 (by kernel_rfl)
            have hz : Below wr.heap.size wr wx := hgx (by simp [y9, y11])
            have q0 := (hz.cell (World.block_lt_of_cell? _ _ q0)).trans q0
            have q1 := (hz.cell (World.block_lt_of_cell? _ _ q1)).trans q1
            have q2 := (hz.cell (World.block_lt_of_cell? _ _ q2)).trans q2
            have q3 := (hz.cell (World.block_lt_of_cell? _ _ q3)).trans q3
            have q4 := (hz.cell (World.block_lt_of_cell? _ _ q4)).trans q4
            have q5 := (hz.cell (World.block_lt_of_cell? _ _ q5)).trans q5
            clear y9 y11 hz
            clear h0
            refine wpOp_step rfl (fun K' hK => ?_)
            go_simp
            exact hK _ _ ⟨.agg #[.int .i64 s.held[k].kind, .int .i64 s.held[k].epoch, .int .i64 s.held[k].seq, .int .i64 s.held[k].count, .bool s.held[k].last, .slice an s.held[k].data.length cn], (by simp [upd, e5]), FX.eq_mk rfl, fun _ => Below.refl _ _, hbx⟩
          · 
            try dsimp only
            have x6 := depX hdp 6 (by kernel_rfl)
            have d6 := hall 6 (by omega) x6
            have e6 : t 6 = .agg #[.int .i64 s.held[k].kind, .int .i64 s.held[k].epoch, .int .i64 s.held[k].seq, .int .i64 s.held[k].count, .bool s.held[k].last, .slice an s.held[k].data.length cn] := d6.1
            rw [e6]
            have y9 := notYet hsh hxi 9 (by kernel_rfl)
            have y11 := notYet hsh hxi 11 (by kernel_rfl)
            have hz : Below wr.heap.size wr wx := hgx (by simp [y9, y11])
            have hsz := hz.size
            clear h0
            refine wpOp_step rfl (fun K' hK => ?_)
            go_simp
            refine (l5packet_any s.held[k] an cn wx (HNM.out.later hz) hnl).mono ?_
            rintro e w2 ⟨a2, c2, bk, rfl, o2, hb2, hn2, b2⟩
            exact hK _ _ ⟨_, (by simp [upd, e6]), FX.pre_mk ⟨a2, c2, bk, rfl, o2, fun b hb => Nat.le_trans hsz (hb2 b hb), hn2⟩, fun _ => b2, below_chain hbx b2⟩
          · 
            try dsimp only
            have x7 := depX hdp 7 (by kernel_rfl)
            have d7 := hall 7 (by omega) x7
            have y9 := notYet hsh hxi 9 (by kernel_rfl)
            have y11 := notYet hsh hxi 11 (by kernel_rfl)
            obtain ⟨a4, c4, bk4, e7, r8, r9⟩ : (fcPk wr.heap.size s.held[k]).p (t 7) wx := FX.pre_of2 d7 y9 y11
            rw [e7]
            clear y9 y11
            clear h0
            refine wpOp_step rfl (fun K' hK => ?_)
            go_simp
            exact hK _ _ ⟨.slice (some ⟨wx.heap.size, 0, none⟩) 1 1, (by simp [upd, e7]), FX.pre_mk ⟨wx.heap.size, a4, c4, bk4, rfl, heap_alloc_new wx _, ownB_kept r8 (below_new1 _ _), r9⟩, fun _ => below_new1 _ _, below_chain hbx (below_new1 _ _)⟩
          · 
            try dsimp only
            have x1 := depX hdp 1 (by kernel_rfl)
            have d1 := hall 1 (by omega) x1
            have e1 : t 1 = .slice aA xs.length cA := d1.1
            have x8 := depX hdp 8 (by kernel_rfl)
            have d8 := hall 8 (by omega) x8
            rw [e1]
            have y11 := notYet hsh hxi 11 (by kernel_rfl)
            obtain ⟨g16, a4, c4, bk4, e8, h16, r8, r9, r10⟩ : (fcOneP wr.heap.size s.held[k]).p (t 8) wx := FX.pre_of2 d8 hxi y11
            rw [e8]
            have hz : Below wr.heap.size wr wx := hgx (by simp [hxi, y11])
            have hvx : V1.heap.size ≤ wx.heap.size := Nat.le_trans HVS.out hz.size
            have hox := HOX.out.kept (w' := wx) (fun b hb => hz.block b (HOX.out.lt b hb))
            have hkm := (hz.block _ (Array.getElem?_eq_some_iff.1 HKM.out).1).trans HKM.out
            have hpx := HPX.out.kept (w' := wx) (fun b hb => hz.block b (HPX.out.lt b hb))
            obtain ⟨vals, ho, hgrowS⟩ := hox.grow HNB.out HBB.out hvx (cPkt_own (p := s.held[k]) r8 HOK.out) r10 (fun b hb => Nat.le_trans HVS.out (r9 b hb)) (fun b hb hc => by have := HOX.out.lt b hc; have := r9 b hb; omega)
            clear h0
            refine wpOp_step rfl (fun K' hK => ?_)
            refine step_append_lies _ rfl (.tmp 21) (.tmp 28) 30 rfl V1.heap.size 37 i0 (.agg #[.int .i64 0, .int .i64 0, .int .i64 0, .int .i64 0, .bool false, .slice none 0 0]) 6 64 Try.underlying30 hi0 hz0 hz1 hz2 rfl (by decide) (.slice aA xs.length cA) xs.length vals rfl ho ⟨g16, 0, none⟩ 1 1 [.int .i64 s.held[k].kind, .int .i64 s.held[k].epoch, .int .i64 s.held[k].seq, .int .i64 s.held[k].count, .bool s.held[k].last, .slice a4 s.held[k].data.length c4] rfl rfl (World.news_of_block h16) (by simp [Value.oneCell']) (by omega) (by unfold maxLen; omega) (by omega) hvx _ rfl ?_
            intro g' cap' w9 hown hgrow hat hlt9
            obtain ⟨bs9, q1, q2, q3⟩ := hgrowS g' cap' w9 hown hgrow hat
            have hne : ∀ x, x < V1.heap.size → some x ≠ (Value.slice aA xs.length cA).ownBlock := fun x hx e => by have := HBB.out _ (own_block_mem HOX.out e.symm); omega
            exact hK _ _ ⟨.slice (some ⟨g', 0, none⟩) (xs.length + 1) cap', (by simp [upd, e1, e8, Act.put]), FX.pre_mk ⟨(hgrow.block _ (Array.getElem?_eq_some_iff.1 hkm).1 (hne _ HGM.out)).trans hkm, hpx.kept (fun b hb => hgrow.block b (hpx.lt b hb) (hne _ (HUS.out b hb).1)), some ⟨g', 0, none⟩, cap', bs9, by simp, q1, q2, fun b hb => (q3 b hb).1, Nat.le_trans hvx hgrow.size⟩, fun h => absurd (by simp) h, hbx.grown hgrow hbx.size (fun p hp => Nat.le_trans HV01.out (own_in7 ho hp).1)⟩
          · 
            try dsimp only
            clear h0
            refine wpOp_step rfl (fun K' hK => ?_)
            go_simp
            exact hK _ _ ⟨.pointer (some ⟨gM, 2, none⟩), (by simp [upd]), FX.eq_mk rfl, fun _ => Below.refl _ _, hbx⟩
          · 
            try dsimp only
            have x10 := depX hdp 10 (by kernel_rfl)
            have d10 := hall 10 (by omega) x10
            have e10 : t 10 = .pointer (some ⟨gM, 2, none⟩) := d10.1
            have x9 := depX hdp 9 (by kernel_rfl)
            have d9 := hall 9 (by omega) x9
            rw [e10]
            obtain ⟨hbm, hpx, a17, c17, bs17, e9, o17, n17, b17, s17⟩ : (fcGotP V1.heap.size gM s.epoch s.expect (.slice aD s.part.length cD) s.part us (.slice aA xs.length cA) (xs ++ [s.held[k]])).p (t 9) wx := FX.pre_of d9 hxi
            rw [e9]
            have k2 := cell_of_row wx _ 2 _ _ _ hbm
            have z2 := frozen_of_row wx _ 2 _ _ hbm
            simp only [List.getElem?_toArray, List.getElem?_cons_zero, List.getElem?_cons_succ] at k2
            have hput := inBox_put hbm hpx o17 n17 b17 s17 HGM.out HUS.out
            rw [show (xs ++ [s.held[k]]).length = xs.length + 1 from by simp] at hput
            have HPUT := hid hput
            clear hput
            clear hbm hpx o17 n17 b17 s17
            clear h0
            refine wpOp_step rfl (fun K' hK => ?_)
            go_simp
            exact hK _ _ ⟨undef, (by simp [upd, e10, e9]), FX.is_mk HPUT.out, fun h => absurd (by simp) h, hbx.setCell (p := ⟨gM, 2, none⟩) HLG.out _⟩
        · intro x t wx hx hbx hall
          have hP : InBox V1.heap.size gM s.epoch s.expect (.slice aD s.part.length cD) s.part us (xs ++ [s.held[k]]) wx := FX.is_of (hall 11 (by omega))
          rw [← HXS.out, ← List.take_succ_eq_append_getElem hlt] at hP
          have HP := hid hP
          have HBX := hid hbx
          clear hall hbx hP
          try dsimp only
          go_wp2
          go_roundw
          case rel => exact ⟨k + 1, by omega, by go_num, HP.out, HBX.out⟩
          case measure => simp [intOf]; omega
      · obtain rfl : k = s.held.length := by omega
        rw [List.take_length] at HOB
        obtain ⟨aA, cA, bsA, hkm, hpx, hox, hnb, hbb, -⟩ := HOB.out
        have k1 := (HWR.out.block _ (by have := HSZ.out; omega)).trans HK1.out
        have p2 := cell_of_row _ _ 2 _ _ _ ((HWR.out.block _ HGO.out).trans HK0.out)
        simp only [List.getElem?_toArray, List.getElem?_cons_zero, List.getElem?_cons_succ] at p2
        have c00 := cell_of_row wr _ 0 _ _ _ hkm
        have c10 := cell_of_row wr _ 0 _ _ _ k1
        have f10 := frozen_of_row wr _ 0 _ _ k1
        have c01 := cell_of_row wr _ 1 _ _ _ hkm
        have c11 := cell_of_row wr _ 1 _ _ _ k1
        have f11 := frozen_of_row wr _ 1 _ _ k1
        have c02 := cell_of_row wr _ 2 _ _ _ hkm
        have c12 := cell_of_row wr _ 2 _ _ _ k1
        have f12 := frozen_of_row wr _ 2 _ _ k1
        have c03 := cell_of_row wr _ 3 _ _ _ hkm
        have c13 := cell_of_row wr _ 3 _ _ _ k1
        have f13 := frozen_of_row wr _ 3 _ _ k1
        simp only [List.getElem?_toArray, List.getElem?_cons_zero, List.getElem?_cons_succ] at c00 c10 c01 c11 c02 c12 c03 c13
        have K1 := hid k1
        have HOX := hid hox
        have HPX := hid hpx
        have HBB := hid hbb
        have HNB := hid hnb
        clear k1 hkm hpx hox hbb hnb
        go_wp2
        refine bodyPost_ret (results_cell_row rfl _ _ (w.heap.size + 1) 32 #[.int .i64 s.epoch, .int .i64 s.expect, .slice aA s.held.length cA, .slice aD s.part.length cD] (0, 0) _ rfl (set4 K1.out) Try.underlying32 rfl (by kernel_rfl)) rfl ?_
        have hs := HSZ.out
        have hv := HV01.out
        refine ⟨_, _, _, _, bsA, us, rfl, ⟨HOX.out.kept (fun x hx => set4o (by have := HBB.out x hx; omega)), HPX.out.kept (fun x hx => set4o (by have := HUL.out x hx; omega))⟩, ?_, ?_, set4b (below_chain HB0.out HWR.out) (by omega)⟩
        · intro x hx
          rcases List.mem_append.1 hx with h | h
          · have := HBB.out x h; omega
          · have := HUL.out x h; omega
        · exact List.nodup_append.2 ⟨HNB.out, HUN.out, fun x hx y hy e => by have := HBB.out x hx; have := (HUS.out y hy).1; omega⟩
end Go.Proofs.Ytfaehioeepolhaa
