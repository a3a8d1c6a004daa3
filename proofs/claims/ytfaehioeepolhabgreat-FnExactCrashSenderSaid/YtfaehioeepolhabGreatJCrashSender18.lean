import Derived.Test.YtfaehioeepolhabGreatJCrashSender17
namespace Go.Proofs.YtfaehioeepolhabGreat
open Go.RowKit
set_option maxRecDepth 100000 in
set_option maxHeartbeats 8000000 in
theorem l5out_any (o : PO) (a : Option Addr) (c : Nat) (w : World) (hr : RdSl cSnt w o.wait (.slice a o.wait.length c)) (ht : totL wN o.wait ≤ 1048576) :
  Calls Tryz.prog 67 #[.agg #[.int .i64 o.epoch, .int .i64 o.next, .int .i64 o.now, .slice a o.wait.length c]] w fun e w' => ∃ a2 c2 bs, e = .returned (.agg #[.int .i64 o.epoch, .int .i64 o.next, .int .i64 o.now, .slice a2 o.wait.length c2]) ∧ OwnSl cSnt 141 w' o.wait (.slice a2 o.wait.length c2) bs ∧ (∀ b ∈ bs, w.heap.size ≤ b) ∧ bs.Nodup ∧ Below w.heap.size w w' := by
 obtain ⟨i0, hi0, hz0, hz1, hz2⟩ := info_parts infoImSent
 have HR := hid hr
 clear hr
 have hlen : o.wait.length ≤ 1048576 := by unfold totL at ht; omega
 have HK0 : Hid (((w.alloc (.cells #[.int .i64 o.epoch, .int .i64 o.next, .int .i64 o.now, .slice a o.wait.length c] 41)).alloc (.cells #[.int .i64 0, .int .i64 0, .int .i64 0, .slice none 0 0] 41)).heap[w.heap.size]? = some (.cells #[.int .i64 o.epoch, .int .i64 o.next, .int .i64 o.now, .slice a o.wait.length c] 41 (0, 0))) := hid (heap2 _ _ (Below.refl _ _)).1
 have HK1 : Hid (((w.alloc (.cells #[.int .i64 o.epoch, .int .i64 o.next, .int .i64 o.now, .slice a o.wait.length c] 41)).alloc (.cells #[.int .i64 0, .int .i64 0, .int .i64 0, .slice none 0 0] 41)).heap[w.heap.size + 1]? = some (.cells #[.int .i64 0, .int .i64 0, .int .i64 0, .slice none 0 0] 41 (0, 0))) := hid (heap2 _ _ (Below.refl _ _)).2
 have HB0 := hid (below_new2 w (.cells #[.int .i64 o.epoch, .int .i64 o.next, .int .i64 o.now, .slice a o.wait.length c] 41) (.cells #[.int .i64 0, .int .i64 0, .int .i64 0, .slice none 0 0] 41))
 have HSZ := hid (size2 w (.cells #[.int .i64 o.epoch, .int .i64 o.next, .int .i64 o.now, .slice a o.wait.length c] 41) (.cells #[.int .i64 0, .int .i64 0, .int .i64 0, .slice none 0 0] 41))
 go_enter Tryz.func67, Tryz.ntmps67
 go_upto_region 1 with fail
 generalize ((w.alloc (.cells #[.int .i64 o.epoch, .int .i64 o.next, .int .i64 o.now, .slice a o.wait.length c] 41)).alloc (.cells #[.int .i64 0, .int .i64 0, .int .i64 0, .slice none 0 0] 41)) = W0 at *
 have HGO : Hid (w.heap.size < W0.heap.size) := hid (by have := HSZ.out; omega)
 have k0 := cR _ _ 0 _ _ _ HK0.out
 have k1 := cR _ _ 1 _ _ _ HK0.out
 have k2 := cR _ _ 2 _ _ _ HK0.out
 simp only [gA, gZ, gU] at k0 k1 k2
 have HR0 := hid (HR.out.later HB0.out)
 have HOB0 : Hid (OutBox W0.heap.size W0.heap.size o.epoch o.next o.now [] (W0.alloc (.cells #[.int .i64 o.epoch, .int .i64 o.next, .int .i64 o.now, .slice none 0 0] 41))) := hid ⟨none, 0, [], heap_alloc_new W0 _, .inl ⟨rfl, rfl, rfl⟩, by simp, by simp⟩
 have HB1 := hid (bN W0 (.cells #[.int .i64 o.epoch, .int .i64 o.next, .int .i64 o.now, .slice none 0 0] 41))
 go_upto_region 2 with fail
 generalize (W0.alloc (.cells #[.int .i64 o.epoch, .int .i64 o.next, .int .i64 o.now, .slice none 0 0] 41)) = W1 at *
 clear k0 k1 k2
 go_wp2
 go_loopw [4] (fun i wr => ∃ k : Nat, k ≤ o.wait.length ∧ i = .int .i64 k ∧ OutBox W0.heap.size W0.heap.size o.epoch o.next o.now (o.wait.take k) wr ∧ Below W0.heap.size W0 wr) (fun i _ => o.wait.length - (intOf i).toNat)
 case atStart => exact ⟨0, Nat.zero_le _, rfl, by simpa using HOB0.out, HB1.out⟩
 case round =>
  obtain ⟨k, hk, rfl, hob, hbe⟩ := hrel
  have HXL : Hid ((o.wait.take k).length = k) := hid (by simp; omega)
  have HOB := hid hob
  have HWR := hid hbe
  clear hob hbe
  by_cases hlt : k < o.wait.length
  ·generalize hxs : o.wait.take k = xs at *
   have HXS := hid hxs
   have hxl := HXL.out
   have hxl2 : xs.length ≤ 1048576 := by omega
   clear hxs hxl
   obtain ⟨b, off, es, rfl, hes, hcs⟩ := (HR0.out.later HWR.out).atN hlt
   obtain ⟨an, cn, rfl, hnm, hpin, hat⟩ := cSnt_rd hes
   have d0 : wr.cell? ⟨b, off + k * 7, none⟩ = some (.int .i64 o.wait[k].pkt.kind) := by have h := hcs 0 (by decide); rw [show cSnt.n = 7 from rfl] at h; simpa [Nat.add_assoc] using h
   have d1 : wr.cell? ⟨b, off + k * 7 + 1, none⟩ = some (.int .i64 o.wait[k].pkt.epoch) := by have h := hcs 1 (by decide); rw [show cSnt.n = 7 from rfl] at h; simpa [Nat.add_assoc] using h
   have d2 : wr.cell? ⟨b, off + k * 7 + 2, none⟩ = some (.int .i64 o.wait[k].pkt.seq) := by have h := hcs 2 (by decide); rw [show cSnt.n = 7 from rfl] at h; simpa [Nat.add_assoc] using h
   have d3 : wr.cell? ⟨b, off + k * 7 + 3, none⟩ = some (.int .i64 o.wait[k].pkt.count) := by have h := hcs 3 (by decide); rw [show cSnt.n = 7 from rfl] at h; simpa [Nat.add_assoc] using h
   have d4 : wr.cell? ⟨b, off + k * 7 + 4, none⟩ = some (.bool o.wait[k].pkt.last) := by have h := hcs 4 (by decide); rw [show cSnt.n = 7 from rfl] at h; simpa [Nat.add_assoc] using h
   have d5 : wr.cell? ⟨b, off + k * 7 + 5, none⟩ = some (.slice an o.wait[k].pkt.data.length cn) := by have h := hcs 5 (by decide); rw [show cSnt.n = 7 from rfl] at h; simpa [Nat.add_assoc] using h
   have d6 : wr.cell? ⟨b, off + k * 7 + 6, none⟩ = some (.int .i64 o.wait[k].at_) := by have h := hcs 6 (by decide); rw [show cSnt.n = 7 from rfl] at h; simpa [Nat.add_assoc] using h
   have hki : (k : Int) < (o.wait.length : Int) := by omega
   have HNM := hid hnm
   have HOK : Hid (PPIn o.wait[k].pkt ∧ IntIn o.wait[k].at_) := hid ⟨hpin, hat⟩
   have hnl : o.wait[k].pkt.data.length ≤ 1048576 := by have h := tot_at wN o.wait k hlt; unfold totL at ht; exact Nat.le_trans h (by omega)
   obtain ⟨aA, cA, bsA, hkm, hox, hnb, hbb⟩ := HOB.out
   have HKM := hid hkm
   have HOX := hid hox
   have HNB := hid hnb
   have HBB := hid hbb
   have p3 := cR _ _ 3 _ _ _ ((HWR.out.block _ HGO.out).trans HK0.out)
   have g3 := cR _ _ 3 _ _ _ hkm
   simp only [gA, gZ, gU] at p3 g3
   clear hes hnm hpin hat hcs hkm hox hnb hbb
   go_wp2_with fail
   refine region_turns (n := 20) (by kernel_rfl) (by kernel_rfl) ?_ (fun t => { tmps := #[.agg #[.int .i64 o.epoch, .int .i64 o.next, .int .i64 o.now, .slice (some ⟨b, off, none⟩) o.wait.length c], .pointer (some ⟨w.heap.size, 0, none⟩), .pointer (some ⟨w.heap.size + 1, 0, none⟩), .pointer (some ⟨W0.heap.size, 0, none⟩), .int .i64 (k : Int), .pointer (some ⟨w.heap.size, 0, none⟩), .int .i64 o.epoch, .pointer (some ⟨w.heap.size, 1, none⟩), .int .i64 o.next, .pointer (some ⟨w.heap.size, 2, none⟩), .int .i64 o.now, .agg #[.int .i64 o.epoch, .int .i64 o.next, .int .i64 o.now, .slice none 0 0], .int .i64 (k : Int), .pointer (some ⟨w.heap.size, 3, none⟩), .slice (some ⟨b, off, none⟩) o.wait.length c, .int .i64 (o.wait.length : Int), .bool true, u17, u18, t 0, t 1, t 2, t 3, t 4, t 5, t 6, t 7, t 8, t 9, t 10, t 11, t 12, t 13, t 14, t 15, t 16, t 17, t 18, undef], defers := [] }) (soT W0.heap.size wr.heap.size W0.heap.size w.heap.size b off c o.wait.length k o.wait[k] an cn (.slice aA xs.length cA) o.epoch o.next o.now xs) [17, 19] (fcSameL wr) W0 wr (fun k => if k = 8 then [17, 19] else if k = 15 then [17, 19] else if k = 16 then [17, 19] else if k = 17 then [19] else []) (fun k => !(k == 8 || k == 15 || k == 16 || k == 17 || k == 19)) (by kernel_rfl) (fun j hj => by rcases (by omega : j = 0 ∨ j = 1 ∨ j = 2 ∨ j = 3 ∨ j = 4 ∨ j = 5 ∨ j = 6 ∨ j = 7 ∨ j = 8 ∨ j = 9 ∨ j = 10 ∨ j = 11 ∨ j = 12 ∨ j = 13 ∨ j = 14 ∨ j = 15 ∨ j = 16 ∨ j = 17 ∨ j = 18 ∨ j = 19) with rfl | rfl | rfl | rfl | rfl | rfl | rfl | rfl | rfl | rfl | rfl | rfl | rfl | rfl | rfl | rfl | rfl | rfl | rfl | rfl <;> rfl) (fun j hj hp => by rcases (by omega : j = 0 ∨ j = 1 ∨ j = 2 ∨ j = 3 ∨ j = 4 ∨ j = 5 ∨ j = 6 ∨ j = 7 ∨ j = 8 ∨ j = 9 ∨ j = 10 ∨ j = 11 ∨ j = 12 ∨ j = 13 ∨ j = 14 ∨ j = 15 ∨ j = 16 ∨ j = 17 ∨ j = 18 ∨ j = 19) with rfl | rfl | rfl | rfl | rfl | rfl | rfl | rfl | rfl | rfl | rfl | rfl | rfl | rfl | rfl | rfl | rfl | rfl | rfl | rfl <;> first | rfl | (exact absurd hp (by decide))) (fun j => ([u19, u20, u21, u22, u23, u24, u25, u26, u27, u28, u29, u30, u31, u32, u33, u34, u35, u36, u37, undef] : List Value).getD j undef) HWR.out (Below.refl _ _) ?_ ?_
   ·rfl
   ·intro i hi x t wx hxi hsh h0 hbx hgx hdp hall
    rcases (by omega : i = 0 ∨ i = 1 ∨ i = 2 ∨ i = 3 ∨ i = 4 ∨ i = 5 ∨ i = 6 ∨ i = 7 ∨ i = 8 ∨ i = 9 ∨ i = 10 ∨ i = 11 ∨ i = 12 ∨ i = 13 ∨ i = 14 ∨ i = 15 ∨ i = 16 ∨ i = 17 ∨ i = 18 ∨ i = 19) with rfl | rfl | rfl | rfl | rfl | rfl | rfl | rfl | rfl | rfl | rfl | rfl | rfl | rfl | rfl | rfl | rfl | rfl | rfl | rfl
    ·
     try dsimp only
     clear h0
     refine wpOp_step rfl (fun K' hK => ?_)
     go_simp
     exact hK _ _ ⟨.pointer (some ⟨W0.heap.size, 3, none⟩), (by simp [upd]), FX.eq_mk rfl, fun _ => Below.refl _ _, hbx⟩
    ·
     try dsimp only
     have x0 := depX hdp 0 (by kernel_rfl)
     have d0 := hall 0 (by omega) x0
     have e0 : t 0 = .pointer (some ⟨W0.heap.size, 3, none⟩) := d0.1
     rw [e0]
     have y17 := notYet hsh hxi 17 (by kernel_rfl)
     have y19 := notYet hsh hxi 19 (by kernel_rfl)
     have hz : Below wr.heap.size wr wx := hgx (by simp [y17, y19])
     have g3 := (hz.cell (World.block_lt_of_cell? _ _ g3)).trans g3
     clear y17 y19 hz
     clear h0
     refine wpOp_step rfl (fun K' hK => ?_)
     go_simp
     exact hK _ _ ⟨.slice aA xs.length cA, (by simp [upd, e0]), FX.eq_mk rfl, fun _ => Below.refl _ _, hbx⟩
    ·
     try dsimp only
     clear h0
     refine wpOp_step rfl (fun K' hK => ?_)
     go_simp
     exact hK _ _ ⟨.pointer (some ⟨w.heap.size, 3, none⟩), (by simp [upd]), FX.eq_mk rfl, fun _ => Below.refl _ _, hbx⟩
    ·
     try dsimp only
     have x2 := depX hdp 2 (by kernel_rfl)
     have d2 := hall 2 (by omega) x2
     have e2 : t 2 = .pointer (some ⟨w.heap.size, 3, none⟩) := d2.1
     rw [e2]
     have y17 := notYet hsh hxi 17 (by kernel_rfl)
     have y19 := notYet hsh hxi 19 (by kernel_rfl)
     have hz : Below wr.heap.size wr wx := hgx (by simp [y17, y19])
     have p3 := (hz.cell (World.block_lt_of_cell? _ _ p3)).trans p3
     clear y17 y19 hz
     clear h0
     refine wpOp_step rfl (fun K' hK => ?_)
     go_simp
     exact hK _ _ ⟨.slice (some ⟨b, off, none⟩) o.wait.length c, (by simp [upd, e2]), FX.eq_mk rfl, fun _ => Below.refl _ _, hbx⟩
    ·
     try dsimp only
     clear h0
     refine wpOp_step rfl (fun K' hK => ?_)
     go_simp
     exact hK _ _ ⟨.int .i64 (k : Int), (by simp [upd]), FX.eq_mk rfl, fun _ => Below.refl _ _, hbx⟩
    ·
     try dsimp only
     have x3 := depX hdp 3 (by kernel_rfl)
     have d3 := hall 3 (by omega) x3
     have e3 : t 3 = .slice (some ⟨b, off, none⟩) o.wait.length c := d3.1
     have x4 := depX hdp 4 (by kernel_rfl)
     have d4 := hall 4 (by omega) x4
     have e4 : t 4 = .int .i64 (k : Int) := d4.1
     rw [e3, e4]
     clear h0
     refine wpOp_step rfl (fun K' hK => ?_)
     go_simp
     exact hK _ _ ⟨.pointer (some ⟨b, off + k * 7, none⟩), (by simp [upd, e3, e4]), FX.eq_mk rfl, fun _ => Below.refl _ _, hbx⟩
    ·
     try dsimp only
     have x5 := depX hdp 5 (by kernel_rfl)
     have d5 := hall 5 (by omega) x5
     have e5 : t 5 = .pointer (some ⟨b, off + k * 7, none⟩) := d5.1
     rw [e5]
     clear h0
     refine wpOp_step rfl (fun K' hK => ?_)
     go_simp
     exact hK _ _ ⟨.pointer (some ⟨b, off + k * 7, none⟩), (by simp [upd, e5]), FX.eq_mk rfl, fun _ => Below.refl _ _, hbx⟩
    ·
     try dsimp only
     have x6 := depX hdp 6 (by kernel_rfl)
     have d6 := hall 6 (by omega) x6
     have e6 : t 6 = .pointer (some ⟨b, off + k * 7, none⟩) := d6.1
     rw [e6]
     have y17 := notYet hsh hxi 17 (by kernel_rfl)
     have y19 := notYet hsh hxi 19 (by kernel_rfl)
     have hz : Below wr.heap.size wr wx := hgx (by simp [y17, y19])
     have d0 := (hz.cell (World.block_lt_of_cell? _ _ d0)).trans d0
     have d1 := (hz.cell (World.block_lt_of_cell? _ _ d1)).trans d1
     have d2 := (hz.cell (World.block_lt_of_cell? _ _ d2)).trans d2
     have d3 := (hz.cell (World.block_lt_of_cell? _ _ d3)).trans d3
     have d4 := (hz.cell (World.block_lt_of_cell? _ _ d4)).trans d4
     have d5 := (hz.cell (World.block_lt_of_cell? _ _ d5)).trans d5
     clear y17 y19 hz
     clear h0
     refine wpOp_step rfl (fun K' hK => ?_)
     go_simp
     exact hK _ _ ⟨.agg #[.int .i64 o.wait[k].pkt.kind, .int .i64 o.wait[k].pkt.epoch, .int .i64 o.wait[k].pkt.seq, .int .i64 o.wait[k].pkt.count, .bool o.wait[k].pkt.last, .slice an o.wait[k].pkt.data.length cn], (by simp [upd, e6]), FX.eq_mk rfl, fun _ => Below.refl _ _, hbx⟩
    ·
     try dsimp only
     have x7 := depX hdp 7 (by kernel_rfl)
     have d7 := hall 7 (by omega) x7
     have e7 : t 7 = .agg #[.int .i64 o.wait[k].pkt.kind, .int .i64 o.wait[k].pkt.epoch, .int .i64 o.wait[k].pkt.seq, .int .i64 o.wait[k].pkt.count, .bool o.wait[k].pkt.last, .slice an o.wait[k].pkt.data.length cn] := d7.1
     rw [e7]
     have y17 := notYet hsh hxi 17 (by kernel_rfl)
     have y19 := notYet hsh hxi 19 (by kernel_rfl)
     have hz : Below wr.heap.size wr wx := hgx (by simp [y17, y19])
     have hsz := hz.size
     clear h0
     refine wpOp_step rfl (fun K' hK => ?_)
     go_simp
     refine (l5packet_any o.wait[k].pkt an cn wx (HNM.out.later hz) hnl).mono ?_
     rintro e w2 ⟨a2, c2, bk, rfl, o2, hb2, hn2, b2⟩
     exact hK _ _ ⟨_, (by simp [upd, e7]), FX.pre_mk ⟨a2, c2, bk, rfl, o2, fun b hb => Nat.le_trans hsz (hb2 b hb), hn2⟩, fun _ => b2, bC hbx b2⟩
    ·
     try dsimp only
     clear h0
     refine wpOp_step rfl (fun K' hK => ?_)
     go_simp
     exact hK _ _ ⟨.pointer (some ⟨w.heap.size, 3, none⟩), (by simp [upd]), FX.eq_mk rfl, fun _ => Below.refl _ _, hbx⟩
    ·
     try dsimp only
     have x9 := depX hdp 9 (by kernel_rfl)
     have d9 := hall 9 (by omega) x9
     have e9 : t 9 = .pointer (some ⟨w.heap.size, 3, none⟩) := d9.1
     rw [e9]
     have y17 := notYet hsh hxi 17 (by kernel_rfl)
     have y19 := notYet hsh hxi 19 (by kernel_rfl)
     have hz : Below wr.heap.size wr wx := hgx (by simp [y17, y19])
     have p3 := (hz.cell (World.block_lt_of_cell? _ _ p3)).trans p3
     clear y17 y19 hz
     clear h0
     refine wpOp_step rfl (fun K' hK => ?_)
     go_simp
     exact hK _ _ ⟨.slice (some ⟨b, off, none⟩) o.wait.length c, (by simp [upd, e9]), FX.eq_mk rfl, fun _ => Below.refl _ _, hbx⟩
    ·
     try dsimp only
     clear h0
     refine wpOp_step rfl (fun K' hK => ?_)
     go_simp
     exact hK _ _ ⟨.int .i64 (k : Int), (by simp [upd]), FX.eq_mk rfl, fun _ => Below.refl _ _, hbx⟩
    ·
     try dsimp only
     have x10 := depX hdp 10 (by kernel_rfl)
     have d10 := hall 10 (by omega) x10
     have e10 : t 10 = .slice (some ⟨b, off, none⟩) o.wait.length c := d10.1
     have x11 := depX hdp 11 (by kernel_rfl)
     have d11 := hall 11 (by omega) x11
     have e11 : t 11 = .int .i64 (k : Int) := d11.1
     rw [e10, e11]
     clear h0
     refine wpOp_step rfl (fun K' hK => ?_)
     go_simp
     exact hK _ _ ⟨.pointer (some ⟨b, off + k * 7, none⟩), (by simp [upd, e10, e11]), FX.eq_mk rfl, fun _ => Below.refl _ _, hbx⟩
    ·
     try dsimp only
     have x12 := depX hdp 12 (by kernel_rfl)
     have d12 := hall 12 (by omega) x12
     have e12 : t 12 = .pointer (some ⟨b, off + k * 7, none⟩) := d12.1
     rw [e12]
     clear h0
     refine wpOp_step rfl (fun K' hK => ?_)
     go_simp
     exact hK _ _ ⟨.pointer (some ⟨b, off + k * 7 + 6, none⟩), (by simp [upd, e12]), FX.eq_mk rfl, fun _ => Below.refl _ _, hbx⟩
    ·
     try dsimp only
     have x13 := depX hdp 13 (by kernel_rfl)
     have d13 := hall 13 (by omega) x13
     have e13 : t 13 = .pointer (some ⟨b, off + k * 7 + 6, none⟩) := d13.1
     rw [e13]
     have y17 := notYet hsh hxi 17 (by kernel_rfl)
     have y19 := notYet hsh hxi 19 (by kernel_rfl)
     have hz : Below wr.heap.size wr wx := hgx (by simp [y17, y19])
     have d6 := (hz.cell (World.block_lt_of_cell? _ _ d6)).trans d6
     clear y17 y19 hz
     clear h0
     refine wpOp_step rfl (fun K' hK => ?_)
     go_simp
     exact hK _ _ ⟨.int .i64 o.wait[k].at_, (by simp [upd, e13]), FX.eq_mk rfl, fun _ => Below.refl _ _, hbx⟩
    ·
     try dsimp only
     have x8 := depX hdp 8 (by kernel_rfl)
     have d8 := hall 8 (by omega) x8
     have x14 := depX hdp 14 (by kernel_rfl)
     have d14 := hall 14 (by omega) x14
     have e14 : t 14 = .int .i64 o.wait[k].at_ := d14.1
     rw [e14]
     have y17 := notYet hsh hxi 17 (by kernel_rfl)
     have y19 := notYet hsh hxi 19 (by kernel_rfl)
     obtain ⟨a4, c4, bk4, e8, r8⟩ : (fcPk wr.heap.size o.wait[k].pkt).p (t 8) wx := FX.pre_of2 d8 y17 y19
     rw [e8]
     clear y17 y19
     clear h0
     refine wpOp_step rfl (fun K' hK => ?_)
     go_simp
     exact hK _ _ ⟨.agg #[.int .i64 o.wait[k].pkt.kind, .int .i64 o.wait[k].pkt.epoch, .int .i64 o.wait[k].pkt.seq, .int .i64 o.wait[k].pkt.count, .bool o.wait[k].pkt.last, .slice a4 o.wait[k].pkt.data.length c4, .int .i64 o.wait[k].at_], (by simp [upd, e8, e14]), FX.pre_mk ⟨a4, c4, bk4, rfl, r8⟩, fun _ => Below.refl _ _, hbx⟩
    ·
     try dsimp only
     have x15 := depX hdp 15 (by kernel_rfl)
     have d15 := hall 15 (by omega) x15
     have y17 := notYet hsh hxi 17 (by kernel_rfl)
     have y19 := notYet hsh hxi 19 (by kernel_rfl)
     obtain ⟨a4, c4, bk4, e15, r8, r9⟩ : (fcSn wr.heap.size o.wait[k]).p (t 15) wx := FX.pre_of2 d15 y17 y19
     rw [e15]
     clear y17 y19
     clear h0
     refine wpOp_step rfl (fun K' hK => ?_)
     go_simp
     exact hK _ _ ⟨.slice (some ⟨wx.heap.size, 0, none⟩) 1 1, (by simp [upd, e15]), FX.pre_mk ⟨wx.heap.size, a4, c4, bk4, rfl, heap_alloc_new wx _, ownB_kept r8 (bN _ _), r9⟩, fun _ => bN _ _, bC hbx (bN _ _)⟩
    ·
     try dsimp only
     have x1 := depX hdp 1 (by kernel_rfl)
     have d1 := hall 1 (by omega) x1
     have e1 : t 1 = .slice aA xs.length cA := d1.1
     have x16 := depX hdp 16 (by kernel_rfl)
     have d16 := hall 16 (by omega) x16
     rw [e1]
     have y19 := notYet hsh hxi 19 (by kernel_rfl)
     obtain ⟨g16, a4, c4, bk4, e16, h16, r8, r9, r10⟩ : (fcOneS wr.heap.size o.wait[k]).p (t 16) wx := FX.pre_of2 d16 hxi y19
     rw [e16]
     have hz : Below wr.heap.size wr wx := hgx (by simp [hxi, y19])
     have hox := HOX.out.kept (w' := wx) (fun b hb => hz.block b (HOX.out.lt b hb))
     have hkm := (hz.block _ (Array.getElem?_eq_some_iff.1 HKM.out).1).trans HKM.out
     obtain ⟨vals, ho, hgrowS⟩ := hox.grow HNB.out (fun b hb => (HBB.out b hb).1) hbx.size (cSnt_own (s := o.wait[k]) r8 HOK.out.1 HOK.out.2) r10 (fun b hb => Nat.le_trans HWR.out.size (r9 b hb)) (fun b hb hc => by have := HOX.out.lt b hc; have := r9 b hb; omega)
     clear h0
     refine wpOp_step rfl (fun K' hK => ?_)
     refine step_append_lies _ rfl (.tmp 20) (.tmp 35) 39 rfl W0.heap.size 141 i0 (.agg #[.int .i64 0, .int .i64 0, .int .i64 0, .int .i64 0, .bool false, .slice none 0 0, .int .i64 0]) 7 72 Tryz.underlying39 hi0 hz0 hz1 hz2 rfl (by decide) (.slice aA xs.length cA) xs.length vals rfl ho ⟨g16, 0, none⟩ 1 1 [.int .i64 o.wait[k].pkt.kind, .int .i64 o.wait[k].pkt.epoch, .int .i64 o.wait[k].pkt.seq, .int .i64 o.wait[k].pkt.count, .bool o.wait[k].pkt.last, .slice a4 o.wait[k].pkt.data.length c4, .int .i64 o.wait[k].at_] rfl rfl (World.news_of_block h16) (by simp [Value.oneCell']) (by omega) (by unfold maxLen; omega) (by omega) hbx.size _ rfl ?_
     intro g' cap' w9 hown hgrow hat hlt9
     obtain ⟨bs9, q1, q2, q3⟩ := hgrowS g' cap' w9 hown hgrow hat
     have hne : (Value.slice aA xs.length cA).ownBlock ≠ some W0.heap.size := fun e => (HBB.out _ (own_block_mem HOX.out e)).2 rfl
     exact hK _ _ ⟨.slice (some ⟨g', 0, none⟩) (xs.length + 1) cap', (by simp [upd, e1, e16, Act.put]), FX.pre_mk ⟨(hgrow.block _ (Array.getElem?_eq_some_iff.1 hkm).1 (fun e => hne e.symm)).trans hkm, some ⟨g', 0, none⟩, cap', bs9, by simp, q1, q2, fun b hb => ⟨(q3 b hb).1, fun e => by subst e; rcases (q3 _ hb).2 with h | h | h; exact (HBB.out _ h).2 rfl; exact absurd (r9 _ h) (by have := (Array.getElem?_eq_some_iff.1 HKM.out).1; omega); exact absurd (Array.getElem?_eq_some_iff.1 hkm).1 (by omega)⟩⟩, fun h => absurd (by simp) h, hbx.grown hgrow hbx.size (fun p hp => (own_in7 ho hp).1)⟩
    ·
     try dsimp only
     clear h0
     refine wpOp_step rfl (fun K' hK => ?_)
     go_simp
     exact hK _ _ ⟨.pointer (some ⟨W0.heap.size, 3, none⟩), (by simp [upd]), FX.eq_mk rfl, fun _ => Below.refl _ _, hbx⟩
    ·
     try dsimp only
     have x18 := depX hdp 18 (by kernel_rfl)
     have d18 := hall 18 (by omega) x18
     have e18 : t 18 = .pointer (some ⟨W0.heap.size, 3, none⟩) := d18.1
     have x17 := depX hdp 17 (by kernel_rfl)
     have d17 := hall 17 (by omega) x17
     rw [e18]
     obtain ⟨hbm, a17, c17, bs17, e17, o17, n17, b17⟩ : (fcGotS W0.heap.size W0.heap.size o.epoch o.next o.now (.slice aA xs.length cA) (xs ++ [o.wait[k]])).p (t 17) wx := FX.pre_of d17 hxi
     rw [e17]
     have k3 := cR wx _ 3 _ _ _ hbm
     have z3 := fR wx _ 3 _ _ hbm
     simp only [gA, gZ, gU] at k3
     have HBM := hid hbm
     have hput := outBox_put hbm o17 n17 b17
     rw [show (xs ++ [o.wait[k]]).length = xs.length + 1 from by simp] at hput
     have HPUT := hid hput
     clear hput
     clear hbm o17 n17 b17
     clear h0
     refine wpOp_step rfl (fun K' hK => ?_)
     go_simp
     exact hK _ _ ⟨undef, (by simp [upd, e18, e17]), FX.is_mk HPUT.out, fun h => absurd (by simp) h, hbx.setCell (p := ⟨W0.heap.size, 3, none⟩) (Nat.le_refl _) _⟩
   ·intro x t wx hx hbx hall
    have hP : OutBox W0.heap.size W0.heap.size o.epoch o.next o.now (xs ++ [o.wait[k]]) wx := FX.is_of (hall 19 (by omega))
    rw [← HXS.out, ← List.take_succ_eq_append_getElem hlt] at hP
    have HP := hid hP
    have HBX := hid hbx
    clear hall hbx hP
    try dsimp only
    go_wp2
    go_roundw
    case rel => exact ⟨k + 1, by omega, by go_num, HP.out, HBX.out⟩
    case measure => simp [intOf]; omega
  ·obtain rfl : k = o.wait.length := by omega
   rw [List.take_length] at HOB
   obtain ⟨aA, cA, bsA, hkm, hox, hnb, hbb⟩ := HOB.out
   have k1 := (HWR.out.block _ (by have := HSZ.out; omega)).trans HK1.out
   have p3 := cR _ _ 3 _ _ _ ((HWR.out.block _ HGO.out).trans HK0.out)
   simp only [gA, gZ, gU] at p3
   have c00 := cR wr _ 0 _ _ _ hkm
   have c10 := cR wr _ 0 _ _ _ k1
   have f10 := fR wr _ 0 _ _ k1
   have c01 := cR wr _ 1 _ _ _ hkm
   have c11 := cR wr _ 1 _ _ _ k1
   have f11 := fR wr _ 1 _ _ k1
   have c02 := cR wr _ 2 _ _ _ hkm
   have c12 := cR wr _ 2 _ _ _ k1
   have f12 := fR wr _ 2 _ _ k1
   have c03 := cR wr _ 3 _ _ _ hkm
   have c13 := cR wr _ 3 _ _ _ k1
   have f13 := fR wr _ 3 _ _ k1
   simp only [gA, gZ, gU] at c00 c10 c01 c11 c02 c12 c03 c13
   have K1 := hid k1
   have HOX := hid hox
   have HBB := hid hbb
   have HNB := hid hnb
   clear k1 hkm hox hbb hnb
   go_wp2
   refine bodyPost_ret (results_cell_row rfl _ _ (w.heap.size + 1) 41 #[.int .i64 o.epoch, .int .i64 o.next, .int .i64 o.now, .slice aA o.wait.length cA] (0, 0) _ rfl (set4 K1.out) Tryz.underlying41 rfl (by kernel_rfl)) rfl ?_
   refine ⟨_, _, bsA, rfl, HOX.out.kept (fun x hx => ?_), fun x hx => by have := (HBB.out x hx).1; have := HSZ.out; omega, HNB.out, set4b (bC HB0.out HWR.out) (by omega)⟩
   have := (HBB.out x hx).1
   have := HSZ.out
   exact set4o (by omega)
end Go.Proofs.YtfaehioeepolhabGreat
