import Derived.Test.YtfaehioeepolhabGreatJCrashSender7
import Derived.Test.YtfaehioeepolhabGreatJCrashSender20
import Derived.Test.YtfaehioeepolhabGreatJCrashSender17
import Derived.Test.YtfaehioeepolhabGreatJCrashSender9
import Derived.Test.YtfaehioeepolhabGreatJCrashSender19
namespace Go.Proofs.YtfaehioeepolhabGreat
open Go.RowKit
set_option maxRecDepth 100000 in
set_option maxHeartbeats 2000000 in
theorem copyPacket_any (p : PP) (a : Option Addr) (c : Nat) (w : World) (hr : RdSl cByte w p.data (.slice a p.data.length c)) (hl : p.data.length ≤ 1048576) :
  Calls Tryz.prog 127 #[.agg #[.int .i64 p.kind, .int .i64 p.epoch, .int .i64 p.seq, .int .i64 p.count, .bool p.last, .slice a p.data.length c]] w fun e w' => ∃ a2 c2 bk, e = .returned (.agg #[.int .i64 p.kind, .int .i64 p.epoch, .int .i64 p.seq, .int .i64 p.count, .bool p.last, .slice a2 p.data.length c2]) ∧ OwnSl cByte 5 w' p.data (.slice a2 p.data.length c2) bk ∧ (∀ b ∈ bk, w.heap.size ≤ b) ∧ bk.Nodup ∧ Below w.heap.size w w' := by
 have HR := hid hr
 have HBY : Hid (∀ x ∈ p.data, x < 256) := hid (by obtain ⟨_, _, _, _, _, _, _, h⟩ := hr.bytes; exact h)
 clear hr
 go_enter Tryz.func127, Tryz.ntmps127
 go_wp2_with fail
 refine (bclone_any a c p.data _ (HR.out.later (below_new2 _ _ _)) hl).mono ?_
 rintro e w2 ⟨v2, rfl, o2, b2⟩
 obtain ⟨a2, c2, rfl, -⟩ := rd_own o2
 have hg := fun g h => own_in (g := g) o2 h
 rw [size2] at hg b2
 obtain ⟨k0, k1⟩ := heap2 _ _ b2
 have c00 := cR w2 _ 0 _ _ _ k0
 have f00 := fR w2 _ 0 _ _ k0
 have c10 := cR w2 _ 0 _ _ _ k1
 have f10 := fR w2 _ 0 _ _ k1
 have c01 := cR w2 _ 1 _ _ _ k0
 have f01 := fR w2 _ 1 _ _ k0
 have c11 := cR w2 _ 1 _ _ _ k1
 have f11 := fR w2 _ 1 _ _ k1
 have c02 := cR w2 _ 2 _ _ _ k0
 have f02 := fR w2 _ 2 _ _ k0
 have c12 := cR w2 _ 2 _ _ _ k1
 have f12 := fR w2 _ 2 _ _ k1
 have c03 := cR w2 _ 3 _ _ _ k0
 have f03 := fR w2 _ 3 _ _ k0
 have c13 := cR w2 _ 3 _ _ _ k1
 have f13 := fR w2 _ 3 _ _ k1
 have c04 := cR w2 _ 4 _ _ _ k0
 have f04 := fR w2 _ 4 _ _ k0
 have c14 := cR w2 _ 4 _ _ _ k1
 have f14 := fR w2 _ 4 _ _ k1
 have c05 := cR w2 _ 5 _ _ _ k0
 have f05 := fR w2 _ 5 _ _ k0
 have c15 := cR w2 _ 5 _ _ _ k1
 have f15 := fR w2 _ 5 _ _ k1
 simp only [gA, gZ, gU] at c00 c10 c01 c11 c02 c12 c03 c13 c04 c14 c05 c15
 have K1 := hid k1
 have HB : Hid (Below w.heap.size w w2) := hid ((below_new2 w _ _).trans (b2.mono (by omega)))
 have HO := hid (ownSl_bytes o2 HBY.out)
 have HG : Hid (∀ b ∈ (Value.slice a2 p.data.length c2).ownBlock.toList, w.heap.size + 2 ≤ b) := hid (fun b hb => (hg b (by simpa using hb)).1)
 have HN : Hid ((Value.slice a2 p.data.length c2).ownBlock.toList.Nodup) := hid (by cases (Value.slice a2 p.data.length c2).ownBlock <;> simp)
 generalize (Value.slice a2 p.data.length c2).ownBlock.toList = bk at *
 have h01 : w.heap.size + 1 ≠ w.heap.size := by omega
 clear k0 k1 b2 o2 hg
 go_wp2
 refine bodyPost_ret (results_cell_row rfl _ _ (w.heap.size + 1) 139 #[.int .i64 p.kind, .int .i64 p.epoch, .int .i64 p.seq, .int .i64 p.count, .bool p.last, .slice a2 p.data.length c2] (0, 0) _ rfl (set6 ((Below.heap_setCell _ ⟨w.heap.size, 5, none⟩ _ _ h01).trans K1.out)) Tryz.underlying139 rfl (by kernel_rfl)) rfl ?_
 refine ⟨a2, c2, bk, rfl, HO.out.kept (fun b hb => ?_), fun b hb => by have := HG.out b hb; omega, HN.out, set6b (HB.out.setCell (p := ⟨w.heap.size, 5, none⟩) (by simp only []; omega) _) (by omega)⟩
 have := HG.out b hb
 exact (set6o (by omega)).trans (Below.heap_setCell _ ⟨w.heap.size, 5, none⟩ _ _ (by simp only []; omega))
def coT (w : World) (lo gf k : Nat) (xs : List PW) (s : PW) (an : Option Addr) (cn : Nat) : Nat → FX
 | 0 => FX.eq (.slice (some ⟨w.heap.size, 0, none⟩) xs.length xs.length)
 | 1 => FX.eq (.int .i64 (k : Int))
 | 2 => FX.eq (.pointer (some ⟨gf, 0, none⟩))
 | 3 => FX.eq (.agg #[.int .i64 s.pkt.kind, .int .i64 s.pkt.epoch, .int .i64 s.pkt.seq, .int .i64 s.pkt.count, .bool s.pkt.last, .slice an s.pkt.data.length cn])
 | 4 => FX.pre [9] (fcPk lo s.pkt)
 | 5 => FX.eq (.pointer (some ⟨gf, 6, none⟩))
 | 6 => FX.eq (.int .i64 s.at_)
 | 7 => FX.pre [9] (fcSn lo s)
 | 8 => FX.eq (.pointer (some ⟨w.heap.size, k * 7, none⟩))
 | 9 => FX.is (fcMadeS w xs (k + 1))
 | _ => FX.eq undef
set_option maxRecDepth 100000 in
set_option maxHeartbeats 8000000 in
theorem copyOut_any (o : PO) (a : Option Addr) (c : Nat) (w : World) (hr : RdSl cSnt w o.wait (.slice a o.wait.length c)) (ht : totL wN o.wait ≤ 1048576) :
  Calls Tryz.prog 87 #[.agg #[.int .i64 o.epoch, .int .i64 o.next, .int .i64 o.now, .slice a o.wait.length c]] w fun e w' => ∃ a2 c2 bs, e = .returned (.agg #[.int .i64 o.epoch, .int .i64 o.next, .int .i64 o.now, .slice a2 o.wait.length c2]) ∧ OwnSl cSnt 141 w' o.wait (.slice a2 o.wait.length c2) bs ∧ (∀ b ∈ bs, w.heap.size ≤ b) ∧ bs.Nodup ∧ Below w.heap.size w w' := by
 obtain ⟨i0, hi, hz0, hz1, hz2⟩ := info_parts infoImSent
 have HR := hid hr
 clear hr
 have hlen : o.wait.length ≤ 1048576 := by unfold totL at ht; omega
 have HK0 : Hid (((w.alloc (.cells #[.int .i64 o.epoch, .int .i64 o.next, .int .i64 o.now, .slice a o.wait.length c] 41)).alloc (.cells #[.int .i64 0, .int .i64 0, .int .i64 0, .slice none 0 0] 41)).heap[w.heap.size]? = some (.cells #[.int .i64 o.epoch, .int .i64 o.next, .int .i64 o.now, .slice a o.wait.length c] 41 (0, 0))) := hid (heap2 _ _ (Below.refl _ _)).1
 have HK1 : Hid (((w.alloc (.cells #[.int .i64 o.epoch, .int .i64 o.next, .int .i64 o.now, .slice a o.wait.length c] 41)).alloc (.cells #[.int .i64 0, .int .i64 0, .int .i64 0, .slice none 0 0] 41)).heap[w.heap.size + 1]? = some (.cells #[.int .i64 0, .int .i64 0, .int .i64 0, .slice none 0 0] 41 (0, 0))) := hid (heap2 _ _ (Below.refl _ _)).2
 have HB0 := hid (below_new2 w (.cells #[.int .i64 o.epoch, .int .i64 o.next, .int .i64 o.now, .slice a o.wait.length c] 41) (.cells #[.int .i64 0, .int .i64 0, .int .i64 0, .slice none 0 0] 41))
 have HSZ := hid (size2 w (.cells #[.int .i64 o.epoch, .int .i64 o.next, .int .i64 o.now, .slice a o.wait.length c] 41) (.cells #[.int .i64 0, .int .i64 0, .int .i64 0, .slice none 0 0] 41))
 go_enter Tryz.func87, Tryz.ntmps87
 go_upto_region 1 with fail
 generalize ((w.alloc (.cells #[.int .i64 o.epoch, .int .i64 o.next, .int .i64 o.now, .slice a o.wait.length c] 41)).alloc (.cells #[.int .i64 0, .int .i64 0, .int .i64 0, .slice none 0 0] 41)) = W1 at *
 have k3 := cR _ _ 3 _ _ _ HK0.out
 simp only [gA, gZ, gU] at k3
 have HR1 := hid (HR.out.later HB0.out)
 go_wp2_with (first | (at_make; refine wpList_make_full _ rfl (.tmp 8) (.tmp 8) 39 rfl W1.heap.size 141 i0 (.agg #[.int .i64 0, .int .i64 0, .int .i64 0, .int .i64 0, .bool false, .slice none 0 0, .int .i64 0]) 7 Tryz.underlying39 hi hz0 hz1 .i64 .i64 _ _ o.wait.length rfl rfl rfl rfl (by rw [hz2]; omega) (by unfold maxLen; omega) (by simp) ?_))
 intro w1 ho hg1
 have HB1 : Hid (Below W1.heap.size W1 w1) := hid ((Below.refl _ W1).grown hg1 (Nat.le_refl _) (by intro k h; cases h))
 have HM : Hid (MadeN 7 cSnt 141 W1 w1 o.wait 0) := hid ⟨_, [], ho, rfl, fun i h h2 => by simp at h2, by simp, by simp⟩
 have k3' := (HB1.out.cell (World.block_lt_of_cell? _ _ k3)).trans k3
 clear hg1 hi hz0 hz1 hz2 ho k3
 go_wp2
 go_loopw [13] (fun i wr => ∃ k : Nat, k ≤ o.wait.length ∧ i = .int .i64 k ∧ MadeN 7 cSnt 141 W1 wr o.wait k ∧ Below W1.heap.size W1 wr) (fun i _ => o.wait.length - (intOf i).toNat)
 case atStart => exact ⟨0, Nat.zero_le _, rfl, HM.out, HB1.out⟩
 case round =>
  obtain ⟨k, hk, rfl, hm, hbe⟩ := hrel
  have HV := hid hm
  have HBW := hid hbe
  clear hm hbe k3'
  by_cases hlt : k < o.wait.length
  ·obtain ⟨b, off, es, rfl, hes, hcs⟩ := (HR1.out.later HBW.out).atN hlt
   obtain ⟨an, cn, rfl, hnm, hpin, hat⟩ := cSnt_rd hes
   have d0 : wr.cell? ⟨b, off + k * 7, none⟩ = some (.int .i64 o.wait[k].pkt.kind) := by have h := hcs 0 (by decide); rw [show cSnt.n = 7 from rfl] at h; simpa [Nat.add_assoc] using h
   have d1 : wr.cell? ⟨b, off + k * 7 + 1, none⟩ = some (.int .i64 o.wait[k].pkt.epoch) := by have h := hcs 1 (by decide); rw [show cSnt.n = 7 from rfl] at h; simpa [Nat.add_assoc] using h
   have d2 : wr.cell? ⟨b, off + k * 7 + 2, none⟩ = some (.int .i64 o.wait[k].pkt.seq) := by have h := hcs 2 (by decide); rw [show cSnt.n = 7 from rfl] at h; simpa [Nat.add_assoc] using h
   have d3 : wr.cell? ⟨b, off + k * 7 + 3, none⟩ = some (.int .i64 o.wait[k].pkt.count) := by have h := hcs 3 (by decide); rw [show cSnt.n = 7 from rfl] at h; simpa [Nat.add_assoc] using h
   have d4 : wr.cell? ⟨b, off + k * 7 + 4, none⟩ = some (.bool o.wait[k].pkt.last) := by have h := hcs 4 (by decide); rw [show cSnt.n = 7 from rfl] at h; simpa [Nat.add_assoc] using h
   have d5 : wr.cell? ⟨b, off + k * 7 + 5, none⟩ = some (.slice an o.wait[k].pkt.data.length cn) := by have h := hcs 5 (by decide); rw [show cSnt.n = 7 from rfl] at h; simpa [Nat.add_assoc] using h
   have d6 : wr.cell? ⟨b, off + k * 7 + 6, none⟩ = some (.int .i64 o.wait[k].at_) := by have h := hcs 6 (by decide); rw [show cSnt.n = 7 from rfl] at h; simpa [Nat.add_assoc] using h
   have hki : (k : Int) < (o.wait.length : Int) := by omega
   have HNM := hid hnm
   have HOK : Hid (PPIn o.wait[k].pkt ∧ IntIn o.wait[k].at_) := hid ⟨hpin, hat⟩
   have hnl : o.wait[k].pkt.data.length ≤ 1048576 := by have h := tot_at wN o.wait k hlt; unfold totL at ht; exact Nat.le_trans h (by omega)
   have HGF : Hid (wr.heap.size < (wr.alloc (.cells #[.int .i64 o.wait[k].pkt.kind, .int .i64 o.wait[k].pkt.epoch, .int .i64 o.wait[k].pkt.seq, .int .i64 o.wait[k].pkt.count, .bool o.wait[k].pkt.last, .slice an o.wait[k].pkt.data.length cn, .int .i64 o.wait[k].at_] 141)).heap.size) := hid (by simp)
   have HLO : Hid (wr.heap.size ≤ (wr.alloc (.cells #[.int .i64 o.wait[k].pkt.kind, .int .i64 o.wait[k].pkt.epoch, .int .i64 o.wait[k].pkt.seq, .int .i64 o.wait[k].pkt.count, .bool o.wait[k].pkt.last, .slice an o.wait[k].pkt.data.length cn, .int .i64 o.wait[k].at_] 141)).heap.size) := hid (by simp)
   have HKF : Hid ((wr.alloc (.cells #[.int .i64 o.wait[k].pkt.kind, .int .i64 o.wait[k].pkt.epoch, .int .i64 o.wait[k].pkt.seq, .int .i64 o.wait[k].pkt.count, .bool o.wait[k].pkt.last, .slice an o.wait[k].pkt.data.length cn, .int .i64 o.wait[k].at_] 141)).heap[wr.heap.size]? = some (.cells #[.int .i64 o.wait[k].pkt.kind, .int .i64 o.wait[k].pkt.epoch, .int .i64 o.wait[k].pkt.seq, .int .i64 o.wait[k].pkt.count, .bool o.wait[k].pkt.last, .slice an o.wait[k].pkt.data.length cn, .int .i64 o.wait[k].at_] 141 (0, 0))) := hid (heap_alloc_new wr _)
   clear hes hnm hpin hat hcs
   go_wp2_with fail
   refine region_turns (n := 10) (by kernel_rfl) (by kernel_rfl) ?_ (fun t => { tmps := #[.agg #[.int .i64 o.epoch, .int .i64 o.next, .int .i64 o.now, .slice (some ⟨b, off, none⟩) o.wait.length c], .pointer (some ⟨w.heap.size, 0, none⟩), .pointer (some ⟨w.heap.size + 1, 0, none⟩), .slice (some ⟨W1.heap.size, 0, none⟩) o.wait.length o.wait.length, .int .i64 (k : Int), .pointer (some ⟨wr.heap.size, 0, none⟩), .pointer (some ⟨w.heap.size, 3, none⟩), .slice (some ⟨b, off, none⟩) o.wait.length c, .int .i64 (o.wait.length : Int), .slice (some ⟨W1.heap.size, 0, none⟩) o.wait.length o.wait.length, .pointer (some ⟨w.heap.size, 3, none⟩), .slice (some ⟨b, off, none⟩) o.wait.length c, .int .i64 (o.wait.length : Int), .int .i64 (k : Int), .bool true, .int .i64 (k : Int), .pointer (some ⟨b, off + k * 7, none⟩), .agg #[.int .i64 o.wait[k].pkt.kind, .int .i64 o.wait[k].pkt.epoch, .int .i64 o.wait[k].pkt.seq, .int .i64 o.wait[k].pkt.count, .bool o.wait[k].pkt.last, .slice an o.wait[k].pkt.data.length cn, .int .i64 o.wait[k].at_], t 0, t 1, t 2, t 3, t 4, t 5, t 6, t 7, t 8, u27, undef, undef, undef], defers := [] }) (coT W1 wr.heap.size wr.heap.size k o.wait o.wait[k] an cn) [9] (fcSameL (wr.alloc (.cells #[.int .i64 o.wait[k].pkt.kind, .int .i64 o.wait[k].pkt.epoch, .int .i64 o.wait[k].pkt.seq, .int .i64 o.wait[k].pkt.count, .bool o.wait[k].pkt.last, .slice an o.wait[k].pkt.data.length cn, .int .i64 o.wait[k].at_] 141))) W1 (wr.alloc (.cells #[.int .i64 o.wait[k].pkt.kind, .int .i64 o.wait[k].pkt.epoch, .int .i64 o.wait[k].pkt.seq, .int .i64 o.wait[k].pkt.count, .bool o.wait[k].pkt.last, .slice an o.wait[k].pkt.data.length cn, .int .i64 o.wait[k].at_] 141)) (fun k => if k = 4 then [9] else if k = 7 then [9] else []) (fun k => !(k == 4 || k == 7 || k == 9)) (by kernel_rfl) (fun j hj => by rcases (by omega : j = 0 ∨ j = 1 ∨ j = 2 ∨ j = 3 ∨ j = 4 ∨ j = 5 ∨ j = 6 ∨ j = 7 ∨ j = 8 ∨ j = 9) with rfl | rfl | rfl | rfl | rfl | rfl | rfl | rfl | rfl | rfl <;> rfl) (fun j hj hp => by rcases (by omega : j = 0 ∨ j = 1 ∨ j = 2 ∨ j = 3 ∨ j = 4 ∨ j = 5 ∨ j = 6 ∨ j = 7 ∨ j = 8 ∨ j = 9) with rfl | rfl | rfl | rfl | rfl | rfl | rfl | rfl | rfl | rfl <;> first | rfl | (exact absurd hp (by decide))) (fun j => ([u18, u19, u20, u21, u22, u23, u24, u25, u26, undef] : List Value).getD j undef) (bC HBW.out (bN _ _)) (Below.refl _ _) ?_ ?_
   ·rfl
   ·intro i hi x t wx hxi hsh h0 hbx hgx hdp hall
    rcases (by omega : i = 0 ∨ i = 1 ∨ i = 2 ∨ i = 3 ∨ i = 4 ∨ i = 5 ∨ i = 6 ∨ i = 7 ∨ i = 8 ∨ i = 9) with rfl | rfl | rfl | rfl | rfl | rfl | rfl | rfl | rfl | rfl
    ·
     try dsimp only
     clear h0
     refine wpOp_step rfl (fun K' hK => ?_)
     go_simp
     exact hK _ _ ⟨.slice (some ⟨W1.heap.size, 0, none⟩) o.wait.length o.wait.length, (by simp [upd]), FX.eq_mk rfl, fun _ => Below.refl _ _, hbx⟩
    ·
     try dsimp only
     clear h0
     refine wpOp_step rfl (fun K' hK => ?_)
     go_simp
     exact hK _ _ ⟨.int .i64 (k : Int), (by simp [upd]), FX.eq_mk rfl, fun _ => Below.refl _ _, hbx⟩
    ·
     try dsimp only
     clear h0
     refine wpOp_step rfl (fun K' hK => ?_)
     go_simp
     exact hK _ _ ⟨.pointer (some ⟨wr.heap.size, 0, none⟩), (by simp [upd]), FX.eq_mk rfl, fun _ => Below.refl _ _, hbx⟩
    ·
     try dsimp only
     have x2 := depX hdp 2 (by kernel_rfl)
     have d2 := hall 2 (by omega) x2
     have e2 : t 2 = .pointer (some ⟨wr.heap.size, 0, none⟩) := d2.1
     rw [e2]
     have y9 := notYet hsh hxi 9 (by kernel_rfl)
     have hz : Below (wr.alloc (.cells #[.int .i64 o.wait[k].pkt.kind, .int .i64 o.wait[k].pkt.epoch, .int .i64 o.wait[k].pkt.seq, .int .i64 o.wait[k].pkt.count, .bool o.wait[k].pkt.last, .slice an o.wait[k].pkt.data.length cn, .int .i64 o.wait[k].at_] 141)).heap.size (wr.alloc (.cells #[.int .i64 o.wait[k].pkt.kind, .int .i64 o.wait[k].pkt.epoch, .int .i64 o.wait[k].pkt.seq, .int .i64 o.wait[k].pkt.count, .bool o.wait[k].pkt.last, .slice an o.wait[k].pkt.data.length cn, .int .i64 o.wait[k].at_] 141)) wx := hgx (by simp [y9])
     have kf0 := cR _ _ 0 _ _ _ ((hz.block _ HGF.out).trans HKF.out)
     have kf1 := cR _ _ 1 _ _ _ ((hz.block _ HGF.out).trans HKF.out)
     have kf2 := cR _ _ 2 _ _ _ ((hz.block _ HGF.out).trans HKF.out)
     have kf3 := cR _ _ 3 _ _ _ ((hz.block _ HGF.out).trans HKF.out)
     have kf4 := cR _ _ 4 _ _ _ ((hz.block _ HGF.out).trans HKF.out)
     have kf5 := cR _ _ 5 _ _ _ ((hz.block _ HGF.out).trans HKF.out)
     simp only [gA, gZ, gU] at kf0 kf1 kf2 kf3 kf4 kf5
     clear y9 hz
     clear h0
     refine wpOp_step rfl (fun K' hK => ?_)
     go_simp
     exact hK _ _ ⟨.agg #[.int .i64 o.wait[k].pkt.kind, .int .i64 o.wait[k].pkt.epoch, .int .i64 o.wait[k].pkt.seq, .int .i64 o.wait[k].pkt.count, .bool o.wait[k].pkt.last, .slice an o.wait[k].pkt.data.length cn], (by simp [upd, e2]), FX.eq_mk rfl, fun _ => Below.refl _ _, hbx⟩
    ·
     try dsimp only
     have x3 := depX hdp 3 (by kernel_rfl)
     have d3 := hall 3 (by omega) x3
     have e3 : t 3 = .agg #[.int .i64 o.wait[k].pkt.kind, .int .i64 o.wait[k].pkt.epoch, .int .i64 o.wait[k].pkt.seq, .int .i64 o.wait[k].pkt.count, .bool o.wait[k].pkt.last, .slice an o.wait[k].pkt.data.length cn] := d3.1
     rw [e3]
     have y9 := notYet hsh hxi 9 (by kernel_rfl)
     have hz : Below (wr.alloc (.cells #[.int .i64 o.wait[k].pkt.kind, .int .i64 o.wait[k].pkt.epoch, .int .i64 o.wait[k].pkt.seq, .int .i64 o.wait[k].pkt.count, .bool o.wait[k].pkt.last, .slice an o.wait[k].pkt.data.length cn, .int .i64 o.wait[k].at_] 141)).heap.size (wr.alloc (.cells #[.int .i64 o.wait[k].pkt.kind, .int .i64 o.wait[k].pkt.epoch, .int .i64 o.wait[k].pkt.seq, .int .i64 o.wait[k].pkt.count, .bool o.wait[k].pkt.last, .slice an o.wait[k].pkt.data.length cn, .int .i64 o.wait[k].at_] 141)) wx := hgx (by simp [y9])
     have hsz := hz.size
     clear h0
     refine wpOp_step rfl (fun K' hK => ?_)
     go_simp
     refine (copyPacket_any o.wait[k].pkt an cn wx ((HNM.out.later (bN wr _)).later hz) hnl).mono ?_
     rintro e w2 ⟨a2, c2, bk, rfl, o2, hb2, hn2, b2⟩
     exact hK _ _ ⟨_, (by simp [upd, e3]), FX.pre_mk ⟨a2, c2, bk, rfl, o2, fun b hb => Nat.le_trans (Nat.le_trans HLO.out hsz) (hb2 b hb), hn2⟩, fun _ => b2, bC hbx b2⟩
    ·
     try dsimp only
     clear h0
     refine wpOp_step rfl (fun K' hK => ?_)
     go_simp
     exact hK _ _ ⟨.pointer (some ⟨wr.heap.size, 6, none⟩), (by simp [upd]), FX.eq_mk rfl, fun _ => Below.refl _ _, hbx⟩
    ·
     try dsimp only
     have x5 := depX hdp 5 (by kernel_rfl)
     have d5 := hall 5 (by omega) x5
     have e5 : t 5 = .pointer (some ⟨wr.heap.size, 6, none⟩) := d5.1
     rw [e5]
     have y9 := notYet hsh hxi 9 (by kernel_rfl)
     have hz : Below (wr.alloc (.cells #[.int .i64 o.wait[k].pkt.kind, .int .i64 o.wait[k].pkt.epoch, .int .i64 o.wait[k].pkt.seq, .int .i64 o.wait[k].pkt.count, .bool o.wait[k].pkt.last, .slice an o.wait[k].pkt.data.length cn, .int .i64 o.wait[k].at_] 141)).heap.size (wr.alloc (.cells #[.int .i64 o.wait[k].pkt.kind, .int .i64 o.wait[k].pkt.epoch, .int .i64 o.wait[k].pkt.seq, .int .i64 o.wait[k].pkt.count, .bool o.wait[k].pkt.last, .slice an o.wait[k].pkt.data.length cn, .int .i64 o.wait[k].at_] 141)) wx := hgx (by simp [y9])
     have kf := cR _ _ 6 _ _ _ ((hz.block _ HGF.out).trans HKF.out)
     simp only [gA, gZ, gU] at kf
     clear y9 hz
     clear h0
     refine wpOp_step rfl (fun K' hK => ?_)
     go_simp
     exact hK _ _ ⟨.int .i64 o.wait[k].at_, (by simp [upd, e5]), FX.eq_mk rfl, fun _ => Below.refl _ _, hbx⟩
    ·
     try dsimp only
     have x4 := depX hdp 4 (by kernel_rfl)
     have d4 := hall 4 (by omega) x4
     have x6 := depX hdp 6 (by kernel_rfl)
     have d6 := hall 6 (by omega) x6
     have e6 : t 6 = .int .i64 o.wait[k].at_ := d6.1
     rw [e6]
     have y9 := notYet hsh hxi 9 (by kernel_rfl)
     obtain ⟨a4, c4, bk4, e4, r4⟩ : (fcPk wr.heap.size o.wait[k].pkt).p (t 4) wx := FX.pre_of d4 y9
     rw [e4]
     clear y9
     clear h0
     refine wpOp_step rfl (fun K' hK => ?_)
     go_simp
     exact hK _ _ ⟨.agg #[.int .i64 o.wait[k].pkt.kind, .int .i64 o.wait[k].pkt.epoch, .int .i64 o.wait[k].pkt.seq, .int .i64 o.wait[k].pkt.count, .bool o.wait[k].pkt.last, .slice a4 o.wait[k].pkt.data.length c4, .int .i64 o.wait[k].at_], (by simp [upd, e4, e6]), FX.pre_mk ⟨a4, c4, bk4, rfl, r4⟩, fun _ => Below.refl _ _, hbx⟩
    ·
     try dsimp only
     have x0 := depX hdp 0 (by kernel_rfl)
     have d0 := hall 0 (by omega) x0
     have e0 : t 0 = .slice (some ⟨W1.heap.size, 0, none⟩) o.wait.length o.wait.length := d0.1
     have x1 := depX hdp 1 (by kernel_rfl)
     have d1 := hall 1 (by omega) x1
     have e1 : t 1 = .int .i64 (k : Int) := d1.1
     rw [e0, e1]
     clear h0
     refine wpOp_step rfl (fun K' hK => ?_)
     go_simp
     exact hK _ _ ⟨.pointer (some ⟨W1.heap.size, k * 7, none⟩), (by simp [upd, e0, e1]), FX.eq_mk rfl, fun _ => Below.refl _ _, hbx⟩
    ·
     try dsimp only
     have x8 := depX hdp 8 (by kernel_rfl)
     have d8 := hall 8 (by omega) x8
     have e8 : t 8 = .pointer (some ⟨W1.heap.size, k * 7, none⟩) := d8.1
     have x7 := depX hdp 7 (by kernel_rfl)
     have d7 := hall 7 (by omega) x7
     rw [e8]
     obtain ⟨a4, c4, bk4, e7, r4, rl4, rn4⟩ : (fcSn wr.heap.size o.wait[k]).p (t 7) wx := FX.pre_of d7 hxi
     have hz : Below (wr.alloc (.cells #[.int .i64 o.wait[k].pkt.kind, .int .i64 o.wait[k].pkt.epoch, .int .i64 o.wait[k].pkt.seq, .int .i64 o.wait[k].pkt.count, .bool o.wait[k].pkt.last, .slice an o.wait[k].pkt.data.length cn, .int .i64 o.wait[k].at_] 141)).heap.size (wr.alloc (.cells #[.int .i64 o.wait[k].pkt.kind, .int .i64 o.wait[k].pkt.epoch, .int .i64 o.wait[k].pkt.seq, .int .i64 o.wait[k].pkt.count, .bool o.wait[k].pkt.last, .slice an o.wait[k].pkt.data.length cn, .int .i64 o.wait[k].at_] 141)) wx := hgx (by simp [hxi])
     have hz2 := bC (bN wr _) hz
     obtain ⟨vs, hvl, how2⟩ := HV.out.row hz2
     have f0 := how2.frozenAt (k * 7)
     have q0 := how2.cellAt (k * 7) (by omega)
     have f1 := how2.frozenAt (k * 7 + 1)
     have q1 := how2.cellAt (k * 7 + 1) (by omega)
     have f2 := how2.frozenAt (k * 7 + 2)
     have q2 := how2.cellAt (k * 7 + 2) (by omega)
     have f3 := how2.frozenAt (k * 7 + 3)
     have q3 := how2.cellAt (k * 7 + 3) (by omega)
     have f4 := how2.frozenAt (k * 7 + 4)
     have q4 := how2.cellAt (k * 7 + 4) (by omega)
     have f5 := how2.frozenAt (k * 7 + 5)
     have q5 := how2.cellAt (k * 7 + 5) (by omega)
     have f6 := how2.frozenAt (k * 7 + 6)
     have q6 := how2.cellAt (k * 7 + 6) (by omega)
     rw [List.getElem?_eq_getElem (by omega)] at q0 q1 q2 q3 q4 q5 q6
     generalize vs[k * 7] = y0 at q0
     generalize vs[k * 7 + 1] = y1 at q1
     generalize vs[k * 7 + 2] = y2 at q2
     generalize vs[k * 7 + 3] = y3 at q3
     generalize vs[k * 7 + 4] = y4 at q4
     generalize vs[k * 7 + 5] = y5 at q5
     generalize vs[k * 7 + 6] = y6 at q6
     have HN := HV.out.step rfl hlt hz2 (cSnt_own (s := o.wait[k]) r4 HOK.out.1 HOK.out.2) rl4 rn4
     rw [wset7] at HN
     have HS3 := wsetAll_below [.int .i64 o.wait[k].pkt.kind, .int .i64 o.wait[k].pkt.epoch, .int .i64 o.wait[k].pkt.seq, .int .i64 o.wait[k].pkt.count, .bool o.wait[k].pkt.last, .slice a4 o.wait[k].pkt.data.length c4, .int .i64 o.wait[k].at_] wx W1.heap.size (k * 7) hbx (Nat.le_refl _)
     rw [wset7] at HS3
     have HN := hid HN
     have HS3 := hid HS3
     rw [e7]
     clear how2 hvl hz hz2 r4 rl4 rn4
     clear h0
     refine wpOp_step rfl (fun K' hK => ?_)
     go_simp
     exact hK _ _ ⟨undef, (by simp [upd, e7, e8]), FX.is_mk HN.out, fun h => absurd (by simp) h, HS3.out⟩
   ·intro x t wx hx hbx hall
    have HN : Hid (MadeN 7 cSnt 141 W1 wx o.wait (k + 1)) := hid (FX.is_of (hall 9 (by omega)))
    have HBX := hid hbx
    clear hall hbx
    try dsimp only
    go_wp2
    go_roundw
    case rel => exact ⟨k + 1, by omega, by go_num, HN.out, HBX.out⟩
    case measure => simp [intOf]; omega
  ·obtain rfl : k = o.wait.length := by omega
   obtain ⟨bs, h1, h2, h3⟩ := MadeN.done (n := 7) (c := cSnt) rfl HV.out
   have HF := hid h1
   have k0 := (HBW.out.block _ (by have := HSZ.out; omega)).trans HK0.out
   have k1 := (HBW.out.block _ (by have := HSZ.out; omega)).trans HK1.out
   have c00 := cR wr _ 0 _ _ _ k0
   have f00 := fR wr _ 0 _ _ k0
   have c10 := cR wr _ 0 _ _ _ k1
   have f10 := fR wr _ 0 _ _ k1
   have c01 := cR wr _ 1 _ _ _ k0
   have f01 := fR wr _ 1 _ _ k0
   have c11 := cR wr _ 1 _ _ _ k1
   have f11 := fR wr _ 1 _ _ k1
   have c02 := cR wr _ 2 _ _ _ k0
   have f02 := fR wr _ 2 _ _ k0
   have c12 := cR wr _ 2 _ _ _ k1
   have f12 := fR wr _ 2 _ _ k1
   have c03 := cR wr _ 3 _ _ _ k0
   have f03 := fR wr _ 3 _ _ k0
   have c13 := cR wr _ 3 _ _ _ k1
   have f13 := fR wr _ 3 _ _ k1
   simp only [gA, gZ, gU] at c00 c10 c01 c11 c02 c12 c03 c13
   have K1 := hid k1
   have h01 : w.heap.size + 1 ≠ w.heap.size := by omega
   clear h1 k0 k1
   go_wp2
   refine bodyPost_ret (results_cell_row rfl _ _ (w.heap.size + 1) 41 #[.int .i64 o.epoch, .int .i64 o.next, .int .i64 o.now, .slice (some ⟨W1.heap.size, 0, none⟩) o.wait.length o.wait.length] (0, 0) _ rfl (set4 ((Below.heap_setCell _ ⟨w.heap.size, 3, none⟩ _ _ h01).trans K1.out)) Tryz.underlying41 rfl (by kernel_rfl)) rfl ?_
   refine ⟨_, _, bs, rfl, HF.out.kept (fun x hx => ?_), fun x hx => by have := h2 x hx; have := HSZ.out; omega, h3, set4b ((bC HB0.out HBW.out).setCell (p := ⟨w.heap.size, 3, none⟩) (by simp only []; omega) _) (by omega)⟩
   have := h2 x hx
   have := HSZ.out
   exact (set4o (by omega)).trans (Below.heap_setCell _ ⟨w.heap.size, 3, none⟩ _ _ (by simp only []; omega))
end Go.Proofs.YtfaehioeepolhabGreat
