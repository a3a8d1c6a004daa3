import Derived.Test.YtfaehioeepolhabGreatJSend26
import Derived.Test.YtfaehioeepolhabGreatJSend13
import Derived.Test.YtfaehioeepolhabGreatJSend3
import Derived.Test.YtfaehioeepolhabGreatJSend4
import Derived.Test.YtfaehioeepolhabGreatJSend12
namespace Go.Proofs.YtfaehioeepolhabGreat
open Go.RowKit
set_option maxRecDepth 100000 in
set_option maxHeartbeats 8000000 in
theorem l5out_any (o : PO) (a : Option Addr) (c : Nat) (w : World) (hr : RdSl cSnt w o.wait (.slice a o.wait.length c)) (ht : totL wN o.wait ≤ 1048576) :
    Calls Tryz.prog 67 #[.agg #[.int .i64 o.epoch, .int .i64 o.next, .int .i64 o.now, .slice a o.wait.length c]] w fun e w' => ∃ a2 c2 bs, e = .returned (.agg #[.int .i64 o.epoch, .int .i64 o.next, .int .i64 o.now, .slice a2 o.wait.length c2]) ∧ OwnSl cSnt 141 w' o.wait (.slice a2 o.wait.length c2) bs ∧ (∀ b ∈ bs, w.heap.size ≤ b) ∧ bs.Nodup ∧ Below w.heap.size w w' := by
  obtain ⟨i0, hi0, hz0, hz1, hz2⟩ := info_parts infoImSent
  have HR := hid hr
  clear hr
  have hlen : o.wait.length ≤ 1048576 := by unfold totL at ht; omega
  have HK0 : Hid (((w.alloc (.cells #[.int .i64 o.epoch, .int .i64 o.next, .int .i64 o.now, .slice a o.wait.length c] 41)).alloc (.cells #[.int .i64 0, .int .i64 0, .int .i64 0, .slice none 0 0] 41)).heap[w.heap.size]? = some (.cells #[.int .i64 o.epoch, .int .i64 o.next, .int .i64 o.now, .slice a o.wait.length c] 41 (0, 0))) := hid (heap2 _ _ (Below.refl _ _)).1
  have HK1 : Hid (((w.alloc (.cells #[.int .i64 o.epoch, .int .i64 o.next, .int .i64 o.now, .slice a o.wait.length c] 41)).alloc (.cells #[.int .i64 0, .int .i64 0, .int .i64 0, .slice none 0 0] 41)).heap[w.heap.size + 1]? = some (.cells #[.int .i64 0, .int .i64 0, .int .i64 0, .slice none 0 0] 41 (0, 0))) := hid (heap2 _ _ (Below.refl _ _)).2
  have HB0 := hid (below_new2 w (.cells #[.int .i64 o.epoch, .int .i64 o.next, .int .i64 o.now, .slice a o.wait.length c] 41) (.cells #[.int .i64 0, .int .i64 0, .int .i64 0, .slice none 0 0] 41))
  have HSZ := hid (size2 w (.cells #[.int .i64 o.epoch, .int .i64 o.next, .int .i64 o.now, .slice a o.wait.length c] 41) (.cells #[.int .i64 0, .int .i64 0, .int .i64 0, .slice none 0 0] 41))
  go_enter Tryz.func67, Tryz.ntmps67
  go_upto_region 1 with fail
  generalize ((w.alloc (.cells #[.int .i64 o.epoch, .int .i64 o.next, .int .i64 o.now, .slice a o.wait.length c] 41)).alloc (.cells #[.int .i64 0, .int .i64 0, .int .i64 0, .slice none 0 0] 41)) = W0 at *
  have HGO : Hid (w.heap.size < W0.heap.size) := hid (by have := HSZ.out; omega)
  have k0 := cell_of_row _ _ 0 _ _ _ HK0.out
  have k1 := cell_of_row _ _ 1 _ _ _ HK0.out
  have k2 := cell_of_row _ _ 2 _ _ _ HK0.out
  simp only [List.getElem?_toArray, List.getElem?_cons_zero, List.getElem?_cons_succ] at k0 k1 k2
  have HR0 := hid (HR.out.later HB0.out)
  have HOB0 : Hid (OutBox W0.heap.size W0.heap.size o.epoch o.next o.now [] (W0.alloc (.cells #[.int .i64 o.epoch, .int .i64 o.next, .int .i64 o.now, .slice none 0 0] 41))) := hid ⟨none, 0, [], heap_alloc_new W0 _, .inl ⟨rfl, rfl, rfl⟩, by simp, by simp⟩
  have HB1 := hid (below_new1 W0 (.cells #[.int .i64 o.epoch, .int .i64 o.next, .int .i64 o.now, .slice none 0 0] 41))
  go_upto_region 2 with fail
  generalize (W0.alloc (.cells #[.int .i64 o.epoch, .int .i64 o.next, .int .i64 o.now, .slice none 0 0] 41)) = W1 at *
  clear k0 k1 k2
  go_wp2
  go_loopw [4] (fun i wr => ∃ k : Nat, k ≤ o.wait.length ∧ i = .int .i64 k ∧ OutBox W0.heap.size W0.heap.size o.epoch o.next o.now (o.wait.take k) wr ∧ Below W0.heap.size W0 wr) (fun i _ => o.wait.length - (intOf i).toNat)
  case atStart => exact ⟨0, Nat.zero_le _, rfl, by simpa using HOB0.out, HB1.out⟩
  case round =>
    obtain ⟨k, hk, rfl, hob, hbe⟩ := hrel
    have HXL : Hid ((o.wait.take k).length = k) := hid (by simp; omega)
    have HOB := hid hob
    have HWR := hid hbe
    clear hob hbe
    by_cases hlt : k < o.wait.length
    · generalize hxs : o.wait.take k = xs at *
      have HXS := hid hxs
      have hxl := HXL.out
      have hxl2 : xs.length ≤ 1048576 := by omega
      clear hxs hxl
      obtain ⟨b, off, es, rfl, hes, hcs⟩ := (HR0.out.later HWR.out).atN hlt
      obtain ⟨an, cn, rfl, hnm, hpin, hat⟩ := cSnt_rd hes
      have d0 : wr.cell? ⟨b, off + k * 7, none⟩ = some (.int .i64 o.wait[k].pkt.kind) := by have h := hcs 0 (by decide); rw [show cSnt.n = 7 from rfl] at h; simpa [Nat.add_assoc] using h
      have d1 : wr.cell? ⟨b, off + k * 7 + 1, none⟩ = some (.int .i64 o.wait[k].pkt.epoch) := by have h := hcs 1 (by decide); rw [show cSnt.n = 7 from rfl] at h; simpa [Nat.add_assoc] using h
      have d2 : wr.cell? ⟨b, off + k * 7 + 2, none⟩ = some (.int .i64 o.wait[k].pkt.seq) := by have h := hcs 2 (by decide); rw [show cSnt.n = 7 from rfl] at h; simpa [Nat.add_assoc] using h
      have d3 : wr.cell? ⟨b, off + k * 7 + 3, none⟩ = some (.int .i64 o.wait[k].pkt.count) := by have h := hcs 3 (by decide); rw [show cSnt.n = 7 from rfl] at h; simpa [Nat.add_assoc] using h
      have d4 : wr.cell? ⟨b, off + k * 7 + 4, none⟩ = some (.bool o.wait[k].pkt.last) := by have h := hcs 4 (by decide); rw [show cSnt.n = 7 from rfl] at h; simpa [Nat.add_assoc] using h
      have d5 : wr.cell? ⟨b, off + k * 7 + 5, none⟩ = some (.slice an o.wait[k].pkt.data.length cn) := by have h := hcs 5 (by decide); rw [show cSnt.n = 7 from rfl] at h; simpa [Nat.add_assoc] using h
      have d6 : wr.cell? ⟨b, off + k * 7 + 6, none⟩ = some (.int .i64 o.wait[k].at_) := by have h := hcs 6 (by decide); rw [show cSnt.n = 7 from rfl] at h; simpa [Nat.add_assoc] using h
      have hki : (k : Int) < (o.wait.length : Int) := by omega
      have HNM := hid hnm
      have HOK : Hid (PPIn o.wait[k].pkt ∧ IntIn o.wait[k].at_) := hid ⟨hpin, hat⟩
      have hnl : o.wait[k].pkt.data.length ≤ 1048576 := by have h := tot_at wN o.wait k hlt; unfold totL at ht; exact Nat.le_trans h (by omega)
      obtain ⟨aA, cA, bsA, hkm, hox, hnb, hbb⟩ := HOB.out
      have HKM := hid hkm
      have HOX := hid hox
      have HNB := hid hnb
      have HBB := hid hbb
      have p3 := cell_of_row _ _ 3 _ _ _ ((HWR.out.block _ HGO.out).trans HK0.out)
      have g3 := cell_of_row _ _ 3 _ _ _ hkm
      simp only [List.getElem?_toArray, List.getElem?_cons_zero, List.getElem?_cons_succ] at p3 g3
      clear hes hnm hpin hat hcs hkm hox hnb hbb
      go_wp2_with fail
      refine region_turns (n := 20) (by kernel_rfl) (by kernel_rfl) ?_ (fun t => { tmps := #[.agg #[.int .i64 o.epoch, .int .i64 o.next, .int .i64 o.now, .slice (some ⟨b, off, none⟩) o.wait.length c], .pointer (some ⟨w.heap.size, 0, none⟩), .pointer (some ⟨w.heap.size + 1, 0, none⟩), .pointer (some ⟨W0.heap.size, 0, none⟩), .int .i64 (k : Int), .pointer (some ⟨w.heap.size, 0, none⟩), .int .i64 o.epoch, .pointer (some ⟨w.heap.size, 1, none⟩), .int .i64 o.next, .pointer (some ⟨w.heap.size, 2, none⟩), .int .i64 o.now, .agg #[.int .i64 o.epoch, .int .i64 o.next, .int .i64 o.now, .slice none 0 0], .int .i64 (k : Int), .pointer (some ⟨w.heap.size, 3, none⟩), .slice (some ⟨b, off, none⟩) o.wait.length c, .int .i64 (o.wait.length : Int), .bool true, u17, u18, t 0, t 1, t 2, t 3, t 4, t 5, t 6, t 7, t 8, t 9, t 10, t 11, t 12, t 13, t 14, t 15, t 16, t 17, t 18, undef], defers := [] }) (soT W0.heap.size wr.heap.size W0.heap.size w.heap.size b off c o.wait.length k o.wait[k] an cn (.slice aA xs.length cA) o.epoch o.next o.now xs) [17, 19] (fcSameL wr) W0 wr (fun k => if k = 8 then [17, 19] else if k = 15 then [17, 19] else if k = 16 then [17, 19] else if k = 17 then [19] else []) (fun k => !(k == 8 || k == 15 || k == 16 || k == 17 || k == 19)) (by kernel_rfl) (fun j hj => by rcases (by omega : j = 0 ∨ j = 1 ∨ j = 2 ∨ j = 3 ∨ j = 4 ∨ j = 5 ∨ j = 6 ∨ j = 7 ∨ j = 8 ∨ j = 9 ∨ j = 10 ∨ j = 11 ∨ j = 12 ∨ j = 13 ∨ j = 14 ∨ j = 15 ∨ j = 16 ∨ j = 17 ∨ j = 18 ∨ j = 19) with rfl | rfl | rfl | rfl | rfl | rfl | rfl | rfl | rfl | rfl | rfl | rfl | rfl | rfl | rfl | rfl | rfl | rfl | rfl | rfl <;> rfl) (fun j hj hp => by rcases (by omega : j = 0 ∨ j = 1 ∨ j = 2 ∨ j = 3 ∨ j = 4 ∨ j = 5 ∨ j = 6 ∨ j = 7 ∨ j = 8 ∨ j = 9 ∨ j = 10 ∨ j = 11 ∨ j = 12 ∨ j = 13 ∨ j = 14 ∨ j = 15 ∨ j = 16 ∨ j = 17 ∨ j = 18 ∨ j = 19) with rfl | rfl | rfl | rfl | rfl | rfl | rfl | rfl | rfl | rfl | rfl | rfl | rfl | rfl | rfl | rfl | rfl | rfl | rfl | rfl <;> first | rfl | (exact absurd hp (by decide))) (fun j => ([u19, u20, u21, u22, u23, u24, u25, u26, u27, u28, u29, u30, u31, u32, u33, u34, u35, u36, u37, undef] : List Value).getD j undef) HWR.out (Below.refl _ _) ?_ ?_
      · rfl
      · intro i hi x t wx hxi hsh h0 hbx hgx hdp hall
        rcases (by omega : i = 0 ∨ i = 1 ∨ i = 2 ∨ i = 3 ∨ i = 4 ∨ i = 5 ∨ i = 6 ∨ i = 7 ∨ i = 8 ∨ i = 9 ∨ i = 10 ∨ i = 11 ∨ i = 12 ∨ i = 13 ∨ i = 14 ∨ i = 15 ∨ i = 16 ∨ i = 17 ∨ i = 18 ∨ i = 19) with rfl | rfl | rfl | rfl | rfl | rfl | rfl | rfl | rfl | rfl | rfl | rfl | rfl | rfl | rfl | rfl | rfl | rfl | rfl | rfl
        · 
          try dsimp only
          clear h0
          refine wpOp_step rfl (fun K' hK => ?_)
          go_simp
          exact hK _ _ ⟨.pointer (some ⟨W0.heap.size, 3, none⟩), (by simp [upd]), FX.eq_mk rfl, fun _ => Below.refl _ _, hbx⟩
        · 
          try dsimp only
          have x0 := depX hdp 0 (by kernel_rfl)
          have d0 := hall 0 (by omega) x0
          have e0 : t 0 = .pointer (some ⟨W0.heap.size, 3, none⟩) := d0.1
          rw [e0]
          have y17 := notYet hsh hxi 17 (by kernel_rfl)
          have y19 := notYet hsh hxi 19 (by kernel_rfl)
          have hz : Below wr.heap.size wr wx := hgx (by simp [y17, y19])
          have g3 := (hz.cell (World.block_lt_of_cell? _ _ g3)).trans g3
          clear y17 y19 hz
          clear h0
          refine wpOp_step rfl (fun K' hK => ?_)
          go_simp
          exact hK _ _ ⟨.slice aA xs.length cA, (by simp [upd, e0]), FX.eq_mk rfl, fun _ => Below.refl _ _, hbx⟩
        · 
          try dsimp only
          clear h0
          refine wpOp_step rfl (fun K' hK => ?_)
          go_simp
          exact hK _ _ ⟨.pointer (some ⟨w.heap.size, 3, none⟩), (by simp [upd]), FX.eq_mk rfl, fun _ => Below.refl _ _, hbx⟩
        · 
          try dsimp only
          have x2 := depX hdp 2 (by kernel_rfl)
          have d2 := hall 2 (by omega) x2
          have e2 : t 2 = .pointer (some ⟨w.heap.size, 3, none⟩) := d2.1
          rw [e2]
          have y17 := notYet hsh hxi 17 (by kernel_rfl)
          have y19 := notYet hsh hxi 19 (by kernel_rfl)
          have hz : Below wr.heap.size wr wx := hgx (by simp [y17, y19])
          have p3 := (hz.cell (World.block_lt_of_cell? _ _ p3)).trans p3
          clear y17 y19 hz
          clear h0
          refine wpOp_step rfl (fun K' hK => ?_)
          go_simp
          exact hK _ _ ⟨.slice (some ⟨b, off, none⟩) o.wait.length c, (by simp [upd, e2]), FX.eq_mk rfl, fun _ => Below.refl _ _, hbx⟩
        · 
          try dsimp only
          clear h0
          refine wpOp_step rfl (fun K' hK => ?_)
          go_simp
          exact hK _ _ ⟨.int .i64 (k : Int), (by simp [upd]), FX.eq_mk rfl, fun _ => Below.refl _ _, hbx⟩
        · 
          try dsimp only
          have x3 := depX hdp 3 (by kernel_rfl)
          have d3 := hall 3 (by omega) x3
          have e3 : t 3 = .slice (some ⟨b, off, none⟩) o.wait.length c := d3.1
          have x4 := depX hdp 4 (by kernel_rfl)
          have d4 := hall 4 (by omega) x4
          have e4 : t 4 = .int .i64 (k : Int) := d4.1
          rw [e3, e4]
          clear h0
          refine wpOp_step rfl (fun K' hK => ?_)
          go_simp
          exact hK _ _ ⟨.pointer (some ⟨b, off + k * 7, none⟩), (by simp [upd, e3, e4]), FX.eq_mk rfl, fun _ => Below.refl _ _, hbx⟩
        · 
          try dsimp only
          have x5 := depX hdp 5 (by kernel_rfl)
          have d5 := hall 5 (by omega) x5
          have e5 : t 5 = .pointer (some ⟨b, off + k * 7, none⟩) := d5.1
          rw [e5]
          clear h0
          refine wpOp_step rfl (fun K' hK => ?_)
          go_simp
          exact hK _ _ ⟨.pointer (some ⟨b, off + k * 7, none⟩), (by simp [upd, e5]), FX.eq_mk rfl, fun _ => Below.refl _ _, hbx⟩
        · 
          try dsimp only
          have x6 := depX hdp 6 (by kernel_rfl)
          have d6 := hall 6 (by omega) x6
          have e6 : t 6 = .pointer (some ⟨b, off + k * 7, none⟩) := d6.1
          rw [e6]
          have y17 := notYet hsh hxi 17 (by kernel_rfl)
          have y19 := notYet hsh hxi 19 (by kernel_rfl)
          have hz : Below wr.heap.size wr wx := hgx (by simp [y17, y19])
          have d0 := (hz.cell (World.block_lt_of_cell? _ _ d0)).trans d0
          have d1 := (hz.cell (World.block_lt_of_cell? _ _ d1)).trans d1
          have d2 := (hz.cell (World.block_lt_of_cell? _ _ d2)).trans d2
          have d3 := (hz.cell (World.block_lt_of_cell? _ _ d3)).trans d3
          have d4 := (hz.cell (World.block_lt_of_cell? _ _ d4)).trans d4
          have d5 := (hz.cell (World.block_lt_of_cell? _ _ d5)).trans d5
          clear y17 y19 hz
          clear h0
          refine wpOp_step rfl (fun K' hK => ?_)
          go_simp
          exact hK _ _ ⟨.agg #[.int .i64 o.wait[k].pkt.kind, .int .i64 o.wait[k].pkt.epoch, .int .i64 o.wait[k].pkt.seq, .int .i64 o.wait[k].pkt.count, .bool o.wait[k].pkt.last, .slice an o.wait[k].pkt.data.length cn], (by simp [upd, e6]), FX.eq_mk rfl, fun _ => Below.refl _ _, hbx⟩
        · 
          try dsimp only
          have x7 := depX hdp 7 (by kernel_rfl)
          have d7 := hall 7 (by omega) x7
          have e7 : t 7 = .agg #[.int .i64 o.wait[k].pkt.kind, .int .i64 o.wait[k].pkt.epoch, .int .i64 o.wait[k].pkt.seq, .int .i64 o.wait[k].pkt.count, .bool o.wait[k].pkt.last, .slice an o.wait[k].pkt.data.length cn] := d7.1
          rw [e7]
          have y17 := notYet hsh hxi 17 (by kernel_rfl)
          have y19 := notYet hsh hxi 19 (by kernel_rfl)
          have hz : Below wr.heap.size wr wx := hgx (by simp [y17, y19])
          have hsz := hz.size
          clear h0
          refine wpOp_step rfl (fun K' hK => ?_)
          go_simp
          refine (l5packet_any o.wait[k].pkt an cn wx (HNM.out.later hz) hnl).mono ?_
          rintro e w2 ⟨a2, c2, bk, rfl, o2, hb2, hn2, b2⟩
          exact hK _ _ ⟨_, (by simp [upd, e7]), FX.pre_mk ⟨a2, c2, bk, rfl, o2, fun b hb => Nat.le_trans hsz (hb2 b hb), hn2⟩, fun _ => b2, below_chain hbx b2⟩
        · 
          try dsimp only
          clear h0
          refine wpOp_step rfl (fun K' hK => ?_)
          go_simp
          exact hK _ _ ⟨.pointer (some ⟨w.heap.size, 3, none⟩), (by simp [upd]), FX.eq_mk rfl, fun _ => Below.refl _ _, hbx⟩
        · 
          try dsimp only
          have x9 := depX hdp 9 (by kernel_rfl)
          have d9 := hall 9 (by omega) x9
          have e9 : t 9 = .pointer (some ⟨w.heap.size, 3, none⟩) := d9.1
          rw [e9]
          have y17 := notYet hsh hxi 17 (by kernel_rfl)
          have y19 := notYet hsh hxi 19 (by kernel_rfl)
          have hz : Below wr.heap.size wr wx := hgx (by simp [y17, y19])
          have p3 := (hz.cell (World.block_lt_of_cell? _ _ p3)).trans p3
          clear y17 y19 hz
          clear h0
          refine wpOp_step rfl (fun K' hK => ?_)
          go_simp
          exact hK _ _ ⟨.slice (some ⟨b, off, none⟩) o.wait.length c, (by simp [upd, e9]), FX.eq_mk rfl, fun _ => Below.refl _ _, hbx⟩
        · 
          try dsimp only
          clear h0
          refine wpOp_step rfl (fun K' hK => ?_)
          go_simp
          exact hK _ _ ⟨.int .i64 (k : Int), (by simp [upd]), FX.eq_mk rfl, fun _ => Below.refl _ _, hbx⟩
        · 
          try dsimp only
          have x10 := depX hdp 10 (by kernel_rfl)
          have d10 := hall 10 (by omega) x10
          have e10 : t 10 = .slice (some ⟨b, off, none⟩) o.wait.length c := d10.1
          have x11 := depX hdp 11 (by kernel_rfl)
          have d11 := hall 11 (by omega) x11
          have e11 : t 11 = .int .i64 (k : Int) := d11.1
          rw [e10, e11]
          clear h0
          refine wpOp_step rfl (fun K' hK => ?_)
          go_simp
          exact hK _ _ ⟨.pointer (some ⟨b, off + k * 7, none⟩), (by simp [upd, e10, e11]), FX.eq_mk rfl, fun _ => Below.refl _ _, hbx⟩
        · 
          try dsimp only
          have x12 := depX hdp 12 (by kernel_rfl)
          have d12 := hall 12 (by omega) x12
          have e12 : t 12 = .pointer (some ⟨b, off + k * 7, none⟩) := d12.1
          rw [e12]
          clear h0
          refine wpOp_step rfl (fun K' hK => ?_)
          go_simp
          exact hK _ _ ⟨.pointer (some ⟨b, off + k * 7 + 6, none⟩), (by simp [upd, e12]), FX.eq_mk rfl, fun _ => Below.refl _ _, hbx⟩
        · 
          try dsimp only
          have x13 := depX hdp 13 (by kernel_rfl)
          have d13 := hall 13 (by omega) x13
          have e13 : t 13 = .pointer (some ⟨b, off + k * 7 + 6, none⟩) := d13.1
          rw [e13]
          have y17 := notYet hsh hxi 17 (by kernel_rfl)
          have y19 := notYet hsh hxi 19 (by kernel_rfl)
          have hz : Below wr.heap.size wr wx := hgx (by simp [y17, y19])
          have d6 := (hz.cell (World.block_lt_of_cell? _ _ d6)).trans d6
          clear y17 y19 hz
          clear h0
          refine wpOp_step rfl (fun K' hK => ?_)
          go_simp
          exact hK _ _ ⟨.int .i64 o.wait[k].at_, (by simp [upd, e13]), FX.eq_mk rfl, fun _ => Below.refl _ _, hbx⟩
        · 
          try dsimp only
          have x8 := depX hdp 8 (by kernel_rfl)
          have d8 := hall 8 (by omega) x8
          have x14 := depX hdp 14 (by kernel_rfl)
          have d14 := hall 14 (by omega) x14
          have e14 : t 14 = .int .i64 o.wait[k].at_ := d14.1
          rw [e14]
          have y17 := notYet hsh hxi 17 (by kernel_rfl)
          have y19 := notYet hsh hxi 19 (by kernel_rfl)
          obtain ⟨a4, c4, bk4, e8, r8⟩ : (fcPk wr.heap.size o.wait[k].pkt).p (t 8) wx := FX.pre_of2 d8 y17 y19
          rw [e8]
          clear y17 y19
          clear h0
          refine wpOp_step rfl (fun K' hK => ?_)
          go_simp
          exact hK _ _ ⟨.agg #[.int .i64 o.wait[k].pkt.kind, .int .i64 o.wait[k].pkt.epoch, .int .i64 o.wait[k].pkt.seq, .int .i64 o.wait[k].pkt.count, .bool o.wait[k].pkt.last, .slice a4 o.wait[k].pkt.data.length c4, .int .i64 o.wait[k].at_], (by simp [upd, e8, e14]), FX.pre_mk ⟨a4, c4, bk4, rfl, r8⟩, fun _ => Below.refl _ _, hbx⟩
        · 
          try dsimp only
          have x15 := depX hdp 15 (by kernel_rfl)
          have d15 := hall 15 (by omega) x15
          have y17 := notYet hsh hxi 17 (by kernel_rfl)
          have y19 := notYet hsh hxi 19 (by kernel_rfl)
          obtain ⟨a4, c4, bk4, e15, r8, r9⟩ : (fcSn wr.heap.size o.wait[k]).p (t 15) wx := FX.pre_of2 d15 y17 y19
          rw [e15]
          clear y17 y19
          clear h0
          refine wpOp_step rfl (fun K' hK => ?_)
          go_simp
          exact hK _ _ ⟨.slice (some ⟨wx.heap.size, 0, none⟩) 1 1, (by simp [upd, e15]), FX.pre_mk ⟨wx.heap.size, a4, c4, bk4, rfl, heap_alloc_new wx _, ownB_kept r8 (below_new1 _ _), r9⟩, fun _ => below_new1 _ _, below_chain hbx (below_new1 _ _)⟩
        · 
          try dsimp only
          have x1 := depX hdp 1 (by kernel_rfl)
          have d1 := hall 1 (by omega) x1
          have e1 : t 1 = .slice aA xs.length cA := d1.1
          have x16 := depX hdp 16 (by kernel_rfl)
          have d16 := hall 16 (by omega) x16
          rw [e1]
          have y19 := notYet hsh hxi 19 (by kernel_rfl)
          obtain ⟨g16, a4, c4, bk4, e16, h16, r8, r9, r10⟩ : (fcOneS wr.heap.size o.wait[k]).p (t 16) wx := FX.pre_of2 d16 hxi y19
          rw [e16]
          have hz : Below wr.heap.size wr wx := hgx (by simp [hxi, y19])
          have hox := HOX.out.kept (w' := wx) (fun b hb => hz.block b (HOX.out.lt b hb))
          have hkm := (hz.block _ (Array.getElem?_eq_some_iff.1 HKM.out).1).trans HKM.out
          obtain ⟨vals, ho, hgrowS⟩ := hox.grow HNB.out (fun b hb => (HBB.out b hb).1) hbx.size (cSnt_own (s := o.wait[k]) r8 HOK.out.1 HOK.out.2) r10 (fun b hb => Nat.le_trans HWR.out.size (r9 b hb)) (fun b hb hc => by have := HOX.out.lt b hc; have := r9 b hb; omega)
          clear h0
          refine wpOp_step rfl (fun K' hK => ?_)
          refine step_append_lies _ rfl (.tmp 20) (.tmp 35) 39 rfl W0.heap.size 141 i0 (.agg #[.int .i64 0, .int .i64 0, .int .i64 0, .int .i64 0, .bool false, .slice none 0 0, .int .i64 0]) 7 72 Tryz.underlying39 hi0 hz0 hz1 hz2 rfl (by decide) (.slice aA xs.length cA) xs.length vals rfl ho ⟨g16, 0, none⟩ 1 1 [.int .i64 o.wait[k].pkt.kind, .int .i64 o.wait[k].pkt.epoch, .int .i64 o.wait[k].pkt.seq, .int .i64 o.wait[k].pkt.count, .bool o.wait[k].pkt.last, .slice a4 o.wait[k].pkt.data.length c4, .int .i64 o.wait[k].at_] rfl rfl (World.news_of_block h16) (by simp [Value.oneCell']) (by omega) (by unfold maxLen; omega) (by omega) hbx.size _ rfl ?_
          intro g' cap' w9 hown hgrow hat hlt9
          obtain ⟨bs9, q1, q2, q3⟩ := hgrowS g' cap' w9 hown hgrow hat
          have hne : (Value.slice aA xs.length cA).ownBlock ≠ some W0.heap.size := fun e => (HBB.out _ (own_block_mem HOX.out e)).2 rfl
          exact hK _ _ ⟨.slice (some ⟨g', 0, none⟩) (xs.length + 1) cap', (by simp [upd, e1, e16, Act.put]), FX.pre_mk ⟨(hgrow.block _ (Array.getElem?_eq_some_iff.1 hkm).1 (fun e => hne e.symm)).trans hkm, some ⟨g', 0, none⟩, cap', bs9, by simp, q1, q2, fun b hb => ⟨(q3 b hb).1, fun e => by subst e; rcases (q3 _ hb).2 with h | h | h; exact (HBB.out _ h).2 rfl; exact absurd (r9 _ h) (by have := (Array.getElem?_eq_some_iff.1 HKM.out).1; omega); exact absurd (Array.getElem?_eq_some_iff.1 hkm).1 (by omega)⟩⟩, fun h => absurd (by simp) h, hbx.grown hgrow hbx.size (fun p hp => (own_in7 ho hp).1)⟩
        · 
          try dsimp only
          clear h0
          refine wpOp_step rfl (fun K' hK => ?_)
          go_simp
          exact hK _ _ ⟨.pointer (some ⟨W0.heap.size, 3, none⟩), (by simp [upd]), FX.eq_mk rfl, fun _ => Below.refl _ _, hbx⟩
        · 
          try dsimp only
          have x18 := depX hdp 18 (by kernel_rfl)
          have d18 := hall 18 (by omega) x18
          have e18 : t 18 = .pointer (some ⟨W0.heap.size, 3, none⟩) := d18.1
          have x17 := depX hdp 17 (by kernel_rfl)
          have d17 := hall 17 (by omega) x17
          rw [e18]
          obtain ⟨hbm, a17, c17, bs17, e17, o17, n17, b17⟩ : (fcGotS W0.heap.size W0.heap.size o.epoch o.next o.now (.slice aA xs.length cA) (xs ++ [o.wait[k]])).p (t 17) wx := FX.pre_of d17 hxi
          rw [e17]
          have k3 := cell_of_row wx _ 3 _ _ _ hbm
          have z3 := frozen_of_row wx _ 3 _ _ hbm
          simp only [List.getElem?_toArray, List.getElem?_cons_zero, List.getElem?_cons_succ] at k3
          have HBM := hid hbm
          have hput := outBox_put hbm o17 n17 b17
          rw [show (xs ++ [o.wait[k]]).length = xs.length + 1 from by simp] at hput
          have HPUT := hid hput
          clear hput
          clear hbm o17 n17 b17
          clear h0
          refine wpOp_step rfl (fun K' hK => ?_)
          go_simp
          exact hK _ _ ⟨undef, (by simp [upd, e18, e17]), FX.is_mk HPUT.out, fun h => absurd (by simp) h, hbx.setCell (p := ⟨W0.heap.size, 3, none⟩) (Nat.le_refl _) _⟩
      · intro x t wx hx hbx hall
        have hP : OutBox W0.heap.size W0.heap.size o.epoch o.next o.now (xs ++ [o.wait[k]]) wx := FX.is_of (hall 19 (by omega))
        rw [← HXS.out, ← List.take_succ_eq_append_getElem hlt] at hP
        have HP := hid hP
        have HBX := hid hbx
        clear hall hbx hP
        try dsimp only
        go_wp2
        go_roundw
        case rel => exact ⟨k + 1, by omega, by go_num, HP.out, HBX.out⟩
        case measure => simp [intOf]; omega
    · obtain rfl : k = o.wait.length := by omega
      rw [List.take_length] at HOB
      obtain ⟨aA, cA, bsA, hkm, hox, hnb, hbb⟩ := HOB.out
      have k1 := (HWR.out.block _ (by have := HSZ.out; omega)).trans HK1.out
      have p3 := cell_of_row _ _ 3 _ _ _ ((HWR.out.block _ HGO.out).trans HK0.out)
      simp only [List.getElem?_toArray, List.getElem?_cons_zero, List.getElem?_cons_succ] at p3
      have c00 := cell_of_row wr _ 0 _ _ _ hkm
      have c10 := cell_of_row wr _ 0 _ _ _ k1
      have f10 := frozen_of_row wr _ 0 _ _ k1
      have c01 := cell_of_row wr _ 1 _ _ _ hkm
      have c11 := cell_of_row wr _ 1 _ _ _ k1
      have f11 := frozen_of_row wr _ 1 _ _ k1
      have c02 := cell_of_row wr _ 2 _ _ _ hkm
      have c12 := cell_of_row wr _ 2 _ _ _ k1
      have f12 := frozen_of_row wr _ 2 _ _ k1
      have c03 := cell_of_row wr _ 3 _ _ _ hkm
      have c13 := cell_of_row wr _ 3 _ _ _ k1
      have f13 := frozen_of_row wr _ 3 _ _ k1
      simp only [List.getElem?_toArray, List.getElem?_cons_zero, List.getElem?_cons_succ] at c00 c10 c01 c11 c02 c12 c03 c13
      have K1 := hid k1
      have HOX := hid hox
      have HBB := hid hbb
      have HNB := hid hnb
      clear k1 hkm hox hbb hnb
      go_wp2
      refine bodyPost_ret (results_cell_row rfl _ _ (w.heap.size + 1) 41 #[.int .i64 o.epoch, .int .i64 o.next, .int .i64 o.now, .slice aA o.wait.length cA] (0, 0) _ rfl (set4 K1.out) Tryz.underlying41 rfl (by kernel_rfl)) rfl ?_
      refine ⟨_, _, bsA, rfl, HOX.out.kept (fun x hx => ?_), fun x hx => by have := (HBB.out x hx).1; have := HSZ.out; omega, HNB.out, set4b (below_chain HB0.out HWR.out) (by omega)⟩
      have := (HBB.out x hx).1
      have := HSZ.out
      exact set4o (by omega)
end Go.Proofs.YtfaehioeepolhabGreat
namespace Go.Proofs.YtfaehioeepolhabGreat
open Go.RowKit
structure Tk {α : Type} (c : Cod α) where
  P : Nat → World → α → List Value → Prop
  ty : List TypeId
  rd : ∀ {B w x cs}, P B w x cs → c.rd w x cs
  kept : ∀ {B w w' x cs}, P B w x cs → (∀ (b : Nat) e n s vs u, w.ownsRow B e s u n vs → e ∈ ty → u.ownBlock = some b → w'.heap[b]? = w.heap[b]?) → P B w' x cs
  mono : ∀ {B B' w x cs}, P B w x cs → B' ≤ B → P B' w x cs
theorem Tk.later {α : Type} {c : Cod α} (tk : Tk c) {B : Nat} {w w' : World} {x : α} {cs : List Value} (h : tk.P B w x cs) (hb : Below w.heap.size w w') : tk.P B w' x cs :=
  tk.kept h (fun b _ _ _ _ _ ho _ hp => hb.block b (World.ownsRow.lt ho b hp).2)
theorem ownsRow_less {w : World} {B B' n s : Nat} {e : TypeId} {v : Value} {vs : List Value} (h : w.ownsRow B e s v n vs) (hb : B' ≤ B) : w.ownsRow B' e s v n vs := ⟨h.1, h.2.imp id (fun ⟨g, cap, cur, h1, h2, h3⟩ => ⟨g, cap, cur, h1, Nat.le_trans hb h2, h3⟩)⟩
def RowT {α : Type} {c : Cod α} (tk : Tk c) (e : TypeId) (B : Nat) (w : World) (v : Value) (xs : List α) : Prop :=
  ∃ vals : List Value, w.ownsRow B e c.n v xs.length vals ∧ ∀ i, (h : i < xs.length) → tk.P B w xs[i] (part vals c.n i)
theorem RowT.nil {α : Type} {c : Cod α} (tk : Tk c) (e : TypeId) (B : Nat) (w : World) : RowT tk e B w (.slice none 0 0) [] := ⟨[], World.ownsRow_nil _ _ _ _, fun i h => by simp at h⟩
theorem RowT.kept {α : Type} {c : Cod α} {tk : Tk c} {e : TypeId} {B : Nat} {w w' : World} {v : Value} {xs : List α} (h : RowT tk e B w v xs) (hk : ∀ (b : Nat) e' n s vs u, w.ownsRow B e' s u n vs → (e' = e ∨ e' ∈ tk.ty) → u.ownBlock = some b → w'.heap[b]? = w.heap[b]?) : RowT tk e B w' v xs := by
  obtain ⟨vals, ho, hi⟩ := h
  exact ⟨vals, ownsRow_kept ho (fun b hb => hk b _ _ _ _ _ ho (.inl rfl) hb), fun i h => tk.kept (hi i h) (fun b e n s vs u h1 h2 h3 => hk b e n s vs u h1 (.inr h2) h3)⟩
theorem RowT.later {α : Type} {c : Cod α} {tk : Tk c} {e : TypeId} {B : Nat} {w w' : World} {v : Value} {xs : List α} (h : RowT tk e B w v xs) (hb : Below w.heap.size w w') : RowT tk e B w' v xs :=
  h.kept (fun b _ _ _ _ _ ho _ hp => hb.block b (World.ownsRow.lt ho b hp).2)
theorem RowT.mono {α : Type} {c : Cod α} {tk : Tk c} {e : TypeId} {B B' : Nat} {w : World} {v : Value} {xs : List α} (h : RowT tk e B w v xs) (hb : B' ≤ B) : RowT tk e B' w v xs := by
  obtain ⟨vals, ho, hi⟩ := h
  exact ⟨vals, ownsRow_less ho hb, fun i h => tk.mono (hi i h) hb⟩
theorem RowT.rd {α : Type} {c : Cod α} {tk : Tk c} {e : TypeId} {B : Nat} {w : World} {v : Value} {xs : List α} (h : RowT tk e B w v xs) : RdSl c w xs v := by
  obtain ⟨vals, ho, hi⟩ := h
  have hvl : vals.length = xs.length * c.n := ho.1
  rcases ho.2 with ⟨rfl, h0⟩ | ⟨g, cap, cur, rfl, hg, hh, hn, hm, r⟩
  · obtain rfl := List.length_eq_zero_iff.1 h0
    exact RdSl.empty none
  · refine ⟨_, cap, rfl, hn, hm, (fun h => by cases h), .inr ⟨g, 0, rfl, fun i h => ?_⟩⟩
    have h1 := tk.rd (hi i h)
    refine ⟨_, h1, fun j hj => ?_⟩
    have hj' : j < c.n := by rw [part_len hvl h] at hj; exact hj
    have hlt : i * c.n + j < xs.length * c.n := by
      have : (i + 1) * c.n ≤ xs.length * c.n := Nat.mul_le_mul_right _ h
      rw [Nat.add_mul, Nat.one_mul] at this; omega
    rw [Nat.zero_add, ho.cellAt _ hlt, ← part_at hj', List.getElem?_eq_getElem hj]
theorem RowT.slice {α : Type} {c : Cod α} {tk : Tk c} {e : TypeId} {B : Nat} {w : World} {v : Value} {xs : List α} (h : RowT tk e B w v xs) : ∃ a cap, v = .slice a xs.length cap := by
  obtain ⟨a, cap, e, _⟩ := h.rd
  exact ⟨a, cap, e⟩
theorem rt_left {vs cs : List Value} {n m i : Nat} (hv : vs.length = m * n) (hi : i < m) : part (vs ++ cs) n i = part vs n i := by
  have h : (i + 1) * n ≤ m * n := Nat.mul_le_mul_right _ hi
  rw [Nat.add_mul, Nat.one_mul] at h
  unfold part
  rw [List.drop_append_of_le_length (by omega), List.take_append_of_le_length (by simp; omega)]
theorem rt_last {vs cs : List Value} {n m : Nat} (hv : vs.length = m * n) (hc : cs.length = n) : part (vs ++ cs) n m = cs := by
  unfold part
  rw [← hv, List.drop_left, ← hc, List.take_length]
theorem RowT.snoc {α : Type} {c : Cod α} {tk : Tk c} {e : TypeId} {B : Nat} {w w1 : World} {v v' : Value} {xs : List α} {x : α} {vals cs : List Value} (ho : w.ownsRow B e c.n v xs.length vals) (hi : ∀ i, (h : i < xs.length) → tk.P B w xs[i] (part vals c.n i)) (hx : tk.P B w x cs) (hne : e ∉ tk.ty)
    (ho1 : w1.ownsRow B e c.n v' (xs.length + 1) (vals ++ cs)) (hg : w.grownBy w1 v.ownBlock) : RowT tk e B w1 v' (xs ++ [x]) := by
  have hvl : vals.length = xs.length * c.n := ho.1
  have keep : ∀ x cs, tk.P B w x cs → tk.P B w1 x cs := fun x cs h => tk.kept h (fun b e' n s vs u h1 h2 h3 => hg.block b (World.ownsRow.lt h1 b h3).2 (fun e0 => own_apartS h1 ho (fun he => hne (he ▸ h2)) b b h3 e0.symm rfl))
  refine ⟨_, by simpa using ho1, fun i h => ?_⟩
  by_cases he : i < xs.length
  · rw [List.getElem_append_left he, rt_left hvl he]
    exact keep _ _ (hi i he)
  · obtain rfl : i = xs.length := by simp at h; omega
    have e1 : (xs ++ [x])[xs.length]'h = x := by simp
    rw [e1, rt_last hvl (c.len (tk.rd hx))]
    exact keep _ _ hx
def tkText : Tk cSS where
  P B w xs cs := ∃ u, cs = [u] ∧ w.ownsRow B 5 1 u xs.length (byt xs) ∧ ∀ x ∈ xs, x < 256
  ty := [5]
  rd h := by obtain ⟨u, rfl, h1, h2⟩ := h; exact ⟨u, rfl, own_rdSl h1 h2⟩
  kept h hk := by obtain ⟨u, rfl, h1, h2⟩ := h; exact ⟨u, rfl, ownsRow_kept h1 (fun b hb => hk b _ _ _ _ _ h1 (by simp) hb), h2⟩
  mono h hb := by obtain ⟨u, rfl, h1, h2⟩ := h; exact ⟨u, rfl, own_mono h1 hb, h2⟩
def tkTexts : Tk cSSS where
  P B w xs cs := ∃ u, cs = [u] ∧ RowT tkText 87 B w u xs
  ty := [87, 5]
  rd h := by obtain ⟨u, rfl, h1⟩ := h; exact ⟨u, rfl, h1.rd⟩
  kept h hk := by obtain ⟨u, rfl, h1⟩ := h; exact ⟨u, rfl, h1.kept (fun b e n s vs u g1 g2 g3 => hk b e n s vs u g1 (g2.elim (fun e => by simp [e]) (fun h => by simp [tkText] at h; simp [h])) g3)⟩
  mono h hb := by obtain ⟨u, rfl, h1⟩ := h; exact ⟨u, rfl, h1.mono hb⟩
theorem txts_row {B : Nat} {w : World} {v : Value} {xss : List (List Nat)} (h : Txts B w v xss) : RowT tkText 87 B w v xss := by
  obtain ⟨vals, ho, hi⟩ := h
  refine ⟨vals, ho, fun i h => ?_⟩
  obtain ⟨u, h1, h2, h3⟩ := hi i h
  have hp : part vals cSS.n i = [u] := by
    have hl : vals.length = xss.length := by have := ho.1; omega
    have h4 : (part vals 1 i)[0]? = vals[i * 1 + 0]? := part_at (by decide)
    have h5 : (part vals 1 i).length = 1 := part_len (m := xss.length) (by omega) h
    rw [show cSS.n = 1 from rfl]
    match hq : part vals 1 i, h5 with
    | [y], _ =>
      rw [hq] at h4
      simp only [List.getElem?_cons_zero, Nat.mul_one, Nat.add_zero, h1, Option.some.injEq] at h4
      rw [h4]
  rw [hp]
  exact ⟨u, rfl, h2, h3⟩
def tkField : Tk cField where
  P B w f cs := ∃ u, cs = [u, .int .i64 f.kind, .int .i64 f.width] ∧ w.ownsRow B 5 1 u f.name.length (byt f.name) ∧ FOK f
  ty := [5]
  rd h := by obtain ⟨u, rfl, h1, h2⟩ := h; exact cField_mk (own_rdSl h1 h2.1) h2.2.1 h2.2.2
  kept h hk := by obtain ⟨u, rfl, h1, h2⟩ := h; exact ⟨u, rfl, ownsRow_kept h1 (fun b hb => hk b _ _ _ _ _ h1 (by simp) hb), h2⟩
  mono h hb := by obtain ⟨u, rfl, h1, h2⟩ := h; exact ⟨u, rfl, own_mono h1 hb, h2⟩
def tkCell : Tk cCell where
  P B w f cs := ∃ u, cs = [.bool f.null, .int .i64 f.num, u] ∧ w.ownsRow B 5 1 u f.text.length (byt f.text) ∧ (∀ x ∈ f.text, x < 256) ∧ IntIn f.num
  ty := [5]
  rd h := by obtain ⟨u, rfl, h1, h2, h3⟩ := h; exact cCell_mk (own_rdSl h1 h2) h3
  kept h hk := by obtain ⟨u, rfl, h1, h2⟩ := h; exact ⟨u, rfl, ownsRow_kept h1 (fun b hb => hk b _ _ _ _ _ h1 (by simp) hb), h2⟩
  mono h hb := by obtain ⟨u, rfl, h1, h2⟩ := h; exact ⟨u, rfl, own_mono h1 hb, h2⟩
theorem cTable_mkR {w : World} {t : PT} {v : Value} (h1 : RdSl cCell w t.cells v) (h2 : IntIn t.rows) : cTable.rd w t [.int .i64 t.rows, v] := ⟨[_], _, rfl, ⟨rfl, h2⟩, v, rfl, h1⟩
def tkTable : Tk cTable where
  P B w t cs := ∃ u, cs = [.int .i64 t.rows, u] ∧ RowT tkCell 102 B w u t.cells ∧ IntIn t.rows
  ty := [102, 5]
  rd h := by obtain ⟨u, rfl, h1, h2⟩ := h; exact cTable_mkR h1.rd h2
  kept h hk := by obtain ⟨u, rfl, h1, h2⟩ := h; exact ⟨u, rfl, h1.kept (fun b e n s vs u g1 g2 g3 => hk b e n s vs u g1 (g2.elim (fun e => by simp [e]) (fun h => by simp [tkCell] at h; simp [h])) g3), h2⟩
  mono h hb := by obtain ⟨u, rfl, h1, h2⟩ := h; exact ⟨u, rfl, h1.mono hb, h2⟩
theorem RowT.box {α : Type} {c : Cod α} {tk : Tk c} {e : TypeId} {B : Nat} {w : World} {v x : Value} {xs : List α} {gm k : Nat} {cs : Array Value} {t : TypeId} (h : RowT tk e B w v xs) (hb : w.heap[gm]? = some (.cells cs t (0, 0))) (h1 : t ≠ e) (h2 : t ∉ tk.ty) : RowT tk e B (w.setCell ⟨gm, k, none⟩ x) v xs :=
  h.kept (fun b e' n s vs u ho he hp => Below.heap_setCell _ ⟨gm, k, none⟩ _ _ (fun e0 => by
    subst e0
    rcases ho.2 with ⟨rfl, _⟩ | ⟨g, cap, cur, rfl, _, hh, _⟩
    · simp [Value.ownBlock] at hp
    · simp [Value.ownBlock] at hp
      subst hp
      rw [hb] at hh
      simp at hh
      rcases he with rfl | he
      · exact h1 hh.2
      · exact h2 (hh.2 ▸ he)))
end Go.Proofs.YtfaehioeepolhabGreat
namespace Go.Proofs.YtfaehioeepolhabGreat
open Go.RowKit
set_option maxRecDepth 100000 in
set_option maxHeartbeats 2000000 in
theorem l3texts_any (a : Option Addr) (cap : Nat) (xs : List (List Nat)) (w : World) (hr : RdSl cSS w xs (.slice a xs.length cap)) (ht : totL List.length xs ≤ 1048576) :
    Calls Tryz.prog 114 #[.slice a xs.length cap] w fun e w' => ∃ v, e = .returned v ∧ Txts w.heap.size w' v xs ∧ Below w.heap.size w w' := by
  obtain ⟨i0, hi, hz0, hz1, hz2⟩ := info_parts infoSlT
  have HR := hid hr
  clear hr
  rw [totL_tot] at ht
  go_enter Tryz.func114, Tryz.ntmps114
  go_wp2
  go_loopw [3, 4] (fun v i wr => ∃ k : Nat, k ≤ xs.length ∧ i = .int .i64 k ∧ Txts w.heap.size wr v (xs.take k) ∧ Below w.heap.size w wr) (fun _ i _ => xs.length - (intOf i).toNat)
  case atStart => exact ⟨0, Nat.zero_le _, rfl, by simpa using Txts.nil _ w, Below.refl _ _⟩
  case round =>
    obtain ⟨k, hk, rfl, htx, hbe⟩ := hrel
    have HX := hid htx
    have HB := hid hbe
    clear htx hbe
    by_cases hlt : k < xs.length
    · obtain ⟨b, off, a', c', rfl, hcb, hrr⟩ := (HR.out.later HB.out).row hlt
      have HRR := hid hrr
      have hlk := len_le_tot xs k hlt
      have hki : (k : Int) < (xs.length : Int) := by omega
      have HTK : Hid (xs.take (k + 1) = xs.take k ++ [xs[k]]) := hid (List.take_succ_eq_append_getElem hlt)
      have HTL : Hid ((xs.take k).length = k) := hid (by simp; omega)
      clear hrr
      go_wp2_with fail
      refine (l1copy_any a' c' xs[k] wr HRR.out (by omega)).mono ?_
      rintro e w2 ⟨u, rfl, o2, b2⟩
      obtain ⟨vals, how, hel⟩ := HX.out.later b2
      have hs2 : w.heap.size ≤ w2.heap.size := Nat.le_trans HB.out.size b2.size
      have HO := hid how
      have HEL := hid hel
      have HU := hid (own_mono o2 HB.out.size)
      have HBY := hid HRR.out.rdB.2
      have HB2 := hid (below_chain HB.out b2)
      obtain ⟨au, cu, rfl, -⟩ := rd_own o2
      rw [HTL.out] at how
      have HW := hid how
      clear how hel o2 b2
      go_wp2_with (first | (at_builtin; refine wpList_append_own _ rfl _ _ 103 rfl w.heap.size 87 i0 (.slice none 0 0) 1 24 Tryz.underlying103 hi hz0 hz1 hz2 rfl (by decide) _ k _ rfl (HW.out.alloc _) ⟨w2.heap.size, 0, none⟩ 1 1 [.slice au xs[k].length cu] rfl rfl (cell_one_new _ _ _) (one_cell rfl) (by unfold maxLen; omega) (by omega) (by simp; omega) ?_))
      intro v' w9 hown' hgrow _
      have HX9 : Hid (Txts w.heap.size w9 v' (xs.take (k + 1))) := hid (by
        rw [HTK.out]
        refine Txts.snoc (HO.out.alloc _) (fun i h => ?_) (HU.out.alloc _) HBY.out (by rw [HTL.out]; exact hown') hgrow
        obtain ⟨u', h1, h2, h3⟩ := HEL.out i h
        exact ⟨u', h1, h2.alloc _, h3⟩)
      have HB9 : Hid (Below w.heap.size w w9) := hid ((HB2.out.alloc HB2.out.size _).grown hgrow (by simp; omega) (fun p hp => (own_in HO.out hp).1))
      clear hown' hgrow
      go_wp2
      go_roundw
      case rel => exact ⟨k + 1, by omega, by go_num, HX9.out, HB9.out⟩
      case measure => simp [intOf]; omega
    · obtain rfl : k = xs.length := by omega
      have HF : Hid (Txts w.heap.size wr _ xs) := hid (by have := HX.out; rw [List.take_length] at this; exact this)
      go_wp2
      go_ret
      exact ⟨_, rfl, HF.out, HB.out⟩
end Go.Proofs.YtfaehioeepolhabGreat
