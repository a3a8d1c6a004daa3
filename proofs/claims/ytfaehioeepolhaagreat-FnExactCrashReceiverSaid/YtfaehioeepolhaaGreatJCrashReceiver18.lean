import Derived.Test.YtfaehioeepolhaaGreatJCrashReceiver5
import Derived.Test.YtfaehioeepolhaaGreatJCrashReceiver15
import Derived.Deep.RegionHeld
namespace Go.Proofs.YtfaehioeepolhaaGreat
open Go.RowKit
theorem cTable_shp {w : World} {f : PT} {cs : List Value} (h : cTable.rd w f cs) : ∃ a cap, cs = [.int .i64 f.rows, .slice a f.cells.length cap] := by
  obtain ⟨a, c, e, -⟩ := cTable_shape h
  exact ⟨a, c, e⟩
theorem wset2 (w : World) (g off : Nat) (x0 x1 : Value) : wsetAll w g off [x0, x1] = ((w.setCell ⟨g, off, none⟩ x0).setCell ⟨g, off + 1, none⟩ x1) := by simp only [wsetAll]
theorem infoImTable : (Tryz.prog.info? 111).map (fun i => (i.zero, i.size, i.bytes)) = some (some (.agg #[.int .i64 0, .slice none 0 0]), 2, 32) := by kernel_rfl
set_option maxRecDepth 100000 in
set_option maxHeartbeats 4000000 in
theorem toTableS_any (a : Option Addr) (cap : Nat) (xs : List PT) (w : World) (hr : RdSl cTable w xs (.slice a xs.length cap)) (ht : totL totT xs ≤ 1048576) :
    Calls Tryz.prog 43 #[.slice a xs.length cap] w fun e w' => ∃ v bs, e = .returned v ∧ OwnSl cTable 111 w' xs v bs ∧ (∀ b ∈ bs, w.heap.size ≤ b) ∧ bs.Nodup ∧ Below w.heap.size w w' := by
  obtain ⟨i0, hi, hz0, hz1, hz2⟩ := info_parts infoImTable
  have HR := hid hr
  clear hr
  have hlen : xs.length ≤ 1048576 := by unfold totL at ht; omega
  go_enter Tryz.func43, Tryz.ntmps43
  go_wp2_with (first | (at_make; refine wpList_make_full _ rfl (.tmp 6) (.tmp 6) 41 rfl w.heap.size 111 i0 (.agg #[.int .i64 0, .slice none 0 0]) 2 Tryz.underlying41 hi hz0 hz1 .i64 .i64 _ _ xs.length rfl rfl rfl rfl (by rw [hz2]; omega) (by unfold maxLen; omega) (by simp) ?_))
  intro w1 ho hg1
  have HB1 : Hid (Below w.heap.size w w1) := hid ((Below.refl _ w).grown hg1 (Nat.le_refl _) (by intro k h; cases h))
  have HM : Hid (MadeN 2 cTable 111 w w1 xs 0) := hid ⟨_, [], ho, rfl, fun i h h2 => by simp at h2, by simp, by simp⟩
  clear hg1 hi hz0 hz1 hz2 ho
  go_wp2
  go_loopw [4] (fun i wr => ∃ k : Nat, k ≤ xs.length ∧ i = .int .i64 k ∧ MadeN 2 cTable 111 w wr xs k ∧ Below w.heap.size w wr) (fun i _ => xs.length - (intOf i).toNat)
  case atStart => exact ⟨0, Nat.zero_le _, rfl, HM.out, HB1.out⟩
  case round =>
    obtain ⟨k, hk, rfl, hm, hbe⟩ := hrel
    have HV := hid hm
    have HB := hid hbe
    clear hm hbe
    by_cases hlt : k < xs.length
    · obtain ⟨b, off, es, rfl, hes, hcs⟩ := (HR.out.later HB.out).atN hlt
      obtain ⟨a0, c0, rfl⟩ := cTable_shp hes
      have d0 : wr.cell? ⟨b, off + k * 2, none⟩ = some (.int .i64 xs[k].rows) := by have h := hcs 0 (by decide); rw [show cTable.n = 2 from rfl] at h; simpa [Nat.add_assoc] using h
      have d1 : wr.cell? ⟨b, off + k * 2 + 1, none⟩ = some (.slice a0 xs[k].cells.length c0) := by have h := hcs 1 (by decide); rw [show cTable.n = 2 from rfl] at h; simpa [Nat.add_assoc] using h
      have HT := hid (toTable_law wr xs[k] _ hes (by have := tot_at totT xs k hlt; unfold totL at ht; omega))
      simp only [val] at HT
      have hki : (k : Int) < (xs.length : Int) := by omega
      clear hes hcs
      go_wp2_with fail
      refine HT.out.mono ?_
      rintro e w2 ⟨cs', bs, he, o2, hbs, hnd, b2⟩
      obtain ⟨ax, cx, rfl⟩ := cTable_shp (cTable.ownRd o2)
      subst he
      have HN : Hid (MadeN 2 cTable 111 w ((w2.setCell ⟨w.heap.size, k * 2, none⟩ (.int .i64 xs[k].rows)).setCell ⟨w.heap.size, k * 2 + 1, none⟩ (.slice ax xs[k].cells.length cx)) xs (k + 1)) := hid (by
        have hst := HV.out.step rfl hlt b2 o2 hbs hnd
        rw [wset2] at hst
        exact hst)
      have HBB : Hid (Below w.heap.size w ((w2.setCell ⟨w.heap.size, k * 2, none⟩ (.int .i64 xs[k].rows)).setCell ⟨w.heap.size, k * 2 + 1, none⟩ (.slice ax xs[k].cells.length cx))) := hid (by
        have hst := wsetAll_below [.int .i64 xs[k].rows, .slice ax xs[k].cells.length cx] w2 w.heap.size (k * 2) (HB.out.trans (b2.mono HB.out.size)) (Nat.le_refl _)
        rw [wset2] at hst
        exact hst)
      obtain ⟨vs, hvl, how2⟩ := HV.out.row b2
      have f0 := how2.frozenAt (k * 2)
      have q0 := how2.cellAt (k * 2) (by omega)
      have f1 := how2.frozenAt (k * 2 + 1)
      have q1 := how2.cellAt (k * 2 + 1) (by omega)
      rw [List.getElem?_eq_getElem (by omega)] at q0 q1
      generalize vs[k * 2] = y0 at q0
      generalize vs[k * 2 + 1] = y1 at q1
      clear o2 hbs hnd b2 how2 hvl HT
      go_wp2
      go_roundw
      case rel => exact ⟨k + 1, by omega, by go_num, HN.out, HBB.out⟩
      case measure => simp [intOf]; omega
    · obtain rfl : k = xs.length := by omega
      obtain ⟨bs, h1, h2, h3⟩ := MadeN.done (n := 2) (c := cTable) rfl HV.out
      have HF := hid h1
      clear h1
      go_wp2
      go_ret
      exact ⟨_, bs, rfl, HF.out, h2, h3, HB.out⟩
set_option maxHeartbeats 2000000 in
theorem szTableS_any (a : Option Addr) (cap : Nat) (xs : List PT) (l : Int) (w : World) (hr : RdSl cTable w xs (.slice a xs.length cap)) (h0 : 0 ≤ l) (h1 : l ≤ 1048576) :
    Calls Tryz.prog 37 #[.slice a xs.length cap, .int .i64 l] w fun e w' => e = .returned (.int .i64 (rest l (totL totT xs))) ∧ Below w.heap.size w w' := by
  have hml : xs.length ≤ maxLen := by
    obtain ⟨a', cap', e', g1, g2, _⟩ := hr
    omega
  unfold maxLen at hml
  have HR := hid hr
  clear hr
  by_cases hbig : l - (xs.length : Int) < 0
  · have HM : Hid (rest l (totL totT xs) = -1) := hid (by unfold rest totL; rw [if_pos (by omega)])
    go_enter Tryz.func37, Tryz.ntmps37
    go_wp2
    go_ret
    exact ⟨by rw [HM.out]; rfl, Below.refl _ _⟩
  · go_enter Tryz.func37, Tryz.ntmps37
    go_wp2
    go_loopw [1, 5] (fun q i wr => ∃ k : Nat, k ≤ xs.length ∧ i = .int .i64 k ∧ q = .int .i64 (rest l (xs.length + ((xs.take k).map totT).sum)) ∧ 0 ≤ rest l (xs.length + ((xs.take k).map totT).sum) ∧ Below w.heap.size w wr) (fun _ i _ => xs.length - (intOf i).toNat)
    case atStart => exact ⟨0, Nat.zero_le _, rfl, by simp [rest]; omega, by simp [rest]; omega, Below.refl _ _⟩
    case round =>
      obtain ⟨k, hk, rfl, rfl, hle, hbe⟩ := hrel
      have HB := hid hbe
      clear hbe
      by_cases hlt : k < xs.length
      · obtain ⟨b, off, es, rfl, hes, hcs⟩ := (HR.out.later HB.out).atN hlt
        obtain ⟨a0, c0, rfl⟩ := cTable_shp hes
        have d0 : wr.cell? ⟨b, off + k * 2, none⟩ = some (.int .i64 xs[k].rows) := by have h := hcs 0 (by decide); rw [show cTable.n = 2 from rfl] at h; simpa [Nat.add_assoc] using h
        have d1 : wr.cell? ⟨b, off + k * 2 + 1, none⟩ = some (.slice a0 xs[k].cells.length c0) := by have h := hcs 1 (by decide); rw [show cTable.n = 2 from rfl] at h; simpa [Nat.add_assoc] using h
        have hki : (k : Int) < (xs.length : Int) := by omega
        have HS := hid (sum_snoc totT xs k hlt)
        have HT := hid (rest_two (m := totT xs[k]) hle)
        have HNG : Hid (rest l (xs.length + ((xs.take (k + 1)).map totT).sum) < 0 → rest l (totL totT xs) = -1) := hid (fun h => by
          have h2 := sum_take totT xs (k + 1)
          have h3 := rest_neg (m := totL totT xs - (xs.length + ((xs.take (k + 1)).map totT).sum)) h
          unfold totL at *
          rw [show xs.length + ((xs.take (k + 1)).map totT).sum + (xs.length + (xs.map totT).sum - (xs.length + ((xs.take (k + 1)).map totT).sum)) = xs.length + (xs.map totT).sum from by omega] at h3
          exact h3)
        have hup := rest_le (n := xs.length + ((xs.take k).map totT).sum) h1
        generalize hq : rest l (xs.length + ((xs.take k).map totT).sum) = q at *
        have HQ := hid (szTable_law wr xs[k] _ q hes hle hup)
        simp only [val] at HQ
        clear hes hcs
        go_wp2_with fail
        refine HQ.out.mono ?_
        rintro e w2 ⟨rfl, b2⟩
        have HB2 := hid (HB.out.trans (b2.mono HB.out.size))
        clear b2
        have HQ2 : Hid (rest q (totT xs[k]) = rest l (xs.length + ((xs.take (k + 1)).map totT).sum)) := hid (by rw [HT.out, HS.out, Nat.add_assoc])
        generalize rest q (totT xs[k]) = r at *
        by_cases hneg : r < 0
        · have hz := HNG.out (by rw [← HQ2.out]; exact hneg)
          have HZ := hid hz
          clear hz
          go_wp2
          go_ret
          exact ⟨by rw [HZ.out]; rfl, HB2.out⟩
        · go_wp2
          go_roundw
          case rel => exact ⟨k + 1, by omega, by go_num, by rw [HQ2.out], by rw [← HQ2.out]; omega, HB2.out⟩
          case measure => simp [intOf]; omega
      · obtain rfl : k = xs.length := by omega
        have HF : Hid (rest l (xs.length + ((xs.take xs.length).map totT).sum) = rest l (totL totT xs)) := hid (by rw [List.take_length]; rfl)
        rw [HF.out]
        go_wp2
        go_ret
        exact ⟨rfl, HB.out⟩
set_option maxRecDepth 100000 in
set_option maxHeartbeats 4000000 in
theorem eqTableS_any (a1 a2 : Option Addr) (c1 c2 : Nat) (xs : List PT) (w : World) (h1 : RdSl cTable w xs (.slice a1 xs.length c1)) (h2 : RdSl cTable w xs (.slice a2 xs.length c2)) (ht : totL totT xs ≤ 1048576) :
    Calls Tryz.prog 32 #[.slice a1 xs.length c1, .slice a2 xs.length c2] w fun e w' => e = .returned (.bool true) ∧ Below w.heap.size w w' := by
  have H1 := hid h1
  have H2 := hid h2
  clear h1 h2
  have hlen : xs.length ≤ 1048576 := by unfold totL at ht; omega
  go_enter Tryz.func32, Tryz.ntmps32
  go_wp2
  go_loopw [5] (fun i wr => ∃ k : Nat, k ≤ xs.length ∧ i = .int .i64 k ∧ Below w.heap.size w wr) (fun i _ => xs.length - (intOf i).toNat)
  case atStart => exact ⟨0, Nat.zero_le _, rfl, Below.refl _ _⟩
  case round =>
    obtain ⟨k, hk, rfl, hbe⟩ := hrel
    have HB := hid hbe
    clear hbe
    by_cases hlt : k < xs.length
    · obtain ⟨b1, o1, es1, rfl, hes1, hcs1⟩ := (H1.out.later HB.out).atN hlt
      obtain ⟨b2, o2, es2, rfl, hes2, hcs2⟩ := (H2.out.later HB.out).atN hlt
      obtain ⟨x1, y1, rfl⟩ := cTable_shp hes1
      obtain ⟨x2, y2, rfl⟩ := cTable_shp hes2
      have d0 : wr.cell? ⟨b1, o1 + k * 2, none⟩ = some (.int .i64 xs[k].rows) := by have h := hcs1 0 (by decide); rw [show cTable.n = 2 from rfl] at h; simpa [Nat.add_assoc] using h
      have d1 : wr.cell? ⟨b1, o1 + k * 2 + 1, none⟩ = some (.slice x1 xs[k].cells.length y1) := by have h := hcs1 1 (by decide); rw [show cTable.n = 2 from rfl] at h; simpa [Nat.add_assoc] using h
      have g0 : wr.cell? ⟨b2, o2 + k * 2, none⟩ = some (.int .i64 xs[k].rows) := by have h := hcs2 0 (by decide); rw [show cTable.n = 2 from rfl] at h; simpa [Nat.add_assoc] using h
      have g1 : wr.cell? ⟨b2, o2 + k * 2 + 1, none⟩ = some (.slice x2 xs[k].cells.length y2) := by have h := hcs2 1 (by decide); rw [show cTable.n = 2 from rfl] at h; simpa [Nat.add_assoc] using h
      have HQ : Hid (Calls Tryz.prog 79 #[.agg #[.int .i64 xs[k].rows, .slice x1 xs[k].cells.length y1], .agg #[.int .i64 xs[k].rows, .slice x2 xs[k].cells.length y2]] wr.drew fun e w' => e = .returned (.bool true) ∧ Hid (Below w.heap.size w w') ∧ w'.cell? ⟨b1, o1 + k * 2, none⟩ = some (.int .i64 xs[k].rows) ∧ w'.cell? ⟨b1, o1 + k * 2 + 1, none⟩ = some (.slice x1 xs[k].cells.length y1) ∧ w'.cell? ⟨b2, o2 + k * 2, none⟩ = some (.int .i64 xs[k].rows) ∧ w'.cell? ⟨b2, o2 + k * 2 + 1, none⟩ = some (.slice x2 xs[k].cells.length y2)) := hid (by
        have hq := eqTable_law wr.drew xs[k] _ _ (cTable.later hes1 (Below.refl _ _).drew) (cTable.later hes2 (Below.refl _ _).drew) (by have := tot_at totT xs k hlt; unfold totL at ht; omega)
        simp only [val] at hq
        refine hq.mono ?_
        rintro e w' ⟨rfl, b⟩
        have kp : ∀ p v, wr.cell? p = some v → w'.cell? p = some v := fun p v h => (b.cell (World.block_lt_of_cell? _ _ h)).trans h
        exact ⟨rfl, hid (HB.out.drew.trans (b.mono HB.out.size)), kp _ _ d0, kp _ _ d1, kp _ _ g0, kp _ _ g1⟩)
      have hki : (k : Int) < (xs.length : Int) := by omega
      clear hes1 hes2 hcs1 hcs2
      go_wp2
      go_region_held (fun w' => w'.cell? ⟨b1, o1 + k * 2, none⟩ = some (.int .i64 xs[k].rows) ∧ w'.cell? ⟨b1, o1 + k * 2 + 1, none⟩ = some (.slice x1 xs[k].cells.length y1) ∧ w'.cell? ⟨b2, o2 + k * 2, none⟩ = some (.int .i64 xs[k].rows) ∧ w'.cell? ⟨b2, o2 + k * 2 + 1, none⟩ = some (.slice x2 xs[k].cells.length y2)) (go_keep) (first | (go_at_call 79; refine HQ.out.mono ?_; rintro e w' ⟨rfl, hw', hd0, hd1, hg0, hg1⟩))
      go_wp2
      go_roundw
      case rel => exact ⟨k + 1, by omega, by go_num, hw'.out⟩
      case measure => simp [intOf]; omega
    · obtain rfl : k = xs.length := by omega
      go_wp2
      go_ret
      exact ⟨rfl, HB.out⟩
end Go.Proofs.YtfaehioeepolhaaGreat
