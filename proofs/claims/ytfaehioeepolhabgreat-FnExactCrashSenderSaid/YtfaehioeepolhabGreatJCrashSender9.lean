import Derived.Test.YtfaehioeepolhabGreatJCrashSender8
import Derived.Deep.RegionHeld
import Derived.Test.YtfaehioeepolhabGreatJCrashSender6
import Derived.Test.YtfaehioeepolhabGreatJCrashSender4
namespace Go.Proofs.YtfaehioeepolhabGreat
open Go.RowKit
theorem infoImSent : (Tryz.prog.info? 141).map (fun i => (i.zero, i.size, i.bytes)) = some (some (.agg #[.int .i64 0, .int .i64 0, .int .i64 0, .int .i64 0, .bool false, .slice none 0 0, .int .i64 0]), 7, 72) := by kernel_rfl
set_option maxRecDepth 100000 in
set_option maxHeartbeats 4000000 in
theorem toSentS_any (a : Option Addr) (cap : Nat) (xs : List PW) (w : World) (hr : RdSl cSnt w xs (.slice a xs.length cap)) (ht : totL wN xs ≤ 1048576) :
  Calls Tryz.prog 71 #[.slice a xs.length cap] w fun e w' => ∃ v bs, e = .returned v ∧ OwnSl cSnt 141 w' xs v bs ∧ (∀ b ∈ bs, w.heap.size ≤ b) ∧ bs.Nodup ∧ Below w.heap.size w w' := by
 obtain ⟨i0, hi, hz0, hz1, hz2⟩ := info_parts infoImSent
 have HR := hid hr
 clear hr
 have hlen : xs.length ≤ 1048576 := by unfold totL at ht; omega
 go_enter Tryz.func71, Tryz.ntmps71
 go_wp2_with (first | (at_make; refine wpList_make_full _ rfl (.tmp 6) (.tmp 6) 39 rfl w.heap.size 141 i0 (.agg #[.int .i64 0, .int .i64 0, .int .i64 0, .int .i64 0, .bool false, .slice none 0 0, .int .i64 0]) 7 Tryz.underlying39 hi hz0 hz1 .i64 .i64 _ _ xs.length rfl rfl rfl rfl (by rw [hz2]; omega) (by unfold maxLen; omega) (by simp) ?_))
 intro w1 ho hg1
 have HB1 : Hid (Below w.heap.size w w1) := hid ((Below.refl _ w).grown hg1 (Nat.le_refl _) (by intro k h; cases h))
 have HM : Hid (MadeN 7 cSnt 141 w w1 xs 0) := hid ⟨_, [], ho, rfl, fun i h h2 => by simp at h2, by simp, by simp⟩
 clear hg1 hi hz0 hz1 hz2 ho
 go_wp2
 go_loopw [4] (fun i wr => ∃ k : Nat, k ≤ xs.length ∧ i = .int .i64 k ∧ MadeN 7 cSnt 141 w wr xs k ∧ Below w.heap.size w wr) (fun i _ => xs.length - (intOf i).toNat)
 case atStart => exact ⟨0, Nat.zero_le _, rfl, HM.out, HB1.out⟩
 case round =>
  obtain ⟨k, hk, rfl, hm, hbe⟩ := hrel
  have HV := hid hm
  have HB := hid hbe
  clear hm hbe
  by_cases hlt : k < xs.length
  ·obtain ⟨b, off, es, rfl, hes, hcs⟩ := (HR.out.later HB.out).atN hlt
   obtain ⟨a0, c0, rfl⟩ := cSnt_shape hes
   have d0 : wr.cell? ⟨b, off + k * 7, none⟩ = some (.int .i64 xs[k].pkt.kind) := by have h := hcs 0 (by decide); rw [show cSnt.n = 7 from rfl] at h; simpa [Nat.add_assoc] using h
   have d1 : wr.cell? ⟨b, off + k * 7 + 1, none⟩ = some (.int .i64 xs[k].pkt.epoch) := by have h := hcs 1 (by decide); rw [show cSnt.n = 7 from rfl] at h; simpa [Nat.add_assoc] using h
   have d2 : wr.cell? ⟨b, off + k * 7 + 2, none⟩ = some (.int .i64 xs[k].pkt.seq) := by have h := hcs 2 (by decide); rw [show cSnt.n = 7 from rfl] at h; simpa [Nat.add_assoc] using h
   have d3 : wr.cell? ⟨b, off + k * 7 + 3, none⟩ = some (.int .i64 xs[k].pkt.count) := by have h := hcs 3 (by decide); rw [show cSnt.n = 7 from rfl] at h; simpa [Nat.add_assoc] using h
   have d4 : wr.cell? ⟨b, off + k * 7 + 4, none⟩ = some (.bool xs[k].pkt.last) := by have h := hcs 4 (by decide); rw [show cSnt.n = 7 from rfl] at h; simpa [Nat.add_assoc] using h
   have d5 : wr.cell? ⟨b, off + k * 7 + 5, none⟩ = some (.slice a0 xs[k].pkt.data.length c0) := by have h := hcs 5 (by decide); rw [show cSnt.n = 7 from rfl] at h; simpa [Nat.add_assoc] using h
   have d6 : wr.cell? ⟨b, off + k * 7 + 6, none⟩ = some (.int .i64 xs[k].at_) := by have h := hcs 6 (by decide); rw [show cSnt.n = 7 from rfl] at h; simpa [Nat.add_assoc] using h
   have HT := hid (toSent_law wr xs[k] _ hes (by have := tot_at wN xs k hlt; unfold totL at ht; omega))
   simp only [val] at HT
   have hki : (k : Int) < (xs.length : Int) := by omega
   clear hes hcs
   go_wp2_with fail
   refine HT.out.mono ?_
   rintro e w2 ⟨cs', bs, he, o2, hbs, hnd, b2⟩
   obtain ⟨ax, cx, rfl⟩ := cSnt_shape (cSnt.ownRd o2)
   subst he
   have HN : Hid (MadeN 7 cSnt 141 w (((((((w2.setCell ⟨w.heap.size, k * 7, none⟩ (.int .i64 xs[k].pkt.kind)).setCell ⟨w.heap.size, k * 7 + 1, none⟩ (.int .i64 xs[k].pkt.epoch)).setCell ⟨w.heap.size, k * 7 + 2, none⟩ (.int .i64 xs[k].pkt.seq)).setCell ⟨w.heap.size, k * 7 + 3, none⟩ (.int .i64 xs[k].pkt.count)).setCell ⟨w.heap.size, k * 7 + 4, none⟩ (.bool xs[k].pkt.last)).setCell ⟨w.heap.size, k * 7 + 5, none⟩ (.slice ax xs[k].pkt.data.length cx)).setCell ⟨w.heap.size, k * 7 + 6, none⟩ (.int .i64 xs[k].at_)) xs (k + 1)) := hid (by
    have hst := HV.out.step rfl hlt b2 o2 hbs hnd
    rw [wset7] at hst
    exact hst)
   have HBB : Hid (Below w.heap.size w (((((((w2.setCell ⟨w.heap.size, k * 7, none⟩ (.int .i64 xs[k].pkt.kind)).setCell ⟨w.heap.size, k * 7 + 1, none⟩ (.int .i64 xs[k].pkt.epoch)).setCell ⟨w.heap.size, k * 7 + 2, none⟩ (.int .i64 xs[k].pkt.seq)).setCell ⟨w.heap.size, k * 7 + 3, none⟩ (.int .i64 xs[k].pkt.count)).setCell ⟨w.heap.size, k * 7 + 4, none⟩ (.bool xs[k].pkt.last)).setCell ⟨w.heap.size, k * 7 + 5, none⟩ (.slice ax xs[k].pkt.data.length cx)).setCell ⟨w.heap.size, k * 7 + 6, none⟩ (.int .i64 xs[k].at_))) := hid (by
    have hst := wsetAll_below [.int .i64 xs[k].pkt.kind, .int .i64 xs[k].pkt.epoch, .int .i64 xs[k].pkt.seq, .int .i64 xs[k].pkt.count, .bool xs[k].pkt.last, .slice ax xs[k].pkt.data.length cx, .int .i64 xs[k].at_] w2 w.heap.size (k * 7) (HB.out.trans (b2.mono HB.out.size)) (Nat.le_refl _)
    rw [wset7] at hst
    exact hst)
   obtain ⟨vs, hvl, how2⟩ := HV.out.row b2
   have f0 := how2.frozenAt (k * 7)
   have q0 := how2.cellAt (k * 7) (by omega)
   have f1 := how2.frozenAt (k * 7 + 1)
   have q1 := how2.cellAt (k * 7 + 1) (by omega)
   have f2 := how2.frozenAt (k * 7 + 2)
   have q2 := how2.cellAt (k * 7 + 2) (by omega)
   have f3 := how2.frozenAt (k * 7 + 3)
   have q3 := how2.cellAt (k * 7 + 3) (by omega)
   have f4 := how2.frozenAt (k * 7 + 4)
   have q4 := how2.cellAt (k * 7 + 4) (by omega)
   have f5 := how2.frozenAt (k * 7 + 5)
   have q5 := how2.cellAt (k * 7 + 5) (by omega)
   have f6 := how2.frozenAt (k * 7 + 6)
   have q6 := how2.cellAt (k * 7 + 6) (by omega)
   rw [List.getElem?_eq_getElem (by omega)] at q0 q1 q2 q3 q4 q5 q6
   generalize vs[k * 7] = y0 at q0
   generalize vs[k * 7 + 1] = y1 at q1
   generalize vs[k * 7 + 2] = y2 at q2
   generalize vs[k * 7 + 3] = y3 at q3
   generalize vs[k * 7 + 4] = y4 at q4
   generalize vs[k * 7 + 5] = y5 at q5
   generalize vs[k * 7 + 6] = y6 at q6
   clear o2 hbs hnd b2 how2 hvl HT
   go_wp2
   go_roundw
   case rel => exact ⟨k + 1, by omega, by go_num, HN.out, HBB.out⟩
   case measure => simp [intOf]; omega
  ·obtain rfl : k = xs.length := by omega
   obtain ⟨bs, h1, h2, h3⟩ := MadeN.done (n := 7) (c := cSnt) rfl HV.out
   have HF := hid h1
   clear h1
   go_wp2
   go_ret
   exact ⟨_, bs, rfl, HF.out, h2, h3, HB.out⟩
set_option maxHeartbeats 2000000 in
theorem szSentS_any (a : Option Addr) (cap : Nat) (xs : List PW) (l : Int) (w : World) (hr : RdSl cSnt w xs (.slice a xs.length cap)) (h0 : 0 ≤ l) (h1 : l ≤ 1048576) :
  Calls Tryz.prog 54 #[.slice a xs.length cap, .int .i64 l] w fun e w' => e = .returned (.int .i64 (rest l (totL wN xs))) ∧ Below w.heap.size w w' := by
 have hml : xs.length ≤ maxLen := by
  obtain ⟨a', cap', e', g1, g2, _⟩ := hr
  omega
 unfold maxLen at hml
 have HR := hid hr
 clear hr
 by_cases hbig : l - (xs.length : Int) < 0
 ·have HM : Hid (rest l (totL wN xs) = -1) := hid (by unfold rest totL; rw [if_pos (by omega)])
  go_enter Tryz.func54, Tryz.ntmps54
  go_wp2
  go_ret
  exact ⟨by rw [HM.out]; rfl, Below.refl _ _⟩
 ·go_enter Tryz.func54, Tryz.ntmps54
  go_wp2
  go_loopw [1, 5] (fun q i wr => ∃ k : Nat, k ≤ xs.length ∧ i = .int .i64 k ∧ q = .int .i64 (rest l (xs.length + ((xs.take k).map wN).sum)) ∧ 0 ≤ rest l (xs.length + ((xs.take k).map wN).sum) ∧ Below w.heap.size w wr) (fun _ i _ => xs.length - (intOf i).toNat)
  case atStart => exact ⟨0, Nat.zero_le _, rfl, by simp [rest]; omega, by simp [rest]; omega, Below.refl _ _⟩
  case round =>
   obtain ⟨k, hk, rfl, rfl, hle, hbe⟩ := hrel
   have HB := hid hbe
   clear hbe
   by_cases hlt : k < xs.length
   ·obtain ⟨b, off, es, rfl, hes, hcs⟩ := (HR.out.later HB.out).atN hlt
    obtain ⟨a0, c0, rfl⟩ := cSnt_shape hes
    have d0 : wr.cell? ⟨b, off + k * 7, none⟩ = some (.int .i64 xs[k].pkt.kind) := by have h := hcs 0 (by decide); rw [show cSnt.n = 7 from rfl] at h; simpa [Nat.add_assoc] using h
    have d1 : wr.cell? ⟨b, off + k * 7 + 1, none⟩ = some (.int .i64 xs[k].pkt.epoch) := by have h := hcs 1 (by decide); rw [show cSnt.n = 7 from rfl] at h; simpa [Nat.add_assoc] using h
    have d2 : wr.cell? ⟨b, off + k * 7 + 2, none⟩ = some (.int .i64 xs[k].pkt.seq) := by have h := hcs 2 (by decide); rw [show cSnt.n = 7 from rfl] at h; simpa [Nat.add_assoc] using h
    have d3 : wr.cell? ⟨b, off + k * 7 + 3, none⟩ = some (.int .i64 xs[k].pkt.count) := by have h := hcs 3 (by decide); rw [show cSnt.n = 7 from rfl] at h; simpa [Nat.add_assoc] using h
    have d4 : wr.cell? ⟨b, off + k * 7 + 4, none⟩ = some (.bool xs[k].pkt.last) := by have h := hcs 4 (by decide); rw [show cSnt.n = 7 from rfl] at h; simpa [Nat.add_assoc] using h
    have d5 : wr.cell? ⟨b, off + k * 7 + 5, none⟩ = some (.slice a0 xs[k].pkt.data.length c0) := by have h := hcs 5 (by decide); rw [show cSnt.n = 7 from rfl] at h; simpa [Nat.add_assoc] using h
    have d6 : wr.cell? ⟨b, off + k * 7 + 6, none⟩ = some (.int .i64 xs[k].at_) := by have h := hcs 6 (by decide); rw [show cSnt.n = 7 from rfl] at h; simpa [Nat.add_assoc] using h
    have hki : (k : Int) < (xs.length : Int) := by omega
    have HS := hid (sum_snoc wN xs k hlt)
    have HT := hid (rest_two (m := wN xs[k]) hle)
    have HNG : Hid (rest l (xs.length + ((xs.take (k + 1)).map wN).sum) < 0 → rest l (totL wN xs) = -1) := hid (fun h => by
     have h2 := sum_take wN xs (k + 1)
     have h3 := rest_neg (m := totL wN xs - (xs.length + ((xs.take (k + 1)).map wN).sum)) h
     unfold totL at *
     rw [show xs.length + ((xs.take (k + 1)).map wN).sum + (xs.length + (xs.map wN).sum - (xs.length + ((xs.take (k + 1)).map wN).sum)) = xs.length + (xs.map wN).sum from by omega] at h3
     exact h3)
    have hup := rest_le (n := xs.length + ((xs.take k).map wN).sum) h1
    generalize hq : rest l (xs.length + ((xs.take k).map wN).sum) = q at *
    have HQ := hid (szSent_law wr xs[k] _ q hes hle hup)
    simp only [val] at HQ
    clear hes hcs
    go_wp2_with fail
    refine HQ.out.mono ?_
    rintro e w2 ⟨rfl, b2⟩
    have HB2 := hid (HB.out.trans (b2.mono HB.out.size))
    clear b2
    have HQ2 : Hid (rest q (wN xs[k]) = rest l (xs.length + ((xs.take (k + 1)).map wN).sum)) := hid (by rw [HT.out, HS.out, Nat.add_assoc])
    generalize rest q (wN xs[k]) = r at *
    by_cases hneg : r < 0
    ·have hz := HNG.out (by rw [← HQ2.out]; exact hneg)
     have HZ := hid hz
     clear hz
     go_wp2
     go_ret
     exact ⟨by rw [HZ.out]; rfl, HB2.out⟩
    ·go_wp2
     go_roundw
     case rel => exact ⟨k + 1, by omega, by go_num, by rw [HQ2.out], by rw [← HQ2.out]; omega, HB2.out⟩
     case measure => simp [intOf]; omega
   ·obtain rfl : k = xs.length := by omega
    have HF : Hid (rest l (xs.length + ((xs.take xs.length).map wN).sum) = rest l (totL wN xs)) := hid (by rw [List.take_length]; rfl)
    rw [HF.out]
    go_wp2
    go_ret
    exact ⟨rfl, HB.out⟩
set_option maxRecDepth 100000 in
set_option maxHeartbeats 4000000 in
theorem eqSentS_any (a1 a2 : Option Addr) (c1 c2 : Nat) (xs : List PW) (w : World) (h1 : RdSl cSnt w xs (.slice a1 xs.length c1)) (h2 : RdSl cSnt w xs (.slice a2 xs.length c2)) (ht : totL wN xs ≤ 1048576) :
  Calls Tryz.prog 91 #[.slice a1 xs.length c1, .slice a2 xs.length c2] w fun e w' => e = .returned (.bool true) ∧ Below w.heap.size w w' := by
 have H1 := hid h1
 have H2 := hid h2
 clear h1 h2
 have hlen : xs.length ≤ 1048576 := by unfold totL at ht; omega
 go_enter Tryz.func91, Tryz.ntmps91
 go_wp2
 go_loopw [5] (fun i wr => ∃ k : Nat, k ≤ xs.length ∧ i = .int .i64 k ∧ Below w.heap.size w wr) (fun i _ => xs.length - (intOf i).toNat)
 case atStart => exact ⟨0, Nat.zero_le _, rfl, Below.refl _ _⟩
 case round =>
  obtain ⟨k, hk, rfl, hbe⟩ := hrel
  have HB := hid hbe
  clear hbe
  by_cases hlt : k < xs.length
  ·obtain ⟨b1, o1, es1, rfl, hes1, hcs1⟩ := (H1.out.later HB.out).atN hlt
   obtain ⟨b2, o2, es2, rfl, hes2, hcs2⟩ := (H2.out.later HB.out).atN hlt
   obtain ⟨x1, y1, rfl⟩ := cSnt_shape hes1
   obtain ⟨x2, y2, rfl⟩ := cSnt_shape hes2
   have d0 : wr.cell? ⟨b1, o1 + k * 7, none⟩ = some (.int .i64 xs[k].pkt.kind) := by have h := hcs1 0 (by decide); rw [show cSnt.n = 7 from rfl] at h; simpa [Nat.add_assoc] using h
   have d1 : wr.cell? ⟨b1, o1 + k * 7 + 1, none⟩ = some (.int .i64 xs[k].pkt.epoch) := by have h := hcs1 1 (by decide); rw [show cSnt.n = 7 from rfl] at h; simpa [Nat.add_assoc] using h
   have d2 : wr.cell? ⟨b1, o1 + k * 7 + 2, none⟩ = some (.int .i64 xs[k].pkt.seq) := by have h := hcs1 2 (by decide); rw [show cSnt.n = 7 from rfl] at h; simpa [Nat.add_assoc] using h
   have d3 : wr.cell? ⟨b1, o1 + k * 7 + 3, none⟩ = some (.int .i64 xs[k].pkt.count) := by have h := hcs1 3 (by decide); rw [show cSnt.n = 7 from rfl] at h; simpa [Nat.add_assoc] using h
   have d4 : wr.cell? ⟨b1, o1 + k * 7 + 4, none⟩ = some (.bool xs[k].pkt.last) := by have h := hcs1 4 (by decide); rw [show cSnt.n = 7 from rfl] at h; simpa [Nat.add_assoc] using h
   have d5 : wr.cell? ⟨b1, o1 + k * 7 + 5, none⟩ = some (.slice x1 xs[k].pkt.data.length y1) := by have h := hcs1 5 (by decide); rw [show cSnt.n = 7 from rfl] at h; simpa [Nat.add_assoc] using h
   have d6 : wr.cell? ⟨b1, o1 + k * 7 + 6, none⟩ = some (.int .i64 xs[k].at_) := by have h := hcs1 6 (by decide); rw [show cSnt.n = 7 from rfl] at h; simpa [Nat.add_assoc] using h
   have g0 : wr.cell? ⟨b2, o2 + k * 7, none⟩ = some (.int .i64 xs[k].pkt.kind) := by have h := hcs2 0 (by decide); rw [show cSnt.n = 7 from rfl] at h; simpa [Nat.add_assoc] using h
   have g1 : wr.cell? ⟨b2, o2 + k * 7 + 1, none⟩ = some (.int .i64 xs[k].pkt.epoch) := by have h := hcs2 1 (by decide); rw [show cSnt.n = 7 from rfl] at h; simpa [Nat.add_assoc] using h
   have g2 : wr.cell? ⟨b2, o2 + k * 7 + 2, none⟩ = some (.int .i64 xs[k].pkt.seq) := by have h := hcs2 2 (by decide); rw [show cSnt.n = 7 from rfl] at h; simpa [Nat.add_assoc] using h
   have g3 : wr.cell? ⟨b2, o2 + k * 7 + 3, none⟩ = some (.int .i64 xs[k].pkt.count) := by have h := hcs2 3 (by decide); rw [show cSnt.n = 7 from rfl] at h; simpa [Nat.add_assoc] using h
   have g4 : wr.cell? ⟨b2, o2 + k * 7 + 4, none⟩ = some (.bool xs[k].pkt.last) := by have h := hcs2 4 (by decide); rw [show cSnt.n = 7 from rfl] at h; simpa [Nat.add_assoc] using h
   have g5 : wr.cell? ⟨b2, o2 + k * 7 + 5, none⟩ = some (.slice x2 xs[k].pkt.data.length y2) := by have h := hcs2 5 (by decide); rw [show cSnt.n = 7 from rfl] at h; simpa [Nat.add_assoc] using h
   have g6 : wr.cell? ⟨b2, o2 + k * 7 + 6, none⟩ = some (.int .i64 xs[k].at_) := by have h := hcs2 6 (by decide); rw [show cSnt.n = 7 from rfl] at h; simpa [Nat.add_assoc] using h
   have HQ : Hid (Calls Tryz.prog 130 #[.agg #[.int .i64 xs[k].pkt.kind, .int .i64 xs[k].pkt.epoch, .int .i64 xs[k].pkt.seq, .int .i64 xs[k].pkt.count, .bool xs[k].pkt.last, .slice x1 xs[k].pkt.data.length y1, .int .i64 xs[k].at_], .agg #[.int .i64 xs[k].pkt.kind, .int .i64 xs[k].pkt.epoch, .int .i64 xs[k].pkt.seq, .int .i64 xs[k].pkt.count, .bool xs[k].pkt.last, .slice x2 xs[k].pkt.data.length y2, .int .i64 xs[k].at_]] wr.drew fun e w' => e = .returned (.bool true) ∧ Hid (Below w.heap.size w w') ∧ w'.cell? ⟨b1, o1 + k * 7, none⟩ = some (.int .i64 xs[k].pkt.kind) ∧ w'.cell? ⟨b1, o1 + k * 7 + 1, none⟩ = some (.int .i64 xs[k].pkt.epoch) ∧ w'.cell? ⟨b1, o1 + k * 7 + 2, none⟩ = some (.int .i64 xs[k].pkt.seq) ∧ w'.cell? ⟨b1, o1 + k * 7 + 3, none⟩ = some (.int .i64 xs[k].pkt.count) ∧ w'.cell? ⟨b1, o1 + k * 7 + 4, none⟩ = some (.bool xs[k].pkt.last) ∧ w'.cell? ⟨b1, o1 + k * 7 + 5, none⟩ = some (.slice x1 xs[k].pkt.data.length y1) ∧ w'.cell? ⟨b1, o1 + k * 7 + 6, none⟩ = some (.int .i64 xs[k].at_) ∧ w'.cell? ⟨b2, o2 + k * 7, none⟩ = some (.int .i64 xs[k].pkt.kind) ∧ w'.cell? ⟨b2, o2 + k * 7 + 1, none⟩ = some (.int .i64 xs[k].pkt.epoch) ∧ w'.cell? ⟨b2, o2 + k * 7 + 2, none⟩ = some (.int .i64 xs[k].pkt.seq) ∧ w'.cell? ⟨b2, o2 + k * 7 + 3, none⟩ = some (.int .i64 xs[k].pkt.count) ∧ w'.cell? ⟨b2, o2 + k * 7 + 4, none⟩ = some (.bool xs[k].pkt.last) ∧ w'.cell? ⟨b2, o2 + k * 7 + 5, none⟩ = some (.slice x2 xs[k].pkt.data.length y2) ∧ w'.cell? ⟨b2, o2 + k * 7 + 6, none⟩ = some (.int .i64 xs[k].at_)) := hid (by
    have hq := eqSent_law wr.drew xs[k] _ _ (cSnt.later hes1 (Below.refl _ _).drew) (cSnt.later hes2 (Below.refl _ _).drew) (by have := tot_at wN xs k hlt; unfold totL at ht; omega)
    simp only [val] at hq
    refine hq.mono ?_
    rintro e w' ⟨rfl, b⟩
    have kp : ∀ p v, wr.cell? p = some v → w'.cell? p = some v := fun p v h => (b.cell (World.block_lt_of_cell? _ _ h)).trans h
    exact ⟨rfl, hid (HB.out.drew.trans (b.mono HB.out.size)), kp _ _ d0, kp _ _ d1, kp _ _ d2, kp _ _ d3, kp _ _ d4, kp _ _ d5, kp _ _ d6, kp _ _ g0, kp _ _ g1, kp _ _ g2, kp _ _ g3, kp _ _ g4, kp _ _ g5, kp _ _ g6⟩)
   have hki : (k : Int) < (xs.length : Int) := by omega
   clear hes1 hes2 hcs1 hcs2
   go_wp2
   go_region_held (fun w' => w'.cell? ⟨b1, o1 + k * 7, none⟩ = some (.int .i64 xs[k].pkt.kind) ∧ w'.cell? ⟨b1, o1 + k * 7 + 1, none⟩ = some (.int .i64 xs[k].pkt.epoch) ∧ w'.cell? ⟨b1, o1 + k * 7 + 2, none⟩ = some (.int .i64 xs[k].pkt.seq) ∧ w'.cell? ⟨b1, o1 + k * 7 + 3, none⟩ = some (.int .i64 xs[k].pkt.count) ∧ w'.cell? ⟨b1, o1 + k * 7 + 4, none⟩ = some (.bool xs[k].pkt.last) ∧ w'.cell? ⟨b1, o1 + k * 7 + 5, none⟩ = some (.slice x1 xs[k].pkt.data.length y1) ∧ w'.cell? ⟨b1, o1 + k * 7 + 6, none⟩ = some (.int .i64 xs[k].at_) ∧ w'.cell? ⟨b2, o2 + k * 7, none⟩ = some (.int .i64 xs[k].pkt.kind) ∧ w'.cell? ⟨b2, o2 + k * 7 + 1, none⟩ = some (.int .i64 xs[k].pkt.epoch) ∧ w'.cell? ⟨b2, o2 + k * 7 + 2, none⟩ = some (.int .i64 xs[k].pkt.seq) ∧ w'.cell? ⟨b2, o2 + k * 7 + 3, none⟩ = some (.int .i64 xs[k].pkt.count) ∧ w'.cell? ⟨b2, o2 + k * 7 + 4, none⟩ = some (.bool xs[k].pkt.last) ∧ w'.cell? ⟨b2, o2 + k * 7 + 5, none⟩ = some (.slice x2 xs[k].pkt.data.length y2) ∧ w'.cell? ⟨b2, o2 + k * 7 + 6, none⟩ = some (.int .i64 xs[k].at_)) (go_keep) (first | (go_at_call 130; refine HQ.out.mono ?_; rintro e w' ⟨rfl, hw', hd0, hd1, hd2, hd3, hd4, hd5, hd6, hg0, hg1, hg2, hg3, hg4, hg5, hg6⟩))
   go_wp2
   go_roundw
   case rel => exact ⟨k + 1, by omega, by go_num, hw'.out⟩
   case measure => simp [intOf]; omega
  ·obtain rfl : k = xs.length := by omega
   go_wp2
   go_ret
   exact ⟨rfl, HB.out⟩
structure PO where
 epoch : Int
 next : Int
 now : Int
 wait : List PW
set_option maxHeartbeats 1000000 in
theorem szLinkOut_any (m : PO) (a : Option Addr) (cap : Nat) (l : Int) (w : World) (hr : RdSl cSnt w m.wait (.slice a m.wait.length cap)) (h0 : 0 ≤ l) (h1 : l ≤ 1048576) :
  Calls Tryz.prog 20 #[.agg #[.int .i64 m.epoch, .int .i64 m.next, .int .i64 m.now, .slice a m.wait.length cap], .int .i64 l] w fun e w' => e = .returned (.int .i64 (rest l (totL wN m.wait))) ∧ Below w.heap.size w w' := by
 have HR := hid hr
 clear hr
 go_enter Tryz.func20, Tryz.ntmps20
 go_wp2_with fail
 refine (szSentS_any a cap m.wait l _ (HR.out.later (bN _ _)) h0 h1).mono ?_
 rintro e w2 ⟨rfl, b2⟩
 have HB2 : Hid (Below w.heap.size w w2) := hid (bC (bN _ _) b2)
 clear b2
 by_cases hneg : rest l (totL wN m.wait) < 0
 ·have HN : Hid (rest l (totL wN m.wait) = -1) := hid (rest_neg1 hneg)
  generalize hq : rest l (totL wN m.wait) = r at *
  have HE := hid hq
  clear hq
  go_wp2
  go_ret
  exact ⟨by rw [HE.out, HN.out]; rfl, HB2.out⟩
 ·generalize hq : rest l (totL wN m.wait) = r at *
  have HE := hid hq
  clear hq
  go_wp2
  go_ret
  exact ⟨by rw [HE.out]; rfl, HB2.out⟩
set_option maxHeartbeats 1000000 in
theorem eqLinkOut_any (m : PO) (a b : Option Addr) (c d : Nat) (w : World) (h1 : RdSl cSnt w m.wait (.slice a m.wait.length c)) (h2 : RdSl cSnt w m.wait (.slice b m.wait.length d)) (ht : totL wN m.wait ≤ 1048576) :
  Calls Tryz.prog 39 #[.agg #[.int .i64 m.epoch, .int .i64 m.next, .int .i64 m.now, .slice a m.wait.length c], .agg #[.int .i64 m.epoch, .int .i64 m.next, .int .i64 m.now, .slice b m.wait.length d]] w fun e w' => e = .returned (.bool true) ∧ Below w.heap.size w w' := by
 have H1 := hid h1
 have H2 := hid h2
 clear h1 h2
 have x1 : (m.epoch != m.epoch) = false := by simp
 have x2 : (m.next != m.next) = false := by simp
 have x3 : (m.now != m.now) = false := by simp
 go_enter Tryz.func39, Tryz.ntmps39
 go_wp2_with fail
 refine (eqSentS_any a b c d m.wait _ (H1.out.later (below_new2 _ _ _)) (H2.out.later (below_new2 _ _ _)) ht).mono ?_
 rintro e w2 ⟨rfl, b2⟩
 have HB : Hid (Below w.heap.size w w2) := hid ((below_new2 w _ _).trans (b2.mono (by simp; omega)))
 clear b2
 go_wp2
 go_ret
 exact ⟨rfl, HB.out⟩
set_option maxHeartbeats 2000000 in
theorem toLinkOut_any (m : PO) (a : Option Addr) (cap : Nat) (w : World) (hr : RdSl cSnt w m.wait (.slice a m.wait.length cap)) (ht : totL wN m.wait ≤ 1048576) :
  Calls Tryz.prog 29 #[.agg #[.int .i64 m.epoch, .int .i64 m.next, .int .i64 m.now, .slice a m.wait.length cap]] w fun e w' => ∃ a' c' bs, e = .returned (.agg #[.int .i64 m.epoch, .int .i64 m.next, .int .i64 m.now, .slice a' m.wait.length c']) ∧ OwnSl cSnt 141 w' m.wait (.slice a' m.wait.length c') bs ∧ (∀ b ∈ bs, w.heap.size ≤ b) ∧ bs.Nodup ∧ Below w.heap.size w w' := by
 have HR := hid hr
 clear hr
 go_enter Tryz.func29, Tryz.ntmps29
 go_wp2_with fail
 refine (toSentS_any a cap m.wait _ (HR.out.later (below_new3 _ _ _ _)) ht).mono ?_
 rintro e w2 ⟨v2, bs, rfl, o2, l2, n2, b2⟩
 obtain ⟨a2, c2, rfl, -⟩ := id o2.rd
 rw [size3] at b2 l2
 obtain ⟨k0, k1, k2⟩ := heap3 _ _ _ b2
 have c10 := cR w2 _ 0 _ _ _ k1
 have c11 := cR w2 _ 1 _ _ _ k1
 have c12 := cR w2 _ 2 _ _ _ k1
 have c13 := cR w2 _ 3 _ _ _ k1
 have f10 := fR w2 _ 0 _ _ k1
 have f11 := fR w2 _ 1 _ _ k1
 have f12 := fR w2 _ 2 _ _ k1
 have f13 := fR w2 _ 3 _ _ k1
 have c20 := cR w2 _ 0 _ _ _ k2
 have c21 := cR w2 _ 1 _ _ _ k2
 have c22 := cR w2 _ 2 _ _ _ k2
 have c23 := cR w2 _ 3 _ _ _ k2
 have f23 := fR w2 _ 3 _ _ k2
 simp at c10 c11 c12 c13 c20 c21 c22 c23
 have K1 := hid k1
 have HB : Hid (Below w.heap.size w w2) := hid ((below_new3 w _ _ _).trans (b2.mono (by omega)))
 have HO2 := hid o2
 have HL2 := hid l2
 have HN2 := hid n2
 clear k0 k1 k2 b2 o2 l2 n2
 go_wp2
 have h12 : w.heap.size + 1 ≠ w.heap.size + 1 + 1 := by omega
 refine bodyPost_ret (results_cell_row rfl _ _ (w.heap.size + 1) 41 #[.int .i64 m.epoch, .int .i64 m.next, .int .i64 m.now, .slice a2 m.wait.length c2] (0, 0) _ rfl (set4 ((Below.heap_setCell _ ⟨w.heap.size + 1 + 1, 3, none⟩ _ _ h12).trans K1.out)) Tryz.underlying41 rfl (by kernel_rfl)) rfl ?_
 refine ⟨a2, c2, bs, rfl, HO2.out.kept (fun b hb => ?_), fun b hb => by have := HL2.out b hb; omega, HN2.out, set4b (HB.out.setCell (p := ⟨w.heap.size + 1 + 1, 3, none⟩) (by simp only []; omega) _) (by omega)⟩
 have := HL2.out b hb
 exact (set4o (by omega)).trans (Below.heap_setCell _ ⟨w.heap.size + 1 + 1, 3, none⟩ _ _ (by simp only []; omega))
end Go.Proofs.YtfaehioeepolhabGreat
namespace Go.Proofs.YtfaehioeepolhabGreat
open Go.ChangeShapes Go.WideShapes Go.ChangeAt Go.RowKit
theorem opens_Sent {H : Type} (enc : TypeId × Value → H) (W : World) : Opens enc Tryz.prog W 135 cSnt :=
 opens_struct2 Tryz.underlying135 rfl rfl rfl (by kernel_rfl) (by kernel_rfl) (by kernel_rfl) (opens_Pkt enc W) (opens_int Tryz.underlying3) (fun x y => ⟨x, y⟩) (fun _ _ => rfl)
theorem opens_SentS {H : Type} (enc : TypeId × Value → H) (W : World) : Opens enc Tryz.prog W 24 (cSl cSnt 141) :=
 opens_slice Tryz.underlying24 (by kernel_rfl) (by decide) (opens_Sent enc W) _
def cOut : Cod PO := cMap (cPair cInt (cPair cInt (cPair cInt (cSl cSnt 141)))) fun s => (s.epoch, s.next, s.now, s.wait)
theorem opens_Out {H : Type} (enc : TypeId × Value → H) (W : World) : Opens enc Tryz.prog W 26 cOut :=
 opens_struct4 Tryz.underlying26 rfl rfl rfl rfl rfl (by kernel_rfl) (by kernel_rfl) (by kernel_rfl) (by kernel_rfl) (by kernel_rfl) (opens_int Tryz.underlying3) (opens_int Tryz.underlying3) (opens_int Tryz.underlying3) (opens_SentS enc W) (fun x y z u => ⟨x, y, z, u⟩) (fun _ _ _ _ => rfl)
end Go.Proofs.YtfaehioeepolhabGreat
