import Derived.Test.YtfaehioeepolhaaGreatJCrashReceiver0
import Derived.Test.YtfaehioeepolhaaGreatJCrashReceiver2
import Derived.Handy
namespace Go.Proofs.YtfaehioeepolhaaGreat
open Go.RowKit
theorem infoByte : (Tryz.prog.info? 5).map (fun i => (i.zero, i.size, i.bytes)) = some (some (.int .u8 0), 1, 1) := by kernel_rfl
set_option maxHeartbeats 400000 in
theorem toByteS_some (b off cap : Nat) (xs : List Nat) (w : World) (hc : ∀ i, (h : i < xs.length) → w.cell? ⟨b, off + i, none⟩ = some (.int .u8 ((xs[i] : Nat) : Int))) (hbB : xs ≠ [] → b < w.heap.size) (hn : xs.length ≤ 1099511627776) :
    Calls Tryz.prog 89 #[.slice (some ⟨b, off, none⟩) xs.length cap] w fun e w' => ∃ g, e = .returned (.slice (some ⟨g, 0, none⟩) xs.length xs.length) ∧ w'.ownsRow w.heap.size 5 1 (.slice (some ⟨g, 0, none⟩) xs.length xs.length) xs.length (byt xs) ∧ Below w.heap.size w w' := by
  obtain ⟨i0, hi, hz0, hz1, hz2⟩ := info_parts infoByte
  go_enter Tryz.func89, Tryz.ntmps89
  go_wp2_with (first | (at_make; refine wpList_make_full _ rfl (.tmp 6) (.tmp 6) 23 rfl w.heap.size 5 i0 (.int .u8 0) 1 Tryz.underlying23 hi hz0 hz1 .i64 .i64 _ _ xs.length rfl rfl rfl rfl (by rw [hz2]; omega) (by unfold maxLen; omega) (by simp) ?_))
  intro w1 ho hg1
  have hb1 : Below w.heap.size w w1 := (Below.refl _ w).grown hg1 (Nat.le_refl _) (by intro k h; cases h)
  clear hg1 hi hz0 hz1 hz2
  go_wp2
  go_loopw [4] (fun i wr => ∃ k : Nat, k ≤ xs.length ∧ i = .int .i64 k ∧ wr.ownsRow w.heap.size 5 1 (.slice (some ⟨w.heap.size, 0, none⟩) xs.length xs.length) xs.length ((byt xs).take k ++ (List.replicate xs.length (Value.int .u8 0)).drop k) ∧ Below w.heap.size w wr) (fun i _ => xs.length - (intOf i).toNat)
  case atStart => exact ⟨0, Nat.zero_le _, rfl, by simpa [made_list] using ho, hb1⟩
  case round =>
    obtain ⟨k, hk, rfl, how, hbe⟩ := hrel
    by_cases hlt : k < xs.length
    · have hcx : wr.cell? ⟨b, off + k, none⟩ = some (.int .u8 ((xs[k] : Nat) : Int)) := (hbe.cell (by exact hbB (by intro h; simp [h] at hlt))).trans (hc k hlt)
      have hfz := how.frozenAt k
      obtain ⟨o, hco⟩ := own_cell how hlt
      have hR := fill_round (byt_len xs) (by simp) (byt_at hlt) (Nat.le_refl _) how hbe
      clear how hbe ho hb1
      go_wp2
      go_roundw
      case rel => exact ⟨k + 1, by omega, by go_num, hR.1, hR.2⟩
      case measure => simp [intOf]; omega
    · obtain rfl : k = xs.length := by omega
      rw [fill_done (byt_len xs) (by simp)] at how
      go_wp2
      go_ret
      exact ⟨_, rfl, how, hbe⟩
set_option maxHeartbeats 400000 in
theorem toByteS_none (a : Option Addr) (cap : Nat) (w : World) :
    Calls Tryz.prog 89 #[.slice a 0 cap] w fun e w' => ∃ g, e = .returned (.slice (some ⟨g, 0, none⟩) 0 0) ∧ w'.ownsRow w.heap.size 5 1 (.slice (some ⟨g, 0, none⟩) 0 0) 0 [] ∧ Below w.heap.size w w' := by
  obtain ⟨i0, hi, hz0, hz1, hz2⟩ := info_parts infoByte
  go_enter Tryz.func89, Tryz.ntmps89
  go_wp2_with (first | (at_make; refine wpList_make_full _ rfl (.tmp 6) (.tmp 6) 23 rfl w.heap.size 5 i0 (.int .u8 0) 1 Tryz.underlying23 hi hz0 hz1 .i64 .i64 _ _ 0 rfl rfl rfl rfl (by omega) (by unfold maxLen; omega) (by simp) ?_))
  intro w1 ho hg1
  have hb1 : Below w.heap.size w w1 := (Below.refl _ w).grown hg1 (Nat.le_refl _) (by intro k h; cases h)
  clear hg1 hi hz0 hz1 hz2
  go_wp2
  refine wp_loop_rounds 1 ?_; rw [rounds_succ]
  go_wp2
  go_ret
  exact ⟨_, rfl, by simpa [made_list] using ho, hb1⟩
theorem toByteS_any (a : Option Addr) (cap : Nat) (xs : List Nat) (w : World) (hr : Rd w a (byt xs)) (hn : xs.length ≤ 1099511627776) :
    Calls Tryz.prog 89 #[.slice a xs.length cap] w fun e w' => ∃ g, e = .returned (.slice (some ⟨g, 0, none⟩) xs.length xs.length) ∧ w'.ownsRow w.heap.size 5 1 (.slice (some ⟨g, 0, none⟩) xs.length xs.length) xs.length (byt xs) ∧ Below w.heap.size w w' := by
  have hlt := hr.lt
  rcases hr with h0 | ⟨b, off, rfl, hc⟩
  · obtain rfl : xs = [] := by simpa [byt] using h0
    exact toByteS_none a cap w
  · exact toByteS_some b off cap xs w (rdByte hc) (fun h => hlt _ rfl (by simpa [byt] using h)) hn
end Go.Proofs.YtfaehioeepolhaaGreat
namespace Go.Proofs.YtfaehioeepolhaaGreat
open Go.RowKit
set_option maxHeartbeats 400000 in
theorem toCell_any (f : PC) (v0 : Value) (w : World) (hv : RdSl cByte w f.text v0) (hn : f.text.length ≤ 1048576) :
    Calls Tryz.prog 179 #[.agg #[.bool f.null, .int .i64 f.num, v0]] w fun e w' => ∃ v bs, e = .returned (.agg #[.bool f.null, .int .i64 f.num, v]) ∧ OwnSl cByte 5 w' f.text v bs ∧ (∀ b ∈ bs, w.heap.size ≤ b) ∧ bs.Nodup ∧ Below w.heap.size w w' := by
  obtain ⟨a, cap, rfl, hcap, hml, hnone, hrd, hby⟩ := hv.bytes
  have HRD := hid hrd
  clear hrd hv
  go_enter Tryz.func179, Tryz.ntmps179
  go_wp2_with fail
  refine (toByteS_any a cap f.text _ (HRD.out.later (below_new3 _ _ _ _)) (by omega)).mono ?_
  rintro e w2 ⟨g2, rfl, o2, b2⟩
  have hg := own_in o2 (g := g2) rfl
  rw [size3] at hg b2
  obtain ⟨k0, k1, k2⟩ := heap3 _ _ _ b2
  have c10 := cell_of_row w2 _ 0 _ _ _ k1
  have c11 := cell_of_row w2 _ 1 _ _ _ k1
  have c12 := cell_of_row w2 _ 2 _ _ _ k1
  have f10 := frozen_of_row w2 _ 0 _ _ k1
  have f11 := frozen_of_row w2 _ 1 _ _ k1
  have f12 := frozen_of_row w2 _ 2 _ _ k1
  have c20 := cell_of_row w2 _ 0 _ _ _ k2
  have c21 := cell_of_row w2 _ 1 _ _ _ k2
  have c22 := cell_of_row w2 _ 2 _ _ _ k2
  have f22 := frozen_of_row w2 _ 2 _ _ k2
  simp at c10 c11 c12 c20 c21 c22
  have K1 := hid k1
  clear k0 k1 k2
  go_wp2
  have hb : Below w.heap.size w w2 := (below_new3 w _ _ _).trans (b2.mono (by omega))
  have h12 : w.heap.size + 1 ≠ w.heap.size + 1 + 1 := by omega
  refine bodyPost_ret (results_cell_row rfl _ _ (w.heap.size + 1) 157 #[.bool f.null, .int .i64 f.num, .slice (some ⟨g2, 0, none⟩) f.text.length f.text.length] (0, 0) _ rfl (set3 ((Below.heap_setCell _ ⟨w.heap.size + 1 + 1, 2, none⟩ _ _ h12).trans K1.out)) Tryz.underlying157 rfl (by kernel_rfl)) rfl ?_
  refine ⟨_, [g2], rfl, ?_, by simp; omega, by simp, ?_⟩
  · refine OwnSl.kept (ownSl_bytes o2 hby) (fun b hb => ?_)
    simp at hb
    subst hb
    have hb2 : b ≠ w.heap.size + 1 + 1 := by omega
    exact (set3o (by omega)).trans (Below.heap_setCell _ ⟨w.heap.size + 1 + 1, 2, none⟩ _ _ hb2)
  · exact set3b (hb.setCell (p := ⟨w.heap.size + 1 + 1, 2, none⟩) (by simp only []; omega) _) (by omega)
theorem toCell_law : ToLaw Tryz.prog 179 cCell (fun f => f.text.length) := by
  intro w f cs h ht
  obtain ⟨v, rfl, hv, h1⟩ := cCell_rd h
  refine (toCell_any f v w hv ht).mono ?_
  rintro e w' ⟨v', bs, rfl, ho, hb, hn, hbe⟩
  exact ⟨_, bs, rfl, cCell_own ho h1, hb, hn, hbe⟩
end Go.Proofs.YtfaehioeepolhaaGreat
namespace Go.Proofs.YtfaehioeepolhaaGreat
open Go.RowKit
theorem infoImCell : (Tryz.prog.info? 157).map (fun i => (i.zero, i.size, i.bytes)) = some (some (.agg #[.bool false, .int .i64 0, .slice none 0 0]), 3, 40) := by kernel_rfl
set_option maxHeartbeats 1000000 in
theorem toCellS_any (a : Option Addr) (cap : Nat) (xs : List PC) (w : World) (hr : RdSl cCell w xs (.slice a xs.length cap)) (ht : totL (fun f : PC => f.text.length) xs ≤ 1048576) :
    Calls Tryz.prog 138 #[.slice a xs.length cap] w fun e w' => ∃ v bs, e = .returned v ∧ OwnSl cCell 157 w' xs v bs ∧ (∀ b ∈ bs, w.heap.size ≤ b) ∧ bs.Nodup ∧ Below w.heap.size w w' := by
  obtain ⟨i0, hi, hz0, hz1, hz2⟩ := info_parts infoImCell
  have HR := hid hr
  clear hr
  have hlen : xs.length ≤ 1048576 := by unfold totL at ht; omega
  go_enter Tryz.func138, Tryz.ntmps138
  go_wp2_with (first | (at_make; refine wpList_make_full _ rfl (.tmp 6) (.tmp 6) 109 rfl w.heap.size 157 i0 (.agg #[.bool false, .int .i64 0, .slice none 0 0]) 3 Tryz.underlying109 hi hz0 hz1 .i64 .i64 _ _ xs.length rfl rfl rfl rfl (by rw [hz2]; omega) (by unfold maxLen; omega) (by simp) ?_))
  intro w1 ho hg1
  have HB1 : Hid (Below w.heap.size w w1) := hid ((Below.refl _ w).grown hg1 (Nat.le_refl _) (by intro k h; cases h))
  have HM : Hid (Made3 cCell 157 w w1 xs 0) := hid ⟨_, [], ho, rfl, fun i h h2 => by simp at h2, by simp, by simp⟩
  clear hg1 hi hz0 hz1 hz2 ho
  go_wp2
  go_loopw [4] (fun i wr => ∃ k : Nat, k ≤ xs.length ∧ i = .int .i64 k ∧ Made3 cCell 157 w wr xs k ∧ Below w.heap.size w wr) (fun i _ => xs.length - (intOf i).toNat)
  case atStart => exact ⟨0, Nat.zero_le _, rfl, HM.out, HB1.out⟩
  case round =>
    obtain ⟨k, hk, rfl, hm, hbe⟩ := hrel
    have HV := hid hm
    have HB := hid hbe
    clear hm hbe
    by_cases hlt : k < xs.length
    · obtain ⟨b, off, v0, v1, v2, rfl, hes, d0, d1, d2⟩ := (HR.out.later HB.out).at3 rfl hlt
      have HE := hid hes
      have hki : (k : Int) < (xs.length : Int) := by omega
      clear hes
      go_wp2_with fail
      refine (toCell_law wr xs[k] _ HE.out (by have := tot_at (fun f : PC => f.text.length) xs k hlt; unfold totL at ht; simp only [] at this ⊢; omega)).mono ?_
      rintro e w2 ⟨cs', bs, rfl, o2, hbs, hnd, b2⟩
      obtain ⟨ax, cx, rfl⟩ := cCell_shape (cCell.ownRd o2)
      simp only [val]
      have HN : Hid (Made3 cCell 157 w (((w2.setCell ⟨w.heap.size, k * 3, none⟩ (.bool xs[k].null)).setCell ⟨w.heap.size, k * 3 + 1, none⟩ (.int .i64 xs[k].num)).setCell ⟨w.heap.size, k * 3 + 2, none⟩ (.slice ax xs[k].text.length cx)) xs (k + 1)) := hid (HV.out.step hlt b2 o2 hbs hnd)
      have HBB : Hid (Below w.heap.size w (((w2.setCell ⟨w.heap.size, k * 3, none⟩ (.bool xs[k].null)).setCell ⟨w.heap.size, k * 3 + 1, none⟩ (.int .i64 xs[k].num)).setCell ⟨w.heap.size, k * 3 + 2, none⟩ (.slice ax xs[k].text.length cx))) := hid ((((HB.out.trans (b2.mono HB.out.size)).setCell (p := ⟨w.heap.size, k * 3, none⟩) (Nat.le_refl _) _).setCell (p := ⟨w.heap.size, k * 3 + 1, none⟩) (Nat.le_refl _) _).setCell (p := ⟨w.heap.size, k * 3 + 2, none⟩) (Nat.le_refl _) _)
      obtain ⟨vs, hvl, how2⟩ := HV.out.row b2
      have f0 := how2.frozenAt (k * 3)
      have f1 := how2.frozenAt (k * 3 + 1)
      have f2 := how2.frozenAt (k * 3 + 2)
      have q0 := how2.cellAt (k * 3) (by omega)
      have q1 := how2.cellAt (k * 3 + 1) (by omega)
      have q2 := how2.cellAt (k * 3 + 2) (by omega)
      rw [List.getElem?_eq_getElem (by omega)] at q0 q1 q2
      generalize vs[k * 3] = y0 at q0
      generalize vs[k * 3 + 1] = y1 at q1
      generalize vs[k * 3 + 2] = y2 at q2
      clear o2 hbs hnd b2 how2 hvl
      go_wp2
      go_roundw
      case rel => exact ⟨k + 1, by omega, by go_num, HN.out, HBB.out⟩
      case measure => simp [intOf]; omega
    · obtain rfl : k = xs.length := by omega
      obtain ⟨bs, h1, h2, h3⟩ := HV.out.done rfl
      have HF := hid h1
      clear h1
      go_wp2
      go_ret
      exact ⟨_, bs, rfl, HF.out, h2, h3, HB.out⟩
end Go.Proofs.YtfaehioeepolhaaGreat
namespace Go.Proofs.YtfaehioeepolhaaGreat
open Go.RowKit
set_option maxHeartbeats 400000 in
theorem szCell_law : SzLaw Tryz.prog 178 cCell (fun f : PC => f.text.length) := by
  intro w x cs l hrd h0 h1
  obtain ⟨a, cap, rfl⟩ := cCell_shape hrd
  have hm : x.text.length ≤ maxLen := by
    obtain ⟨v, e, ⟨a', cap', rfl, h2, h3, _⟩, _⟩ := cCell_rd hrd
    omega
  simp only [val]
  by_cases hneg : rest l x.text.length < 0
  · have hm1 := rest_neg1 hneg
    go_enter Tryz.func178, Tryz.ntmps178
    go_wp2_with fail
    refine (szBytes_any a _ cap l _ hm h0 h1).mono ?_
    rintro e w2 ⟨rfl, rfl⟩
    have HM := hid hm1
    clear hm1
    generalize hr : rest l x.text.length = r at *
    go_wp2
    go_ret
    exact ⟨by show _ = Ending.returned (.int .i64 (rest l x.text.length)); rw [hr, HM.out]; rfl, below_new1 _ _⟩
  · go_enter Tryz.func178, Tryz.ntmps178
    go_wp2_with fail
    refine (szBytes_any a _ cap l _ hm h0 h1).mono ?_
    rintro e w2 ⟨rfl, rfl⟩
    generalize hr : rest l x.text.length = r at *
    go_wp2
    go_ret
    exact ⟨by show _ = Ending.returned (.int .i64 (rest l x.text.length)); rw [hr]; rfl, below_new1 _ _⟩
set_option maxHeartbeats 1000000 in
theorem szCellS_any (a : Option Addr) (cap : Nat) (xs : List PC) (l : Int) (w : World) (hr : RdSl cCell w xs (.slice a xs.length cap)) (h0 : 0 ≤ l) (h1 : l ≤ 1048576) :
    Calls Tryz.prog 134 #[.slice a xs.length cap, .int .i64 l] w fun e w' => e = .returned (.int .i64 (rest l (totL (fun f : PC => f.text.length) xs))) ∧ Below w.heap.size w w' := by
  have hml : xs.length ≤ maxLen := by
    obtain ⟨a', cap', e', g1, g2, _⟩ := hr
    omega
  unfold maxLen at hml
  have HR := hid hr
  clear hr
  by_cases hbig : l - (xs.length : Int) < 0
  · have HM : Hid (rest l (totL (fun f : PC => f.text.length) xs) = -1) := hid (by unfold rest totL; rw [if_pos (by omega)])
    go_enter Tryz.func134, Tryz.ntmps134
    go_wp2
    go_ret
    exact ⟨by rw [HM.out]; rfl, Below.refl _ _⟩
  · go_enter Tryz.func134, Tryz.ntmps134
    go_wp2
    go_loopw [1, 5] (fun q i wr => ∃ k : Nat, k ≤ xs.length ∧ i = .int .i64 k ∧ q = .int .i64 (rest l (xs.length + ((xs.take k).map (fun f : PC => f.text.length)).sum)) ∧ 0 ≤ rest l (xs.length + ((xs.take k).map (fun f : PC => f.text.length)).sum) ∧ Below w.heap.size w wr) (fun _ i _ => xs.length - (intOf i).toNat)
    case atStart => exact ⟨0, Nat.zero_le _, rfl, by simp [rest]; omega, by simp [rest]; omega, Below.refl _ _⟩
    case round =>
      obtain ⟨k, hk, rfl, rfl, hle, hbe⟩ := hrel
      have HB := hid hbe
      clear hbe
      by_cases hlt : k < xs.length
      · obtain ⟨b, off, v0, v1, v2, rfl, hes, d0, d1, d2⟩ := (HR.out.later HB.out).at3 rfl hlt
        have HE := hid hes
        have hki : (k : Int) < (xs.length : Int) := by omega
        have HS := hid (sum_snoc (fun f : PC => f.text.length) xs k hlt)
        have HT := hid (rest_two (m := (fun f : PC => f.text.length) xs[k]) hle)
        have HNG : Hid (rest l (xs.length + ((xs.take (k + 1)).map (fun f : PC => f.text.length)).sum) < 0 → rest l (totL (fun f : PC => f.text.length) xs) = -1) := hid (fun h => by
          have h2 := sum_take (fun f : PC => f.text.length) xs (k + 1)
          have h3 := rest_neg (m := totL (fun f : PC => f.text.length) xs - (xs.length + ((xs.take (k + 1)).map (fun f : PC => f.text.length)).sum)) h
          unfold totL at *
          rw [show xs.length + ((xs.take (k + 1)).map (fun f : PC => f.text.length)).sum + (xs.length + (xs.map (fun f : PC => f.text.length)).sum - (xs.length + ((xs.take (k + 1)).map (fun f : PC => f.text.length)).sum)) = xs.length + (xs.map (fun f : PC => f.text.length)).sum from by omega] at h3
          exact h3)
        have hup := rest_le (n := xs.length + ((xs.take k).map (fun f : PC => f.text.length)).sum) h1
        clear hes
        generalize hq : rest l (xs.length + ((xs.take k).map (fun f : PC => f.text.length)).sum) = q at *
        go_wp2_with fail
        refine (szCell_law wr xs[k] _ q HE.out hle hup).mono ?_
        rintro e w2 ⟨rfl, b2⟩
        have HB2 := hid (HB.out.trans (b2.mono HB.out.size))
        clear b2
        have HQ : Hid (rest q ((fun f : PC => f.text.length) xs[k]) = rest l (xs.length + ((xs.take (k + 1)).map (fun f : PC => f.text.length)).sum)) := hid (by rw [HT.out, HS.out, Nat.add_assoc])
        generalize rest q ((fun f : PC => f.text.length) xs[k]) = r at *
        by_cases hneg : r < 0
        · have hz := HNG.out (by rw [← HQ.out]; exact hneg)
          have HZ := hid hz
          clear hz
          go_wp2
          go_ret
          exact ⟨by rw [HZ.out]; rfl, HB2.out⟩
        · go_wp2
          go_roundw
          case rel => exact ⟨k + 1, by omega, by go_num, by rw [HQ.out], by rw [← HQ.out]; omega, HB2.out⟩
          case measure => simp [intOf]; omega
      · obtain rfl : k = xs.length := by omega
        have HF : Hid (rest l (xs.length + ((xs.take xs.length).map (fun f : PC => f.text.length)).sum) = rest l (totL (fun f : PC => f.text.length) xs)) := hid (by rw [List.take_length]; rfl)
        rw [HF.out]
        go_wp2
        go_ret
        exact ⟨rfl, HB.out⟩
end Go.Proofs.YtfaehioeepolhaaGreat
