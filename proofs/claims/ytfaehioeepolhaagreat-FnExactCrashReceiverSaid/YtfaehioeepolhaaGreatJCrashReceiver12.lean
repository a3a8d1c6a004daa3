import Derived.Test.YtfaehioeepolhaaGreatJCrashReceiver2
import Derived.Handy
import Derived.Test.YtfaehioeepolhaaGreatJCrashReceiver4
import Derived.Deep.RegionHeld
namespace Go.Proofs.YtfaehioeepolhaaGreat
open Go.RowKit
set_option maxHeartbeats 400000 in
theorem szField_law : SzLaw Tryz.prog 62 cField (fun f : PF => f.name.length) := by
  intro w x cs l hrd h0 h1
  obtain ⟨a, cap, rfl⟩ := cField_shape hrd
  have hm : x.name.length ≤ maxLen := by
    obtain ⟨v, e, ⟨a', cap', rfl, h2, h3, _⟩, _⟩ := cField_rd hrd
    omega
  simp only [val]
  by_cases hneg : rest l x.name.length < 0
  · have hm1 := rest_neg1 hneg
    go_enter Tryz.func62, Tryz.ntmps62
    go_wp2_with fail
    refine (szBytes_any a _ cap l _ hm h0 h1).mono ?_
    rintro e w2 ⟨rfl, rfl⟩
    have HM := hid hm1
    clear hm1
    generalize hr : rest l x.name.length = r at *
    go_wp2
    go_ret
    exact ⟨by show _ = Ending.returned (.int .i64 (rest l x.name.length)); rw [hr, HM.out]; rfl, below_new1 _ _⟩
  · go_enter Tryz.func62, Tryz.ntmps62
    go_wp2_with fail
    refine (szBytes_any a _ cap l _ hm h0 h1).mono ?_
    rintro e w2 ⟨rfl, rfl⟩
    generalize hr : rest l x.name.length = r at *
    go_wp2
    go_ret
    exact ⟨by show _ = Ending.returned (.int .i64 (rest l x.name.length)); rw [hr]; rfl, below_new1 _ _⟩
set_option maxHeartbeats 1000000 in
theorem szFieldS_any (a : Option Addr) (cap : Nat) (xs : List PF) (l : Int) (w : World) (hr : RdSl cField w xs (.slice a xs.length cap)) (h0 : 0 ≤ l) (h1 : l ≤ 1048576) :
    Calls Tryz.prog 18 #[.slice a xs.length cap, .int .i64 l] w fun e w' => e = .returned (.int .i64 (rest l (totL (fun f : PF => f.name.length) xs))) ∧ Below w.heap.size w w' := by
  have hml : xs.length ≤ maxLen := by
    obtain ⟨a', cap', e', g1, g2, _⟩ := hr
    omega
  unfold maxLen at hml
  have HR := hid hr
  clear hr
  by_cases hbig : l - (xs.length : Int) < 0
  · have HM : Hid (rest l (totL (fun f : PF => f.name.length) xs) = -1) := hid (by unfold rest totL; rw [if_pos (by omega)])
    go_enter Tryz.func18, Tryz.ntmps18
    go_wp2
    go_ret
    exact ⟨by rw [HM.out]; rfl, Below.refl _ _⟩
  · go_enter Tryz.func18, Tryz.ntmps18
    go_wp2
    go_loopw [1, 5] (fun q i wr => ∃ k : Nat, k ≤ xs.length ∧ i = .int .i64 k ∧ q = .int .i64 (rest l (xs.length + ((xs.take k).map (fun f : PF => f.name.length)).sum)) ∧ 0 ≤ rest l (xs.length + ((xs.take k).map (fun f : PF => f.name.length)).sum) ∧ Below w.heap.size w wr) (fun _ i _ => xs.length - (intOf i).toNat)
    case atStart => exact ⟨0, Nat.zero_le _, rfl, by simp [rest]; omega, by simp [rest]; omega, Below.refl _ _⟩
    case round =>
      obtain ⟨k, hk, rfl, rfl, hle, hbe⟩ := hrel
      have HB := hid hbe
      clear hbe
      by_cases hlt : k < xs.length
      · obtain ⟨b, off, v0, v1, v2, rfl, hes, d0, d1, d2⟩ := (HR.out.later HB.out).at3 rfl hlt
        have HE := hid hes
        have hki : (k : Int) < (xs.length : Int) := by omega
        have HS := hid (sum_snoc (fun f : PF => f.name.length) xs k hlt)
        have HT := hid (rest_two (m := (fun f : PF => f.name.length) xs[k]) hle)
        have HNG : Hid (rest l (xs.length + ((xs.take (k + 1)).map (fun f : PF => f.name.length)).sum) < 0 → rest l (totL (fun f : PF => f.name.length) xs) = -1) := hid (fun h => by
          have h2 := sum_take (fun f : PF => f.name.length) xs (k + 1)
          have h3 := rest_neg (m := totL (fun f : PF => f.name.length) xs - (xs.length + ((xs.take (k + 1)).map (fun f : PF => f.name.length)).sum)) h
          unfold totL at *
          rw [show xs.length + ((xs.take (k + 1)).map (fun f : PF => f.name.length)).sum + (xs.length + (xs.map (fun f : PF => f.name.length)).sum - (xs.length + ((xs.take (k + 1)).map (fun f : PF => f.name.length)).sum)) = xs.length + (xs.map (fun f : PF => f.name.length)).sum from by omega] at h3
          exact h3)
        have hup := rest_le (n := xs.length + ((xs.take k).map (fun f : PF => f.name.length)).sum) h1
        clear hes
        generalize hq : rest l (xs.length + ((xs.take k).map (fun f : PF => f.name.length)).sum) = q at *
        go_wp2_with fail
        refine (szField_law wr xs[k] _ q HE.out hle hup).mono ?_
        rintro e w2 ⟨rfl, b2⟩
        have HB2 := hid (HB.out.trans (b2.mono HB.out.size))
        clear b2
        have HQ : Hid (rest q ((fun f : PF => f.name.length) xs[k]) = rest l (xs.length + ((xs.take (k + 1)).map (fun f : PF => f.name.length)).sum)) := hid (by rw [HT.out, HS.out, Nat.add_assoc])
        generalize rest q ((fun f : PF => f.name.length) xs[k]) = r at *
        by_cases hneg : r < 0
        · have hz := HNG.out (by rw [← HQ.out]; exact hneg)
          have HZ := hid hz
          clear hz
          go_wp2
          go_ret
          exact ⟨by rw [HZ.out]; rfl, HB2.out⟩
        · go_wp2
          go_roundw
          case rel => exact ⟨k + 1, by omega, by go_num, by rw [HQ.out], by rw [← HQ.out]; omega, HB2.out⟩
          case measure => simp [intOf]; omega
      · obtain rfl : k = xs.length := by omega
        have HF : Hid (rest l (xs.length + ((xs.take xs.length).map (fun f : PF => f.name.length)).sum) = rest l (totL (fun f : PF => f.name.length) xs)) := hid (by rw [List.take_length]; rfl)
        rw [HF.out]
        go_wp2
        go_ret
        exact ⟨rfl, HB.out⟩
end Go.Proofs.YtfaehioeepolhaaGreat
namespace Go.Proofs.YtfaehioeepolhaaGreat
open Go.RowKit
set_option maxHeartbeats 1000000 in
theorem eqField_law : EqLaw Tryz.prog 67 cField (fun f : PF => f.name.length) := by
  intro w x cs cs' h1 h2 ht
  obtain ⟨a1, c1, rfl⟩ := cField_shape h1
  obtain ⟨a2, c2, rfl⟩ := cField_shape h2
  have r1 : Rd w a1 (byt x.name) := by
    obtain ⟨v, e, hv, _⟩ := cField_rd h1
    obtain ⟨a', cap', rfl, _, _, _, hr, _⟩ := hv.bytes
    simp at e; rw [e.1]; exact hr
  have r2 : Rd w a2 (byt x.name) := by
    obtain ⟨v, e, hv, _⟩ := cField_rd h2
    obtain ⟨a', cap', rfl, _, _, _, hr, _⟩ := hv.bytes
    simp at e; rw [e.1]; exact hr
  simp only [val]
  clear h1 h2
  go_enter Tryz.func67, Tryz.ntmps67
  go_wp2_with fail
  refine (eqByteS_any a1 a2 c1 c2 _ x.name _ (r1.later (below_new2 _ _ _)) (r2.later (below_new2 _ _ _)) rfl (by have h : x.name.length ≤ 1048576 := ht; omega)).mono ?_
  rintro e w2 ⟨rfl, b2⟩
  rw [size2] at b2
  obtain ⟨k0, k1⟩ := heap2 _ _ b2
  have p0 := cell_of_row w2 _ 1 _ _ _ k0
  have p1 := cell_of_row w2 _ 2 _ _ _ k0
  have q0 := cell_of_row w2 _ 1 _ _ _ k1
  have q1 := cell_of_row w2 _ 2 _ _ _ k1
  simp at p0 p1 q0 q1
  have HB : Hid (Below w.heap.size w w2) := hid ((below_new2 w _ _).trans (b2.mono (by omega)))
  clear k0 k1 b2 r1 r2
  go_wp2
  go_ret
  exact ⟨rfl, HB.out⟩
set_option maxHeartbeats 2000000 in
theorem eqFieldS_any (a1 a2 : Option Addr) (c1 c2 : Nat) (xs : List PF) (w : World) (h1 : RdSl cField w xs (.slice a1 xs.length c1)) (h2 : RdSl cField w xs (.slice a2 xs.length c2)) (ht : totL (fun f : PF => f.name.length) xs ≤ 1048576) :
    Calls Tryz.prog 22 #[.slice a1 xs.length c1, .slice a2 xs.length c2] w fun e w' => e = .returned (.bool true) ∧ Below w.heap.size w w' := by
  have H1 := hid h1
  have H2 := hid h2
  clear h1 h2
  have hlen : xs.length ≤ 1048576 := by unfold totL at ht; omega
  go_enter Tryz.func22, Tryz.ntmps22
  go_wp2
  go_loopw [5] (fun i wr => ∃ k : Nat, k ≤ xs.length ∧ i = .int .i64 k ∧ Below w.heap.size w wr) (fun i _ => xs.length - (intOf i).toNat)
  case atStart => exact ⟨0, Nat.zero_le _, rfl, Below.refl _ _⟩
  case round =>
    obtain ⟨k, hk, rfl, hbe⟩ := hrel
    have HB := hid hbe
    clear hbe
    by_cases hlt : k < xs.length
    · obtain ⟨b1, o1, x0, x1, x2, rfl, hes1, d0, d1, d2⟩ := (H1.out.later HB.out).at3 rfl hlt
      obtain ⟨b2, o2, y0, y1, y2, rfl, hes2, g0, g1, g2⟩ := (H2.out.later HB.out).at3 rfl hlt
      have HQ : Hid (Calls Tryz.prog 67 #[.agg #[x0, x1, x2], .agg #[y0, y1, y2]] wr.drew fun e w' => e = .returned (.bool true) ∧ Hid (Below w.heap.size w w') ∧ w'.cell? ⟨b1, o1 + k * 3, none⟩ = some x0 ∧ w'.cell? ⟨b1, o1 + k * 3 + 1, none⟩ = some x1 ∧ w'.cell? ⟨b1, o1 + k * 3 + 2, none⟩ = some x2 ∧ w'.cell? ⟨b2, o2 + k * 3, none⟩ = some y0 ∧ w'.cell? ⟨b2, o2 + k * 3 + 1, none⟩ = some y1 ∧ w'.cell? ⟨b2, o2 + k * 3 + 2, none⟩ = some y2) := hid (by
        refine (eqField_law wr.drew xs[k] _ _ (cField.later hes1 (Below.refl _ _).drew) (cField.later hes2 (Below.refl _ _).drew) (by have := tot_at (fun f : PF => f.name.length) xs k hlt; unfold totL at ht; simp only [] at this ⊢; omega)).mono ?_
        rintro e w' ⟨rfl, b⟩
        have kp : ∀ p v, wr.cell? p = some v → w'.cell? p = some v := fun p v h => (b.cell (World.block_lt_of_cell? _ _ h)).trans h
        exact ⟨rfl, hid (HB.out.drew.trans (b.mono HB.out.size)), kp _ _ d0, kp _ _ d1, kp _ _ d2, kp _ _ g0, kp _ _ g1, kp _ _ g2⟩)
      have hki : (k : Int) < (xs.length : Int) := by omega
      clear hes1 hes2
      go_wp2
      go_region_held (fun w' => w'.cell? ⟨b1, o1 + k * 3, none⟩ = some x0 ∧ w'.cell? ⟨b1, o1 + k * 3 + 1, none⟩ = some x1 ∧ w'.cell? ⟨b1, o1 + k * 3 + 2, none⟩ = some x2 ∧ w'.cell? ⟨b2, o2 + k * 3, none⟩ = some y0 ∧ w'.cell? ⟨b2, o2 + k * 3 + 1, none⟩ = some y1 ∧ w'.cell? ⟨b2, o2 + k * 3 + 2, none⟩ = some y2) (go_keep) (first | (go_at_call 67; refine HQ.out.mono ?_; rintro e w' ⟨rfl, hw', hd0, hd1, hd2, hg0, hg1, hg2⟩))
      go_wp2
      go_roundw
      case rel => exact ⟨k + 1, by omega, by go_num, hw'.out⟩
      case measure => simp [intOf]; omega
    · obtain rfl : k = xs.length := by omega
      go_wp2
      go_ret
      exact ⟨rfl, HB.out⟩
end Go.Proofs.YtfaehioeepolhaaGreat
