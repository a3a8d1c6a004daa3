import Derived.Test.YtfaehioeepolhaaGreatJCrashReceiver0
import Derived.Test.YtfaehioeepolhaaGreatJCrashReceiver2
import Derived.Handy
import Derived.Deep.RegionHeld
namespace Go.Proofs.YtfaehioeepolhaaGreat
open Go.RowKit
set_option maxHeartbeats 400000 in
theorem eqByteS_zero (a1 a2 : Option Addr) (c1 c2 : Nat) (w : World) :
    Calls Tryz.prog 97 #[.slice a1 0 c1, .slice a2 0 c2] w fun e w' => e = .returned (.bool true) ∧ ∃ m, w' = w.drewN m := by
  go_enter Tryz.func97, Tryz.ntmps97
  go_wp2
  refine wp_loop_rounds 1 ?_; rw [rounds_succ]
  go_wp2
  go_ret
  exact ⟨rfl, 0, rfl⟩
set_option maxHeartbeats 400000 in
theorem eqByteS_some (b1 o1 b2 o2 c1 c2 : Nat) (xs : List Nat) (w : World) (hx : ∀ i, (h : i < xs.length) → w.cell? ⟨b1, o1 + i, none⟩ = some (.int .u8 ((xs[i] : Nat) : Int))) (hy : ∀ i, (h : i < xs.length) → w.cell? ⟨b2, o2 + i, none⟩ = some (.int .u8 ((xs[i] : Nat) : Int))) (hn : xs.length ≤ 1099511627776) :
    Calls Tryz.prog 97 #[.slice (some ⟨b1, o1, none⟩) xs.length c1, .slice (some ⟨b2, o2, none⟩) xs.length c2] w fun e w' => e = .returned (.bool true) ∧ ∃ m, w' = w.drewN m := by
  go_enter Tryz.func97, Tryz.ntmps97
  go_wp2
  go_loopw [5] (fun i wr => ∃ k : Nat, k ≤ xs.length ∧ i = .int .i64 k ∧ ∃ m, wr = w.drewN m) (fun i _ => xs.length - (intOf i).toNat)
  case atStart => exact ⟨0, Nat.zero_le _, rfl, 0, rfl⟩
  case round =>
    obtain ⟨k, hk, rfl, m, rfl⟩ := hrel
    by_cases hlt : k < xs.length
    · have g1 := hx k hlt
      have g2 := hy k hlt
      have hki : (k : Int) < (xs.length : Int) := by omega
      clear hx hy
      go_wp2
      go_quiet (fail)
      go_wp2
      go_roundw
      case rel => exact ⟨k + 1, by omega, by go_num, _, rfl⟩
      case measure => simp [intOf]; omega
    · obtain rfl : k = xs.length := by omega
      go_wp2
      go_ret
      exact ⟨rfl, m, rfl⟩
theorem eqByteS_quiet (a1 a2 : Option Addr) (c1 c2 n : Nat) (xs : List Nat) (w : World) (h1 : Rd w a1 (byt xs)) (h2 : Rd w a2 (byt xs)) (hl : xs.length = n) (hn : n ≤ 1099511627776) :
    Calls Tryz.prog 97 #[.slice a1 n c1, .slice a2 n c2] w fun e w' => e = .returned (.bool true) ∧ ∃ m, w' = w.drewN m := by
  subst hl
  by_cases h0 : xs = []
  · subst h0
    exact eqByteS_zero a1 a2 c1 c2 w
  · have hne : byt xs ≠ [] := by simpa [byt] using h0
    rcases h1 with h | ⟨b1, o1, rfl, e1⟩
    · exact absurd h hne
    rcases h2 with h | ⟨b2, o2, rfl, e2⟩
    · exact absurd h hne
    exact eqByteS_some b1 o1 b2 o2 c1 c2 xs w (rdByte e1) (rdByte e2) hn
theorem eqByteS_any (a1 a2 : Option Addr) (c1 c2 n : Nat) (xs : List Nat) (w : World) (h1 : Rd w a1 (byt xs)) (h2 : Rd w a2 (byt xs)) (hl : xs.length = n) (hn : n ≤ 1099511627776) :
    Calls Tryz.prog 97 #[.slice a1 n c1, .slice a2 n c2] w fun e w' => e = .returned (.bool true) ∧ Below w.heap.size w w' := by
  refine (eqByteS_quiet a1 a2 c1 c2 n xs w h1 h2 hl hn).mono ?_
  rintro e w' ⟨rfl, m, rfl⟩
  exact ⟨rfl, below_drewN (Below.refl _ _) m⟩
end Go.Proofs.YtfaehioeepolhaaGreat
namespace Go.Proofs.YtfaehioeepolhaaGreat
open Go.RowKit
set_option maxHeartbeats 1000000 in
theorem eqCell_law : EqLaw Tryz.prog 177 cCell (fun f : PC => f.text.length) := by
  intro w x cs cs' h1 h2 ht
  obtain ⟨a1, c1, rfl⟩ := cCell_shape h1
  obtain ⟨a2, c2, rfl⟩ := cCell_shape h2
  have r1 : Rd w a1 (byt x.text) := by
    obtain ⟨v, e, hv, _⟩ := cCell_rd h1
    obtain ⟨a', cap', rfl, _, _, _, hr, _⟩ := hv.bytes
    simp at e; rw [e.1]; exact hr
  have r2 : Rd w a2 (byt x.text) := by
    obtain ⟨v, e, hv, _⟩ := cCell_rd h2
    obtain ⟨a', cap', rfl, _, _, _, hr, _⟩ := hv.bytes
    simp at e; rw [e.1]; exact hr
  simp only [val]
  clear h1 h2
  go_enter Tryz.func177, Tryz.ntmps177
  go_wp2_with fail
  refine (eqByteS_any a1 a2 c1 c2 _ x.text _ (r1.later (below_new2 _ _ _)) (r2.later (below_new2 _ _ _)) rfl (by have h : x.text.length ≤ 1048576 := ht; omega)).mono ?_
  rintro e w2 ⟨rfl, b2⟩
  rw [size2] at b2
  obtain ⟨k0, k1⟩ := heap2 _ _ b2
  have p0 := cell_of_row w2 _ 0 _ _ _ k0
  have p1 := cell_of_row w2 _ 1 _ _ _ k0
  have q0 := cell_of_row w2 _ 0 _ _ _ k1
  have q1 := cell_of_row w2 _ 1 _ _ _ k1
  simp at p0 p1 q0 q1
  have HB : Hid (Below w.heap.size w w2) := hid ((below_new2 w _ _).trans (b2.mono (by omega)))
  clear k0 k1 b2 r1 r2
  go_wp2
  go_ret
  exact ⟨rfl, HB.out⟩
set_option maxHeartbeats 2000000 in
theorem eqCellS_any (a1 a2 : Option Addr) (c1 c2 : Nat) (xs : List PC) (w : World) (h1 : RdSl cCell w xs (.slice a1 xs.length c1)) (h2 : RdSl cCell w xs (.slice a2 xs.length c2)) (ht : totL (fun f : PC => f.text.length) xs ≤ 1048576) :
    Calls Tryz.prog 131 #[.slice a1 xs.length c1, .slice a2 xs.length c2] w fun e w' => e = .returned (.bool true) ∧ Below w.heap.size w w' := by
  have H1 := hid h1
  have H2 := hid h2
  clear h1 h2
  have hlen : xs.length ≤ 1048576 := by unfold totL at ht; omega
  go_enter Tryz.func131, Tryz.ntmps131
  go_wp2
  go_loopw [5] (fun i wr => ∃ k : Nat, k ≤ xs.length ∧ i = .int .i64 k ∧ Below w.heap.size w wr) (fun i _ => xs.length - (intOf i).toNat)
  case atStart => exact ⟨0, Nat.zero_le _, rfl, Below.refl _ _⟩
  case round =>
    obtain ⟨k, hk, rfl, hbe⟩ := hrel
    have HB := hid hbe
    clear hbe
    by_cases hlt : k < xs.length
    · obtain ⟨b1, o1, x0, x1, x2, rfl, hes1, d0, d1, d2⟩ := (H1.out.later HB.out).at3 rfl hlt
      obtain ⟨b2, o2, y0, y1, y2, rfl, hes2, g0, g1, g2⟩ := (H2.out.later HB.out).at3 rfl hlt
      have HQ : Hid (Calls Tryz.prog 177 #[.agg #[x0, x1, x2], .agg #[y0, y1, y2]] wr.drew fun e w' => e = .returned (.bool true) ∧ Hid (Below w.heap.size w w') ∧ w'.cell? ⟨b1, o1 + k * 3, none⟩ = some x0 ∧ w'.cell? ⟨b1, o1 + k * 3 + 1, none⟩ = some x1 ∧ w'.cell? ⟨b1, o1 + k * 3 + 2, none⟩ = some x2 ∧ w'.cell? ⟨b2, o2 + k * 3, none⟩ = some y0 ∧ w'.cell? ⟨b2, o2 + k * 3 + 1, none⟩ = some y1 ∧ w'.cell? ⟨b2, o2 + k * 3 + 2, none⟩ = some y2) := hid (by
        refine (eqCell_law wr.drew xs[k] _ _ (cCell.later hes1 (Below.refl _ _).drew) (cCell.later hes2 (Below.refl _ _).drew) (by have := tot_at (fun f : PC => f.text.length) xs k hlt; unfold totL at ht; simp only [] at this ⊢; omega)).mono ?_
        rintro e w' ⟨rfl, b⟩
        have kp : ∀ p v, wr.cell? p = some v → w'.cell? p = some v := fun p v h => (b.cell (World.block_lt_of_cell? _ _ h)).trans h
        exact ⟨rfl, hid (HB.out.drew.trans (b.mono HB.out.size)), kp _ _ d0, kp _ _ d1, kp _ _ d2, kp _ _ g0, kp _ _ g1, kp _ _ g2⟩)
      have hki : (k : Int) < (xs.length : Int) := by omega
      clear hes1 hes2
      go_wp2
      go_region_held (fun w' => w'.cell? ⟨b1, o1 + k * 3, none⟩ = some x0 ∧ w'.cell? ⟨b1, o1 + k * 3 + 1, none⟩ = some x1 ∧ w'.cell? ⟨b1, o1 + k * 3 + 2, none⟩ = some x2 ∧ w'.cell? ⟨b2, o2 + k * 3, none⟩ = some y0 ∧ w'.cell? ⟨b2, o2 + k * 3 + 1, none⟩ = some y1 ∧ w'.cell? ⟨b2, o2 + k * 3 + 2, none⟩ = some y2) (go_keep) (first | (go_at_call 177; refine HQ.out.mono ?_; rintro e w' ⟨rfl, hw', hd0, hd1, hd2, hg0, hg1, hg2⟩))
      go_wp2
      go_roundw
      case rel => exact ⟨k + 1, by omega, by go_num, hw'.out⟩
      case measure => simp [intOf]; omega
    · obtain rfl : k = xs.length := by omega
      go_wp2
      go_ret
      exact ⟨rfl, HB.out⟩
end Go.Proofs.YtfaehioeepolhaaGreat
