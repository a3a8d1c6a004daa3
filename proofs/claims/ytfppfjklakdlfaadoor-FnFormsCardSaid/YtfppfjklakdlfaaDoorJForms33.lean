import Derived.Test.YtfppfjklakdlfaaDoorJForms0
import Derived.Test.YtfppfjklakdlfaaDoorJForms14
import Derived.Test.YtfppfjklakdlfaaDoorJForms4
import Derived.Test.YtfppfjklakdlfaaDoorJForms28
import Derived.Test.YtfppfjklakdlfaaDoorJForms7
import Derived.Deep.DeepCutAuto
namespace Go.Proofs.YtfppfjklakdlfaaDoor
open Go.RowKit
set_option maxHeartbeats 400000 in
theorem sameB_zero (a1 a2 : Option Addr) (c1 c2 : Nat) (w : World) :
    Calls Tryd.prog 16 #[.slice a1 0 c1, .slice a2 0 c2] w fun e w' => e = .returned (.bool true) ∧ ∃ m, w' = w.drewN m := by
  go_enter Tryd.func16, Tryd.ntmps16
  go_wp2
  refine wp_loop_rounds 1 ?_; rw [rounds_succ]
  go_wp2
  go_ret
  exact ⟨rfl, 0, rfl⟩
set_option maxHeartbeats 400000 in
theorem sameB_some (b1 o1 b2 o2 c1 c2 : Nat) (xs : List Nat) (w : World) (hx : ∀ i, (h : i < xs.length) → w.cell? ⟨b1, o1 + i, none⟩ = some (.int .u8 ((xs[i] : Nat) : Int))) (hy : ∀ i, (h : i < xs.length) → w.cell? ⟨b2, o2 + i, none⟩ = some (.int .u8 ((xs[i] : Nat) : Int))) (hn : xs.length ≤ 1099511627776) :
    Calls Tryd.prog 16 #[.slice (some ⟨b1, o1, none⟩) xs.length c1, .slice (some ⟨b2, o2, none⟩) xs.length c2] w fun e w' => e = .returned (.bool true) ∧ ∃ m, w' = w.drewN m := by
  go_enter Tryd.func16, Tryd.ntmps16
  go_wp2
  go_loopw [5] (fun i wr => ∃ k : Nat, k ≤ xs.length ∧ i = .int .i64 k ∧ ∃ m, wr = w.drewN m) (fun i _ => xs.length - (intOf i).toNat)
  case atStart => exact ⟨0, Nat.zero_le _, rfl, 0, rfl⟩
  case round =>
    obtain ⟨k, hk, rfl, m, rfl⟩ := hrel
    by_cases hlt : k < xs.length
    · have g1 := hx k hlt
      have g2 := hy k hlt
      have hki : (k : Int) < (xs.length : Int) := by omega
      clear hx hy
      go_wp2
      go_quiet (fail)
      go_wp2
      go_roundw
      case rel => exact ⟨k + 1, by omega, by go_num, _, rfl⟩
      case measure => simp [intOf]; omega
    · obtain rfl : k = xs.length := by omega
      go_wp2
      go_ret
      exact ⟨rfl, m, rfl⟩
theorem sameB_quiet (a1 a2 : Option Addr) (c1 c2 n : Nat) (xs : List Nat) (w : World) (h1 : Rd w a1 (byt xs)) (h2 : Rd w a2 (byt xs)) (hl : xs.length = n) (hn : n ≤ 1099511627776) :
    Calls Tryd.prog 16 #[.slice a1 n c1, .slice a2 n c2] w fun e w' => e = .returned (.bool true) ∧ ∃ m, w' = w.drewN m := by
  subst hl
  by_cases h0 : xs = []
  · subst h0
    exact sameB_zero a1 a2 c1 c2 w
  · have hne : byt xs ≠ [] := by simpa [byt] using h0
    rcases h1 with h | ⟨b1, o1, rfl, e1⟩
    · exact absurd h hne
    rcases h2 with h | ⟨b2, o2, rfl, e2⟩
    · exact absurd h hne
    exact sameB_some b1 o1 b2 o2 c1 c2 xs w (rdByte e1) (rdByte e2) hn
theorem sameB_any (a1 a2 : Option Addr) (c1 c2 n : Nat) (xs : List Nat) (w : World) (h1 : Rd w a1 (byt xs)) (h2 : Rd w a2 (byt xs)) (hl : xs.length = n) (hn : n ≤ 1099511627776) :
    Calls Tryd.prog 16 #[.slice a1 n c1, .slice a2 n c2] w fun e w' => e = .returned (.bool true) ∧ Below w.heap.size w w' := by
  refine (sameB_quiet a1 a2 c1 c2 n xs w h1 h2 hl hn).mono ?_
  rintro e w' ⟨rfl, m, rfl⟩
  exact ⟨rfl, below_drewN (Below.refl _ _) m⟩
end Go.Proofs.YtfppfjklakdlfaaDoor
namespace Go.Proofs.YtfppfjklakdlfaaDoor
open Go.RowKit
set_option maxHeartbeats 1000000 in
theorem take_any (a : Option Addr) (cap : Nat) (xs : List Nat) (i : Nat) (w : World) (hr : Rd w a (byt xs)) (hb : ∀ x ∈ xs, x < 256) (hn : xs.length ≤ 1048576) :
    Calls Tryd.prog 17 #[.slice a xs.length cap, .int .i64 (i : Int)] w fun e w' => (∃ q : Nat, q < 256 ∧ e = .returned (.int .i64 (q : Int))) ∧ Below w.heap.size w w' := by
  by_cases h0 : xs.length = 0
  · obtain rfl := List.length_eq_zero_iff.1 h0
    go_enter Tryd.func17, Tryd.ntmps17
    go_wp2
    go_ret
    exact ⟨⟨0, by omega, rfl⟩, Below.refl _ _⟩
  · obtain ⟨r, hr2⟩ : ∃ r : Nat, r = i % xs.length := ⟨_, rfl⟩
    have hrl : r < xs.length := by rw [hr2]; exact Nat.mod_lt _ (by omega)
    have hx := hb _ (List.getElem_mem hrl)
    obtain ⟨b, o, rfl, hc⟩ : ∃ b o, a = some ⟨b, o, none⟩ ∧ w.cell? ⟨b, o + r, none⟩ = some (.int .u8 ((xs[r] : Nat) : Int)) := by
      rcases hr with h | ⟨b, o, rfl, h⟩
      · have : (byt xs).length = 0 := by rw [h]; rfl
        rw [byt_len] at this
        omega
      · exact ⟨b, o, rfl, by have := h r (by rw [byt_len]; exact hrl); rw [this]; simp [byt]⟩
    have h1 : ((xs.length : Int) == 0) = false := beq_eq_false_iff_ne.2 (by omega)
    have h2 : (i : Int).tmod (xs.length : Int) = (r : Int) := by rw [hr2]; rfl
    have h3 : (i : Int) % (xs.length : Int) = (r : Int) := by rw [hr2]; rfl
    have hlt : (r : Int) < (xs.length : Int) := by omega
    generalize xs[r] = x at *
    clear hr hb hr2
    generalize xs.length = n at *
    go_enter Tryd.func17, Tryd.ntmps17
    go_wp2
    go_ret
    exact ⟨⟨x, hx, rfl⟩, Below.refl _ _⟩
theorem infoByteF : (Tryd.prog.info? 5).map (fun i => (i.zero, i.size, i.bytes)) = some (some (.int .u8 0), 1, 1) := by kernel_rfl
set_option maxRecDepth 100000 in
set_option maxHeartbeats 1000000 in
theorem flip_any (a : Option Addr) (cap : Nat) (xs : List Nat) (bit : Nat) (w : World) (hr : RdSl cByte w xs (.slice a xs.length cap)) (hl : xs.length ≤ 1048576) :
    Calls Tryd.prog 18 #[.slice a xs.length cap, .int .i64 (bit : Int)] w fun e w' => ∃ v, e = .returned v ∧ w'.ownsRow w.heap.size 5 1 v xs.length (byt (flipB xs bit)) ∧ Below w.heap.size w w' := by
  obtain ⟨i0, hi, hz0, hz1, hz2⟩ := info_parts infoByteF
  have HR := hid hr.rdB.1
  have HBY := hid hr.rdB.2
  have HN := hid hr.nil0
  clear hr
  go_enter Tryd.func18, Tryd.ntmps18
  go_wp2_with (first | (at_builtin; refine append_any rfl _ _ 22 rfl w.heap.size 5 i0 (.int .u8 0) 1 Tryd.underlying22 hi hz0 hz1 hz2 rfl _ 0 [] rfl (World.ownsRow_nil _ _ _ _) a xs.length cap (byt xs) rfl (byt_len _) HN.out HR.out (byt_one _) (by unfold maxLen; omega) (by omega) (Nat.le_refl _) ?_))
  intro v' w1 hown hgrow
  have HB : Hid (Below w.heap.size w w1) := hid ((Below.refl _ w).grown hgrow (Nat.le_refl _) (by intro k h; cases h))
  have hO : w1.ownsRow w.heap.size 5 1 v' xs.length (byt xs) := by simpa using hown
  obtain ⟨a', c', rfl, -⟩ := rd_own hO
  have HO := hid hO
  clear hown hgrow hO hi hz0 hz1 hz2
  by_cases h0 : xs.length = 0
  · obtain rfl := List.length_eq_zero_iff.1 h0

    go_wp2
    go_ret
    exact ⟨_, rfl, HO.out, HB.out⟩
  · have h1 : ((xs.length : Int) == 0) = false := beq_eq_false_iff_ne.2 (by omega)
    obtain ⟨r, hr2⟩ : ∃ r : Nat, r = bit % (8 * xs.length) := ⟨_, rfl⟩
    have hrl : r < 8 * xs.length := by rw [hr2]; exact Nat.mod_lt _ (by omega)
    have hm0 : ((8 * (xs.length : Int)) == 0) = false := beq_eq_false_iff_ne.2 (by omega)
    have h2 : (bit : Int).tmod (8 * (xs.length : Int)) = (r : Int) := by rw [hr2]; rfl
    have h3 : (bit : Int) % (8 * (xs.length : Int)) = (r : Int) := by rw [hr2]; rfl
    have HFB : Hid (flipB xs bit = xs.set (r / 8) ((xs[r / 8]?.getD 0) ^^^ 2 ^ (r % 8))) := hid (by rw [hr2]; rfl)
    clear hr2
    have hr8 : r / 8 < xs.length := by omega
    obtain ⟨g, hg⟩ : ∃ g, a' = some ⟨g, 0, none⟩ := by
      rcases HO.out.2 with ⟨h, _⟩ | ⟨g, cap, cur, h, _⟩
      · simp only [Value.slice.injEq] at h
        omega
      · simp only [Value.slice.injEq] at h
        exact ⟨g, h.1⟩
    subst hg
    have hfz := HO.out.frozenAt (r / 8)
    have hx : xs[r / 8] < 256 := HBY.out _ (List.getElem_mem _)
    have hcell : w1.cell? ⟨g, r / 8, none⟩ = some (.int .u8 ((xs[r / 8] : Nat) : Int)) := by
      rw [HO.out.cellAt (r / 8) (by omega)]
      simp [byt, hr8]
    have HXR : Hid (bits .xor .u8 ((xs[r / 8] : Nat) : Int) ((2 : Int) ^ (r % 8) % 256) = ((xs[r / 8] ^^^ 2 ^ (r % 8) : Nat) : Int)) := hid (by
      have hp := two_pow_lt8 r
      rw [show ((2 : Int) ^ (r % 8) % 256) = ((2 ^ (r % 8) : Nat) : Int) from by
        rw [show ((2 ^ (r % 8) : Nat) : Int) = (2 : Int) ^ (r % 8) from by simp]
        exact Int.emod_eq_of_lt (by exact Int.pow_nonneg (by decide)) (by exact_mod_cast hp)]
      exact bits_xor_u8 _ _ hx hp)
    have HST : Hid ((w1.setCell ⟨g, r / 8, none⟩ (.int .u8 (bits .xor .u8 ((xs[r / 8] : Nat) : Int) ((2 : Int) ^ (r % 8) % 256)))).ownsRow w.heap.size 5 1 (.slice (some ⟨g, 0, none⟩) xs.length c') xs.length (byt (flipB xs bit))) := hid (by
      have h := (World.ownsRow.stored HO.out (r / 8) (.int .u8 (bits .xor .u8 ((xs[r / 8] : Nat) : Int) ((2 : Int) ^ (r % 8) % 256)))).1
      have e : (byt xs).set (r / 8) (.int .u8 (bits .xor .u8 ((xs[r / 8] : Nat) : Int) ((2 : Int) ^ (r % 8) % 256))) = byt (flipB xs bit) := by
        rw [HFB.out, HXR.out, List.getElem?_eq_getElem hr8]
        simp [byt, List.map_set]
      rwa [e] at h)
    have HGB : Hid (w.heap.size ≤ g) := hid (own_in (g := g) HO.out rfl).1
    have hri : ((r / 8 : Nat) : Int) < (xs.length : Int) := by omega
    clear hrl h0
    generalize xs[r / 8] = x at *
    go_wp2_with fail
    go_ret
    exact ⟨_, rfl, HST.out, HB.out.setCell (p := ⟨g, r / 8, none⟩) HGB.out _⟩
set_option maxHeartbeats 1000000 in
theorem sameL_any (a1 a2 : Option Addr) (c1 c2 : Nat) (xs : List (List Nat)) (w : World) (h1 : RdSl cSS w xs (.slice a1 xs.length c1)) (h2 : RdSl cSS w xs (.slice a2 xs.length c2)) (ht : totL List.length xs ≤ 1048576) :
    Calls Tryd.prog 19 #[.slice a1 xs.length c1, .slice a2 xs.length c2] w fun e w' => e = .returned (.bool true) ∧ Below w.heap.size w w' := by
  have H1 := hid h1
  have H2 := hid h2
  clear h1 h2
  have hlen : xs.length ≤ 1048576 := by unfold totL at ht; omega
  go_enter Tryd.func19, Tryd.ntmps19
  go_wp2
  go_loopw [5] (fun i wr => ∃ k : Nat, k ≤ xs.length ∧ i = .int .i64 k ∧ Below w.heap.size w wr) (fun i _ => xs.length - (intOf i).toNat)
  case atStart => exact ⟨0, Nat.zero_le _, rfl, Below.refl _ _⟩
  case round =>
    obtain ⟨k, hk, rfl, hbe⟩ := hrel
    have HB := hid hbe
    clear hbe
    by_cases hlt : k < xs.length
    · obtain ⟨b1, o1, a1', c1', rfl, g1, r1⟩ := (H1.out.later HB.out).row hlt
      obtain ⟨b2, o2, a2', c2', rfl, g2, r2⟩ := (H2.out.later HB.out).row hlt
      obtain ⟨_, _, e', -, -, -, q1, -⟩ := r1.bytes
      simp only [Value.slice.injEq] at e'
      obtain ⟨rfl, -, rfl⟩ := e'
      obtain ⟨_, _, e', -, -, -, q2, -⟩ := r2.bytes
      simp only [Value.slice.injEq] at e'
      obtain ⟨rfl, -, rfl⟩ := e'
      have HQ : Hid (∀ n, Calls Tryd.prog 16 #[.slice a1' xs[k].length c1', .slice a2' xs[k].length c2'] (wr.drewN n) fun e w' => e = .returned (.bool true) ∧ ∃ m, w' = (wr.drewN n).drewN m) := hid (fun n => by
        have hlk := tot_at List.length xs k hlt
        unfold totL at ht
        exact sameB_quiet _ _ _ _ _ xs[k] _ (q1.later (below_drewN (Below.refl _ _) n)) (q2.later (below_drewN (Below.refl _ _) n)) rfl (by omega))
      have hki : (k : Int) < (xs.length : Int) := by omega
      clear r1 r2 q1 q2
      go_wp2
      go_quiet ((go_at_call 16; exact Calls.quiet_of (HQ.out _)))
      go_wp2
      go_roundw
      case rel => exact ⟨k + 1, by omega, by go_num, below_drewN HB.out _⟩
      case measure => simp [intOf]; omega
    · obtain rfl : k = xs.length := by omega
      go_wp2
      go_ret
      exact ⟨rfl, HB.out⟩
end Go.Proofs.YtfppfjklakdlfaaDoor
