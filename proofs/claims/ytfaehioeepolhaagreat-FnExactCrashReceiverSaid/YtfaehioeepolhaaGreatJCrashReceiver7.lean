import Derived.Test.YtfaehioeepolhaaGreatJCrashReceiver6
import Derived.Deep.RegionHeld3
import Derived.WalkKit
import Derived.Laws.Bits64
namespace Go.Proofs.YtfaehioeepolhaaGreat
open Go.RowKit
abbrev cSSS : Cod (List (List Nat)) := cSl cSS 23
def tS (x : List (List Nat)) : Nat := totL List.length x
theorem RdSl.row3 {w : World} {xss : List (List (List Nat))} {a : Option Addr} {n cap k : Nat} (h : RdSl cSSS w xss (.slice a n cap)) (hk : k < xss.length) :
    ∃ b off a' c', a = some ⟨b, off, none⟩ ∧ w.cell? ⟨b, off + k, none⟩ = some (.slice a' xss[k].length c') ∧ RdSl cSS w xss[k] (.slice a' xss[k].length c') := by
  obtain ⟨b, off, v, rfl, ⟨v', e, hv⟩, hc⟩ := h.at1 rfl hk
  simp only [List.cons.injEq, and_true] at e
  subst e
  obtain ⟨a', c', rfl, r⟩ := id hv
  exact ⟨b, off, a', c', rfl, hc, hv⟩
set_option maxHeartbeats 1000000 in
theorem szSSS_any (a : Option Addr) (cap : Nat) (xs : List (List (List Nat))) (l : Int) (w : World) (hr : RdSl cSSS w xs (.slice a xs.length cap)) (h0 : 0 ≤ l) (h1 : l ≤ 1048576) :
    Calls Tryz.prog 84 #[.slice a xs.length cap, .int .i64 l] w fun e w' => e = .returned (.int .i64 (rest l (totL tS xs))) ∧ w' = w := by
  have hml : xs.length ≤ maxLen := by
    obtain ⟨a', cap', e', g1, g2, _⟩ := hr
    omega
  unfold maxLen at hml
  have HR := hid hr
  clear hr
  by_cases hbig : l - (xs.length : Int) < 0
  · have HM : Hid (rest l (totL tS xs) = -1) := hid (by unfold rest totL; rw [if_pos (by omega)])
    go_enter Tryz.func84, Tryz.ntmps84
    go_wp2
    go_ret
    exact ⟨by rw [HM.out]; rfl, rfl⟩
  · go_enter Tryz.func84, Tryz.ntmps84
    go_wp2
    go_loop [1, 5] (fun q i => ∃ k : Nat, k ≤ xs.length ∧ i = .int .i64 k ∧ q = .int .i64 (rest l (xs.length + ((xs.take k).map tS).sum)) ∧ 0 ≤ rest l (xs.length + ((xs.take k).map tS).sum)) (fun _ i => xs.length - (intOf i).toNat)
    case atStart => exact ⟨0, Nat.zero_le _, rfl, by simp [rest]; omega, by simp [rest]; omega⟩
    case round =>
      obtain ⟨k, hk, rfl, rfl, hle⟩ := hrel
      by_cases hlt : k < xs.length
      · obtain ⟨b, off, a', c', rfl, hcb, hrr⟩ := HR.out.row3 hlt
        have HRR := hid hrr
        have hki : (k : Int) < (xs.length : Int) := by omega
        have HS := hid (sum_snoc tS xs k hlt)
        have HT := hid (rest_two (m := tS xs[k]) hle)
        have HNG : Hid (rest l (xs.length + ((xs.take (k + 1)).map tS).sum) < 0 → rest l (totL tS xs) = -1) := hid (fun h => by
          have h2 := sum_take tS xs (k + 1)
          have h3 := rest_neg (m := totL tS xs - (xs.length + ((xs.take (k + 1)).map tS).sum)) h
          unfold totL at *
          rw [show xs.length + ((xs.take (k + 1)).map tS).sum + (xs.length + (xs.map tS).sum - (xs.length + ((xs.take (k + 1)).map tS).sum)) = xs.length + (xs.map tS).sum from by omega] at h3
          exact h3)
        have hup := rest_le (n := xs.length + ((xs.take k).map tS).sum) h1
        clear hrr
        generalize hq : rest l (xs.length + ((xs.take k).map tS).sum) = q at *
        go_wp2_with fail
        refine (szSS_any a' c' xs[k] q w HRR.out hle hup).mono ?_
        rintro e w ⟨rfl, rfl⟩
        rw [show totL List.length xs[k] = tS xs[k] from rfl]
        have HQ : Hid (rest q (tS xs[k]) = rest l (xs.length + ((xs.take (k + 1)).map tS).sum)) := hid (by rw [HT.out, HS.out, Nat.add_assoc])
        generalize rest q (tS xs[k]) = r at *
        by_cases hneg : r < 0
        · have HZ := hid (HNG.out (by rw [← HQ.out]; exact hneg))
          go_wp2
          go_ret
          exact ⟨by rw [HZ.out]; rfl, rfl⟩
        · go_wp2
          go_round
          case rel => exact ⟨k + 1, by omega, by go_num, by rw [HQ.out], by rw [← HQ.out]; omega⟩
          case measure => simp [intOf]; omega
      · obtain rfl : k = xs.length := by omega
        have HF : Hid (rest l (xs.length + ((xs.take xs.length).map tS).sum) = rest l (totL tS xs)) := hid (by rw [List.take_length]; rfl)
        rw [HF.out]
        go_wp2
        go_ret
        exact ⟨rfl, rfl⟩
theorem infoSl3 : (Tryz.prog.info? 123).map (fun i => (i.zero, i.size, i.bytes)) = some (some (.slice none 0 0), 1, 24) := by kernel_rfl
set_option maxHeartbeats 1000000 in
theorem toSSS_any (a : Option Addr) (cap : Nat) (xs : List (List (List Nat))) (w : World) (hr : RdSl cSSS w xs (.slice a xs.length cap)) (ht : totL tS xs ≤ 1048576) :
    Calls Tryz.prog 90 #[.slice a xs.length cap] w fun e w' => ∃ v bs, e = .returned v ∧ OwnSl cSSS 123 w' xs v bs ∧ (∀ b ∈ bs, w.heap.size ≤ b) ∧ bs.Nodup ∧ Below w.heap.size w w' := by
  obtain ⟨i0, hi, hz0, hz1, hz2⟩ := info_parts infoSl3
  have HR := hid hr
  clear hr
  have hlen : xs.length ≤ 1048576 := by unfold totL at ht; omega
  go_enter Tryz.func90, Tryz.ntmps90
  go_wp2_with (first | (at_make; refine wpList_make_full _ rfl (.tmp 6) (.tmp 6) 27 rfl w.heap.size 123 i0 (.slice none 0 0) 1 Tryz.underlying27 hi hz0 hz1 .i64 .i64 _ _ xs.length rfl rfl rfl rfl (by rw [hz2]; omega) (by unfold maxLen; omega) (by simp) ?_))
  intro w1 ho hg1
  have HB1 : Hid (Below w.heap.size w w1) := hid ((Below.refl _ w).grown hg1 (Nat.le_refl _) (by intro k h; cases h))
  have HM : Hid (Made1 cSSS 123 w w1 xs 0) := hid ⟨_, [], ho, rfl, fun i h h2 => by simp at h2, by simp, by simp⟩
  clear hg1 hi hz0 hz1 hz2 ho
  go_wp2
  go_loopw [4] (fun i wr => ∃ k : Nat, k ≤ xs.length ∧ i = .int .i64 k ∧ Made1 cSSS 123 w wr xs k ∧ Below w.heap.size w wr) (fun i _ => xs.length - (intOf i).toNat)
  case atStart => exact ⟨0, Nat.zero_le _, rfl, HM.out, HB1.out⟩
  case round =>
    obtain ⟨k, hk, rfl, hm, hbe⟩ := hrel
    have HV := hid hm
    have HB := hid hbe
    clear hm hbe
    by_cases hlt : k < xs.length
    · obtain ⟨b, off, a', c', rfl, hcb, hrr⟩ := (HR.out.later HB.out).row3 hlt
      have HRR := hid hrr
      have hki : (k : Int) < (xs.length : Int) := by omega
      have htk : totL List.length xs[k] ≤ 1048576 := by have h := tot_at tS xs k hlt; unfold totL at ht; exact Nat.le_trans h (by omega)
      have HTK := hid htk
      clear hrr htk
      go_wp2_with fail
      refine (toSS_any a' c' xs[k] wr HRR.out HTK.out).mono ?_
      rintro e w2 ⟨v2, bs2, rfl, o2, l2, n2, b2⟩
      obtain ⟨a2, c2, rfl, -⟩ := id o2.rd
      have HN : Hid (Made1 cSSS 123 w (w2.setCell ⟨w.heap.size, k, none⟩ (.slice a2 xs[k].length c2)) xs (k + 1)) := hid (HV.out.step hlt b2 ⟨_, rfl, o2⟩ l2 n2)
      have HBB : Hid (Below w.heap.size w (w2.setCell ⟨w.heap.size, k, none⟩ (.slice a2 xs[k].length c2))) := hid ((HB.out.trans (b2.mono HB.out.size)).setCell (p := ⟨w.heap.size, k, none⟩) (Nat.le_refl _) _)
      obtain ⟨vs, hvl, how2⟩ := HV.out.row b2
      have f0 := how2.frozenAt k
      have q0 := how2.cellAt k (by omega)
      rw [List.getElem?_eq_getElem (by omega)] at q0
      generalize vs[k] = y0 at q0
      clear o2 b2 how2 hvl l2 n2
      go_wp2
      go_roundw
      case rel => exact ⟨k + 1, by omega, by go_num, HN.out, HBB.out⟩
      case measure => simp [intOf]; omega
    · obtain rfl : k = xs.length := by omega
      obtain ⟨bs, h1, h2, h3⟩ := HV.out.done rfl
      have HF := hid h1
      clear h1
      go_wp2
      go_ret
      exact ⟨_, bs, rfl, HF.out, h2, h3, HB.out⟩
set_option maxHeartbeats 1000000 in
theorem eqSSS_any (a1 a2 : Option Addr) (c1 c2 : Nat) (xs : List (List (List Nat))) (w : World) (h1 : RdSl cSSS w xs (.slice a1 xs.length c1)) (h2 : RdSl cSSS w xs (.slice a2 xs.length c2)) (ht : totL tS xs ≤ 1048576) :
    Calls Tryz.prog 98 #[.slice a1 xs.length c1, .slice a2 xs.length c2] w fun e w' => e = .returned (.bool true) ∧ Below w.heap.size w w' := by
  have H1 := hid h1
  have H2 := hid h2
  clear h1 h2
  have hlen : xs.length ≤ 1048576 := by unfold totL at ht; omega
  go_enter Tryz.func98, Tryz.ntmps98
  go_wp2
  go_loopw [5] (fun i wr => ∃ k : Nat, k ≤ xs.length ∧ i = .int .i64 k ∧ Below w.heap.size w wr) (fun i _ => xs.length - (intOf i).toNat)
  case atStart => exact ⟨0, Nat.zero_le _, rfl, Below.refl _ _⟩
  case round =>
    obtain ⟨k, hk, rfl, hbe⟩ := hrel
    have HB := hid hbe
    clear hbe
    by_cases hlt : k < xs.length
    · obtain ⟨b1, o1, a1', c1', rfl, g1, r1⟩ := (H1.out.later HB.out).row3 hlt
      obtain ⟨b2, o2, a2', c2', rfl, g2, r2⟩ := (H2.out.later HB.out).row3 hlt
      have htk : totL List.length xs[k] ≤ 1048576 := by have h := tot_at tS xs k hlt; unfold totL at ht; exact Nat.le_trans h (by omega)
      have HQ : Hid (Calls Tryz.prog 142 #[.slice a1' xs[k].length c1', .slice a2' xs[k].length c2'] wr.drew fun e w' => e = .returned (.bool true) ∧ Hid (Below wr.heap.size wr w') ∧ w'.cell? ⟨b1, o1 + k, none⟩ = some (.slice a1' xs[k].length c1') ∧ w'.cell? ⟨b2, o2 + k, none⟩ = some (.slice a2' xs[k].length c2')) := hid (by
        refine (eqSS_any a1' a2' c1' c2' xs[k] wr.drew (r1.later (Below.refl _ _).drew) (r2.later (Below.refl _ _).drew) htk).mono ?_
        rintro e w' ⟨rfl, b⟩
        have b' : Below wr.heap.size wr w' := (Below.refl _ _).drew.trans b
        exact ⟨rfl, hid b', (b'.cell (World.block_lt_of_cell? _ _ g1)).trans g1, (b'.cell (World.block_lt_of_cell? _ _ g2)).trans g2⟩)
      have hki : (k : Int) < (xs.length : Int) := by omega
      clear r1 r2 htk
      go_wp2
      (go_region_held3 (fun w' => w'.cell? ⟨b1, o1 + k, none⟩ = some (.slice a1' xs[k].length c1') ∧ w'.cell? ⟨b2, o2 + k, none⟩ = some (.slice a2' xs[k].length c2')) (go_keep) (first
        | (go_at_call 142; refine HQ.out.mono ?_; rintro e w2 ⟨rfl, hb2, x0, x1⟩)))
      have HB2 := hid (below_chain HB.out hb2.out)
      go_wp2
      go_roundw
      case rel => exact ⟨k + 1, by omega, by go_num, HB2.out⟩
      case measure => simp [intOf]; omega
    · obtain rfl : k = xs.length := by omega
      go_wp2
      go_ret
      exact ⟨rfl, HB.out⟩
end Go.Proofs.YtfaehioeepolhaaGreat
namespace Go.Proofs.YtfaehioeepolhaaGreat
end Go.Proofs.YtfaehioeepolhaaGreat
namespace Go.Proofs.YtfaehioeepolhaaGreat
open Go.RowKit
def num : List Nat → Nat
  | [] => 0
  | y :: ys => y + 256 * num ys
theorem wr32 (n : Int) : wrap32 n = IntKind.i32.wrap n := by
  unfold wrap32; simp [IntKind.wrap, IntKind.bits, IntKind.signed]; split <;> omega
theorem wr64 (n : Int) : wrap64 n = IntKind.i64.wrap n := by
  unfold wrap64; simp [IntKind.wrap, IntKind.bits, IntKind.signed]; split <;> omega
end Go.Proofs.YtfaehioeepolhaaGreat
