import Derived.Test.YtfaehioeepolhaaGreatJOpenSender2
import Derived.Test.YtfaehioeepolhaaGreatJOpenSender3
import Derived.Deep.RegionHeld3
namespace Go.Proofs.YtfaehioeepolhaaGreat
open Go.RowKit
set_option maxHeartbeats 1000000 in
theorem eqSS_any (a1 a2 : Option Addr) (c1 c2 : Nat) (xs : List (List Nat)) (w : World) (h1 : RdSl cSS w xs (.slice a1 xs.length c1)) (h2 : RdSl cSS w xs (.slice a2 xs.length c2)) (ht : totL List.length xs ≤ 1048576) :
    Calls Tryz.prog 142 #[.slice a1 xs.length c1, .slice a2 xs.length c2] w fun e w' => e = .returned (.bool true) ∧ Below w.heap.size w w' := by
  have H1 := hid h1
  have H2 := hid h2
  clear h1 h2
  have hlen : xs.length ≤ 1048576 := by unfold totL at ht; omega
  go_enter Tryz.func142, Tryz.ntmps142
  go_wp2
  go_loopw [5] (fun i wr => ∃ k : Nat, k ≤ xs.length ∧ i = .int .i64 k ∧ Below w.heap.size w wr) (fun i _ => xs.length - (intOf i).toNat)
  case atStart => exact ⟨0, Nat.zero_le _, rfl, Below.refl _ _⟩
  case round =>
    obtain ⟨k, hk, rfl, hbe⟩ := hrel
    have HB := hid hbe
    clear hbe
    by_cases hlt : k < xs.length
    · obtain ⟨b1, o1, a1', c1', rfl, g1, r1⟩ := (H1.out.later HB.out).row hlt
      obtain ⟨b2, o2, a2', c2', rfl, g2, r2⟩ := (H2.out.later HB.out).row hlt
      obtain ⟨_, _, e', -, -, -, q1, -⟩ := r1.bytes
      simp only [Value.slice.injEq] at e'
      obtain ⟨rfl, -, rfl⟩ := e'
      obtain ⟨_, _, e', -, -, -, q2, -⟩ := r2.bytes
      simp only [Value.slice.injEq] at e'
      obtain ⟨rfl, -, rfl⟩ := e'
      have HQ : Hid (∀ n, Calls Tryz.prog 97 #[.slice a1' xs[k].length c1', .slice a2' xs[k].length c2'] (wr.drewN n) fun e w' => e = .returned (.bool true) ∧ ∃ m, w' = (wr.drewN n).drewN m) := hid (fun n => by
        have hlk := tot_at List.length xs k hlt
        unfold totL at ht
        exact eqByteS_quiet _ _ _ _ _ xs[k] _ (q1.later (below_drewN (Below.refl _ _) n)) (q2.later (below_drewN (Below.refl _ _) n)) rfl (by omega))
      have hki : (k : Int) < (xs.length : Int) := by omega
      clear r1 r2 q1 q2
      go_wp2
      go_quiet ((go_at_call 97; exact Calls.quiet_of (HQ.out _)))
      go_wp2
      go_roundw
      case rel => exact ⟨k + 1, by omega, by go_num, below_drewN HB.out _⟩
      case measure => simp [intOf]; omega
    · obtain rfl : k = xs.length := by omega
      go_wp2
      go_ret
      exact ⟨rfl, HB.out⟩
end Go.Proofs.YtfaehioeepolhaaGreat
namespace Go.Proofs.YtfaehioeepolhaaGreat
open Go.RowKit
abbrev cSSS : Cod (List (List Nat)) := cSl cSS 23
def tS (x : List (List Nat)) : Nat := totL List.length x
theorem RdSl.row3 {w : World} {xss : List (List (List Nat))} {a : Option Addr} {n cap k : Nat} (h : RdSl cSSS w xss (.slice a n cap)) (hk : k < xss.length) :
    ∃ b off a' c', a = some ⟨b, off, none⟩ ∧ w.cell? ⟨b, off + k, none⟩ = some (.slice a' xss[k].length c') ∧ RdSl cSS w xss[k] (.slice a' xss[k].length c') := by
  obtain ⟨b, off, v, rfl, ⟨v', e, hv⟩, hc⟩ := h.at1 rfl hk
  simp only [List.cons.injEq, and_true] at e
  subst e
  obtain ⟨a', c', rfl, r⟩ := id hv
  exact ⟨b, off, a', c', rfl, hc, hv⟩
set_option maxHeartbeats 1000000 in
theorem eqSSS_any (a1 a2 : Option Addr) (c1 c2 : Nat) (xs : List (List (List Nat))) (w : World) (h1 : RdSl cSSS w xs (.slice a1 xs.length c1)) (h2 : RdSl cSSS w xs (.slice a2 xs.length c2)) (ht : totL tS xs ≤ 1048576) :
    Calls Tryz.prog 98 #[.slice a1 xs.length c1, .slice a2 xs.length c2] w fun e w' => e = .returned (.bool true) ∧ Below w.heap.size w w' := by
  have H1 := hid h1
  have H2 := hid h2
  clear h1 h2
  have hlen : xs.length ≤ 1048576 := by unfold totL at ht; omega
  go_enter Tryz.func98, Tryz.ntmps98
  go_wp2
  go_loopw [5] (fun i wr => ∃ k : Nat, k ≤ xs.length ∧ i = .int .i64 k ∧ Below w.heap.size w wr) (fun i _ => xs.length - (intOf i).toNat)
  case atStart => exact ⟨0, Nat.zero_le _, rfl, Below.refl _ _⟩
  case round =>
    obtain ⟨k, hk, rfl, hbe⟩ := hrel
    have HB := hid hbe
    clear hbe
    by_cases hlt : k < xs.length
    · obtain ⟨b1, o1, a1', c1', rfl, g1, r1⟩ := (H1.out.later HB.out).row3 hlt
      obtain ⟨b2, o2, a2', c2', rfl, g2, r2⟩ := (H2.out.later HB.out).row3 hlt
      have htk : totL List.length xs[k] ≤ 1048576 := by have h := tot_at tS xs k hlt; unfold totL at ht; exact Nat.le_trans h (by omega)
      have HQ : Hid (Calls Tryz.prog 142 #[.slice a1' xs[k].length c1', .slice a2' xs[k].length c2'] wr.drew fun e w' => e = .returned (.bool true) ∧ Hid (Below wr.heap.size wr w') ∧ w'.cell? ⟨b1, o1 + k, none⟩ = some (.slice a1' xs[k].length c1') ∧ w'.cell? ⟨b2, o2 + k, none⟩ = some (.slice a2' xs[k].length c2')) := hid (by
        refine (eqSS_any a1' a2' c1' c2' xs[k] wr.drew (r1.later (Below.refl _ _).drew) (r2.later (Below.refl _ _).drew) htk).mono ?_
        rintro e w' ⟨rfl, b⟩
        have b' : Below wr.heap.size wr w' := (Below.refl _ _).drew.trans b
        exact ⟨rfl, hid b', (b'.cell (World.block_lt_of_cell? _ _ g1)).trans g1, (b'.cell (World.block_lt_of_cell? _ _ g2)).trans g2⟩)
      have hki : (k : Int) < (xs.length : Int) := by omega
      clear r1 r2 htk
      go_wp2
      (go_region_held3 (fun w' => w'.cell? ⟨b1, o1 + k, none⟩ = some (.slice a1' xs[k].length c1') ∧ w'.cell? ⟨b2, o2 + k, none⟩ = some (.slice a2' xs[k].length c2')) (go_keep) (first
        | (go_at_call 142; refine HQ.out.mono ?_; rintro e w2 ⟨rfl, hb2, x0, x1⟩)))
      have HB2 := hid (below_chain HB.out hb2.out)
      go_wp2
      go_roundw
      case rel => exact ⟨k + 1, by omega, by go_num, HB2.out⟩
      case measure => simp [intOf]; omega
    · obtain rfl : k = xs.length := by omega
      go_wp2
      go_ret
      exact ⟨rfl, HB.out⟩
end Go.Proofs.YtfaehioeepolhaaGreat
