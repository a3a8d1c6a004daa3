import Derived.Test.YtcljakdcejhfiabJJoinAligned2
import Derived.Test.YtcljakdcejhfiabJJoinAligned3
import Derived.Test.YtcljakdcejhfiabJJoinAligned4
namespace Go.Proofs.Ytcljakdcejhfiab
open Go.RowKit
set_option maxHeartbeats 400000 in
theorem szByteS_any (a : Option Addr) (n cap : Nat) (l : Int) (w : World) (hn : n ≤ maxLen) (h0 : 0 ≤ l) (h1 : l ≤ 1048576) :
    Calls Try.prog 41 #[.slice a n cap, .int .i64 l] w fun e w' => e = .returned (.int .i64 (if l - n < 0 then -1 else l - n)) ∧ w' = w := by
  unfold maxLen at hn
  by_cases h : l - n < 0
  · rw [if_pos h]
    go_enter Try.func41, Try.ntmps41
    go_wp2
    go_ret
    exact ⟨rfl, rfl⟩
  · rw [if_neg h]
    go_enter Try.func41, Try.ntmps41
    go_wp2
    go_ret
    exact ⟨rfl, rfl⟩
def RdSSB (w : World) (a : Option Addr) (xss : List (List Nat)) : Prop := RdSS w a xss ∧ xss.length ≤ maxLen ∧ ∀ ys ∈ xss, ys.length ≤ maxLen
set_option maxHeartbeats 1000000 in
theorem szByteSS_any (a : Option Addr) (cap : Nat) (xss : List (List Nat)) (w : World) (hr : RdSSB w a xss) :
    Calls Try.prog 9 #[.slice a xss.length cap, .int .i64 1048576] w fun e w' => ∃ L : Int, e = .returned (.int .i64 L) ∧ (0 ≤ L → xss.length ≤ 1048576 ∧ tot xss ≤ 1048576) ∧ w' = w := by
  obtain ⟨hr, hl, hall⟩ := hr
  unfold maxLen at hl
  have HR := hid hr
  have HA := hid hall
  clear hr hall
  by_cases hbig : 1048576 < xss.length
  · go_enter Try.func9, Try.ntmps9
    go_wp2
    go_ret
    exact ⟨-1, rfl, fun h => by omega, rfl⟩
  · have hd : ¬ (1048576 - (xss.length : Int) < 0) := by omega
    go_enter Try.func9, Try.ntmps9
    go_wp2
    go_loop [1, 5] (fun l i => ∃ k : Nat, k ≤ xss.length ∧ i = .int .i64 k ∧ (xss.length + tot (xss.take k) ≤ 1048576) ∧ l = .int .i64 (1048576 - (xss.length : Int) - (tot (xss.take k) : Int))) (fun _ i => xss.length - (intOf i).toNat)
    case atStart => exact ⟨0, Nat.zero_le _, rfl, by simp [tot]; omega, by simp [tot]⟩
    case round =>
      obtain ⟨k, hk, rfl, hle, rfl⟩ := hrel
      by_cases hlt : k < xss.length
      · obtain ⟨b, off, a', c', rfl, hcb, hrr, -⟩ := HR.out.at_ hlt
        have hlk := HA.out _ (List.getElem_mem hlt)
        have HLK := hid hlk
        have hki : (k : Int) < (xss.length : Int) := by omega
        have HTS := hid (tot_snoc xss k hlt)
        clear hrr hlk
        generalize tot (xss.take k) = t at *
        go_wp2_with fail
        refine (szByteS_any a' _ c' _ w HLK.out (by omega) (by omega)).mono ?_
        rintro e w ⟨rfl, rfl⟩
        by_cases hneg : 1048576 - (xss.length : Int) - (t : Int) - (xss[k].length : Int) < 0
        · rw [if_pos hneg]
          go_wp2
          go_ret
          exact ⟨-1, rfl, fun h => by omega, rfl⟩
        · rw [if_neg hneg]
          go_wp2
          go_round
          case rel => exact ⟨k + 1, by omega, by go_num, by rw [HTS.out]; omega, by rw [HTS.out]; go_num⟩
          case measure => simp [intOf]; omega
      · obtain rfl : k = xss.length := by omega
        rw [List.take_length] at *
        go_wp2
        go_ret
        exact ⟨_, rfl, fun _ => by omega, rfl⟩
set_option maxHeartbeats 1000000 in
theorem eqByteSS_any (a1 a2 : Option Addr) (c1 c2 : Nat) (xss : List (List Nat)) (w : World) (h1 : RdSS w a1 xss) (h2 : RdSS w a2 xss) (hn : xss.length ≤ 1048576) (ht : tot xss ≤ 1048576) :
    Calls Try.prog 14 #[.slice a1 xss.length c1, .slice a2 xss.length c2] w fun e w' => e = .returned (.bool true) ∧ Below w.heap.size w w' := by
  have H1 := hid h1
  have H2 := hid h2
  clear h1 h2
  go_enter Try.func14, Try.ntmps14
  go_wp2
  go_loopw [5] (fun i wr => ∃ k : Nat, k ≤ xss.length ∧ i = .int .i64 k ∧ Below w.heap.size w wr) (fun i _ => xss.length - (intOf i).toNat)
  case atStart => exact ⟨0, Nat.zero_le _, rfl, Below.refl _ _⟩
  case round =>
    obtain ⟨k, hk, rfl, hbe⟩ := hrel
    have HB := hid hbe
    clear hbe
    by_cases hlt : k < xss.length
    · obtain ⟨b1, o1, a1', c1', rfl, g1, r1, -⟩ := (H1.out.later HB.out).at_ hlt
      obtain ⟨b2, o2, a2', c2', rfl, g2, r2, -⟩ := (H2.out.later HB.out).at_ hlt
      have HQ : Hid (∀ n, Calls Try.prog 13 #[.slice a1' xss[k].length c1', .slice a2' xss[k].length c2'] (wr.drewN n) fun e w' => e = .returned (.bool true) ∧ ∃ m, w' = (wr.drewN n).drewN m) := hid (fun n => by
        have hlk := len_le_tot xss k hlt
        exact eqByteS_quiet _ _ _ _ _ xss[k] _ (r1.later (below_drewN (Below.refl _ _) n)) (r2.later (below_drewN (Below.refl _ _) n)) rfl (by omega))
      have hki : (k : Int) < (xss.length : Int) := by omega
      clear r1 r2
      go_wp2
      go_quiet ((go_at_call 13; exact Calls.quiet_of (HQ.out _)))
      go_wp2
      go_roundw
      case rel => exact ⟨k + 1, by omega, by go_num, below_drewN HB.out _⟩
      case measure => simp [intOf]; omega
    · obtain rfl : k = xss.length := by omega
      go_wp2
      go_ret
      exact ⟨rfl, HB.out⟩
def OwnAny (w : World) (B E : Nat) (o : Option Value) (l : Nat) : Prop :=
  ∃ g c us, o = some (.slice (some ⟨g, 0, none⟩) l c) ∧ g < E ∧ w.ownsRow B 5 1 (.slice (some ⟨g, 0, none⟩) l c) l us
theorem OwnAny.marked {w w' : World} {B E l l2 g2 c2 : Nat} {o : Option Value} {us2 us3 : List Value} (h : OwnAny w B E o l) (h2 : w.ownsRow B 5 1 (.slice (some ⟨g2, 0, none⟩) l2 c2) l2 us2) (h3 : w'.ownsRow B 5 1 (.slice (some ⟨g2, 0, none⟩) l2 c2) l2 us3) (hg : w.grownBy w' (some g2)) : OwnAny w' B E o l := by
  obtain ⟨g, c, us, e, hE, ho⟩ := h
  by_cases eg : g = g2
  · subst eg
    rcases ho.2 with ⟨h', _⟩ | ⟨g', cap', cur, h', hB, hh, hn, hm, hs, _⟩
    · simp at h'
    simp only [Value.slice.injEq, Option.some.injEq, Addr.mk.injEq, and_true, true_and] at h'
    obtain ⟨rfl, rfl⟩ := h'
    rcases h2.2 with ⟨h', _⟩ | ⟨g', cap', cur2, h', _, hh2, _, _, hs2, _⟩
    · simp at h'
    simp only [Value.slice.injEq, Option.some.injEq, Addr.mk.injEq, and_true, true_and] at h'
    obtain ⟨rfl, rfl⟩ := h'
    rcases h3.2 with ⟨h', _⟩ | ⟨g', cap', cur3, h', _, hh3, _, _, hs3, _⟩
    · simp at h'
    simp only [Value.slice.injEq, Option.some.injEq, Addr.mk.injEq, and_true, true_and] at h'
    obtain ⟨rfl, rfl⟩ := h'
    rw [hh] at hh2
    simp at hh2
    subst hh2
    refine ⟨g, c, cur3.toList.take l, e, hE, ?_, .inr ⟨g, c, cur3, rfl, hB, hh3, hn, hm, by omega, by simp⟩⟩
    simp; omega
  · exact ⟨g, c, us, e, hE, own_marked ho hg (fun k p hk hp => by simp [Value.ownBlock] at hk hp; omega)⟩
set_option maxHeartbeats 1000000 in
theorem markByteSS_any (B E n cap g m : Nat) (xss : List (List Nat)) (w : World) (ho : OwnSS w B E (.slice (some ⟨g, 0, none⟩) n cap) xss) (hl : xss.length = n) (hn : n ≤ 1048576) (ht : tot xss ≤ 1048576) (hm : m ≤ 1048576) :
    Calls Try.prog 15 #[.slice (some ⟨g, 0, none⟩) n cap, .int .i64 m] w fun e w' => ∃ q : Nat, e = .returned (.int .i64 (q : Int)) ∧ Fr B E w w' := by
  subst hl
  obtain ⟨vs, hvo, hvi⟩ := ho
  have hvl : vs.length = xss.length := by have := hvo.1; omega
  have HVL := hid hvl
  have HV : Hid (∀ i, (h : i < xss.length) → OwnAny w B E vs[i]? xss[i].length) := hid (fun i h => by
    obtain ⟨g', c', e, hE, r⟩ := hvi i h
    exact ⟨g', c', _, e, hE, r⟩)
  have HO := hid hvo
  clear hvo hvi hvl
  go_enter Try.func15, Try.ntmps15
  go_wp2
  go_loopw [1, 5] (fun q i wr => ∃ k : Nat, k ≤ xss.length ∧ i = .int .i64 k ∧ q = .int .i64 ((m + tot (xss.take k) : Nat) : Int) ∧ wr.ownsRow B 24 1 (.slice (some ⟨g, 0, none⟩) xss.length cap) xss.length vs ∧ (∀ i, (h : i < xss.length) → OwnAny wr B E vs[i]? xss[i].length) ∧ Fr B E w wr) (fun _ i _ => xss.length - (intOf i).toNat)
  case atStart => exact ⟨0, Nat.zero_le _, rfl, by simp [tot], HO.out, HV.out, Fr.refl _ _ _⟩
  case round =>
    obtain ⟨k, hk, rfl, rfl, how, hia, hbe⟩ := hrel
    have HO1 := hid how
    have HI := hid hia
    have HB := hid hbe
    clear how hia hbe
    by_cases hlt : k < xss.length
    · obtain ⟨gk, ck, us, ek, hE, ok⟩ := HI.out k hlt
      have hcell : wr.cell? ⟨g, k, none⟩ = some (.slice (some ⟨gk, 0, none⟩) xss[k].length ck) := by
        rw [HO1.out.cellAt k (by omega)]; exact ek
      have HOK := hid ok
      have hlk := len_le_tot xss k hlt
      have htk := tot_take xss k
      have HTS := hid (tot_snoc xss k hlt)
      have hki : (k : Int) < (xss.length : Int) := by omega
      clear ek ok
      generalize tot (xss.take k) = t at *
      go_wp2_with fail
      refine (markByteS_some B gk _ ck _ us wr HOK.out (by omega) (by omega)).mono ?_
      rintro e w2 ⟨rfl, o2, gr2⟩
      have hne : g ≠ gk := by
        rcases HO1.out.2 with ⟨h', _⟩ | ⟨g', cap', cur, h', _, hh, _⟩
        · simp at h'
        simp only [Value.slice.injEq, Option.some.injEq, Addr.mk.injEq, and_true, true_and] at h'
        obtain ⟨rfl, rfl⟩ := h'
        rcases HOK.out.2 with ⟨h', _⟩ | ⟨g', cap', cur2, h', _, hh2, _⟩
        · simp at h'
        simp only [Value.slice.injEq, Option.some.injEq, Addr.mk.injEq, and_true, true_and] at h'
        obtain ⟨rfl, rfl⟩ := h'
        intro e
        subst e
        rw [hh] at hh2
        simp at hh2
      have HO2 := hid (own_marked HO1.out gr2 (fun q p hq hp => by simp [Value.ownBlock] at hq hp; omega))
      have HI2 : Hid (∀ i, (h : i < xss.length) → OwnAny w2 B E vs[i]? xss[i].length) := hid (fun i h => (HI.out i h).marked HOK.out o2 gr2)
      have HB2 := hid (HB.out.grown gr2 (own_in HOK.out (g := gk) rfl).1 hE)
      clear o2 gr2 hne
      go_wp2
      go_roundw
      case rel => exact ⟨k + 1, by omega, by go_num, by rw [HTS.out]; go_num, HO2.out, HI2.out, HB2.out⟩
      case measure => simp [intOf]; omega
    · obtain rfl : k = xss.length := by omega
      go_wp2
      go_ret
      exact ⟨_, rfl, HB.out⟩
end Go.Proofs.Ytcljakdcejhfiab
