import Derived.Test.YtcljakdcejhfiabJEncodePacket0
import Derived.Test.YtcljakdcejhfiabJEncodePacket39
import Derived.BigRegion
namespace Go.Proofs.Ytcljakdcejhfiab
open Go.RowKit
set_option maxHeartbeats 400000 in
theorem bytesForBits_any (n : Nat) (w : World) (hn : n ≤ 9223372036854775807) :
    Calls Try.prog 78 #[.int .i64 n] w fun e w' => e = .returned (.int .i64 ((nb n : Nat) : Int)) ∧ w' = w := by
  by_cases h : n % 8 = 0
  · have ht : ((n : Int) % 8 == 0) = true := by simp; omega
    have HN : Hid (((n : Int) / 8) = ((nb n : Nat) : Int)) := hid (by unfold nb; rw [if_pos h]; simp)
    clear h
    go_enter Try.func78, Try.ntmps78
    go_wp2
    go_ret
    exact ⟨ret_int HN.out, rfl⟩
  · have ht : ((n : Int) % 8 == 0) = false := by simp; omega
    have HN : Hid (((n : Int) / 8 + 1) = ((nb n : Nat) : Int)) := hid (by unfold nb; rw [if_neg h]; simp)
    clear h
    go_enter Try.func78, Try.ntmps78
    go_wp2
    go_ret
    exact ⟨ret_int HN.out, rfl⟩
theorem infoByte' : (Try.prog.info? 5).map (fun i => (i.zero, i.size, i.bytes)) = some (some (.int .u8 0), 1, 1) := by kernel_rfl
set_option maxHeartbeats 1000000 in
theorem implPack_some (b off cap : Nat) (bs : List Bool) (w : World) (hc : ∀ i, (h : i < bs.length) → w.cell? ⟨b, off + i, none⟩ = some (.bool bs[i])) (hbB : bs ≠ [] → b < w.heap.size) (hn : bs.length ≤ 1099511627776) :
    Calls Try.prog 49 #[.slice (some ⟨b, off, none⟩) bs.length cap] w fun e w' => ∃ g, e = .returned (.slice (some ⟨g, 0, none⟩) (nb bs.length) (nb bs.length)) ∧ w'.ownsRow w.heap.size 5 1 (.slice (some ⟨g, 0, none⟩) (nb bs.length) (nb bs.length)) (nb bs.length) (byt (packed bs)) ∧ Below w.heap.size w w' := by
  obtain ⟨i0, hi, hz0, hz1, hz2⟩ := info_parts infoByte'
  have hnb := nb_le bs.length
  go_enter Try.func49, Try.ntmps49
  go_wp2_with fail
  refine (bytesForBits_any bs.length w (by omega)).mono ?_
  rintro e w ⟨rfl, rfl⟩
  go_wp2_with (first | (at_make; refine wpList_make_full _ rfl (.tmp 8) (.tmp 8) 24 rfl w.heap.size 5 i0 (.int .u8 0) 1 Try.underlying24 hi hz0 hz1 .i64 .i64 _ _ (nb bs.length) rfl rfl rfl rfl (by rw [hz2]; omega) (by unfold maxLen; omega) (by simp) ?_))
  intro w1 ho hg1
  have hb1 : Below w.heap.size w w1 := (Below.refl _ w).grown hg1 (Nat.le_refl _) (by intro k h; cases h)
  clear hg1 hi hz0 hz1 hz2
  go_wp2
  go_loopw [12] (fun i wr => ∃ k : Nat, k ≤ bs.length ∧ i = .int .i64 k ∧ wr.ownsRow w.heap.size 5 1 (.slice (some ⟨w.heap.size, 0, none⟩) (nb bs.length) (nb bs.length)) (nb bs.length) (byt (packedTo bs k)) ∧ Below w.heap.size w wr) (fun i _ => bs.length - (intOf i).toNat)
  case atStart => exact ⟨0, Nat.zero_le _, rfl, by rw [packedTo_zero]; simpa [made_list, byt] using ho, hb1⟩
  case round =>
    obtain ⟨k, hk, rfl, how, hbe⟩ := hrel
    clear ho hb1
    by_cases hlt : k < bs.length
    · have hcx : wr.cell? ⟨b, off + k, none⟩ = some (.bool bs[k]) := (hbe.cell (by exact hbB (by intro h; simp [h] at hlt))).trans (hc k hlt)
      by_cases hbit : bs[k] = true
      · rw [hbit] at hcx
        have hk8 : k / 8 < nb bs.length := by unfold nb; split <;> omega
        have hfz := how.frozenAt (k / 8)
        have hcell : wr.cell? ⟨w.heap.size, k / 8, none⟩ = some (.int .u8 ((low bs (k / 8) (k % 8) : Nat) : Int)) := by
          rw [how.cellAt (k / 8) (by omega)]
          have := packedTo_at bs k (k / 8) hk8
          rw [show min 8 (k - 8 * (k / 8)) = k % 8 from by omega] at this
          simp [byt, this]
        have hor := or_up bs k (by simp [hlt, hbit])
        have HST : Hid ((wr.setCell ⟨w.heap.size, k / 8, none⟩ (.int .u8 (bits .or .u8 ((low bs (k / 8) (k % 8) : Nat) : Int) ((2 : Int) ^ (k % 8) % 256)))).ownsRow w.heap.size 5 1 (.slice (some ⟨w.heap.size, 0, none⟩) (nb bs.length) (nb bs.length)) (nb bs.length) (byt (packedTo bs (k + 1)))) := hid (by
          have h := (World.ownsRow.stored how (k / 8) (.int .u8 (bits .or .u8 ((low bs (k / 8) (k % 8) : Nat) : Int) ((2 : Int) ^ (k % 8) % 256)))).1
          have e : (byt (packedTo bs k)).set (k / 8) (.int .u8 (bits .or .u8 ((low bs (k / 8) (k % 8) : Nat) : Int) ((2 : Int) ^ (k % 8) % 256))) = byt (packedTo bs (k + 1)) := by
            rw [hor, packedTo_succ bs k hlt]; simp [byt, List.map_set]
          rwa [e] at h)
        have HB := hid hbe
        have hki : (k : Int) < (bs.length : Int) := by omega
        have hl8 := low_lt256 bs (k / 8) (k % 8) (by omega)
        clear hor how hbe hbit hc
        generalize low bs (k / 8) (k % 8) = L at *
        go_wp2
        go_region
        go_wp2
        go_roundw
        case rel => exact ⟨k + 1, by omega, by go_num, HST.out, (HB.out.setCell (by simp) _).drew⟩
        case measure => simp [intOf]; omega
      · have hbit : bs[k] = false := by simpa using hbit
        rw [hbit] at hcx
        have HS := hid (packedTo_skip bs k hlt (by simp [hlt, hbit]))
        have HB := hid hbe
        have HO := hid how
        have hki : (k : Int) < (bs.length : Int) := by omega
        clear how hbe hbit hc
        go_wp2
        go_roundw
        case rel => exact ⟨k + 1, by omega, by go_num, by rw [HS.out]; exact HO.out, HB.out⟩
        case measure => simp [intOf]; omega
    · obtain rfl : k = bs.length := by omega
      rw [packedTo_all] at how
      go_wp2
      go_ret
      exact ⟨_, rfl, how, hbe⟩
set_option maxHeartbeats 400000 in
theorem implPack_none (a : Option Addr) (cap : Nat) (w : World) :
    Calls Try.prog 49 #[.slice a 0 cap] w fun e w' => ∃ g, e = .returned (.slice (some ⟨g, 0, none⟩) 0 0) ∧ w'.ownsRow w.heap.size 5 1 (.slice (some ⟨g, 0, none⟩) 0 0) 0 [] ∧ Below w.heap.size w w' := by
  obtain ⟨i0, hi, hz0, hz1, hz2⟩ := info_parts infoByte'
  go_enter Try.func49, Try.ntmps49
  go_wp2_with fail
  refine (bytesForBits_any 0 w (by omega)).mono ?_
  rintro e w ⟨rfl, rfl⟩
  have h0 : nb 0 = 0 := rfl
  rw [h0]
  go_wp2_with (first | (at_make; refine wpList_make_full _ rfl (.tmp 8) (.tmp 8) 24 rfl w.heap.size 5 i0 (.int .u8 0) 1 Try.underlying24 hi hz0 hz1 .i64 .i64 _ _ 0 rfl rfl rfl rfl (by omega) (by unfold maxLen; omega) (by simp) ?_))
  intro w1 ho hg1
  have hb1 : Below w.heap.size w w1 := (Below.refl _ w).grown hg1 (Nat.le_refl _) (by intro k h; cases h)
  clear hg1 hi hz0 hz1 hz2
  go_wp2
  refine wp_loop_rounds 1 ?_; rw [rounds_succ]
  go_wp2
  go_ret
  exact ⟨_, rfl, by simpa [made_list] using ho, hb1⟩
theorem implPack_any (a : Option Addr) (cap : Nat) (bs : List Bool) (w : World) (hr : Rd w a (bls bs)) (hn : bs.length ≤ 1099511627776) :
    Calls Try.prog 49 #[.slice a bs.length cap] w fun e w' => ∃ g, e = .returned (.slice (some ⟨g, 0, none⟩) (nb bs.length) (nb bs.length)) ∧ w'.ownsRow w.heap.size 5 1 (.slice (some ⟨g, 0, none⟩) (nb bs.length) (nb bs.length)) (nb bs.length) (byt (packed bs)) ∧ Below w.heap.size w w' := by
  have hlt := hr.lt
  rcases hr with h0 | ⟨b, off, rfl, hc⟩
  · obtain rfl : bs = [] := by simpa [bls] using h0
    exact implPack_none a cap w
  · exact implPack_some b off cap bs w (rdBool hc) (fun h => hlt _ rfl (by simpa [bls] using h)) hn
end Go.Proofs.Ytcljakdcejhfiab
