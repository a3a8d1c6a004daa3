import Derived.Test.YtcljakdcejhfiaaJPackBits0
import Derived.Test.YtcljakdcejhfiaaJPackBits8
namespace Go.Proofs.Ytcljakdcejhfiaa
open Go.RowKit
theorem infoByteS : (Try.prog.info? 5).map (fun i => (i.zero, i.size, i.bytes)) = some (some (.int .u8 0), 1, 1) := by kernel_rfl
set_option maxHeartbeats 1000000 in
theorem specPack_some (b off cap : Nat) (bs : List Bool) (w : World) (hc : ∀ i, (h : i < bs.length) → w.cell? ⟨b, off + i, none⟩ = some (.bool bs[i])) (hbB : bs ≠ [] → b < w.heap.size) (hn : bs.length ≤ 1099511627776) :
    Calls Try.prog 13 #[.slice (some ⟨b, off, none⟩) bs.length cap] w fun e w' => ∃ v, e = .returned v ∧ w'.ownsRow w.heap.size 5 1 v (nb bs.length) (byt (packed bs)) ∧ Below w.heap.size w w' := by
  obtain ⟨i0, hi, hz0, hz1, hz2⟩ := info_parts infoByteS
  have hnb := nb_le bs.length
  go_enter Try.func13, Try.ntmps13
  go_wp2
  go_loopw [3, 4] (fun v i wr => ∃ j : Nat, j ≤ nb bs.length ∧ i = .int .i64 ((8 * j : Nat) : Int) ∧ wr.ownsRow w.heap.size 5 1 v j (byt ((packed bs).take j)) ∧ Below w.heap.size w wr) (fun _ i _ => bs.length + 8 - (intOf i).toNat)
  case atStart => exact ⟨0, Nat.zero_le _, rfl, by simpa [byt] using World.ownsRow_nil _ _ _ _, Below.refl _ _⟩
  case round =>
    obtain ⟨j, hj, rfl, how, hbe⟩ := hrel
    by_cases hlt : 8 * j < bs.length
    · have hjn : j < nb bs.length := nb_lt.1 hlt
      have HO := hid how
      have HB := hid hbe
      clear how hbe
      have hcx : ∀ i, (h : i < bs.length) → wr.cell? ⟨b, off + i, none⟩ = some (.bool bs[i]) := fun i h => (HB.out.cell (by exact hbB (by intro h; simp [h] at hlt))).trans (hc i h)
      have HC := hid hcx
      clear hcx hc
      go_wp2
      go_loop [5, 6] (fun v k => ∃ m : Nat, m ≤ 8 ∧ k = .int .i64 ((m : Int) - 1) ∧ v = .int .i64 ((hor bs j (8 - m) : Nat) : Int)) (fun _ k => (intOf k + 1).toNat)
      case atStart => exact ⟨8, by omega, rfl, rfl⟩
      case round =>
        obtain ⟨m, hm, rfl, rfl⟩ := hrel
        by_cases h0 : m = 0
        · subst h0
          have hH := hor_lt256 bs j (8 - 0) (by omega)
          have HH : Hid (hor bs j (8 - 0) = low bs j 8) := hid (hor_low bs j)
          generalize hor bs j (8 - 0) = H at *
          go_wp2_with (first | (at_builtin; refine wpList_append_own _ rfl _ _ 22 rfl w.heap.size 5 i0 (.int .u8 0) 1 1 Try.underlying22 hi hz0 hz1 hz2 rfl (by decide) _ j _ rfl (HO.out.alloc _) ⟨wr.heap.size, 0, none⟩ 1 1 [.int .u8 (H : Int)] rfl rfl (cell_one_new _ _ _) (one_cell rfl) (by unfold maxLen; omega) (by omega) (by have := HB.out.size; simp; omega) ?_))
          intro v' w1 hown' hgrow _
          have HB1 : Hid (Below w.heap.size w w1) := hid ((HB.out.alloc HB.out.size _).grown hgrow (by have := HB.out.size; simp; omega) (fun k h => (World.ownsRow.lt HO.out k h).1))
          have HO1 : Hid (w1.ownsRow w.heap.size 5 1 v' (j + 1) (byt ((packed bs).take (j + 1)))) := hid (by
            rw [packed_take_succ bs j hjn, ← HH.out]
            simpa [byt] using hown')
          clear hown' hgrow
          go_wp2
          go_roundw
          case rel => exact ⟨j + 1, by omega, by go_num, HO1.out, HB1.out⟩
          case measure => simp [intOf]; omega
        · obtain ⟨p, rfl⟩ : ∃ p, m = p + 1 := ⟨m - 1, by omega⟩
          rw [show ((p + 1 : Nat) : Int) - 1 = (p : Int) from by omega]
          have HST := hid (hor_step bs j p (by omega))
          have hH := hor_lt256 bs j (8 - (p + 1)) (by omega)
          generalize hor bs j (8 - (p + 1)) = H at *
          by_cases hin : 8 * j + p < bs.length
          · have hcell := HC.out (8 * j + p) hin
            by_cases hbit : bs[8 * j + p] = true
            · have HB1 := hid (bitN_on hin hbit)
              rw [hbit] at hcell
              clear hbit
              go_wp2
              go_round
              case rel => exact ⟨p, by omega, by go_num, by rw [HST.out, HB1.out]; go_num⟩
              case measure => simp [intOf]; omega
            · have hbit : bs[8 * j + p] = false := by simpa using hbit
              have HB1 := hid (bitN_off hin hbit)
              rw [hbit] at hcell
              clear hbit
              go_wp2
              go_round
              case rel => exact ⟨p, by omega, by go_num, by rw [HST.out, HB1.out]; go_num⟩
              case measure => simp [intOf]; omega
          · have HB1 := hid (bitN_out (bs := bs) (i := 8 * j + p) (by omega))
            go_wp2
            go_round
            case rel => exact ⟨p, by omega, by go_num, by rw [HST.out, HB1.out]; go_num⟩
            case measure => simp [intOf]; omega
    · obtain rfl : j = nb bs.length := by have := @nb_lt bs.length j; omega
      rw [← packed_len, List.take_length, packed_len] at how
      go_wp2
      go_ret
      exact ⟨_, rfl, how, hbe⟩
set_option maxHeartbeats 400000 in
theorem specPack_none (a : Option Addr) (cap : Nat) (w : World) :
    Calls Try.prog 13 #[.slice a 0 cap] w fun e w' => ∃ v, e = .returned v ∧ w'.ownsRow w.heap.size 5 1 v 0 [] ∧ Below w.heap.size w w' := by
  go_enter Try.func13, Try.ntmps13
  go_wp2
  refine wp_loop_rounds 1 ?_; rw [rounds_succ]
  go_wp2
  go_ret
  exact ⟨_, rfl, World.ownsRow_nil _ _ _ _, Below.refl _ _⟩
theorem specPack_any (a : Option Addr) (cap : Nat) (bs : List Bool) (w : World) (hr : Rd w a (bls bs)) (hn : bs.length ≤ 1099511627776) :
    Calls Try.prog 13 #[.slice a bs.length cap] w fun e w' => ∃ a' c', e = .returned (.slice a' (nb bs.length) c') ∧ w'.ownsRow w.heap.size 5 1 (.slice a' (nb bs.length) c') (nb bs.length) (byt (packed bs)) ∧ Rd w' a' (byt (packed bs)) ∧ Below w.heap.size w w' := by
  have hlt := hr.lt
  have key : Calls Try.prog 13 #[.slice a bs.length cap] w fun e w' => ∃ v, e = .returned v ∧ w'.ownsRow w.heap.size 5 1 v (nb bs.length) (byt (packed bs)) ∧ Below w.heap.size w w' := by
    rcases hr with h0 | ⟨b, off, rfl, hc⟩
    · obtain rfl : bs = [] := by simpa [bls] using h0
      exact specPack_none a cap w
    · exact specPack_some b off cap bs w (rdBool hc) (fun h => hlt _ rfl (by simpa [bls] using h)) hn
  refine key.mono ?_
  rintro e w' ⟨v, rfl, ho, hb⟩
  obtain ⟨a', c', rfl, hr'⟩ := rd_own ho
  exact ⟨a', c', rfl, ho, hr', hb⟩
end Go.Proofs.Ytcljakdcejhfiaa
