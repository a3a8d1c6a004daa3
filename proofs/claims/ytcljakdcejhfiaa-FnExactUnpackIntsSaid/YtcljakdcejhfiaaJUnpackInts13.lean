import Derived.Test.YtcljakdcejhfiaaJUnpackInts10
import Derived.Test.YtcljakdcejhfiaaJUnpackInts11
namespace Go.Proofs.Ytcljakdcejhfiaa
open Go.RowKit
theorem l1c_i16 (b off off' cap n k : Nat) (xs : List Nat) (w : World) (hc : ∀ i, (h : i < xs.length) → w.cell? ⟨b, off + i, none⟩ = some (.int .u8 (xs[i] : Int))) (hx : ∀ x ∈ xs, x < 256) (hin : 2 * k + 2 ≤ xs.length) (ho : off' = off + 2 * k) (hn : n = 2) :
    Calls Try.prog 40 #[.slice (some ⟨b, off', none⟩) n cap] w fun e w' => e = .returned (.int .i64 (wrap64 ((num (chunk xs 2 k) : Nat) : Int))) ∧ w' = w := by
  subst ho
  have hl := chunk_len hin
  have := l1number_some b (off + 2 * k) cap (chunk xs 2 k) w (fun i h => ?_) (chunk_lt hx) (by omega)
  · rw [hl] at this; rw [hn]; exact this
  · have h2 : 2 * k + i < xs.length := by omega
    have := hc (2 * k + i) h2
    rw [chunk_at h h2, ← this, Nat.add_assoc]
set_option maxHeartbeats 1000000 in
set_option maxRecDepth 100000 in
theorem specUni_ok_i16 (a : Option Addr) (cap : Nat) (xs : List Nat) (w : World) (hr : Rd w a (byt xs)) (hx : ∀ x ∈ xs, x < 256) (h : xs.length % 2 = 0) (hcap : xs.length ≤ cap) (hl : xs.length ≤ 1099511627776) :
    Calls Try.prog 23 #[.slice a xs.length cap, .int .i64 2] w (UniPost w (uniL 2 .i16 xs, 0)) := by
  obtain ⟨i0, hi, hz0, hz1, hz2⟩ := info_parts infoInt'
  have hd : ((xs.length : Int) % 2 != 0) = false := by simp; omega
  obtain ⟨q, hq⟩ : ∃ q, q = xs.length / 2 := ⟨_, rfl⟩
  have hq1 : 2 * q = xs.length := by omega
  have HQ := hid hq
  have HQ1 := hid hq1
  have hq2 : 2 * q ≤ xs.length := by omega
  have hq3 : xs.length ≤ 2 * q := by omega
  have HR := hid hr
  clear hq hq1 h hr
  go_enter Try.func23, Try.ntmps23
  go_wp2_with fail
  refine (l1width_any 2 w).mono ?_
  rintro e w ⟨rfl, rfl⟩
  go_wp2
  go_loopw [6, 7] (fun v i wr => ∃ j : Nat, j ≤ q ∧ i = .int .i64 ((2 * j : Nat) : Int) ∧ wr.ownsRow w.heap.size 3 1 v j (ints ((uniL 2 .i16 xs).take j)) ∧ Below w.heap.size w wr) (fun _ i _ => xs.length + 8 - (intOf i).toNat)
  case atStart => exact ⟨0, Nat.zero_le _, rfl, by simpa [ints] using World.ownsRow_nil _ _ _ _, Below.refl _ _⟩
  case round =>
    obtain ⟨j, hj, rfl, how, hbe⟩ := hrel
    have HO := hid how
    have HB := hid hbe
    clear how hbe
    by_cases hlt : j < q
    · have hin : 2 * j + 2 ≤ xs.length := by omega
      obtain ⟨b, off, rfl, hcb⟩ : ∃ b off, a = some ⟨b, off, none⟩ ∧ ∀ i, (h : i < xs.length) → wr.cell? ⟨b, off + i, none⟩ = some (.int .u8 (xs[i] : Int)) := by
        rcases (HR.out.later HB.out) with h0 | ⟨b, off, rfl, hcb⟩
        · have : (byt xs).length = 0 := by rw [h0]; rfl
          rw [byt_len] at this; omega
        · exact ⟨b, off, rfl, rdByte hcb⟩
      have HC := hid hcb
      clear hcb
      go_wp2_with fail
      refine (l1c_i16 b off _ _ _ j xs wr HC.out hx hin (by omega) (by omega)).mono ?_
      rintro e wr ⟨rfl, rfl⟩
      obtain ⟨lo, hnum, hlo⟩ := chunk_num hx (by omega) hin
      have hL : xs[2 * j + 2 - 1] < 256 := hx _ (List.getElem_mem _)
      have hlast : wr.cell? ⟨b, off + (2 * j + 1), none⟩ = some (.int .u8 (xs[2 * j + 2 - 1] : Int)) := by
        have h := HC.out (2 * j + 2 - 1) (by omega)
        rwa [show off + (2 * j + 2 - 1) = off + (2 * j + 1) from by omega] at h
      generalize xs[2 * j + 2 - 1] = L at *
      have hN : num (chunk xs 2 j) < 65536 := by rw [hnum]; simp at hlo ⊢; omega
      rw [wrap64_small _ (by omega)]
      have hsg := sign_i16 (num (chunk xs 2 j)) hN
      have hcmp : 32768 ≤ num (chunk xs 2 j) ↔ 128 ≤ L := by rw [hnum]; simp at hlo ⊢; omega
      have HCM := hid hcmp
      have HSG := hid hsg
      clear hnum hlo hsg hcmp
      by_cases hb : 128 ≤ L
      · have HV : Hid ((uniL 2 .i16 xs).take (j + 1) = (uniL 2 .i16 xs).take j ++ [((num (chunk xs 2 j) : Nat) : Int) - 65536]) := hid (by rw [uniL_snoc 2 .i16 xs j (by rw [← HQ.out]; exact hlt), HSG.out, if_pos (HCM.out.2 hb)])
        generalize num (chunk xs 2 j) = N at *
        go_wp2_with (first | (at_builtin; refine wpList_append_own _ rfl _ _ 38 rfl w.heap.size 3 i0 (.int .i64 0) 1 8 Try.underlying38 hi hz0 hz1 hz2 rfl (by decide) _ j _ rfl (HO.out.alloc _) ⟨wr.heap.size, 0, none⟩ 1 1 [.int .i64 ((N : Int) - 65536)] rfl rfl (cell_one_new _ _ _) (one_cell rfl) (by unfold maxLen; omega) (by omega) (by have := HB.out.size; simp; omega) ?_))
        intro v' w1 hown' hgrow _
        have HB1 : Hid (Below w.heap.size w w1) := hid ((HB.out.alloc HB.out.size _).grown hgrow (by have := HB.out.size; simp; omega) (fun k h => (World.ownsRow.lt HO.out k h).1))
        have HO1 : Hid (w1.ownsRow w.heap.size 3 1 v' (j + 1) (ints ((uniL 2 .i16 xs).take (j + 1)))) := hid (by
          rw [HV.out]
          simpa [ints] using hown')
        clear hown' hgrow
        go_wp2
        go_roundw
        case rel => exact ⟨j + 1, by omega, by go_num, HO1.out, HB1.out⟩
        case measure => simp [intOf]; omega
      · have HV : Hid ((uniL 2 .i16 xs).take (j + 1) = (uniL 2 .i16 xs).take j ++ [((num (chunk xs 2 j) : Nat) : Int)]) := hid (by rw [uniL_snoc 2 .i16 xs j (by rw [← HQ.out]; exact hlt), HSG.out, if_neg (fun h => hb (HCM.out.1 h))])
        generalize num (chunk xs 2 j) = N at *
        go_wp2_with (first | (at_builtin; refine wpList_append_own _ rfl _ _ 38 rfl w.heap.size 3 i0 (.int .i64 0) 1 8 Try.underlying38 hi hz0 hz1 hz2 rfl (by decide) _ j _ rfl (HO.out.alloc _) ⟨wr.heap.size, 0, none⟩ 1 1 [.int .i64 (N : Int)] rfl rfl (cell_one_new _ _ _) (one_cell rfl) (by unfold maxLen; omega) (by omega) (by have := HB.out.size; simp; omega) ?_))
        intro v' w1 hown' hgrow _
        have HB1 : Hid (Below w.heap.size w w1) := hid ((HB.out.alloc HB.out.size _).grown hgrow (by have := HB.out.size; simp; omega) (fun k h => (World.ownsRow.lt HO.out k h).1))
        have HO1 : Hid (w1.ownsRow w.heap.size 3 1 v' (j + 1) (ints ((uniL 2 .i16 xs).take (j + 1)))) := hid (by
          rw [HV.out]
          simpa [ints] using hown')
        clear hown' hgrow
        go_wp2
        go_roundw
        case rel => exact ⟨j + 1, by omega, by go_num, HO1.out, HB1.out⟩
        case measure => simp [intOf]; omega
    · obtain rfl : j = q := by omega
      have hO := HO.out
      have HLL : Hid ((uniL 2 .i16 xs).length = j) := hid (by rw [uniL_len, ← HQ.out])
      rw [List.take_of_length_le (by rw [HLL.out]; exact Nat.le_refl _)] at hO
      obtain ⟨a', c', rfl, _⟩ := rd_own hO
      have HO2 := hid hO
      clear hO HO
      go_wp2
      go_ret2
      exact uniPost_mk HLL.out HO2.out HB.out
end Go.Proofs.Ytcljakdcejhfiaa
