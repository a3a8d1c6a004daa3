import Derived.Test.YtcljakdcejhfiaaJUnpackInts22
import Derived.Test.YtcljakdcejhfiaaJUnpackInts11
namespace Go.Proofs.Ytcljakdcejhfiaa
open Go.RowKit
set_option maxHeartbeats 400000 in
theorem uas_bad_i64 (a : Option Addr) (cap : Nat) (xs : List Nat) (w : World) (h : xs.length % 8 ≠ 0) (_hl : xs.length ≤ 1099511627776) :
    Calls Try.prog 44 #[.slice a xs.length cap, .int .i64 8] w (UniPost w ([], 3)) := by
  have hd : ((xs.length : Int) % 8 != 0) = true := by simp; omega
  clear h
  go_enter Try.func44, Try.ntmps44
  go_wp2
  go_ret2
  exact uniPost_nil _ _
set_option maxHeartbeats 1000000 in
theorem uas_ok_i64 (a : Option Addr) (cap : Nat) (xs : List Nat) (w : World) (hr : Rd w a (byt xs)) (hx : ∀ x ∈ xs, x < 256) (h : xs.length % 8 = 0) (hcap : xs.length ≤ cap) (hl : xs.length ≤ 1099511627776) :
    Calls Try.prog 44 #[.slice a xs.length cap, .int .i64 8] w (UniPost w (uniL 8 .i64 xs, 0)) := by
  obtain ⟨i0, hi, hz0, hz1, hz2⟩ := info_parts infoInt'
  have hd : ((xs.length : Int) % 8 != 0) = false := by simp; omega
  obtain ⟨q, hq⟩ : ∃ q, q = xs.length / 8 := ⟨_, rfl⟩
  have hq1 : 8 * q = xs.length := by omega
  have HQ := hid hq
  have HQ1 := hid hq1
  have hq2 : 8 * q ≤ xs.length := by omega
  clear hq hq1
  have H := hid h
  have HR := hid hr
  clear h hr
  go_enter Try.func44, Try.ntmps44
  go_wp2_with (first | (at_make; refine wpList_make_full _ rfl (.tmp 16) (.tmp 16) 38 rfl w.heap.size 3 i0 (.int .i64 0) 1 Try.underlying38 hi hz0 hz1 .i64 .i64 _ _ q rfl rfl (by have := HQ1.out; omega) (by have := HQ1.out; omega) (by rw [hz2]; omega) (by unfold maxLen; omega) (by simp) ?_))
  intro w1 ho hg1
  have hb1 : Below w.heap.size w w1 := (Below.refl _ w).grown hg1 (Nat.le_refl _) (by intro k h; cases h)
  clear hg1 hi hz0 hz1 hz2 hd
  go_wp2
  go_loopw [20] (fun i wr => ∃ k : Nat, k ≤ q ∧ i = .int .i64 k ∧ wr.ownsRow w.heap.size 3 1 (.slice (some ⟨w.heap.size, 0, none⟩) q q) q ((ints (uniL 8 .i64 xs)).take k ++ (List.replicate q (Value.int .i64 0)).drop k) ∧ Below w.heap.size w wr) (fun i _ => q - (intOf i).toNat)
  case atStart => exact ⟨0, Nat.zero_le _, rfl, by simpa [made_list] using ho, hb1⟩
  case round =>
    obtain ⟨k, hk, rfl, how, hbe⟩ := hrel
    clear ho hb1
    have hlen : (ints (uniL 8 .i64 xs)).length = q := by rw [ints_len, uniL_len, ← HQ.out]
    by_cases hlt : k < q
    · have hin : 8 * k + 8 ≤ xs.length := by omega
      obtain ⟨b, off, rfl, hcb⟩ : ∃ b off, a = some ⟨b, off, none⟩ ∧ ∀ i, (h : i < xs.length) → wr.cell? ⟨b, off + i, none⟩ = some (.int .u8 (xs[i] : Int)) := by
        rcases (HR.out.later hbe) with h0 | ⟨b, off, rfl, hcb⟩
        · have : (byt xs).length = 0 := by rw [h0]; rfl
          rw [byt_len] at this; omega
        · exact ⟨b, off, rfl, rdByte hcb⟩
      have HC := hid hcb
      have hfz := how.frozenAt k
      obtain ⟨o, hco⟩ := own_cell how hlt
      have hki : (k : Int) < (q : Int) := by omega
      have HRR := hid (fill_round hlen (by simp) (show (ints (uniL 8 .i64 xs))[k]? = some (.int .i64 (IntKind.i64.wrap ((num (chunk xs 8 k) : Nat) : Int))) by simp [ints, uniL_at 8 .i64 xs k (by rw [← HQ.out]; exact hlt)]) (Nat.le_refl _) how hbe)
      have hvb := wrapb_i64 ((num (chunk xs 8 k) : Nat) : Int)
      clear how hbe hlen hcb
      go_wp2_with fail
      refine (readc_i64 b off _ _ _ k xs wr HC.out hx hin (by omega) (by omega)).mono ?_
      rintro e wr ⟨rfl, rfl⟩
      generalize IntKind.i64.wrap ((num (chunk xs 8 k) : Nat) : Int) = V at *
      obtain ⟨hv1, hv2⟩ := hvb
      go_wp2
      go_roundw
      case rel => exact ⟨k + 1, by omega, by go_num, HRR.out.1, HRR.out.2⟩
      case measure => simp [intOf]; omega
    · obtain rfl : k = q := by omega
      rw [fill_done hlen (by simp)] at how
      have HL : Hid ((uniL 8 .i64 xs).length = k) := hid (by rw [uniL_len, ← HQ.out])
      clear hlen
      go_wp2
      go_ret2
      exact uniPost_mk HL.out how hbe
theorem uas_i64 (a : Option Addr) (cap : Nat) (xs : List Nat) (w : World) (hr : Rd w a (byt xs)) (hx : ∀ x ∈ xs, x < 256) (hcap : xs.length ≤ cap) (hl : xs.length ≤ 1099511627776) :
    Calls Try.prog 44 #[.slice a xs.length cap, .int .i64 8] w (UniPost w (uniR 8 .i64 xs)) := by
  by_cases h : xs.length % 8 = 0
  · rw [uniR_ok h]; exact uas_ok_i64 a cap xs w hr hx h hcap hl
  · rw [uniR_bad h]; exact uas_bad_i64 a cap xs w h hl
end Go.Proofs.Ytcljakdcejhfiaa
