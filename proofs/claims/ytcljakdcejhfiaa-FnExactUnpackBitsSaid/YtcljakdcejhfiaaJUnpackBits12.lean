import Derived.Test.YtcljakdcejhfiaaJUnpackBits11
namespace Go.Proofs.Ytcljakdcejhfiaa
open Go.RowKit
set_option maxHeartbeats 400000 in
theorem specUnb_neg (a : Option Addr) (cap len : Nat) (n : Int) (xs : List Nat) (w : World) (h : n < 0) :
    Calls Try.prog 20 #[.slice a len cap, .int .i64 n] w (UnbPost w (unp xs n)) := by
  rw [unp_neg xs n h]
  go_enter Try.func20, Try.ntmps20
  go_wp2
  go_ret2
  exact unbPost_nil _ _
set_option maxHeartbeats 400000 in
theorem specUnb_len (a : Option Addr) (cap n : Nat) (xs : List Nat) (w : World) (h : nb n ≠ xs.length) (_hn : n ≤ 9223372036854775807) (_hl : xs.length ≤ 1099511627776) :
    Calls Try.prog 20 #[.slice a xs.length cap, .int .i64 n] w (UnbPost w (unp xs n)) := by
  rw [unp_len xs n h]
  have hd : 8 * xs.length < n ∨ (n ≤ 8 * xs.length ∧ (n : Int) ≤ 8 * ((xs.length : Int) - 1)) := by
    have := mt nb_fit.2 h
    omega
  clear h
  rcases hd with hd | ⟨hd, hd2⟩
  · go_enter Try.func20, Try.ntmps20
    go_wp2
    go_ret2
    exact unbPost_nil _ _
  · go_enter Try.func20, Try.ntmps20
    go_wp2
    go_ret2
    exact unbPost_nil _ _
set_option maxHeartbeats 1000000 in
theorem specUnb_fit (a : Option Addr) (cap n : Nat) (xs : List Nat) (w : World) (hr : Rd w a (byt xs)) (hx : ∀ x ∈ xs, x < 256) (h : nb n = xs.length) (hl : xs.length ≤ 1099511627776) :
    Calls Try.prog 20 #[.slice a xs.length cap, .int .i64 n] w (UnbPost w (unp xs n)) := by
  obtain ⟨i0, hi, hz0, hz1, hz2⟩ := info_parts infoBool'
  have hfit := nb_fit.1 h
  have hn : n ≤ 8 * xs.length := by omega
  have hn2 : 8 * ((xs.length : Int) - 1) < (n : Int) := by omega
  have H := hid h
  have HR := hid hr
  clear h hr hfit
  go_enter Try.func20, Try.ntmps20
  go_wp2
  go_loopw [6, 7] (fun v i wr => ∃ k : Nat, k ≤ 8 * xs.length ∧ i = .int .i64 k ∧ wr.ownsRow w.heap.size 4 1 v (min k n) (bls (bitsOf xs (min k n))) ∧ (∀ i, n ≤ i → i < k → bitOf xs i = false) ∧ Below w.heap.size w wr) (fun _ i _ => 8 * xs.length - (intOf i).toNat)
  case atStart => exact ⟨0, Nat.zero_le _, rfl, by simpa [bls, bitsOf] using World.ownsRow_nil _ _ _ _, fun i _ h => by omega, Below.refl _ _⟩
  case round =>
    obtain ⟨k, hk, rfl, how, hcl, hbe⟩ := hrel
    have HO := hid how
    have HL := hid hcl
    have HB := hid hbe
    clear how hcl hbe
    by_cases hlt : k < 8 * xs.length
    · have hk8 : k / 8 < xs.length := by omega
      obtain ⟨b, off, rfl, hcb⟩ : ∃ b off, a = some ⟨b, off, none⟩ ∧ wr.cell? ⟨b, off + k / 8, none⟩ = some (.int .u8 (xs[k / 8] : Int)) := by
        rcases (HR.out.later HB.out) with h0 | ⟨b, off, rfl, hcb⟩
        · have : (byt xs).length = 0 := by rw [h0]; rfl
          rw [byt_len] at this; omega
        · exact ⟨b, off, rfl, rdByte hcb _ hk8⟩
      have hbit := bit_spec hk8
      have hki8 : (k : Int) / 8 < (xs.length : Int) := by omega
      have hki : (k : Int) < 8 * (xs.length : Int) := by omega
      have hx8 : xs[k / 8] < 256 := hx _ (List.getElem_mem _)
      by_cases hkn : k < n
      · have HM : Hid (min k n = k) := hid (by omega)
        have HO' := HO.out
        rw [HM.out] at HO'
        go_wp2_with (first | (at_builtin; refine wpList_append_own _ rfl _ _ 28 rfl w.heap.size 4 i0 (.bool false) 1 1 Try.underlying28 hi hz0 hz1 hz2 rfl (by decide) _ k _ rfl (HO'.alloc _) ⟨wr.heap.size, 0, none⟩ 1 1 [.bool (bitOf xs k)] rfl rfl (cell_one_new _ _ _) (one_cell rfl) (by unfold maxLen; omega) (by omega) (by have := HB.out.size; simp; omega) ?_))
        intro v' w1 hown' hgrow _
        have HB1 : Hid (Below w.heap.size w w1) := hid ((HB.out.alloc HB.out.size _).grown hgrow (by have := HB.out.size; simp; omega) (fun k h => (World.ownsRow.lt HO.out k h).1))
        have HO1 : Hid (w1.ownsRow w.heap.size 4 1 v' (min (k + 1) n) (bls (bitsOf xs (min (k + 1) n)))) := hid (by
          rw [show min (k + 1) n = k + 1 from by omega, bitsOf_snoc]
          simpa [bls] using hown')
        clear hown' hgrow hbit
        go_wp2
        go_roundw
        case rel => exact ⟨k + 1, by omega, by go_num, HO1.out, fun i h1 h2 => by omega, HB1.out⟩
        case measure => simp [intOf]; omega
      · cases hon : bitOf xs k with
        | true =>
          have hbad : clearFrom xs n = false := by
            rw [Bool.eq_false_iff]; intro hc
            have := clearFrom_iff.1 hc k (by omega) hlt
            rw [this] at hon; cases hon
          have HU := hid (unp_bad xs n hbad)
          rw [hon] at hbit
          clear hon hbad
          go_wp2
          go_ret2
          rw [HU.out]
          exact unbPost_mk (R := []) rfl (World.ownsRow_nil _ _ _ _) HB.out
        | false =>
          rw [hon] at hbit
          have HON := hid hon
          clear hon
          go_wp2
          go_roundw
          case rel =>
            refine ⟨k + 1, by omega, by go_num, ?_, fun i h1 h2 => ?_, HB.out⟩
            · have := HO.out
              rw [show min k n = n from by omega] at this
              rw [show min (k + 1) n = n from by omega]
              exact this
            · by_cases e : i = k
              · subst e; exact HON.out
              · exact HL.out i h1 (by omega)
          case measure => simp [intOf]; omega
    · obtain rfl : k = 8 * xs.length := by omega
      have HU := hid (unp_ok xs n H.out (clearFrom_iff.2 (fun i h1 h2 => HL.out i h1 h2)))
      have hO := HO.out
      rw [show min (8 * xs.length) n = n from by omega] at hO
      obtain ⟨a', c', rfl, _⟩ := rd_own hO
      have HO2 := hid hO
      clear hO HO
      go_wp2
      go_ret2
      rw [HU.out]
      exact unbPost_mk (bitsOf_len xs n) HO2.out HB.out
theorem specUnb_any (a : Option Addr) (cap : Nat) (xs : List Nat) (n : Int) (w : World) (hr : Rd w a (byt xs)) (hx : ∀ x ∈ xs, x < 256) (_hcap : xs.length ≤ cap) (hl : xs.length ≤ 1099511627776) (hn : IntIn n) :
    Calls Try.prog 20 #[.slice a xs.length cap, .int .i64 n] w (UnbPost w (unp xs n)) := by
  have hn := hn.2
  by_cases h : n < 0
  · exact specUnb_neg a cap _ n xs w h
  · obtain ⟨m, rfl⟩ := Int.eq_ofNat_of_zero_le (show 0 ≤ n by omega)
    by_cases h2 : nb m = xs.length
    · exact specUnb_fit a cap m xs w hr hx h2 hl
    · exact specUnb_len a cap m xs w h2 (by omega) hl
end Go.Proofs.Ytcljakdcejhfiaa
