import Derived.Test.YtcljakdcejhfiaaJUnpackBits9
import Derived.Test.YtcljakdcejhfiaaJUnpackBits10
namespace Go.Proofs.Ytcljakdcejhfiaa
open Go.RowKit
set_option maxRecDepth 100000 in
set_option maxHeartbeats 400000 in
theorem clear_any (a : Option Addr) (cap : Nat) (xs : List Nat) (n : Nat) (w : World) (hr : Rd w a (byt xs)) (hx : ∀ x ∈ xs, x < 256) (hf : nb n = xs.length) (hn : n ≤ 9223372036854775807) (hl : xs.length ≤ 1099511627776) :
    Calls Try.prog 38 #[.slice a xs.length cap, .int .i64 n] w fun e w' => e = .returned (.bool (clearFrom xs n)) ∧ w' = w := by
  by_cases h8 : n % 8 = 0
  · have hcl : clearFrom xs n = true := by
      rw [clearFrom_iff]; intro i h1 h2; have := nb_fit.1 hf; omega
    rw [hcl]
    have ht : ((n : Int) % 8 == 0) = true := by simp; omega
    clear hf h8 hcl
    go_enter Try.func38, Try.ntmps38
    go_wp2
    go_ret
    exact ⟨rfl, rfl⟩
  · have ht : ((n : Int) % 8 == 0) = false := by simp; omega
    have hfit := nb_fit.1 hf
    have h1 : 1 ≤ xs.length := by omega
    rcases hr with h0 | ⟨b, off, rfl, hc⟩
    · have : (byt xs).length = 0 := by rw [h0]; rfl
      rw [byt_len] at this; omega
    have hcell := rdByte hc (xs.length - 1) (by omega)
    have HCL := hid (last_spell hf hx h8 (by omega))
    clear h8 hfit hc
    go_enter Try.func38, Try.ntmps38
    go_wp2
    go_ret
    exact ⟨by rw [← HCL.out]; rfl, rfl⟩
theorem infoBool' : (Try.prog.info? 4).map (fun i => (i.zero, i.size, i.bytes)) = some (some (.bool false), 1, 1) := by kernel_rfl
def UnbPost (w : World) (R : List Bool × Int) (e : Ending) (w' : World) : Prop :=
  ∃ a c, e = .returned (.tuple #[.slice a R.1.length c, .int .i64 R.2]) ∧ w'.ownsRow w.heap.size 4 1 (.slice a R.1.length c) R.1.length (bls R.1) ∧ Below w.heap.size w w'
theorem unbPost_mk {w w' : World} {R : List Bool} {n c : Nat} {C : Int} {a : Option Addr} (hl : R.length = n) (ho : w'.ownsRow w.heap.size 4 1 (.slice a n c) n (bls R)) (hb : Below w.heap.size w w') :
    UnbPost w (R, C) (.returned (.tuple #[.slice a n c, .int .i64 C])) w' := by
  subst hl
  exact ⟨a, c, rfl, ho, hb⟩
theorem unbPost_nil (w : World) (C : Int) : UnbPost w ([], C) (.returned (.tuple #[.slice none 0 0, .int .i64 C])) w :=
  ⟨none, 0, rfl, World.ownsRow_nil _ _ _ _, Below.refl _ _⟩
set_option maxRecDepth 100000 in
set_option maxHeartbeats 400000 in
theorem implUnb_neg (a : Option Addr) (cap len : Nat) (n : Int) (xs : List Nat) (w : World) (h : n < 0) :
    Calls Try.prog 21 #[.slice a len cap, .int .i64 n] w (UnbPost w (unp xs n)) := by
  rw [unp_neg xs n h]
  go_enter Try.func21, Try.ntmps21
  go_wp2
  go_ret2
  exact unbPost_nil _ _
set_option maxRecDepth 100000 in
set_option maxHeartbeats 400000 in
theorem implUnb_len (a : Option Addr) (cap n : Nat) (xs : List Nat) (w : World) (h : nb n ≠ xs.length) (hn : n ≤ 9223372036854775807) (_hl : xs.length ≤ 1099511627776) :
    Calls Try.prog 21 #[.slice a xs.length cap, .int .i64 n] w (UnbPost w (unp xs n)) := by
  rw [unp_len xs n h]
  have hd : ((xs.length : Int) != ((nb n : Nat) : Int)) = true := by simp; omega
  go_enter Try.func21, Try.ntmps21
  go_wp2_with fail
  refine (bytesForBits_any n w hn).mono ?_
  rintro e w ⟨rfl, rfl⟩
  clear h
  go_wp2
  go_ret2
  exact unbPost_nil _ _
set_option maxRecDepth 100000 in
set_option maxHeartbeats 400000 in
theorem implUnb_bad (a : Option Addr) (cap n : Nat) (xs : List Nat) (w : World) (hr : Rd w a (byt xs)) (hx : ∀ x ∈ xs, x < 256) (h : nb n = xs.length) (hc : clearFrom xs n = false) (hn : n ≤ 9223372036854775807) (hl : xs.length ≤ 1099511627776) :
    Calls Try.prog 21 #[.slice a xs.length cap, .int .i64 n] w (UnbPost w (unp xs n)) := by
  rw [unp_bad xs n hc]
  have hd : ((xs.length : Int) != ((nb n : Nat) : Int)) = false := by simp; omega
  have H := hid h
  have HC := hid hc
  clear h hc
  go_enter Try.func21, Try.ntmps21
  go_wp2_with fail
  refine (bytesForBits_any n w hn).mono ?_
  rintro e w ⟨rfl, rfl⟩
  go_wp2_with fail
  refine (clear_any a cap xs n w hr hx H.out hn hl).mono ?_
  rintro e w ⟨rfl, rfl⟩
  rw [HC.out]
  go_wp2
  go_ret2
  exact unbPost_nil _ _
set_option maxRecDepth 100000 in
set_option maxHeartbeats 1000000 in
theorem implUnb_ok (a : Option Addr) (cap n : Nat) (xs : List Nat) (w : World) (hr : Rd w a (byt xs)) (hx : ∀ x ∈ xs, x < 256) (h : nb n = xs.length) (hc : clearFrom xs n = true) (hl : xs.length ≤ 1099511627776) :
    Calls Try.prog 21 #[.slice a xs.length cap, .int .i64 n] w (UnbPost w (unp xs n)) := by
  rw [unp_ok xs n h hc]
  obtain ⟨i0, hi, hz0, hz1, hz2⟩ := info_parts infoBool'
  have hd : ((xs.length : Int) != ((nb n : Nat) : Int)) = false := by simp; omega
  have hn : n ≤ 8 * xs.length := by have := nb_fit.1 h; omega
  have H := hid h
  have HC := hid hc
  have HR := hid hr
  clear h hc hr
  go_enter Try.func21, Try.ntmps21
  go_wp2_with fail
  refine (bytesForBits_any n w (by omega)).mono ?_
  rintro e w ⟨rfl, rfl⟩
  go_wp2_with fail
  refine (clear_any a cap xs n w HR.out hx H.out (by omega) hl).mono ?_
  rintro e w ⟨rfl, rfl⟩
  rw [HC.out]
  go_wp2_with (first | (at_make; refine wpList_make_full _ rfl (.tmp 21) (.tmp 21) 28 rfl w.heap.size 4 i0 (.bool false) 1 Try.underlying28 hi hz0 hz1 .i64 .i64 _ _ n rfl rfl rfl rfl (by rw [hz2]; omega) (by unfold maxLen; omega) (by simp) ?_))
  intro w1 ho hg1
  have hb1 : Below w.heap.size w w1 := (Below.refl _ w).grown hg1 (Nat.le_refl _) (by intro k h; cases h)
  clear hg1 hi hz0 hz1 hz2 hd
  go_wp2
  go_loopw [25] (fun i wr => ∃ k : Nat, k ≤ n ∧ i = .int .i64 k ∧ wr.ownsRow w.heap.size 4 1 (.slice (some ⟨w.heap.size, 0, none⟩) n n) n ((bls (bitsOf xs n)).take k ++ (List.replicate n (Value.bool false)).drop k) ∧ Below w.heap.size w wr) (fun i _ => n - (intOf i).toNat)
  case atStart => exact ⟨0, Nat.zero_le _, rfl, by simpa [made_list] using ho, hb1⟩
  case round =>
    obtain ⟨k, hk, rfl, how, hbe⟩ := hrel
    clear ho hb1
    have hlen : (bls (bitsOf xs n)).length = n := by rw [bls_len, bitsOf_len]
    by_cases hlt : k < n
    · have hk8 : k / 8 < xs.length := by omega
      obtain ⟨b, off, rfl, hcb⟩ : ∃ b off, a = some ⟨b, off, none⟩ ∧ wr.cell? ⟨b, off + k / 8, none⟩ = some (.int .u8 (xs[k / 8] : Int)) := by
        rcases (HR.out.later hbe) with h0 | ⟨b, off, rfl, hcb⟩
        · have : (byt xs).length = 0 := by rw [h0]; rfl
          rw [byt_len] at this; omega
        · exact ⟨b, off, rfl, rdByte hcb _ hk8⟩
      have hfz := how.frozenAt k
      obtain ⟨o, hco⟩ := own_cell how hlt
      have hbit := bit_impl hk8 hx
      have hR := fill_round hlen (by simp) (show (bls (bitsOf xs n))[k]? = some (.bool (bits .and .u8 (((xs[k / 8] : Nat) : Int) / 2 ^ (k % 8)) 1 == 1)) by rw [hbit]; simp [bls, bitsOf, hlt]) (Nat.le_refl _) how hbe
      have hki : (k : Int) < (n : Int) := by omega
      have hki8 : (k : Int) / 8 < (xs.length : Int) := by omega
      have hx8 : xs[k / 8] < 256 := hx _ (List.getElem_mem _)
      clear how hbe hbit hlen
      go_wp2
      go_roundw
      case rel => exact ⟨k + 1, by omega, by go_num, hR.1, hR.2⟩
      case measure => simp [intOf]; omega
    · obtain rfl : k = n := by omega
      rw [fill_done hlen (by simp)] at how
      have HL := hid (bitsOf_len xs k)
      clear hlen
      go_wp2
      go_ret2
      exact unbPost_mk HL.out how hbe
theorem implUnb_any (a : Option Addr) (cap : Nat) (xs : List Nat) (n : Int) (w : World) (hr : Rd w a (byt xs)) (hx : ∀ x ∈ xs, x < 256) (_hcap : xs.length ≤ cap) (hl : xs.length ≤ 1099511627776) (hn : IntIn n) :
    Calls Try.prog 21 #[.slice a xs.length cap, .int .i64 n] w (UnbPost w (unp xs n)) := by
  have hn := hn.2
  by_cases h : n < 0
  · exact implUnb_neg a cap _ n xs w h
  · obtain ⟨m, rfl⟩ := Int.eq_ofNat_of_zero_le (show 0 ≤ n by omega)
    by_cases h2 : nb m = xs.length
    · cases hc : clearFrom xs m with
      | false => exact implUnb_bad a cap m xs w hr hx h2 hc (by omega) hl
      | true => exact implUnb_ok a cap m xs w hr hx h2 hc hl
    · exact implUnb_len a cap m xs w h2 (by omega) hl
end Go.Proofs.Ytcljakdcejhfiaa
