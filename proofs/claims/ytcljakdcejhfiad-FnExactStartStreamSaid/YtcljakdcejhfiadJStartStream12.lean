import Derived.Test.YtcljakdcejhfiadJStartStream6
import Derived.Test.YtcljakdcejhfiadJStartStream5
import Derived.Test.YtcljakdcejhfiadJStartStream7
namespace Go.Proofs.Ytcljakdcejhfiad
open Go.RowKit
theorem isNilC (w : World) : (binOp .eql 69 (.slice none 0 0) (.slice none 0 0)).run Try.prog w = .ok (.bool true) w := by kernel_rfl
theorem notNilC (w : World) (ad : Addr) (n c : Nat) : (binOp .eql 69 (.slice (some ad) n c) (.slice none 0 0)).run Try.prog w = .ok (.bool false) w := by kernel_rfl
set_option maxRecDepth 1000000 in
set_option maxHeartbeats 1000000 in
theorem bclone_any (a : Option Addr) (cap : Nat) (xs : List Nat) (w : World) (hr : RdSl cByte w xs (.slice a xs.length cap)) (hl : xs.length ≤ 1048576) :
    Calls Try.prog 125 #[.slice a xs.length cap] w fun e w' => ∃ v, e = .returned v ∧ w'.ownsRow w.heap.size 5 1 v xs.length (byt xs) ∧ Below w.heap.size w w' := by
  obtain ⟨i0, hi, hz0, hz1, hz2⟩ := info_parts infoByteT
  have HR := hid hr.rdB.1
  have HN := hid hr.nil0
  clear hr
  cases a with
  | none =>
    obtain ⟨e1, e2⟩ := HN.out rfl
    obtain rfl : xs = [] := List.length_eq_zero_iff.1 e1
    subst e2
    have hnl := isNilC w
    go_enter Try.func125, Try.ntmps125
    go_wp2
    go_ret
    exact ⟨_, rfl, World.ownsRow_nil _ _ _ _, Below.refl _ _⟩
  | some ad =>
    have HB0 := hid (below_new1 w (.cells #[] 5))
    have HO0 : Hid ((w.alloc (.cells #[] 5)).ownsRow w.heap.size 5 1 (.slice (some ⟨w.heap.size, 0, none⟩) 0 0) 0 []) := hid ⟨rfl, .inr ⟨w.heap.size, 0, #[], rfl, Nat.le_refl _, heap_alloc_new w _, Nat.le_refl _, Nat.zero_le _, rfl, rfl⟩⟩
    have HR0 := hid (HR.out.later HB0.out)
    have hnl := notNilC w ad xs.length cap
    go_enter Try.func125, Try.ntmps125
    go_wp2_with (first | (at_builtin; refine append_any rfl _ _ 69 rfl w.heap.size 5 i0 (.int .u8 0) 1 Try.underlying69 hi hz0 hz1 hz2 rfl _ 0 [] rfl HO0.out (some ad) xs.length cap (byt xs) rfl (byt_len _) HN.out HR0.out (byt_one _) (by unfold maxLen; omega) (by omega) (by simp) ?_))
    intro v' w1 hown hgrow
    have HB : Hid (Below w.heap.size w w1) := hid (HB0.out.grown hgrow (by simp) (fun k h => by simp [Value.ownBlock] at h; omega))
    have HO : Hid (w1.ownsRow w.heap.size 5 1 v' xs.length (byt xs)) := hid (by simpa using hown)
    clear hown hgrow
    go_wp2
    go_ret
    exact ⟨_, rfl, HO.out, HB.out⟩
end Go.Proofs.Ytcljakdcejhfiad
namespace Go.Proofs.Ytcljakdcejhfiad
open Go.RowKit
set_option maxRecDepth 1000000 in
set_option maxHeartbeats 1000000 in
theorem eqSS_any (a1 a2 : Option Addr) (c1 c2 : Nat) (xs : List (List Nat)) (w : World) (h1 : RdSl cSS w xs (.slice a1 xs.length c1)) (h2 : RdSl cSS w xs (.slice a2 xs.length c2)) (ht : totL List.length xs ≤ 1048576) :
    Calls Try.prog 20 #[.slice a1 xs.length c1, .slice a2 xs.length c2] w fun e w' => e = .returned (.bool true) ∧ Below w.heap.size w w' := by
  have H1 := hid h1
  have H2 := hid h2
  clear h1 h2
  have hlen : xs.length ≤ 1048576 := by unfold totL at ht; omega
  go_enter Try.func20, Try.ntmps20
  go_wp2
  go_loopw [5] (fun i wr => ∃ k : Nat, k ≤ xs.length ∧ i = .int .i64 k ∧ Below w.heap.size w wr) (fun i _ => xs.length - (intOf i).toNat)
  case atStart => exact ⟨0, Nat.zero_le _, rfl, Below.refl _ _⟩
  case round =>
    obtain ⟨k, hk, rfl, hbe⟩ := hrel
    have HB := hid hbe
    clear hbe
    by_cases hlt : k < xs.length
    · obtain ⟨b1, o1, a1', c1', rfl, g1, r1⟩ := (H1.out.later HB.out).row hlt
      obtain ⟨b2, o2, a2', c2', rfl, g2, r2⟩ := (H2.out.later HB.out).row hlt
      obtain ⟨_, _, e', -, -, -, q1, -⟩ := r1.bytes
      simp only [Value.slice.injEq] at e'
      obtain ⟨rfl, -, rfl⟩ := e'
      obtain ⟨_, _, e', -, -, -, q2, -⟩ := r2.bytes
      simp only [Value.slice.injEq] at e'
      obtain ⟨rfl, -, rfl⟩ := e'
      have HQ : Hid (∀ n, Calls Try.prog 39 #[.slice a1' xs[k].length c1', .slice a2' xs[k].length c2'] (wr.drewN n) fun e w' => e = .returned (.bool true) ∧ ∃ m, w' = (wr.drewN n).drewN m) := hid (fun n => by
        have hlk := tot_at List.length xs k hlt
        unfold totL at ht
        exact eqByteS_quiet _ _ _ _ _ xs[k] _ (q1.later (below_drewN (Below.refl _ _) n)) (q2.later (below_drewN (Below.refl _ _) n)) rfl (by omega))
      have hki : (k : Int) < (xs.length : Int) := by omega
      clear r1 r2 q1 q2
      go_wp2
      go_quiet ((go_at_call 39; exact Calls.quiet_of (HQ.out _)))
      go_wp2
      go_roundw
      case rel => exact ⟨k + 1, by omega, by go_num, below_drewN HB.out _⟩
      case measure => simp [intOf]; omega
    · obtain rfl : k = xs.length := by omega
      go_wp2
      go_ret
      exact ⟨rfl, HB.out⟩
end Go.Proofs.Ytcljakdcejhfiad
