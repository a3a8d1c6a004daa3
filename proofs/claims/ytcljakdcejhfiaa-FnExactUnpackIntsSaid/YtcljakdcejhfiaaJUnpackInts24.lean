import Derived.Test.YtcljakdcejhfiaaJUnpackInts17
import Derived.Test.YtcljakdcejhfiaaJUnpackInts19
import Derived.Test.YtcljakdcejhfiaaJUnpackInts21
import Derived.Test.YtcljakdcejhfiaaJUnpackInts23
namespace Go.Proofs.Ytcljakdcejhfiaa
open Go.RowKit
theorem uni_no (xs : List Nat) (n : Int) (h : ¬ (n = 1 ∨ n = 2 ∨ n = 4 ∨ n = 8)) : uni xs n = ([], 1) := by
  unfold uni
  rw [if_neg (by omega), if_neg (by omega), if_neg (by omega), if_neg (by omega)]
set_option maxHeartbeats 400000 in
theorem implUni_i8 (a : Option Addr) (cap : Nat) (xs : List Nat) (w : World) (hr : Rd w a (byt xs)) (hx : ∀ x ∈ xs, x < 256) (hcap : xs.length ≤ cap) (hl : xs.length ≤ 1099511627776) :
    Calls Try.prog 24 #[.slice a xs.length cap, .int .i64 1] w (UniPost w (uniR 1 .i8 xs)) := by
  go_enter Try.func24, Try.ntmps24
  go_wp2_with fail
  refine (uas_i8 a cap xs w hr hx hcap hl).mono ?_
  rintro e w1 ⟨a1, c1, rfl, o1, b1⟩
  go_wp2
  go_ret2
  exact ⟨a1, c1, rfl, o1, b1⟩
set_option maxHeartbeats 400000 in
theorem implUni_i16 (a : Option Addr) (cap : Nat) (xs : List Nat) (w : World) (hr : Rd w a (byt xs)) (hx : ∀ x ∈ xs, x < 256) (hcap : xs.length ≤ cap) (hl : xs.length ≤ 1099511627776) :
    Calls Try.prog 24 #[.slice a xs.length cap, .int .i64 2] w (UniPost w (uniR 2 .i16 xs)) := by
  go_enter Try.func24, Try.ntmps24
  go_wp2_with fail
  refine (uas_i16 a cap xs w hr hx hcap hl).mono ?_
  rintro e w1 ⟨a1, c1, rfl, o1, b1⟩
  go_wp2
  go_ret2
  exact ⟨a1, c1, rfl, o1, b1⟩
set_option maxHeartbeats 400000 in
theorem implUni_i32 (a : Option Addr) (cap : Nat) (xs : List Nat) (w : World) (hr : Rd w a (byt xs)) (hx : ∀ x ∈ xs, x < 256) (hcap : xs.length ≤ cap) (hl : xs.length ≤ 1099511627776) :
    Calls Try.prog 24 #[.slice a xs.length cap, .int .i64 4] w (UniPost w (uniR 4 .i32 xs)) := by
  go_enter Try.func24, Try.ntmps24
  go_wp2_with fail
  refine (uas_i32 a cap xs w hr hx hcap hl).mono ?_
  rintro e w1 ⟨a1, c1, rfl, o1, b1⟩
  go_wp2
  go_ret2
  exact ⟨a1, c1, rfl, o1, b1⟩
set_option maxHeartbeats 400000 in
theorem implUni_i64 (a : Option Addr) (cap : Nat) (xs : List Nat) (w : World) (hr : Rd w a (byt xs)) (hx : ∀ x ∈ xs, x < 256) (hcap : xs.length ≤ cap) (hl : xs.length ≤ 1099511627776) :
    Calls Try.prog 24 #[.slice a xs.length cap, .int .i64 8] w (UniPost w (uniR 8 .i64 xs)) := by
  go_enter Try.func24, Try.ntmps24
  go_wp2_with fail
  refine (uas_i64 a cap xs w hr hx hcap hl).mono ?_
  rintro e w1 ⟨a1, c1, rfl, o1, b1⟩
  go_wp2
  go_ret2
  exact ⟨a1, c1, rfl, o1, b1⟩
set_option maxHeartbeats 400000 in
theorem implUni_no (a : Option Addr) (cap len : Nat) (n : Int) (w : World) (h : ¬ (n = 1 ∨ n = 2 ∨ n = 4 ∨ n = 8)) :
    Calls Try.prog 24 #[.slice a len cap, .int .i64 n] w (UniPost w ([], 1)) := by
  have e1 : (n == 1) = false := by simp; omega
  have e2 : (n == 2) = false := by simp; omega
  have e4 : (n == 4) = false := by simp; omega
  have e8 : (n == 8) = false := by simp; omega
  clear h
  go_enter Try.func24, Try.ntmps24
  go_wp2
  go_ret2
  exact uniPost_nil _ _
theorem implUni_any (a : Option Addr) (cap : Nat) (xs : List Nat) (n : Int) (w : World) (hr : Rd w a (byt xs)) (hx : ∀ x ∈ xs, x < 256) (hcap : xs.length ≤ cap) (hl : xs.length ≤ 1099511627776) (_hn : IntIn n) :
    Calls Try.prog 24 #[.slice a xs.length cap, .int .i64 n] w (UniPost w (uni xs n)) := by
  by_cases h1 : n = 1
  · subst h1; exact implUni_i8 a cap xs w hr hx hcap hl
  by_cases h2 : n = 2
  · subst h2; exact implUni_i16 a cap xs w hr hx hcap hl
  by_cases h4 : n = 4
  · subst h4; exact implUni_i32 a cap xs w hr hx hcap hl
  by_cases h8 : n = 8
  · subst h8; exact implUni_i64 a cap xs w hr hx hcap hl
  have h : ¬ (n = 1 ∨ n = 2 ∨ n = 4 ∨ n = 8) := by omega
  rw [uni_no xs n h]
  exact implUni_no a cap _ n w h
end Go.Proofs.Ytcljakdcejhfiaa
