import Derived.Test.YtcljakdcejhfiaaJUnpackInts12
import Derived.Test.YtcljakdcejhfiaaJUnpackInts13
import Derived.Test.YtcljakdcejhfiaaJUnpackInts14
import Derived.Test.YtcljakdcejhfiaaJUnpackInts15
import Derived.Test.YtcljakdcejhfiaaJUnpackInts24
namespace Go.Proofs.Ytcljakdcejhfiaa
open Go.RowKit
set_option maxHeartbeats 400000 in
theorem specUni_bad_i16 (a : Option Addr) (cap : Nat) (xs : List Nat) (w : World) (h : xs.length % 2 ≠ 0) (_hl : xs.length ≤ 1099511627776) :
    Calls Try.prog 23 #[.slice a xs.length cap, .int .i64 2] w (UniPost w ([], 3)) := by
  have hd : ((xs.length : Int) % 2 != 0) = true := by simp; omega
  clear h
  go_enter Try.func23, Try.ntmps23
  go_wp2_with fail
  refine (l1width_any 2 w).mono ?_
  rintro e w ⟨rfl, rfl⟩
  go_wp2
  go_ret2
  exact uniPost_nil _ _
theorem specUni_i16 (a : Option Addr) (cap : Nat) (xs : List Nat) (w : World) (hr : Rd w a (byt xs)) (hx : ∀ x ∈ xs, x < 256) (hcap : xs.length ≤ cap) (hl : xs.length ≤ 1099511627776) :
    Calls Try.prog 23 #[.slice a xs.length cap, .int .i64 2] w (UniPost w (uniR 2 .i16 xs)) := by
  by_cases h : xs.length % 2 = 0
  · rw [uniR_ok h]; exact specUni_ok_i16 a cap xs w hr hx h hcap hl
  · rw [uniR_bad h]; exact specUni_bad_i16 a cap xs w h hl
set_option maxHeartbeats 400000 in
theorem specUni_bad_i32 (a : Option Addr) (cap : Nat) (xs : List Nat) (w : World) (h : xs.length % 4 ≠ 0) (_hl : xs.length ≤ 1099511627776) :
    Calls Try.prog 23 #[.slice a xs.length cap, .int .i64 4] w (UniPost w ([], 3)) := by
  have hd : ((xs.length : Int) % 4 != 0) = true := by simp; omega
  clear h
  go_enter Try.func23, Try.ntmps23
  go_wp2_with fail
  refine (l1width_any 4 w).mono ?_
  rintro e w ⟨rfl, rfl⟩
  go_wp2
  go_ret2
  exact uniPost_nil _ _
theorem specUni_i32 (a : Option Addr) (cap : Nat) (xs : List Nat) (w : World) (hr : Rd w a (byt xs)) (hx : ∀ x ∈ xs, x < 256) (hcap : xs.length ≤ cap) (hl : xs.length ≤ 1099511627776) :
    Calls Try.prog 23 #[.slice a xs.length cap, .int .i64 4] w (UniPost w (uniR 4 .i32 xs)) := by
  by_cases h : xs.length % 4 = 0
  · rw [uniR_ok h]; exact specUni_ok_i32 a cap xs w hr hx h hcap hl
  · rw [uniR_bad h]; exact specUni_bad_i32 a cap xs w h hl
set_option maxHeartbeats 400000 in
theorem specUni_bad_i64 (a : Option Addr) (cap : Nat) (xs : List Nat) (w : World) (h : xs.length % 8 ≠ 0) (_hl : xs.length ≤ 1099511627776) :
    Calls Try.prog 23 #[.slice a xs.length cap, .int .i64 8] w (UniPost w ([], 3)) := by
  have hd : ((xs.length : Int) % 8 != 0) = true := by simp; omega
  clear h
  go_enter Try.func23, Try.ntmps23
  go_wp2_with fail
  refine (l1width_any 8 w).mono ?_
  rintro e w ⟨rfl, rfl⟩
  go_wp2
  go_ret2
  exact uniPost_nil _ _
theorem specUni_i64 (a : Option Addr) (cap : Nat) (xs : List Nat) (w : World) (hr : Rd w a (byt xs)) (hx : ∀ x ∈ xs, x < 256) (hcap : xs.length ≤ cap) (hl : xs.length ≤ 1099511627776) :
    Calls Try.prog 23 #[.slice a xs.length cap, .int .i64 8] w (UniPost w (uniR 8 .i64 xs)) := by
  by_cases h : xs.length % 8 = 0
  · rw [uniR_ok h]; exact specUni_ok_i64 a cap xs w hr hx h hcap hl
  · rw [uniR_bad h]; exact specUni_bad_i64 a cap xs w h hl
theorem specUni_i8 (a : Option Addr) (cap : Nat) (xs : List Nat) (w : World) (hr : Rd w a (byt xs)) (hx : ∀ x ∈ xs, x < 256) (hcap : xs.length ≤ cap) (hl : xs.length ≤ 1099511627776) :
    Calls Try.prog 23 #[.slice a xs.length cap, .int .i64 1] w (UniPost w (uniR 1 .i8 xs)) := by
  rw [uniR_ok (Nat.mod_one _)]; exact specUni_ok_i8 a cap xs w hr hx (Nat.mod_one _) hcap hl
set_option maxHeartbeats 400000 in
theorem specUni_no (a : Option Addr) (cap len : Nat) (n : Int) (w : World) (h : ¬ (n = 1 ∨ n = 2 ∨ n = 4 ∨ n = 8)) :
    Calls Try.prog 23 #[.slice a len cap, .int .i64 n] w (UniPost w ([], 1)) := by
  have HD : Hid (decide (n = 1 ∨ n = 2 ∨ n = 4 ∨ n = 8) = false) := hid (by simpa using h)
  clear h
  go_enter Try.func23, Try.ntmps23
  go_wp2_with fail
  refine (l1width_any n w).mono ?_
  rintro e w ⟨rfl, rfl⟩
  rw [HD.out]
  go_wp2
  go_ret2
  exact uniPost_nil _ _
theorem specUni_any (a : Option Addr) (cap : Nat) (xs : List Nat) (n : Int) (w : World) (hr : Rd w a (byt xs)) (hx : ∀ x ∈ xs, x < 256) (hcap : xs.length ≤ cap) (hl : xs.length ≤ 1099511627776) (_hn : IntIn n) :
    Calls Try.prog 23 #[.slice a xs.length cap, .int .i64 n] w (UniPost w (uni xs n)) := by
  by_cases h1 : n = 1
  · subst h1; exact specUni_i8 a cap xs w hr hx hcap hl
  by_cases h2 : n = 2
  · subst h2; exact specUni_i16 a cap xs w hr hx hcap hl
  by_cases h4 : n = 4
  · subst h4; exact specUni_i32 a cap xs w hr hx hcap hl
  by_cases h8 : n = 8
  · subst h8; exact specUni_i64 a cap xs w hr hx hcap hl
  have h : ¬ (n = 1 ∨ n = 2 ∨ n = 4 ∨ n = 8) := by omega
  rw [uni_no xs n h]
  exact specUni_no a cap _ n w h
end Go.Proofs.Ytcljakdcejhfiaa
