import Derived.Test.YtcljakdcejhfiaaJPackInts21
import Derived.Test.YtcljakdcejhfiaaJPackInts22
import Derived.Test.YtcljakdcejhfiaaJPackInts23
import Derived.Test.YtcljakdcejhfiaaJPackInts24
namespace Go.Proofs.Ytcljakdcejhfiaa
open Go.RowKit
set_option maxHeartbeats 400000 in
theorem implPki_i8 (a : Option Addr) (cap : Nat) (xs : List Int) (w : World) (hr : Rd w a (ints xs)) (hx : ∀ x ∈ xs, IntIn x) (hl : xs.length ≤ 1048576) :
    Calls Try.prog 35 #[.slice a xs.length cap, .int .i64 1] w (PkiPost w (pkiR 1 .i8 xs)) := by
  go_enter Try.func35, Try.ntmps35
  go_wp2_with fail
  refine (packAs_i8 a cap xs w hr hx hl).mono ?_
  rintro e w1 ⟨a1, c1, rfl, o1, b1⟩
  go_wp2
  go_ret2
  exact ⟨a1, c1, rfl, o1, b1⟩
set_option maxHeartbeats 400000 in
theorem implPki_i16 (a : Option Addr) (cap : Nat) (xs : List Int) (w : World) (hr : Rd w a (ints xs)) (hx : ∀ x ∈ xs, IntIn x) (hl : xs.length ≤ 1048576) :
    Calls Try.prog 35 #[.slice a xs.length cap, .int .i64 2] w (PkiPost w (pkiR 2 .i16 xs)) := by
  go_enter Try.func35, Try.ntmps35
  go_wp2_with fail
  refine (packAs_i16 a cap xs w hr hx hl).mono ?_
  rintro e w1 ⟨a1, c1, rfl, o1, b1⟩
  go_wp2
  go_ret2
  exact ⟨a1, c1, rfl, o1, b1⟩
set_option maxHeartbeats 400000 in
theorem implPki_i32 (a : Option Addr) (cap : Nat) (xs : List Int) (w : World) (hr : Rd w a (ints xs)) (hx : ∀ x ∈ xs, IntIn x) (hl : xs.length ≤ 1048576) :
    Calls Try.prog 35 #[.slice a xs.length cap, .int .i64 4] w (PkiPost w (pkiR 4 .i32 xs)) := by
  go_enter Try.func35, Try.ntmps35
  go_wp2_with fail
  refine (packAs_i32 a cap xs w hr hx hl).mono ?_
  rintro e w1 ⟨a1, c1, rfl, o1, b1⟩
  go_wp2
  go_ret2
  exact ⟨a1, c1, rfl, o1, b1⟩
set_option maxHeartbeats 400000 in
theorem implPki_i64 (a : Option Addr) (cap : Nat) (xs : List Int) (w : World) (hr : Rd w a (ints xs)) (hx : ∀ x ∈ xs, IntIn x) (hl : xs.length ≤ 1048576) :
    Calls Try.prog 35 #[.slice a xs.length cap, .int .i64 8] w (PkiPost w (pkiR 8 .i64 xs)) := by
  go_enter Try.func35, Try.ntmps35
  go_wp2_with fail
  refine (packAs_i64 a cap xs w hr hx hl).mono ?_
  rintro e w1 ⟨a1, c1, rfl, o1, b1⟩
  go_wp2
  go_ret2
  exact ⟨a1, c1, rfl, o1, b1⟩
set_option maxHeartbeats 400000 in
theorem implPki_no (a : Option Addr) (cap len : Nat) (n : Int) (w : World) (h : ¬ (n = 1 ∨ n = 2 ∨ n = 4 ∨ n = 8)) :
    Calls Try.prog 35 #[.slice a len cap, .int .i64 n] w (PkiPost w ([], 1)) := by
  have e1 : (n == 1) = false := by simp; omega
  have e2 : (n == 2) = false := by simp; omega
  have e4 : (n == 4) = false := by simp; omega
  have e8 : (n == 8) = false := by simp; omega
  clear h
  go_enter Try.func35, Try.ntmps35
  go_wp2
  go_ret2
  exact pkiPost_nil _ (Below.refl _ _)
theorem implPki_any (a : Option Addr) (cap : Nat) (xs : List Int) (n : Int) (w : World) (hr : Rd w a (ints xs)) (hx : ∀ x ∈ xs, IntIn x) (_hcap : xs.length ≤ cap) (hl : xs.length ≤ 1048576) (_hn : IntIn n) :
    Calls Try.prog 35 #[.slice a xs.length cap, .int .i64 n] w (PkiPost w (pki xs n)) := by
  by_cases h1 : n = 1
  · subst h1; exact implPki_i8 a cap xs w hr hx hl
  by_cases h2 : n = 2
  · subst h2; exact implPki_i16 a cap xs w hr hx hl
  by_cases h4 : n = 4
  · subst h4; exact implPki_i32 a cap xs w hr hx hl
  by_cases h8 : n = 8
  · subst h8; exact implPki_i64 a cap xs w hr hx hl
  have h : ¬ (n = 1 ∨ n = 2 ∨ n = 4 ∨ n = 8) := by omega
  rw [pki_no xs n h]
  exact implPki_no a cap _ n w h
end Go.Proofs.Ytcljakdcejhfiaa
