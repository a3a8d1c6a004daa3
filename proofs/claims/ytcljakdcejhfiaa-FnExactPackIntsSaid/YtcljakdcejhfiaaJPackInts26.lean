import Derived.Test.YtcljakdcejhfiaaJPackInts14
import Derived.Test.YtcljakdcejhfiaaJPackInts16
import Derived.Test.YtcljakdcejhfiaaJPackInts18
import Derived.Test.YtcljakdcejhfiaaJPackInts20
import Derived.Test.YtcljakdcejhfiaaJPackInts25
namespace Go.Proofs.Ytcljakdcejhfiaa
open Go.RowKit
set_option maxHeartbeats 400000 in
theorem specPki_no (a : Option Addr) (cap len : Nat) (n : Int) (w : World) (h : ¬ (n = 1 ∨ n = 2 ∨ n = 4 ∨ n = 8)) :
    Calls Try.prog 33 #[.slice a len cap, .int .i64 n] w (PkiPost w ([], 1)) := by
  have HD : Hid (decide (n = 1 ∨ n = 2 ∨ n = 4 ∨ n = 8) = false) := hid (by simpa using h)
  clear h
  go_enter Try.func33, Try.ntmps33
  go_wp2_with fail
  refine (l1width_any n w).mono ?_
  rintro e w ⟨rfl, rfl⟩
  rw [HD.out]
  go_wp2
  go_ret2
  exact pkiPost_nil _ (Below.refl _ _)
theorem specPki_any (a : Option Addr) (cap : Nat) (xs : List Int) (n : Int) (w : World) (hr : Rd w a (ints xs)) (hx : ∀ x ∈ xs, IntIn x) (_hcap : xs.length ≤ cap) (hl : xs.length ≤ 1048576) (_hn : IntIn n) :
    Calls Try.prog 33 #[.slice a xs.length cap, .int .i64 n] w (PkiPost w (pki xs n)) := by
  by_cases h1 : n = 1
  · subst h1; exact specPki_i8 a cap xs w hr hx hl
  by_cases h2 : n = 2
  · subst h2; exact specPki_i16 a cap xs w hr hx hl
  by_cases h4 : n = 4
  · subst h4; exact specPki_i32 a cap xs w hr hx hl
  by_cases h8 : n = 8
  · subst h8; exact specPki_i64 a cap xs w hr hx hl
  have h : ¬ (n = 1 ∨ n = 2 ∨ n = 4 ∨ n = 8) := by omega
  rw [pki_no xs n h]
  exact specPki_no a cap _ n w h
end Go.Proofs.Ytcljakdcejhfiaa
