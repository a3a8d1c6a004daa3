import Derived.Test.YtcljakdcejhfiaaJCrc321
import Derived.Test.YtcljakdcejhfiaaJCrc322
import Derived.Test.YtcljakdcejhfiaaJCrc323
import Derived.Test.YtcljakdcejhfiaaJCrc325
import Derived.Test.YtcljakdcejhfiaaJCrc327
namespace Go.Proofs.Ytcljakdcejhfiaa
open Go.RowKit
set_option maxHeartbeats 800000 in
theorem lawCrc32_small (a : Option Addr) (cap : Nat) (xs : List Nat) (w : World) (hr : Rd w a (byt xs)) (hb : ∀ x ∈ xs, x < 256) (hn : xs.length ≤ 1048576) :
    Calls Try.prog 3 #[.slice a xs.length cap] w fun e w' => e = .returned (.bool true) ∧ Below w.heap.size w w' := by
  have hn' : xs.length ≤ 1099511627776 := by omega
  go_enter Try.func3, Try.ntmps3
  go_wp2_with fail
  refine (toByteS_any a cap xs w hr hn').mono ?_
  rintro e w1 ⟨g1, rfl, o1, b1⟩
  have r1 := rd_row o1
  go_wp2_with fail
  refine (specCrc_any _ _ xs w1 r1 hb hn').mono ?_
  rintro e w1 ⟨rfl, rfl⟩
  go_wp2_with fail
  refine (toByteS_any a cap xs w1 (hr.later b1) hn').mono ?_
  rintro e w2 ⟨g2, rfl, o2, b2⟩
  go_wp2_with fail
  refine (implCrc_any _ _ xs w2 (rd_row o2) hb hn').mono ?_
  rintro e w3 ⟨rfl, b3⟩
  have b13 := below_chain (below_chain b1 b2) b3
  go_wp2_with fail
  refine (toByteS_any a cap xs w3 (hr.later b13) hn').mono ?_
  rintro e w4 ⟨g4, rfl, o4, b4⟩
  go_wp2_with fail
  refine (eqByteS_any _ _ _ _ _ xs w4 ((rd_row o2).later (below_chain b3 b4)) (rd_row o4) rfl hn').mono ?_
  rintro e w5 ⟨rfl, b5⟩
  go_wp2
  go_ret
  exact ⟨rfl, below_chain (below_chain b13 b4) b5⟩
set_option maxHeartbeats 400000 in
theorem lawCrc32_big (a : Option Addr) (cap n : Nat) (w : World) (hn : 1048576 < n) (hm : n ≤ maxLen) :
    Calls Try.prog 3 #[.slice a n cap] w fun e w' => e = .returned (.bool true) ∧ Below w.heap.size w w' := by
  unfold maxLen at hm
  have hd : (1048576 : Int) < (n : Int) := by omega
  go_enter Try.func3, Try.ntmps3
  go_wp2
  go_ret
  exact ⟨rfl, Below.refl _ _⟩
theorem crc32_walk (a : Option Addr) (len cap : Nat) (w : World) (h : BytesIn w a len cap) :
    Calls Try.prog 3 #[.slice a len cap] w fun e w' => e = .returned (.bool true) ∧ Below w.heap.size w w' := by
  obtain ⟨hm, -, xs, rfl, hb, hr⟩ := h
  by_cases h : xs.length ≤ 1048576
  · exact lawCrc32_small a cap xs w hr hb h
  · exact lawCrc32_big a cap _ w (by omega) hm
end Go.Proofs.Ytcljakdcejhfiaa
