import Derived.Test.YtcljakdcejhfiaaJPackBits1
import Derived.Test.YtcljakdcejhfiaaJPackBits2
import Derived.Test.YtcljakdcejhfiaaJPackBits3
import Derived.Test.YtcljakdcejhfiaaJPackBits4
import Derived.Test.YtcljakdcejhfiaaJPackBits6
import Derived.Test.YtcljakdcejhfiaaJPackBits7
import Derived.Test.YtcljakdcejhfiaaJPackBits9
import Derived.Test.YtcljakdcejhfiaaJPackBits10
namespace Go.Proofs.Ytcljakdcejhfiaa
open Go.RowKit
set_option maxHeartbeats 1000000 in
theorem lawPackBits_small (a : Option Addr) (cap : Nat) (bs : List Bool) (w : World) (hr : Rd w a (bls bs)) (hn : bs.length ≤ 1048576) :
    Calls Try.prog 4 #[.slice a bs.length cap] w fun e w' => e = .returned (.bool true) ∧ Below w.heap.size w w' := by
  have hn' : bs.length ≤ 1099511627776 := by omega
  have hnb : nb bs.length ≤ bs.length := nb_le bs.length
  have hpl : Hid ((packed bs).length = nb bs.length) := hid (packed_len bs)
  go_enter Try.func4, Try.ntmps4
  go_wp2_with fail
  refine (toBoolS_any a cap bs w hr hn').mono ?_
  rintro e w1 ⟨g1, rfl, o1, b1⟩
  go_wp2_with fail
  refine (specPack_any _ _ bs w1 (rd_row o1) hn').mono ?_
  rintro e w2 ⟨aW, cW, rfl, oW2, -, b2⟩
  have b02 := below_chain b1 b2
  go_wp2_with fail
  refine (toBoolS_any a cap bs w2 (hr.later b02) hn').mono ?_
  rintro e w3 ⟨g3, rfl, oX3, b3⟩
  go_wp2_with fail
  refine (implPack_any _ _ bs w3 (rd_row oX3) hn').mono ?_
  rintro e w4 ⟨g4, rfl, oG4, b4⟩
  have b24 := below_chain b3 b4
  have b04 := below_chain b02 b24
  go_wp2_with fail
  refine (eqByteS_any _ _ _ _ _ (packed bs) w4 (rd_row oG4) (rd_at (own_later oW2 b24)) hpl.out (by omega)).mono ?_
  rintro e w5 ⟨rfl, b5⟩
  have b05 := below_chain b04 b5
  go_wp2_with fail
  refine (toBoolS_any a cap bs w5 (hr.later b05) hn').mono ?_
  rintro e w6 ⟨g6, rfl, oY6, b6⟩
  go_wp2_with fail
  have oX6 := own_later oX3 (below_chain (below_chain b4 b5) b6)
  refine (eqBoolS_any _ _ _ _ _ bs w6 (rd_row oX6) (rd_row oY6) rfl hn').mono ?_
  rintro e w7 ⟨rfl, b7⟩
  have b47 := below_chain (below_chain b5 b6) b7
  have b07 := below_chain b04 b47
  have oX7 := own_later oX6 b7
  have oG7 := own_later oG4 b47
  have oW7 := own_later oW2 (below_chain b24 b47)
  go_wp2_with fail
  refine (markBoolS_any _ _ 1 _ _ w7 oX7 hn' (by omega)).mono ?_
  rintro e w8 ⟨rfl, -, gr8⟩
  have hX := fun g h => own_in (g := g) oX3 h
  have hG := fun g h => own_in (g := g) oG4 h
  have hW := fun g h => own_in (g := g) oW2 h
  have oG8 := own_marked oG7 gr8 (fun k g e f => by have := hG k e; have := hX g f; omega)
  have oW8 := own_marked oW7 gr8 (fun k g e f => by have := hW k e; have := hX g f; omega)
  have b08 := below_marked b07 gr8 (fun g f => by have := hX g f; have := b02.size; omega)
  go_wp2_with fail
  refine (eqByteS_any _ _ _ _ _ (packed bs) w8 (rd_row oG8) (rd_at oW8) hpl.out (by omega)).mono ?_
  rintro e w9 ⟨rfl, b9⟩
  have oG9 := own_later oG8 b9
  have oW9 := own_later oW8 b9
  have b09 := below_chain b08 b9
  go_wp2_with fail
  refine (markByteS_any _ _ 1 _ _ w9 oG9 (by omega) (by omega)).mono ?_
  rintro e w10 ⟨rfl, oG10, gr10⟩
  have oW10 := own_marked oW9 gr10 (fun k g e f => by have := hW k e; have := hG g f; have := b3.size; omega)
  have b010 := below_marked b09 gr10 (fun g f => by have := hG g f; have := b02.size; have := b3.size; omega)
  go_wp2_with fail
  refine (heldByteS_any _ _ _ 1 w10 (rd_row oG10) (by omega) (by omega)).mono ?_
  rintro e w11 ⟨rfl, b11⟩
  have b011 := below_chain b010 b11
  have oW11 := own_later oW10 b11
  go_wp2_with fail
  refine (toBoolS_any a cap bs w11 (hr.later b011) hn').mono ?_
  rintro e w12 ⟨g12, rfl, o12, b12⟩
  go_wp2_with fail
  refine (implPack_any _ _ bs w12 (rd_row o12) hn').mono ?_
  rintro e w13 ⟨g13, rfl, o13, b13⟩
  have b1113 := below_chain b12 b13
  go_wp2_with fail
  refine (eqByteS_any _ _ _ _ _ (packed bs) w13 (rd_row o13) (rd_at (own_later oW11 b1113)) hpl.out (by omega)).mono ?_
  rintro e w14 ⟨rfl, b14⟩
  go_wp2
  go_ret
  exact ⟨rfl, below_chain (below_chain b011 b1113) b14⟩
set_option maxHeartbeats 400000 in
theorem lawPackBits_big (a : Option Addr) (cap n : Nat) (w : World) (hn : 1048576 < n) (hm : n ≤ maxLen) :
    Calls Try.prog 4 #[.slice a n cap] w fun e w' => e = .returned (.bool true) ∧ Below w.heap.size w w' := by
  unfold maxLen at hm
  have hd : (1048576 : Int) < (n : Int) := by omega
  go_enter Try.func4, Try.ntmps4
  go_wp2
  go_ret
  exact ⟨rfl, Below.refl _ _⟩
theorem packBits_walk (a : Option Addr) (len cap : Nat) (w : World) (h : BoolsIn w a len) :
    Calls Try.prog 4 #[.slice a len cap] w fun e w' => e = .returned (.bool true) ∧ Below w.heap.size w w' := by
  obtain ⟨hm, xs, rfl, hr⟩ := h
  by_cases h : xs.length ≤ 1048576
  · exact lawPackBits_small a cap xs w hr h
  · exact lawPackBits_big a cap _ w (by omega) hm
end Go.Proofs.Ytcljakdcejhfiaa
