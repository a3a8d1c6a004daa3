import Derived.Test.YtcljakdcejhfiaaJUnpackInts1
import Derived.Test.YtcljakdcejhfiaaJUnpackInts2
import Derived.Test.YtcljakdcejhfiaaJUnpackInts3
import Derived.Test.YtcljakdcejhfiaaJUnpackInts4
import Derived.Test.YtcljakdcejhfiaaJUnpackInts5
import Derived.Test.YtcljakdcejhfiaaJUnpackInts7
import Derived.Test.YtcljakdcejhfiaaJUnpackInts25
namespace Go.Proofs.Ytcljakdcejhfiaa
open Go.RowKit
set_option maxHeartbeats 2000000 in
theorem lawUnpackInts_small (a : Option Addr) (cap : Nat) (xs : List Nat) (n : Int) (w : World) (hr : Rd w a (byt xs)) (hb : ∀ x ∈ xs, x < 256) (hw : IntIn n) (hn : xs.length ≤ 1048576) :
    Calls Try.prog 6 #[.slice a xs.length cap, .int .i64 n] w fun e w' => e = .returned (.bool true) ∧ Below w.heap.size w w' := by
  have hn' : xs.length ≤ 1099511627776 := by omega
  have HW := hid hw
  have HB := hid hb
  clear hw hb
  have hlen : (uni xs n).1.length ≤ 8 * xs.length := uni_short xs n
  go_enter Try.func6, Try.ntmps6
  go_wp2_with fail
  refine (toByteS_any a cap xs w hr hn').mono ?_
  rintro e w1 ⟨g1, rfl, o1, b1⟩
  go_wp2_with fail
  refine (specUni_any _ _ xs n w1 (rd_row o1) HB.out (Nat.le_refl _) (by omega) HW.out).mono ?_
  rintro e w2 ⟨aW, cW, rfl, oW2, b2⟩
  have b02 := below_chain b1 b2
  go_wp2_with fail
  refine (toByteS_any a cap xs w2 (hr.later b02) hn').mono ?_
  rintro e w3 ⟨g3, rfl, oX3, b3⟩
  go_wp2_with fail
  refine (implUni_any _ _ xs n w3 (rd_row oX3) HB.out (Nat.le_refl _) (by omega) HW.out).mono ?_
  rintro e w4 ⟨aG, cG, rfl, oG4, b4⟩
  generalize hRE : (uni xs n).1 = R at *
  generalize hCE : (uni xs n).2 = C at *
  have HR1 := hid hRE
  have HC1 := hid hCE
  clear hRE hCE
  have b24 := below_chain b3 b4
  have b04 := below_chain b02 b24
  go_wp2_with fail
  refine (eqIntS_any _ _ _ _ _ R w4 (rd_at oG4) (rd_at (own_later oW2 b24)) rfl (by omega)).mono ?_
  rintro e w5 ⟨rfl, b5⟩
  have b05 := below_chain b04 b5
  go_wp2_with fail
  refine (toByteS_any a cap xs w5 (hr.later b05) hn').mono ?_
  rintro e w6 ⟨g6, rfl, oY6, b6⟩
  go_wp2_with fail
  have oX6 := own_later oX3 (below_chain (below_chain b4 b5) b6)
  refine (eqByteS_any _ _ _ _ _ xs w6 (rd_row oX6) (rd_row oY6) rfl hn').mono ?_
  rintro e w7 ⟨rfl, b7⟩
  have b47 := below_chain (below_chain b5 b6) b7
  have b07 := below_chain b04 b47
  have oX7 := own_later oX6 b7
  have oG7 := own_later oG4 b47
  have oW7 := own_later oW2 (below_chain b24 b47)
  go_wp2_with fail
  refine (markByteS_any _ _ 1 _ _ w7 oX7 hn' (by omega)).mono ?_
  rintro e w8 ⟨rfl, -, gr8⟩
  have hX := fun g h => own_in (g := g) oX3 h
  have hG := fun g h => own_in (g := g) oG4 h
  have hWW := fun g h => own_in (g := g) oW2 h
  have oG8 := own_marked oG7 gr8 (fun k g e f => by have := hG k e; have := hX g f; omega)
  have oW8 := own_marked oW7 gr8 (fun k g e f => by have := hWW k e; have := hX g f; omega)
  have b08 := below_marked b07 gr8 (fun g f => by have := hX g f; have := b02.size; omega)
  go_wp2_with fail
  refine (eqIntS_any _ _ _ _ _ R w8 (rd_at oG8) (rd_at oW8) rfl (by omega)).mono ?_
  rintro e w9 ⟨rfl, b9⟩
  have oG9 := own_later oG8 b9
  have oW9 := own_later oW8 b9
  have b09 := below_chain b08 b9
  go_wp2_with fail
  refine (markIntS_any _ _ 1 _ _ w9 oG9 (by omega) (by omega)).mono ?_
  rintro e w10 ⟨rfl, oG10, gr10⟩
  have oW10 := own_marked oW9 gr10 (fun k g e f => by have := hWW k e; have := hG g f; have := b3.size; omega)
  have b010 := below_marked b09 gr10 (fun g f => by have := hG g f; have := b02.size; have := b3.size; omega)
  go_wp2_with fail
  refine (heldIntS_any _ _ _ 1 w10 (rd_at oG10) (by omega) (by omega)).mono ?_
  rintro e w11 ⟨rfl, b11⟩
  have b011 := below_chain b010 b11
  have oW11 := own_later oW10 b11
  go_wp2_with fail
  refine (toByteS_any a cap xs w11 (hr.later b011) hn').mono ?_
  rintro e w12 ⟨g12, rfl, o12, b12⟩
  go_wp2_with fail
  refine (implUni_any _ _ xs n w12 (rd_row o12) HB.out (Nat.le_refl _) (by omega) HW.out).mono ?_
  rintro e w13 ⟨a13, c13, he, o13, b13⟩
  rw [HR1.out, HC1.out] at he
  rw [HR1.out] at o13
  subst he
  have b1113 := below_chain b12 b13
  go_wp2_with fail
  refine (eqIntS_any _ _ _ _ _ R w13 (rd_at o13) (rd_at (own_later oW11 b1113)) rfl (by omega)).mono ?_
  rintro e w14 ⟨rfl, b14⟩
  go_wp2
  go_ret
  exact ⟨rfl, below_chain (below_chain b011 b1113) b14⟩
set_option maxHeartbeats 400000 in
theorem lawUnpackInts_big (a : Option Addr) (cap len : Nat) (n : Int) (w : World) (hn : 1048576 < len) (hm : len ≤ maxLen) :
    Calls Try.prog 6 #[.slice a len cap, .int .i64 n] w fun e w' => e = .returned (.bool true) ∧ Below w.heap.size w w' := by
  unfold maxLen at hm
  have hd : (1048576 : Int) < (len : Int) := by omega
  go_enter Try.func6, Try.ntmps6
  go_wp2
  go_ret
  exact ⟨rfl, Below.refl _ _⟩
theorem unpackInts_walk (a : Option Addr) (len cap : Nat) (n : Int) (w : World) (h : BytesIn w a len cap) (hn : IntIn n) :
    Calls Try.prog 6 #[.slice a len cap, .int .i64 n] w fun e w' => e = .returned (.bool true) ∧ Below w.heap.size w w' := by
  obtain ⟨hm, -, xs, rfl, hb, hr⟩ := h
  by_cases h : xs.length ≤ 1048576
  · exact lawUnpackInts_small a cap xs n w hr hb hn h
  · exact lawUnpackInts_big a cap _ n w (by omega) hm
end Go.Proofs.Ytcljakdcejhfiaa
