import Derived.Test.YtcljakdcejhfiabJJoinAligned6
import Derived.Test.YtcljakdcejhfiabJJoinAligned8
import Derived.Test.YtcljakdcejhfiabJJoinAligned9
import Derived.Test.YtcljakdcejhfiabJJoinAligned11
import Derived.Test.YtcljakdcejhfiabJJoinAligned12
namespace Go.Proofs.Ytcljakdcejhfiab
open Go.RowKit
set_option maxHeartbeats 2000000 in
theorem joinAligned_walk (a : Option Addr) (len cap : Nat) (w : World) (h : SSIn w a len) :
    Calls Try.prog 3 #[.slice a len cap] w fun e w' => e = .returned (.bool true) ∧ Below w.heap.size w w' := by
  obtain ⟨xss, rfl, hB⟩ := h
  have HR := hid hB.1
  have HBB := hid hB
  clear hB
  go_enter Try.func3, Try.ntmps3
  go_wp2_with fail
  refine (szByteSS_any a cap xss w HBB.out).mono ?_
  rintro e w ⟨L, rfl, hL, rfl⟩
  by_cases hneg : L < 0
  · go_wp2
    go_ret
    exact ⟨rfl, Below.refl _ _⟩
  obtain ⟨hn, ht⟩ := hL (by omega)
  have hlj : (join xss).length ≤ 1099511627776 := by have := join_len xss; omega
  go_wp2_with fail
  refine (toByteSS_any a cap xss w HR.out hn ht).mono ?_
  rintro e w1 ⟨g1, rfl, o1, b1⟩
  have r1 := o1.rd rfl
  go_wp2_with fail
  refine (specJoin_any _ _ xss w1 r1 hn ht).mono ?_
  rintro e w2 ⟨aW, cW, rfl, oW2, b2⟩
  have b02 := below_chain b1 b2
  go_wp2_with fail
  refine (toByteSS_any a cap xss w2 (HR.out.later b02) hn ht).mono ?_
  rintro e w3 ⟨g3, rfl, oX3, b3⟩
  have r3 := oX3.rd rfl
  go_wp2_with fail
  refine (implJoin_any _ _ xss w3 r3 hn ht).mono ?_
  rintro e w4 ⟨aG, cG, rfl, oG4, b4⟩
  have b24 := below_chain b3 b4
  have b04 := below_chain b02 b24
  go_wp2_with fail
  refine (eqByteS_any _ _ _ _ _ (join xss) w4 (rd_at oG4) (rd_at (own_later oW2 b24)) rfl hlj).mono ?_
  rintro e w5 ⟨rfl, b5⟩
  have b05 := below_chain b04 b5
  go_wp2_with fail
  refine (toByteSS_any a cap xss w5 (HR.out.later b05) hn ht).mono ?_
  rintro e w6 ⟨g6, rfl, oY6, b6⟩
  have r6 := oY6.rd rfl
  go_wp2_with fail
  have oX6 := oX3.later (below_chain (below_chain b4 b5) b6)
  refine (eqByteSS_any _ _ _ _ xss w6 (oX6.rd rfl) r6 hn ht).mono ?_
  rintro e w7 ⟨rfl, b7⟩
  have b47 := below_chain (below_chain b5 b6) b7
  have b07 := below_chain b04 b47
  have oX7 := oX6.later b7
  have oG7 := own_later oG4 b47
  have oW7 := own_later oW2 (below_chain b24 b47)
  go_wp2_with fail
  refine (markByteSS_any _ _ _ _ g3 1 xss w7 oX7 rfl hn ht (by omega)).mono ?_
  rintro e w8 ⟨q, rfl, fr8⟩
  have hG := fun g h => own_in (g := g) oG4 h
  have hWW := fun g h => own_in (g := g) oW2 h
  have oG8 := own_fr oG7 fr8 (fun k e => by have := hG k e; omega)
  have oW8 := own_fr oW7 fr8 (fun k e => by have := hWW k e; omega)
  have b08 := below_fr b07 fr8 b02.size
  go_wp2_with fail
  refine (eqByteS_any _ _ _ _ _ (join xss) w8 (rd_at oG8) (rd_at oW8) rfl hlj).mono ?_
  rintro e w9 ⟨rfl, b9⟩
  have oG9 := own_later oG8 b9
  have oW9 := own_later oW8 b9
  have b09 := below_chain b08 b9
  go_wp2_with fail
  refine (markByteS_any _ _ 1 _ _ w9 oG9 hlj (by omega)).mono ?_
  rintro e w10 ⟨rfl, oG10, gr10⟩
  have oW10 := own_marked oW9 gr10 (fun k g e f => by have := hWW k e; have := hG g f; have := b3.size; omega)
  have b010 := below_marked b09 gr10 (fun g f => by have := hG g f; have := b02.size; have := b3.size; omega)
  go_wp2_with fail
  refine (heldByteS_any _ _ _ 1 w10 (rd_at oG10) hlj (by omega)).mono ?_
  rintro e w11 ⟨rfl, b11⟩
  have b011 := below_chain b010 b11
  have oW11 := own_later oW10 b11
  go_wp2_with fail
  refine (toByteSS_any a cap xss w11 (HR.out.later b011) hn ht).mono ?_
  rintro e w12 ⟨g12, rfl, o12, b12⟩
  have r12 := o12.rd rfl
  go_wp2_with fail
  refine (implJoin_any _ _ xss w12 r12 hn ht).mono ?_
  rintro e w13 ⟨a13, c13, rfl, o13, b13⟩
  have b1113 := below_chain b12 b13
  go_wp2_with fail
  refine (eqByteS_any _ _ _ _ _ (join xss) w13 (rd_at o13) (rd_at (own_later oW11 b1113)) rfl hlj).mono ?_
  rintro e w14 ⟨rfl, b14⟩
  go_wp2
  go_ret
  exact ⟨rfl, below_chain (below_chain b011 b1113) b14⟩
end Go.Proofs.Ytcljakdcejhfiab
