import Derived.Test.YtcljakdcejhfiacJLinkAcked24
import Derived.Test.YtcljakdcejhfiacJLinkAcked17
namespace Go.Proofs.Ytcljakdcejhfiac
open Go.RowKit
set_option maxRecDepth 100000 in
set_option maxHeartbeats 2000000 in
theorem markLinkOut_any (e n t : Int) (a : Option Addr) (cap : Nat) (ys : List PW) (d : Nat) (bs : List Nat) (m L : Nat) (w : World) (hL : L = ys.length - d) (h : OwnCut cSnt 85 w ys d a cap bs) (hnd : bs.Nodup) (ht : totL wN ys ≤ 1048576) (hm : m ≤ 1073741824) :
    Calls Try.prog 44 #[.agg #[.int .i64 e, .int .i64 n, .int .i64 t, .slice a L cap], .int .i64 m] w fun e w' => e = .returned (.int .i64 ((m + sumL sT (ys.drop d) : Nat) : Int)) ∧ OwnCut cSnt 85 w' (ys.take d ++ mkL sT mkS m (ys.drop d)) d a cap bs ∧ Only bs w w' := by
  subst hL
  have HO := hid h
  have HND := hid hnd
  have ht2 : ys.length ≤ 1048576 ∧ (ys.map wN).sum ≤ 1048576 := by unfold totL at ht; omega
  have HT2 := hid ht2
  clear h hnd ht ht2
  go_enter Try.func44, Try.ntmps44
  go_wp2_with fail
  refine (markSentS_any a cap ys d bs m _ (HO.out.later (below_new1 w _)) HND.out HT2.out.1 HT2.out.2 hm).mono ?_
  rintro e w2 ⟨rfl, o2, on2⟩
  have HO2 := hid o2
  have HON := hid ((Only.of_below (below_new1 w _)).trans on2)
  clear o2 on2
  go_wp2
  go_ret
  exact ⟨rfl, HO2.out, HON.out⟩
set_option maxRecDepth 100000 in
set_option maxHeartbeats 2000000 in
theorem heldLinkOut_any (e n t : Int) (a : Option Addr) (cap : Nat) (xs : List PW) (m : Nat) (w : World) (hr : RdSl cSnt w (mkL sT mkS m xs) (.slice a xs.length cap)) (ht : totL wN xs ≤ 1048576) (hm : m ≤ 1073741824) :
    Calls Try.prog 45 #[.agg #[.int .i64 e, .int .i64 n, .int .i64 t, .slice a xs.length cap], .int .i64 m] w fun e w' => e = .returned (.int .i64 ((m + sumL sT xs : Nat) : Int)) ∧ Below w.heap.size w w' := by
  have HR := hid hr
  have ht2 : xs.length ≤ 1048576 ∧ (xs.map wN).sum ≤ 1048576 := by unfold totL at ht; omega
  have HT2 := hid ht2
  have hsm : sumL sT xs ≤ 8388608 := by have h1 := sT_le xs; omega
  clear hr ht ht2
  go_enter Try.func45, Try.ntmps45
  go_wp2_with fail
  refine (heldSentS_any a cap xs m _ (HR.out.later (below_new1 w _)) HT2.out.1 HT2.out.2 hm).mono ?_
  rintro e w2 ⟨rfl, b2⟩
  have HB := hid (below_chain (below_new1 w _) b2)
  clear b2
  generalize hS : sumL sT xs = S at *
  have HS := hid hS
  clear hS
  go_wp2
  go_ret
  exact ⟨ret_int (by rw [HS.out]; omega), HB.out⟩
end Go.Proofs.Ytcljakdcejhfiac
