import Derived.Test.YtcljakdcejhfiadJLinkTick20
import Derived.Test.YtcljakdcejhfiadJLinkTick14
import Derived.Test.YtcljakdcejhfiadJLinkTick8
namespace Go.Proofs.Ytcljakdcejhfiad
open Go.RowKit
set_option maxRecDepth 100000 in
set_option maxHeartbeats 2000000 in
theorem markLinkOut_any (e n t : Int) (a : Option Addr) (cap : Nat) (ys : List PW) (d : Nat) (bs : List Nat) (m L : Nat) (w : World) (hL : L = ys.length - d) (h : OwnCut cSnt 101 w ys d a cap bs) (hnd : bs.Nodup) (ht : totL wN ys ≤ 1048576) (hm : m ≤ 1073741824) :
    Calls Try.prog 21 #[.agg #[.int .i64 e, .int .i64 n, .int .i64 t, .slice a L cap], .int .i64 m] w fun e w' => e = .returned (.int .i64 ((m + sumL sT (ys.drop d) : Nat) : Int)) ∧ OwnCut cSnt 101 w' (ys.take d ++ mkL sT mkS m (ys.drop d)) d a cap bs ∧ Only bs w w' := by
  subst hL
  have HO := hid h
  have HND := hid hnd
  have ht2 : ys.length ≤ 1048576 ∧ (ys.map wN).sum ≤ 1048576 := by unfold totL at ht; omega
  have HT2 := hid ht2
  clear h hnd ht ht2
  go_enter Try.func21, Try.ntmps21
  go_wp2_with fail
  refine (markSentS_any a cap ys d bs m _ (HO.out.later (below_new1 w _)) HND.out HT2.out.1 HT2.out.2 hm).mono ?_
  rintro e w2 ⟨rfl, o2, on2⟩
  have HO2 := hid o2
  have HON := hid ((Only.of_below (below_new1 w _)).trans on2)
  clear o2 on2
  go_wp2
  go_ret
  exact ⟨rfl, HO2.out, HON.out⟩
set_option maxRecDepth 100000 in
set_option maxHeartbeats 2000000 in
theorem heldLinkOut_any (e n t : Int) (a : Option Addr) (cap : Nat) (xs : List PW) (m : Nat) (w : World) (hr : RdSl cSnt w (mkL sT mkS m xs) (.slice a xs.length cap)) (ht : totL wN xs ≤ 1048576) (hm : m ≤ 1073741824) :
    Calls Try.prog 23 #[.agg #[.int .i64 e, .int .i64 n, .int .i64 t, .slice a xs.length cap], .int .i64 m] w fun e w' => e = .returned (.int .i64 ((m + sumL sT xs : Nat) : Int)) ∧ Below w.heap.size w w' := by
  have HR := hid hr
  have ht2 : xs.length ≤ 1048576 ∧ (xs.map wN).sum ≤ 1048576 := by unfold totL at ht; omega
  have HT2 := hid ht2
  have hsm : sumL sT xs ≤ 8388608 := by have h1 := sT_le xs; omega
  clear hr ht ht2
  go_enter Try.func23, Try.ntmps23
  go_wp2_with fail
  refine (heldSentS_any a cap xs m _ (HR.out.later (below_new1 w _)) HT2.out.1 HT2.out.2 hm).mono ?_
  rintro e w2 ⟨rfl, b2⟩
  have HB := hid (below_chain (below_new1 w _) b2)
  clear b2
  generalize hS : sumL sT xs = S at *
  have HS := hid hS
  clear hS
  go_wp2
  go_ret
  exact ⟨ret_int (by rw [HS.out]; omega), HB.out⟩
end Go.Proofs.Ytcljakdcejhfiad
namespace Go.Proofs.Ytcljakdcejhfiad
def dataB (p : PP) (e : Int) : Bool := pktOK p && (decide (p.kind = 1) && decide (p.epoch = e))
end Go.Proofs.Ytcljakdcejhfiad
namespace Go.Proofs.Ytcljakdcejhfiad
open Go.RowKit
def outW (o : PO) (i : Nat) (s : PW) : Bool := dataB s.pkt o.epoch && decide (s.pkt.seq = o.next - o.wait.length + i ∧ -1 ≤ s.at_ ∧ s.at_ ≤ o.now)
abbrev OutH (o : PO) : Prop := 1 ≤ o.epoch ∧ o.epoch ≤ 1000000000 ∧ 0 ≤ o.next ∧ o.next ≤ 1000000000000 ∧ 0 ≤ o.now ∧ o.now ≤ 1000000000 ∧ o.wait.length ≤ 300
def outOK (o : PO) : Bool := decide (OutH o) && (List.range o.wait.length).all fun i => match o.wait[i]? with | some s => outW o i s | none => true
theorem outOK_head {o : PO} (h : ¬ OutH o) : outOK o = false := by unfold outOK; rw [decide_eq_false h]; rfl
theorem outOK_at {o : PO} {k : Nat} (hk : k < o.wait.length) (h : outW o k o.wait[k] = false) : outOK o = false := by
  unfold outOK
  rw [Bool.and_eq_false_iff]
  refine .inr ?_
  rw [List.all_eq_false]
  refine ⟨k, List.mem_range.2 hk, ?_⟩
  simp [hk, h]
theorem outOK_all {o : PO} (h : OutH o) (ha : ∀ k, (hk : k < o.wait.length) → outW o k o.wait[k] = true) : outOK o = true := by
  unfold outOK
  rw [decide_eq_true h, Bool.true_and, List.all_eq_true]
  intro i hi
  have hi' := List.mem_range.1 hi
  simp [hi', ha i hi']
theorem outOK_of {o : PO} (h : outOK o = true) : OutH o ∧ ∀ k, (hk : k < o.wait.length) → outW o k o.wait[k] = true := by
  unfold outOK at h
  rw [Bool.and_eq_true, List.all_eq_true] at h
  refine ⟨of_decide_eq_true h.1, fun k hk => ?_⟩
  have := h.2 k (List.mem_range.2 hk)
  simpa [hk] using this
end Go.Proofs.Ytcljakdcejhfiad
