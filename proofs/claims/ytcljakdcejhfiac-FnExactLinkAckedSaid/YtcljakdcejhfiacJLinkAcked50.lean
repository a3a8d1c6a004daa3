import Derived.Test.YtcljakdcejhfiacJLinkAcked33
import Derived.Test.YtcljakdcejhfiacJLinkAcked49
import Derived.Test.YtcljakdcejhfiacJLinkAcked42
namespace Go.Proofs.Ytcljakdcejhfiac
open Go.RowKit
set_option maxRecDepth 100000 in
set_option maxHeartbeats 4000000 in
theorem isDataOf_any (p : PP) (a : Option Addr) (cap : Nat) (ep : Int) (w : World) (hn : p.data.length ≤ maxLen) :
    Calls Try.prog 53 #[.agg #[.int .i64 p.kind, .int .i64 p.epoch, .int .i64 p.seq, .int .i64 p.count, .bool p.last, .slice a p.data.length cap], .int .i64 ep] w fun e w' => e = .returned (.bool (dataB p ep)) ∧ Below w.heap.size w w' := by
  have HV := hid (validPacket_any p a cap (w.alloc (.cells #[.int .i64 p.kind, .int .i64 p.epoch, .int .i64 p.seq, .int .i64 p.count, .bool p.last, .slice a p.data.length cap] 83)) hn)
  have HB0 := hid (below_new1 w (.cells #[.int .i64 p.kind, .int .i64 p.epoch, .int .i64 p.seq, .int .i64 p.count, .bool p.last, .slice a p.data.length cap] 83))
  have HK0 : Hid ((w.alloc (.cells #[.int .i64 p.kind, .int .i64 p.epoch, .int .i64 p.seq, .int .i64 p.count, .bool p.last, .slice a p.data.length cap] 83)).heap[w.heap.size]? = some (.cells #[.int .i64 p.kind, .int .i64 p.epoch, .int .i64 p.seq, .int .i64 p.count, .bool p.last, .slice a p.data.length cap] 83 (0, 0))) := hid (heap_alloc_new w _)
  have HD : Hid (dataB p ep = (pktOK p && (decide (p.kind = 1) && decide (p.epoch = ep)))) := hid rfl
  clear hn
  go_enter Try.func53, Try.ntmps53
  go_wp2_with fail
  refine HV.out.mono ?_
  rintro e w2 ⟨rfl, b2⟩
  have hx := box_laterP2 HK0.out b2
  have z0 := cell_of_row _ _ 0 _ _ _ hx
  have z1 := cell_of_row _ _ 1 _ _ _ hx
  simp only [List.getElem?_toArray, List.getElem?_cons_zero, List.getElem?_cons_succ] at z0 z1
  have HB2 := hid (below_chain HB0.out b2)
  clear b2 hx
  cases hok : pktOK p with
  | false =>
    rw [hok] at HD
    clear hok
    go_wp2
    go_ret
    exact ⟨(by rw [HD.out]; first | done | rfl), HB2.out⟩
  | true =>
    rw [hok] at HD
    clear hok
    by_cases k1 : p.kind = 1
    · have k1t : (p.kind == 1) = true := by simp; omega
      rw [decide_eq_true k1] at HD
      clear k1
      by_cases e1 : p.epoch = ep
      · have e1t : (p.epoch == ep) = true := by simp; omega
        rw [decide_eq_true e1] at HD
        clear e1
        go_wp2
        go_ret
        exact ⟨(by rw [HD.out]; first | done | rfl), HB2.out⟩
      · have e1t : (p.epoch == ep) = false := by simp; omega
        rw [decide_eq_false e1] at HD
        clear e1
        go_wp2
        go_ret
        exact ⟨(by rw [HD.out]; first | done | rfl), HB2.out⟩
    · have k1t : (p.kind == 1) = false := by simp; omega
      rw [decide_eq_false k1] at HD
      clear k1
      go_wp2
      go_ret
      exact ⟨(by rw [HD.out]; first | done | rfl), HB2.out⟩
end Go.Proofs.Ytcljakdcejhfiac
