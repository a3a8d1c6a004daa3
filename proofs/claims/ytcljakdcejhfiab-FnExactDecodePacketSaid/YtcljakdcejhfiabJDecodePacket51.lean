import Derived.Test.YtcljakdcejhfiabJDecodePacket17
import Derived.Test.YtcljakdcejhfiabJDecodePacket49
import Derived.Test.YtcljakdcejhfiabJDecodePacket50
namespace Go.Proofs.Ytcljakdcejhfiab
open Go.RowKit
set_option maxHeartbeats 1000000 in
theorem markPacket_any (p : PP) (a : Option Addr) (c : Nat) (B k : Nat) (vs : List Value) (w : World) (ho : w.ownsRow B 5 1 (.slice a p.data.length c) p.data.length vs) (hn : p.data.length ≤ 1099511627776) (hm : k ≤ 1099511627776) :
    Calls Try.prog 23 #[.agg #[.int .i64 p.kind, .int .i64 p.epoch, .int .i64 p.seq, .int .i64 p.count, .bool p.last, .slice a p.data.length c], .int .i64 k] w fun e w' => e = .returned (.int .i64 ((k + p.data.length : Nat) : Int)) ∧ w'.ownsRow B 5 1 (.slice a p.data.length c) p.data.length (byt (mkByte k p.data.length)) ∧ Only (Value.slice a p.data.length c).ownBlock.toList w w' := by
  have HO := hid ho
  clear ho
  go_enter Try.func23, Try.ntmps23
  go_wp2_with fail
  refine (markByteS_any B _ k _ vs _ (own_later HO.out (below_new1 w _)) hn hm).mono ?_
  rintro e w2 ⟨rfl, o2, g2⟩
  have HO2 := hid o2
  have HON : Hid (Only (Value.slice a p.data.length c).ownBlock.toList w w2) := hid ((Only.of_below (below_new1 w _)).trans ⟨g2.os, g2.tape, g2.output, g2.size, fun i hi hn => g2.block i hi (fun e => hn (by rw [← e]; simp))⟩)
  clear o2 g2
  go_wp2
  go_ret
  exact ⟨rfl, HO2.out, HON.out⟩
set_option maxHeartbeats 1000000 in
theorem heldPacket_any (p : PP) (a : Option Addr) (c : Nat) (k : Nat) (w : World) (hr : Rd w a (byt (mkByte k p.data.length))) (hn : p.data.length ≤ 1099511627776) (hm : k ≤ 1073741824) :
    Calls Try.prog 32 #[.agg #[.int .i64 p.kind, .int .i64 p.epoch, .int .i64 p.seq, .int .i64 p.count, .bool p.last, .slice a p.data.length c], .int .i64 k] w fun e w' => e = .returned (.int .i64 ((k + p.data.length : Nat) : Int)) ∧ Below w.heap.size w w' := by
  have HR := hid hr
  clear hr
  go_enter Try.func32, Try.ntmps32
  go_wp2_with fail
  refine (heldByteS_any a _ c k _ (HR.out.later (below_new1 w _)) hn (by omega)).mono ?_
  rintro e w2 ⟨rfl, b2⟩
  have HB : Hid (Below w.heap.size w w2) := hid ((below_new1 w _).trans (b2.mono (by simp)))
  clear b2
  go_wp2
  go_ret
  exact ⟨rfl, HB.out⟩
end Go.Proofs.Ytcljakdcejhfiab
