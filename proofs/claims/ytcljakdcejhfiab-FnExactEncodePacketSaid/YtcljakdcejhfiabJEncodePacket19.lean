import Derived.Test.YtcljakdcejhfiabJEncodePacket14
import Derived.Test.YtcljakdcejhfiabJEncodePacket17
import Derived.Test.YtcljakdcejhfiabJEncodePacket18
namespace Go.Proofs.Ytcljakdcejhfiab
open Go.RowKit
set_option maxHeartbeats 1000000 in
theorem markPacket_any (p : PP) (a : Option Addr) (c : Nat) (B k : Nat) (vs : List Value) (w : World) (ho : w.ownsRow B 5 1 (.slice a p.data.length c) p.data.length vs) (hn : p.data.length ≤ 1099511627776) (hm : k ≤ 1099511627776) :
    Calls Try.prog 23 #[.agg #[.int .i64 p.kind, .int .i64 p.epoch, .int .i64 p.seq, .int .i64 p.count, .bool p.last, .slice a p.data.length c], .int .i64 k] w fun e w' => e = .returned (.int .i64 ((k + p.data.length : Nat) : Int)) ∧ w'.ownsRow B 5 1 (.slice a p.data.length c) p.data.length (byt (mkByte k p.data.length)) ∧ Only (Value.slice a p.data.length c).ownBlock.toList w w' := by
  have HO := hid ho
  clear ho
  go_enter Try.func23, Try.ntmps23
  go_wp2_with fail
  refine (markByteS_any B _ k _ vs _ (own_later HO.out (below_new1 w _)) hn hm).mono ?_
  rintro e w2 ⟨rfl, o2, g2⟩
  have HO2 := hid o2
  have HON : Hid (Only (Value.slice a p.data.length c).ownBlock.toList w w2) := hid ((Only.of_below (below_new1 w _)).trans ⟨g2.os, g2.tape, g2.output, g2.size, fun i hi hn => g2.block i hi (fun e => hn (by rw [← e]; simp))⟩)
  clear o2 g2
  go_wp2
  go_ret
  exact ⟨rfl, HO2.out, HON.out⟩
end Go.Proofs.Ytcljakdcejhfiab
