import Derived.Test.YtcljakdcejhfiabJEncodePacket0
import Derived.Test.YtcljakdcejhfiabJEncodePacket8
namespace Go.Proofs.Ytcljakdcejhfiab
open Go.RowKit
theorem infoByteP : (Try.prog.info? 5).map (fun i => (i.zero, i.size, i.bytes)) = some (some (.int .u8 0), 1, 1) := by kernel_rfl
theorem byt_snoc (xs : List Nat) (d : Nat) : byt (xs ++ [d]) = byt xs ++ [.int .u8 (d : Int)] := by simp [byt]
end Go.Proofs.Ytcljakdcejhfiab
