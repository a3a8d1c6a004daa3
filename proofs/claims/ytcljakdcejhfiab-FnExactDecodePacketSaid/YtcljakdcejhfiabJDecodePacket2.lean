import Derived.Test.YtcljakdcejhfiabJDecodePacket0
namespace Go.Proofs.Ytcljakdcejhfiab
open Go.RowKit
def rest (l : Int) (n : Nat) : Int := if l - n < 0 then -1 else l - n
end Go.Proofs.Ytcljakdcejhfiab
