import Derived.Test.YtcljakdcejhfiabJEncodePacket6
import Derived.Test.YtcljakdcejhfiabJEncodePacket7
import Derived.Test.YtcljakdcejhfiabJEncodePacket8
import Derived.Test.YtcljakdcejhfiabJEncodePacket9
namespace Go.Proofs.Ytcljakdcejhfiab
open Go.RowKit
def crcM (xs : List Nat) : Nat := crcFold xs ^^^ 4294967295
structure PM where
  kind : Int
  field : Int
  count : Int
  bufs : List (List Nat)
end Go.Proofs.Ytcljakdcejhfiab
