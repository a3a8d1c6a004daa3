import Derived.Test.YtcljakdcejhfiabJDecodePacket9
import Derived.Test.YtcljakdcejhfiabJDecodePacket10
import Derived.Test.YtcljakdcejhfiabJDecodePacket11
import Derived.Test.YtcljakdcejhfiabJDecodePacket12
namespace Go.Proofs.Ytcljakdcejhfiab
open Go.RowKit
def crcM (xs : List Nat) : Nat := crcFold xs ^^^ 4294967295
structure PM where
  kind : Int
  field : Int
  count : Int
  bufs : List (List Nat)
end Go.Proofs.Ytcljakdcejhfiab
