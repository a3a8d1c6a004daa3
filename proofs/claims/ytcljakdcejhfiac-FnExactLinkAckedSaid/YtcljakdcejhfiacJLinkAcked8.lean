import Derived.Test.YtcljakdcejhfiacJLinkAcked4
import Derived.Test.YtcljakdcejhfiacJLinkAcked5
import Derived.Test.YtcljakdcejhfiacJLinkAcked6
import Derived.Test.YtcljakdcejhfiacJLinkAcked7
namespace Go.Proofs.Ytcljakdcejhfiac
open Go.RowKit
def crcM (xs : List Nat) : Nat := crcFold xs ^^^ 4294967295
structure PM where
  kind : Int
  field : Int
  count : Int
  bufs : List (List Nat)
end Go.Proofs.Ytcljakdcejhfiac
