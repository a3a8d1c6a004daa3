import Derived.Test.YtcljakdcejhfiacJLinkPush4
import Derived.Test.YtcljakdcejhfiacJLinkPush5
import Derived.Test.YtcljakdcejhfiacJLinkPush6
import Derived.Test.YtcljakdcejhfiacJLinkPush7
namespace Go.Proofs.Ytcljakdcejhfiac
open Go.RowKit
def crcM (xs : List Nat) : Nat := crcFold xs ^^^ 4294967295
structure PM where
  kind : Int
  field : Int
  count : Int
  bufs : List (List Nat)
end Go.Proofs.Ytcljakdcejhfiac
