import Derived.Test.YtcljakdcejhfiadJLinkTick4
import Derived.Test.YtcljakdcejhfiadJLinkTick5
import Derived.Test.YtcljakdcejhfiadJLinkTick6
namespace Go.Proofs.Ytcljakdcejhfiad
open Go.RowKit
def crcM (xs : List Nat) : Nat := crcFold xs ^^^ 4294967295
structure PM where
  kind : Int
  field : Int
  count : Int
  bufs : List (List Nat)
end Go.Proofs.Ytcljakdcejhfiad
