import Derived.Test.YtcljakdcejhfiacJValidOut7
import Derived.Test.YtcljakdcejhfiacJValidOut8
import Derived.Test.YtcljakdcejhfiacJValidOut9
import Derived.Test.YtcljakdcejhfiacJValidOut10
namespace Go.Proofs.Ytcljakdcejhfiac
open Go.RowKit
structure PM where
  kind : Int
  field : Int
  count : Int
  bufs : List (List Nat)
end Go.Proofs.Ytcljakdcejhfiac
