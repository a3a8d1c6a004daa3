import Derived.Test.YtcljakdcejhfiacJValidStream13
import Derived.Test.YtcljakdcejhfiacJValidStream14
import Derived.Test.YtcljakdcejhfiacJValidStream15
import Derived.Test.YtcljakdcejhfiacJValidStream16
namespace Go.Proofs.Ytcljakdcejhfiac
open Go.RowKit
structure PM where
  kind : Int
  field : Int
  count : Int
  bufs : List (List Nat)
end Go.Proofs.Ytcljakdcejhfiac
