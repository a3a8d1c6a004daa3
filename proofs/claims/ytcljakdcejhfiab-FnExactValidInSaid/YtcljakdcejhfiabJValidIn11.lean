import Derived.Test.YtcljakdcejhfiabJValidIn7
import Derived.Test.YtcljakdcejhfiabJValidIn8
import Derived.Test.YtcljakdcejhfiabJValidIn9
import Derived.Test.YtcljakdcejhfiabJValidIn10
namespace Go.Proofs.Ytcljakdcejhfiab
open Go.RowKit
structure PM where
  kind : Int
  field : Int
  count : Int
  bufs : List (List Nat)
end Go.Proofs.Ytcljakdcejhfiab
