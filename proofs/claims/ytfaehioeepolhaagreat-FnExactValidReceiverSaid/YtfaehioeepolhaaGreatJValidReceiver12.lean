import Derived.Test.YtfaehioeepolhaaGreatJValidReceiver10
import Derived.Test.YtfaehioeepolhaaGreatJValidReceiver11
namespace Go.Proofs.YtfaehioeepolhaaGreat
open Go.RowKit
structure PM where
  kind : Int
  field : Int
  count : Int
  bufs : List (List Nat)
end Go.Proofs.YtfaehioeepolhaaGreat
