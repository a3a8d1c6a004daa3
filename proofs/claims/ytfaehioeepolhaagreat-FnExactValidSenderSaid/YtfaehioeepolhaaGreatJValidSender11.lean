import Derived.Test.YtfaehioeepolhaaGreatJValidSender9
import Derived.Test.YtfaehioeepolhaaGreatJValidSender10
namespace Go.Proofs.YtfaehioeepolhaaGreat
open Go.RowKit
structure PM where
  kind : Int
  field : Int
  count : Int
  bufs : List (List Nat)
end Go.Proofs.YtfaehioeepolhaaGreat
