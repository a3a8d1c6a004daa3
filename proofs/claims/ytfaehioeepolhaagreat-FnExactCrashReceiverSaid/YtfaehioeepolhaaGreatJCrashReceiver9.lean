import Derived.Test.YtfaehioeepolhaaGreatJCrashReceiver7
import Derived.Test.YtfaehioeepolhaaGreatJCrashReceiver8
namespace Go.Proofs.YtfaehioeepolhaaGreat
open Go.RowKit
structure PM where
  kind : Int
  field : Int
  count : Int
  bufs : List (List Nat)
end Go.Proofs.YtfaehioeepolhaaGreat
