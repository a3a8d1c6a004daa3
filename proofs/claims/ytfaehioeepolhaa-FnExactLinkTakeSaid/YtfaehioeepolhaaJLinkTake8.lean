import Derived.Test.YtfaehioeepolhaaJLinkTake4
import Derived.Test.YtfaehioeepolhaaJLinkTake5
import Derived.Test.YtfaehioeepolhaaJLinkTake6
import Derived.Test.YtfaehioeepolhaaJLinkTake7
namespace Go.Proofs.Ytfaehioeepolhaa
open Go.RowKit
structure PM where
  kind : Int
  field : Int
  count : Int
  bufs : List (List Nat)
end Go.Proofs.Ytfaehioeepolhaa
