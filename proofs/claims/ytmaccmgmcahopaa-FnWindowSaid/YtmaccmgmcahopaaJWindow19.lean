import Derived.Test.YtmaccmgmcahopaaJWindow17
import Derived.Test.YtmaccmgmcahopaaJWindow6
import Derived.Handy
import Derived.Deep.RegionHeld
import Derived.Test.YtmaccmgmcahopaaJWindow18
import Derived.Test.YtmaccmgmcahopaaJWindow5
import Derived.Test.YtmaccmgmcahopaaJWindow14
namespace Go.Proofs.Ytmaccmgmcahopaa
open Go.RowKit
end Go.Proofs.Ytmaccmgmcahopaa
namespace Go.Proofs.Ytmaccmgmcahopaa
open Go.RowKit
end Go.Proofs.Ytmaccmgmcahopaa
namespace Go.Proofs.Ytmaccmgmcahopaa
open Go.RowKit
end Go.Proofs.Ytmaccmgmcahopaa
namespace Go.Proofs.Ytmaccmgmcahopaa
open Go.RowKit
end Go.Proofs.Ytmaccmgmcahopaa
namespace Go.Proofs.Ytmaccmgmcahopaa
open Go.RowKit
structure PT where
  rows : Int
  cells : List PC
end Go.Proofs.Ytmaccmgmcahopaa
namespace Go.Proofs.Ytmaccmgmcahopaa
end Go.Proofs.Ytmaccmgmcahopaa
namespace Go.Proofs.Ytmaccmgmcahopaa
open Go.RowKit
end Go.Proofs.Ytmaccmgmcahopaa
