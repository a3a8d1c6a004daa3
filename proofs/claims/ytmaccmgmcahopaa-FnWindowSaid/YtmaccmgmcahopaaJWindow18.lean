import Derived.Test.YtmaccmgmcahopaaJWindow8
import Derived.Test.YtmaccmgmcahopaaJWindow3
import Derived.Maps.OwnSet
import Derived.StringKeys
import Derived.Test.YtmaccmgmcahopaaJWindow17
import Derived.Test.YtmaccmgmcahopaaJWindow5
namespace Go.Proofs.Ytmaccmgmcahopaa
open Go.RowKit Go.Maps
end Go.Proofs.Ytmaccmgmcahopaa
namespace Go.Proofs.Ytmaccmgmcahopaa
end Go.Proofs.Ytmaccmgmcahopaa
namespace Go.Proofs.Ytmaccmgmcahopaa
end Go.Proofs.Ytmaccmgmcahopaa
