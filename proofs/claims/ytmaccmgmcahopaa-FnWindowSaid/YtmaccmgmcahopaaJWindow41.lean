import Derived.Test.YtmaccmgmcahopaaJWindow14
import Derived.Test.YtmaccmgmcahopaaJWindow22
namespace Go.Proofs.Ytmaccmgmcahopaa
open Go.RowKit
end Go.Proofs.Ytmaccmgmcahopaa
