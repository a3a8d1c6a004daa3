import Derived.Test.YtmaccmgmcahopaaJWindow32
import Derived.Test.YtmaccmgmcahopaaJWindow33
import Derived.Deep.DeepCutAuto
import Derived.Test.YtmaccmgmcahopaaJWindow31
namespace Go.Proofs.Ytmaccmgmcahopaa
open Go.RowKit Go.Maps Go.WideMaps
end Go.Proofs.Ytmaccmgmcahopaa
namespace Go.Proofs.Ytmaccmgmcahopaa
open Go.RowKit Go.Maps Go.WideMaps
end Go.Proofs.Ytmaccmgmcahopaa
