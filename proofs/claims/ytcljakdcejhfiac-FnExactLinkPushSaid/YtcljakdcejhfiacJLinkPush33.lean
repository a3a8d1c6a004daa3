import Derived.Test.YtcljakdcejhfiacJLinkPush0
import Derived.Test.YtcljakdcejhfiacJLinkPush7
namespace Go.Proofs.Ytcljakdcejhfiac
open Go.RowKit
end Go.Proofs.Ytcljakdcejhfiac
