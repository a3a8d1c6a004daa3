import Derived.Test.YtcljakdcejhfiacJLinkAcked0
import Derived.Test.YtcljakdcejhfiacJLinkAcked7
namespace Go.Proofs.Ytcljakdcejhfiac
open Go.RowKit
end Go.Proofs.Ytcljakdcejhfiac
