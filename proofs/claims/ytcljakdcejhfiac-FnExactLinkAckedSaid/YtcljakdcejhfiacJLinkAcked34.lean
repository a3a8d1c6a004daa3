import Derived.Test.YtcljakdcejhfiacJLinkAcked0
import Derived.Test.YtcljakdcejhfiacJLinkAcked6
namespace Go.Proofs.Ytcljakdcejhfiac
open Go.RowKit
end Go.Proofs.Ytcljakdcejhfiac
namespace Go.Proofs.Ytcljakdcejhfiac
open Go.RowKit
end Go.Proofs.Ytcljakdcejhfiac
