import Derived.Test.YtcljakdcejhfiacJLinkAcked12
namespace Go.Proofs.Ytcljakdcejhfiac
open Go.RowKit
end Go.Proofs.Ytcljakdcejhfiac
