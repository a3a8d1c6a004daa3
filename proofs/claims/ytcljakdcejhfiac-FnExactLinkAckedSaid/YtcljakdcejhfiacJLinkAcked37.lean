import Derived.Test.YtcljakdcejhfiacJLinkAcked33
namespace Go.Proofs.Ytcljakdcejhfiac
open Go.RowKit
end Go.Proofs.Ytcljakdcejhfiac
