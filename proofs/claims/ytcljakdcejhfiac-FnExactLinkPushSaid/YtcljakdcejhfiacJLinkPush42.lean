import Derived.Test.YtcljakdcejhfiacJLinkPush11
namespace Go.Proofs.Ytcljakdcejhfiac
open Go.RowKit
end Go.Proofs.Ytcljakdcejhfiac
