import Derived.Test.YtcljakdcejhfiacJValidOut8
namespace Go.Proofs.Ytcljakdcejhfiac
open Go.RowKit
end Go.Proofs.Ytcljakdcejhfiac
