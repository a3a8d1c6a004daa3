import Derived.Test.YtcljakdcejhfiacJValidStream18
namespace Go.Proofs.Ytcljakdcejhfiac
open Go.RowKit
end Go.Proofs.Ytcljakdcejhfiac
