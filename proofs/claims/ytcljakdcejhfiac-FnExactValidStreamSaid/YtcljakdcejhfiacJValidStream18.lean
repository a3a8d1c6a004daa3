import Derived.Test.YtcljakdcejhfiacJValidStream0
namespace Go.Proofs.Ytcljakdcejhfiac
open Go.RowKit
end Go.Proofs.Ytcljakdcejhfiac
