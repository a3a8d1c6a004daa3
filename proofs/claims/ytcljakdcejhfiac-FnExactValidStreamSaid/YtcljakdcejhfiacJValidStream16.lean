import Derived.WalkKit
namespace Go.Proofs.Ytcljakdcejhfiac
end Go.Proofs.Ytcljakdcejhfiac
