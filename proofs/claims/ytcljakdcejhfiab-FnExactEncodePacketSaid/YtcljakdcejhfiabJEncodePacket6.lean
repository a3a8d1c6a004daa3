import Derived.WalkKit
namespace Go.Proofs.Ytcljakdcejhfiab
end Go.Proofs.Ytcljakdcejhfiab
