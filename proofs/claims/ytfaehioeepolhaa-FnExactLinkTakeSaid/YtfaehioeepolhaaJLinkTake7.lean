import Derived.WalkKit
namespace Go.Proofs.Ytfaehioeepolhaa
end Go.Proofs.Ytfaehioeepolhaa
