import Derived.WalkKit
import Derived.Laws.Bits64
namespace Go.Proofs.Ytfaehioeepolhaa
open Go.RowKit
end Go.Proofs.Ytfaehioeepolhaa
