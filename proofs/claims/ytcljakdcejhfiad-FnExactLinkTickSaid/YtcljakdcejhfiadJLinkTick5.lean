import Derived.WalkKit
import Derived.Laws.Bits64
namespace Go.Proofs.Ytcljakdcejhfiad
open Go.RowKit
end Go.Proofs.Ytcljakdcejhfiad
