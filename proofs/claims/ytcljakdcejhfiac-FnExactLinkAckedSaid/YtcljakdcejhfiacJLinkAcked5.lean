import Derived.WalkKit
import Derived.Laws.Bits64
namespace Go.Proofs.Ytcljakdcejhfiac
open Go.RowKit
end Go.Proofs.Ytcljakdcejhfiac
