import Derived.WalkKit
import Derived.Laws.Bits64
namespace Go.Proofs.Ytcljakdcejhfiab
open Go.RowKit
end Go.Proofs.Ytcljakdcejhfiab
