import Derived.Test.YtfppfjklakdlfaaDoorJForms3
import Derived.Test.YtfppfjklakdlfaaDoorJForms7
namespace Go.Proofs.YtfppfjklakdlfaaDoor
open Go.RowKit
end Go.Proofs.YtfppfjklakdlfaaDoor
