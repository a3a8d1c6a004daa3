import Derived.Test.YtfppfjklakdlfaaDoorJForms22
import Derived.Test.YtfppfjklakdlfaaDoorJForms5
import Derived.Test.YtfppfjklakdlfaaDoorJForms7
import Derived.Handy
import Derived.Deep.RegionHeld
namespace Go.Proofs.YtfppfjklakdlfaaDoor
end Go.Proofs.YtfppfjklakdlfaaDoor
namespace Go.Proofs.YtfppfjklakdlfaaDoor
end Go.Proofs.YtfppfjklakdlfaaDoor
namespace Go.Proofs.YtfppfjklakdlfaaDoor
open Go.RowKit
end Go.Proofs.YtfppfjklakdlfaaDoor
namespace Go.Proofs.YtfppfjklakdlfaaDoor
open Go.RowKit
end Go.Proofs.YtfppfjklakdlfaaDoor
namespace Go.Proofs.YtfppfjklakdlfaaDoor
open Go.RowKit
end Go.Proofs.YtfppfjklakdlfaaDoor
namespace Go.Proofs.YtfppfjklakdlfaaDoor
open Go.RowKit
end Go.Proofs.YtfppfjklakdlfaaDoor
namespace Go.Proofs.YtfppfjklakdlfaaDoor
open Go.RowKit
structure PT where
  rows : Int
  cells : List PC
end Go.Proofs.YtfppfjklakdlfaaDoor
namespace Go.Proofs.YtfppfjklakdlfaaDoor
end Go.Proofs.YtfppfjklakdlfaaDoor
