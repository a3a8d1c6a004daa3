import Derived.Test.YtfppfjklakdlfaaDoorJForms21
import Derived.Test.YtfppfjklakdlfaaDoorJForms2
import Derived.Test.YtfppfjklakdlfaaDoorJForms13
import Derived.Test.YtfppfjklakdlfaaDoorJForms3
import Derived.Maps.OwnSet
import Derived.StringKeys
namespace Go.Proofs.YtfppfjklakdlfaaDoor
end Go.Proofs.YtfppfjklakdlfaaDoor
namespace Go.Proofs.YtfppfjklakdlfaaDoor
open Go.RowKit
structure PC where
  null : Bool
  num : Int
  text : List Nat
end Go.Proofs.YtfppfjklakdlfaaDoor
namespace Go.Proofs.YtfppfjklakdlfaaDoor
open Go.RowKit Go.Maps
end Go.Proofs.YtfppfjklakdlfaaDoor
