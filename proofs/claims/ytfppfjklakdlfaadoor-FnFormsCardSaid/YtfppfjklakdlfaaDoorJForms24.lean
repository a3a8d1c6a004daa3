import Derived.Test.YtfppfjklakdlfaaDoorJForms6
import Derived.Test.YtfppfjklakdlfaaDoorJForms21
import Derived.Test.YtfppfjklakdlfaaDoorJForms23
import Derived.Test.YtfppfjklakdlfaaDoorJForms10
import Derived.Test.YtfppfjklakdlfaaDoorJForms4
namespace Go.Proofs.YtfppfjklakdlfaaDoor
open Go.RowKit
end Go.Proofs.YtfppfjklakdlfaaDoor
namespace Go.Proofs.YtfppfjklakdlfaaDoor
open Go.RowKit
end Go.Proofs.YtfppfjklakdlfaaDoor
namespace Go.Proofs.YtfppfjklakdlfaaDoor
open Go.RowKit
theorem own_one (w : World) (x : Value) (e : TypeId) {B : Nat} (hb : B ≤ w.heap.size) : (w.alloc (.cells #[x] e)).ownsRow B e 1 (.slice (some ⟨w.heap.size, 0, none⟩) 1 1) 1 [x] :=
  ⟨rfl, .inr ⟨w.heap.size, 1, #[x], rfl, hb, heap_alloc_new w _, Nat.le_refl _, by unfold maxLen; omega, rfl, rfl⟩⟩
end Go.Proofs.YtfppfjklakdlfaaDoor
