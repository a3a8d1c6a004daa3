import Derived.Test.YtcljakdcejhfiabJValidIn0
namespace Go.Proofs.Ytcljakdcejhfiab
open Go.RowKit
theorem box_laterP2 {w w' : World} {g : Nat} {o : Obj} (h : w.heap[g]? = some o) (hb : Below w.heap.size w w') : w'.heap[g]? = some o := (hb.block g (Array.getElem?_eq_some_iff.1 h).1).trans h
end Go.Proofs.Ytcljakdcejhfiab
