import Derived.Test.YtcljakdcejhfiacJEncodeMessage31
import Derived.Test.YtcljakdcejhfiacJEncodeMessage45
namespace Go.Proofs.Ytcljakdcejhfiac
open Go.RowKit
theorem encodeMessage_walk (v : Value) (w : World) (h : MessageIn w v) :
    Calls Try.prog 4 #[v] w fun e w' => e = .returned (.bool true) ∧ Below w.heap.size w w' := encodeMessage_of (fun m a cap w hr ht _ _ _ => implEnc_any m a cap w hr ht) v w h
end Go.Proofs.Ytcljakdcejhfiac
