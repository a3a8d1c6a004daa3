/- The law of EncodeMessage. -/
import Derived.Test.YtjjhnnobjjjakabLawEncM
import Derived.Test.YtjjhnnobjjjakabEncAny
namespace Go.Proofs.Ytjjhnnobjjjakab
open Go.RowKit

theorem encodeMessage_walk (v : Value) (w : World) (h : MessageIn w v) :
    Calls Try.prog 6 #[v] w fun e w' => e = .returned (.bool true) ∧ Below w.heap.size w w' := encodeMessage_of (fun m a cap w hr ht _ _ _ => implEnc_any m a cap w hr ht) v w h

end Go.Proofs.Ytjjhnnobjjjakab
