import Derived.Test.YtfaehioeepolhaaGreatJOpenSender8
import Derived.Test.YtfaehioeepolhaaGreatJOpenSender11
import Derived.Deep.DeepCutAuto
namespace Go.Proofs.YtfaehioeepolhaaGreat
open Go.RowKit
def fcSame4 (W : World) : Fct := ⟨fun _ w => Below W.heap.size W w, fun _ _ _ h hb => below_chain h hb⟩
theorem frow_mono {B B' : Nat} {w : World} {v : Value} {fs : List PF} (h : FRow B w v fs) (hb : B' ≤ B) : FRow B' w v fs := RowT.mono (tk := tkField) h hb
end Go.Proofs.YtfaehioeepolhaaGreat
