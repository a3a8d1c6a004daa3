/- Is it a data packet of an epoch? No program. -/
import Derived.Test.YtcljakdcejhfiabPktMath
namespace Go.Proofs.Ytcljakdcejhfiab

def dataB (p : PP) (e : Int) : Bool := pktOK p && (decide (p.kind = 1) && decide (p.epoch = e))
end Go.Proofs.Ytcljakdcejhfiab
