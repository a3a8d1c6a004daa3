import Derived.Test.YtcljakdcejhfiacJValidOut12
namespace Go.Proofs.Ytcljakdcejhfiac
def dataB (p : PP) (e : Int) : Bool := pktOK p && (decide (p.kind = 1) && decide (p.epoch = e))
end Go.Proofs.Ytcljakdcejhfiac
