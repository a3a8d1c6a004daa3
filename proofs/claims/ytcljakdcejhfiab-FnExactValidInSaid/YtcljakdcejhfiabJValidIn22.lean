import Derived.Test.YtcljakdcejhfiabJValidIn12
namespace Go.Proofs.Ytcljakdcejhfiab
def dataB (p : PP) (e : Int) : Bool := pktOK p && (decide (p.kind = 1) && decide (p.epoch = e))
end Go.Proofs.Ytcljakdcejhfiab
