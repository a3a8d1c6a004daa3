import Derived.Test.YtcljakdcejhfiacJLinkAcked33
import Derived.Test.YtcljakdcejhfiacJLinkAcked36
import Derived.Test.YtcljakdcejhfiacJLinkAcked37
import Derived.Test.YtcljakdcejhfiacJLinkAcked29
import Derived.Test.YtcljakdcejhfiacJLinkAcked28
import Derived.Laws.ResultCell
namespace Go.Proofs.Ytcljakdcejhfiac
open Go.RowKit
def dueB (t : Int) (s : PW) : Bool := decide (s.at_ < 0) || decide (4 ≤ t - s.at_)
def tickW (t : Int) (s : PW) : PW := if dueB t s = true then ⟨s.pkt, t⟩ else s
def tickK (o : PO) (t : Int) (k : Nat) : List PW := (o.wait.take k).map (tickW t) ++ o.wait.drop k
def gramK (o : PO) (t : Int) (k : Nat) : List (List Nat) := ((o.wait.take k).filter (dueB t)).map fun s => pktR s.pkt
end Go.Proofs.Ytcljakdcejhfiac
