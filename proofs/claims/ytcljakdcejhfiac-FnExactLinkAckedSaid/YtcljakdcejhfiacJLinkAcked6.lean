import Derived.Test.YtcljakdcejhfiacJLinkAcked5
namespace Go.Proofs.Ytcljakdcejhfiac
open Go.RowKit
def digs (u W : Nat) : List Nat := (List.range W).map fun i => u / 256 ^ i % 256
end Go.Proofs.Ytcljakdcejhfiac
