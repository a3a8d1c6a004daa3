import Derived.WalkKit
namespace Go.Proofs.Ytcljakdcejhfiaa
def nb (n : Nat) : Nat := if n % 8 = 0 then n / 8 else n / 8 + 1
end Go.Proofs.Ytcljakdcejhfiaa
