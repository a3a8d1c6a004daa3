import Derived.Test.YtcljakdcejhfiacJLinkPush5
namespace Go.Proofs.Ytcljakdcejhfiac
open Go.RowKit
def digs (u W : Nat) : List Nat := (List.range W).map fun i => u / 256 ^ i % 256
theorem fit_i64 (v : Int) : IntKind.i64.wrap v = v ↔ -9223372036854775808 ≤ v ∧ v < 9223372036854775808 := by
  simp only [IntKind.wrap, IntKind.bits, IntKind.signed]; simp; split <;> omega
end Go.Proofs.Ytcljakdcejhfiac
