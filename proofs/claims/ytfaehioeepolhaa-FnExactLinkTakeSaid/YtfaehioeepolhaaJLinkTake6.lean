import Derived.Test.YtfaehioeepolhaaJLinkTake5
namespace Go.Proofs.Ytfaehioeepolhaa
open Go.RowKit
theorem fit_i64 (v : Int) : IntKind.i64.wrap v = v ↔ -9223372036854775808 ≤ v ∧ v < 9223372036854775808 := by
  simp only [IntKind.wrap, IntKind.bits, IntKind.signed]; simp; split <;> omega
end Go.Proofs.Ytfaehioeepolhaa
