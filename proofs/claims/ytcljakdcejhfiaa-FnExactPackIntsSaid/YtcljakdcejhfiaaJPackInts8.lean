import Derived.WalkKit
import Derived.Laws.Bits64
namespace Go.Proofs.Ytcljakdcejhfiaa
open Go.RowKit
theorem wr32 (n : Int) : wrap32 n = IntKind.i32.wrap n := by
  unfold wrap32; simp [IntKind.wrap, IntKind.bits, IntKind.signed]; split <;> omega
theorem wr64 (n : Int) : wrap64 n = IntKind.i64.wrap n := by
  unfold wrap64; simp [IntKind.wrap, IntKind.bits, IntKind.signed]; split <;> omega
end Go.Proofs.Ytcljakdcejhfiaa
