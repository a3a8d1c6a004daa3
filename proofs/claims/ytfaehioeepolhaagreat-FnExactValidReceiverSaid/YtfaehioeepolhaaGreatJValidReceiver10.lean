import Derived.WalkKit
import Derived.Laws.Bits64
namespace Go.Proofs.YtfaehioeepolhaaGreat
end Go.Proofs.YtfaehioeepolhaaGreat
namespace Go.Proofs.YtfaehioeepolhaaGreat
open Go.RowKit
def num : List Nat → Nat
  | [] => 0
  | y :: ys => y + 256 * num ys
theorem wr32 (n : Int) : wrap32 n = IntKind.i32.wrap n := by
  unfold wrap32; simp [IntKind.wrap, IntKind.bits, IntKind.signed]; split <;> omega
theorem wr64 (n : Int) : wrap64 n = IntKind.i64.wrap n := by
  unfold wrap64; simp [IntKind.wrap, IntKind.bits, IntKind.signed]; split <;> omega
end Go.Proofs.YtfaehioeepolhaaGreat
