import Derived.Test.YtcljakdcejhfiacJLinkPush35
import Derived.Test.YtcljakdcejhfiacJLinkPush28
namespace Go.Proofs.Ytcljakdcejhfiac
open Go.RowKit
def noOut : PO := ⟨0, 0, 0, []⟩
def SoPost (w : World) (R : PO) (C : Int) (e : Ending) (w' : World) : Prop :=
  ∃ a c, e = .returned (.tuple #[.agg #[.int .i64 R.epoch, .int .i64 R.next, .int .i64 R.now, .slice a R.wait.length c], .int .i64 C]) ∧ RdSl cSnt w' R.wait (.slice a R.wait.length c) ∧ Below w.heap.size w w'
def IoPost (w : World) (R : PO) (C : Int) (e : Ending) (w' : World) : Prop :=
  ∃ a c ys d bs, e = .returned (.tuple #[.agg #[.int .i64 R.epoch, .int .i64 R.next, .int .i64 R.now, .slice a R.wait.length c], .int .i64 C]) ∧ R.wait = ys.drop d ∧ OwnCut cSnt 85 w' ys d a c bs ∧ (∀ b ∈ bs, w.heap.size ≤ b) ∧ bs.Nodup ∧ totL wN ys ≤ 1048576 ∧ Below w.heap.size w w'
end Go.Proofs.Ytcljakdcejhfiac
