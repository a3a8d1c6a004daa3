import Derived.Test.YtfaehioeepolhabGreatJSend33
import Derived.Test.YtfaehioeepolhabGreatJSend34
namespace Go.Proofs.YtfaehioeepolhabGreat
open Go.RowKit
def EncG (K F C : Nat) (bs : List (List Nat)) (a : Option Addr) (cap : Nat) (w wx : World) : Prop :=
  wx.heap[w.heap.size]? = some (.cells #[.int .i64 (K : Int), .int .i64 (F : Int), .int .i64 (C : Int), .slice a bs.length cap] 161 (0, 0)) ∧ Below w.heap.size w wx
theorem EncG.later {K F C : Nat} {bs : List (List Nat)} {a : Option Addr} {cap : Nat} {w wx wy : World} (h : EncG K F C bs a cap w wx) (hb : Below wx.heap.size wx wy) : EncG K F C bs a cap w wy :=
  ⟨(hb.block _ (Array.getElem?_eq_some_iff.1 h.1).1).trans h.1, below_chain h.2 hb⟩
end Go.Proofs.YtfaehioeepolhabGreat
namespace Go.Proofs.YtfaehioeepolhabGreat
open Go.RowKit
end Go.Proofs.YtfaehioeepolhabGreat
