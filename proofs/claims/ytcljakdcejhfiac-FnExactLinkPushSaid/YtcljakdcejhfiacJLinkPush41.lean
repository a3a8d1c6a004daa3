import Derived.Test.YtcljakdcejhfiacJLinkPush36
import Derived.Test.YtcljakdcejhfiacJLinkPush34
import Derived.Test.YtcljakdcejhfiacJLinkPush37
import Derived.Test.YtcljakdcejhfiacJLinkPush28
import Derived.Test.YtcljakdcejhfiacJLinkPush27
import Derived.Laws.ResultCell
namespace Go.Proofs.Ytcljakdcejhfiac
open Go.RowKit
def dueB (t : Int) (s : PW) : Bool := decide (s.at_ < 0) || decide (4 ≤ t - s.at_)
def tickW (t : Int) (s : PW) : PW := if dueB t s = true then ⟨s.pkt, t⟩ else s
def tickK (o : PO) (t : Int) (k : Nat) : List PW := (o.wait.take k).map (tickW t) ++ o.wait.drop k
def gramK (o : PO) (t : Int) (k : Nat) : List (List Nat) := ((o.wait.take k).filter (dueB t)).map fun s => pktR s.pkt
theorem tickK_no (o : PO) (t : Int) (k : Nat) (h : k < o.wait.length) (hd : dueB t o.wait[k] = false) : tickK o t (k + 1) = tickK o t k := by
  have hdr : o.wait.drop k = o.wait[k] :: o.wait.drop (k + 1) := List.drop_eq_getElem_cons h
  unfold tickK
  rw [hdr, List.take_succ_eq_append_getElem h, List.map_append, List.append_assoc]
  simp [tickW, hd]
theorem gramK_no (o : PO) (t : Int) (k : Nat) (h : k < o.wait.length) (hd : dueB t o.wait[k] = false) : gramK o t (k + 1) = gramK o t k := by
  unfold gramK
  rw [List.take_succ_eq_append_getElem h, List.filter_append, List.filter_cons_of_neg (by simp [hd])]; simp
end Go.Proofs.Ytcljakdcejhfiac
