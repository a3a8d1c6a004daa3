import Derived.Test.YtmaccmgmcahopaaJWindow10
import Derived.Test.YtmaccmgmcahopaaJWindow11
import Derived.Deep.RegionHeld
import Derived.Test.YtmaccmgmcahopaaJWindow6
namespace Go.Proofs.Ytmaccmgmcahopaa
open Go.RowKit
end Go.Proofs.Ytmaccmgmcahopaa
namespace Go.Proofs.Ytmaccmgmcahopaa
open Go.RowKit
structure PI where
  epoch : Int
  expect : Int
  held : List PP
  part : List Nat
structure RdIn (w : World) (s : PI) (a : Option Addr) (c : Nat) (b : Option Addr) (d : Nat) : Prop where
  f : RdSl cPkt w s.held (.slice a s.held.length c)
  t : RdSl cByte w s.part (.slice b s.part.length d)
theorem RdIn.later {w w' : World} {s : PI} {a b : Option Addr} {c d : Nat} (h : RdIn w s a c b d) (hb : Below w.heap.size w w') : RdIn w' s a c b d := ⟨h.f.later hb, h.t.later hb⟩
structure OwnIn (w : World) (s : PI) (a : Option Addr) (c : Nat) (b : Option Addr) (d : Nat) (bs ds : List Nat) : Prop where
  f : OwnSl cPkt 35 w s.held (.slice a s.held.length c) bs
  t : OwnSl cByte 5 w s.part (.slice b s.part.length d) ds
theorem OwnIn.rd {w : World} {s : PI} {a b : Option Addr} {c d : Nat} {bs ds : List Nat} (h : OwnIn w s a c b d bs ds) : RdIn w s a c b d := ⟨h.f.rd, h.t.rd⟩
end Go.Proofs.Ytmaccmgmcahopaa
namespace Go.Proofs.Ytmaccmgmcahopaa
open Go.RowKit
def prevSeq (s : PI) (k : Nat) : Int := if k = 0 then s.expect else (s.held[k - 1]?.map PP.seq).getD 0
def inW (s : PI) (k : Nat) (p : PP) : Bool := dataB p s.epoch && decide (s.expect < p.seq ∧ prevSeq s k < p.seq ∧ p.seq < s.expect + 8)
abbrev InH (s : PI) : Prop := 0 ≤ s.epoch ∧ s.epoch ≤ 1000000000 ∧ 0 ≤ s.expect ∧ s.expect ≤ 1000000000000 ∧ s.part.length ≤ 20000
def inOK (s : PI) : Bool := decide (InH s) && (List.range s.held.length).all fun i => match s.held[i]? with | some p => inW s i p | none => true
end Go.Proofs.Ytmaccmgmcahopaa
namespace Go.Proofs.Ytmaccmgmcahopaa
open Go.RowKit
def stepT (a : List Nat × List (List Nat)) (x : PP) : List Nat × List (List Nat) := if x.last then ([], a.2 ++ [a.1 ++ x.data]) else (a.1 ++ x.data, a.2)
end Go.Proofs.Ytmaccmgmcahopaa
