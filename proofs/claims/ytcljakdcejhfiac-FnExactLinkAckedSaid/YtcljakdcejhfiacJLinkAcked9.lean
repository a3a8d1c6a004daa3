import Derived.Test.YtcljakdcejhfiacJLinkAcked8
namespace Go.Proofs.Ytcljakdcejhfiac
open Go.RowKit
structure PP where
  kind : Int
  epoch : Int
  seq : Int
  count : Int
  last : Bool
  data : List Nat
def lastN (b : Bool) : Nat := if b then 1 else 0
abbrev PktOK (p : PP) : Prop := 1 ≤ p.epoch ∧ p.epoch ≤ 1000000000 ∧ 0 ≤ p.seq ∧ p.seq ≤ 1000000000000 ∧ 0 ≤ p.count ∧ p.count ≤ 1000000000 ∧
  ((p.kind = 1 ∧ p.seq < 1000000000000 ∧ p.count = 0 ∧ 1 ≤ p.data.length ∧ p.data.length ≤ 100) ∨ (lastN p.last = 0 ∧ p.data.length = 0 ∧ (p.kind = 2 ∨ (p.kind = 3 ∧ p.seq = 0) ∨ (p.kind = 4 ∧ p.seq = 0 ∧ p.count = 0))))
def pktOK (p : PP) : Bool := decide (PktOK p)
def headP (K E S C : Nat) (L : Bool) (D : List Nat) : List Nat := [67, K] ++ (digs E 4 ++ (digs S 8 ++ (digs C 4 ++ ([lastN L] ++ (digs D.length 2 ++ D)))))
def encP (K E S C : Nat) (L : Bool) (D : List Nat) : List Nat := headP K E S C L D ++ digs (crcM (headP K E S C L D)) 4
def pktB (p : PP) : List Nat := encP p.kind.toNat p.epoch.toNat p.seq.toNat p.count.toNat p.last p.data
def pktR (p : PP) : List Nat := if pktOK p = true then pktB p else []
end Go.Proofs.Ytcljakdcejhfiac
