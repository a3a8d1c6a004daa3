import Derived.WalkKit
namespace Go.Proofs.Ytcljakdcejhfiac
def cstep (h : Nat) : Nat := if h % 2 = 1 then h / 2 ^^^ 3988292384 else h / 2
def csteps : Nat → Nat → Nat
  | 0, h => h
  | n + 1, h => cstep (csteps n h)
def crcIn (h x : Nat) : Nat := csteps 8 (h ^^^ x)
def crcFold (xs : List Nat) : Nat := xs.foldl crcIn 4294967295
end Go.Proofs.Ytcljakdcejhfiac
