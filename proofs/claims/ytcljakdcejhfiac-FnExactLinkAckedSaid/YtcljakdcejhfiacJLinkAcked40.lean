import Derived.Test.YtcljakdcejhfiacJLinkAcked38
import Derived.Test.YtcljakdcejhfiacJLinkAcked39
namespace Go.Proofs.Ytcljakdcejhfiac
open Go.RowKit
def TSt (V1 : World) (gm : Nat) (o : PO) (t : Int) (a2 : Option Addr) (c2 : Nat) (bs : List Nat) (k : Nat) (v : Value) (w : World) : Prop :=
  w.heap[gm]? = some (.cells #[.int .i64 o.epoch, .int .i64 o.next, .int .i64 t, .slice a2 o.wait.length c2] 29 (0, 0)) ∧ OwnSl cSnt 85 w (tickK o t k) (.slice a2 o.wait.length c2) bs ∧ (∃ us, OwnSl cSS 37 w (gramK o t k) v us ∧ us.Nodup ∧ ∀ b ∈ us, gm < b) ∧ Below V1.heap.size V1 w
theorem TSt.later {V1 : World} {gm : Nat} {o : PO} {t : Int} {a2 : Option Addr} {c2 : Nat} {bs : List Nat} {k : Nat} {v : Value} {w w' : World} (h : TSt V1 gm o t a2 c2 bs k v w) (hb : Below w.heap.size w w') : TSt V1 gm o t a2 c2 bs k v w' := by
  obtain ⟨h1, h2, ⟨us, h3, h4, h5⟩, h6⟩ := h
  exact ⟨(hb.block _ (Array.getElem?_eq_some_iff.1 h1).1).trans h1, h2.kept (fun b hm => hb.block b (h2.lt b hm)), ⟨us, h3.kept (fun b hm => hb.block b (h3.lt b hm)), h4, h5⟩, below_chain h6 hb⟩
def StPost (w : World) (R : PO) (G : List (List Nat)) (C : Int) (e : Ending) (w' : World) : Prop :=
  ∃ a c v, e = .returned (.tuple #[.agg #[.int .i64 R.epoch, .int .i64 R.next, .int .i64 R.now, .slice a R.wait.length c], v, .int .i64 C]) ∧ RdSl cSnt w' R.wait (.slice a R.wait.length c) ∧ RdSl cSS w' G v ∧ Below w.heap.size w w'
end Go.Proofs.Ytcljakdcejhfiac
