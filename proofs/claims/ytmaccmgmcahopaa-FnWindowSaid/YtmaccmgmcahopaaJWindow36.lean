import Derived.Test.YtmaccmgmcahopaaJWindow35
import Derived.Test.YtmaccmgmcahopaaJWindow14
namespace Go.Proofs.Ytmaccmgmcahopaa
open Go.RowKit
structure Good (e : Int) (S : List PP) (want : List (List Nat)) : Prop where
  len : S.length ≤ 40
  seq : ∀ k, (h : k < S.length) → S[k].seq = (k : Int)
  dat : ∀ p ∈ S, dataB p e = true
  run : S.foldl stepT ([], []) = ([], want)
theorem Good.at {e : Int} {S : List PP} {want : List (List Nat)} (hg : Good e S want) {p : PP} (hp : p ∈ S) {k : Nat} (hk : p.seq = (k : Int)) : S[k]? = some p := by
  obtain ⟨j, hj, rfl⟩ := List.getElem_of_mem hp
  have := hg.seq j hj
  obtain rfl : j = k := by omega
  exact List.getElem?_eq_getElem hj
theorem Good.lt {e : Int} {S : List PP} {want : List (List Nat)} (hg : Good e S want) {p : PP} (hp : p ∈ S) : 0 ≤ p.seq ∧ p.seq < (S.length : Int) := by
  obtain ⟨j, hj, rfl⟩ := List.getElem_of_mem hp
  have := hg.seq j hj
  omega
theorem Good.empty (e : Int) : Good e [] [] := ⟨by simp, by simp, by simp, rfl⟩
structure InI (e : Int) (S : List PP) (s : PI) (got : List (List Nat)) : Prop where
  ok : inOK s = true
  ep : s.epoch = e
  le : s.expect ≤ (S.length : Int)
  mem : ∀ p ∈ s.held, p ∈ S
  run : (S.take s.expect.toNat).foldl stepT ([], []) = (s.part, got)
def LkR (s : PI) (k : Int) : Prop := k < s.expect ∨ ∃ p ∈ s.held, p.seq = k
structure OutI (e : Int) (S : List PP) (x t : Nat) (o : PO) : Prop where
  ok : outOK o = true
  ep : o.epoch = e
  nx : o.next = (S.length : Int)
  nw : o.now = (t : Int)
  wt : o.wait.map PW.pkt = S.drop x
theorem OutI.len {e : Int} {S : List PP} {x t : Nat} {o : PO} (h : OutI e S x t o) : o.wait.length = S.length - x := by
  have := congrArg List.length h.wt
  simpa using this
theorem OutI.at {e : Int} {S : List PP} {want : List (List Nat)} {x t : Nat} {o : PO} (hg : Good e S want) (h : OutI e S x t o) (k : Nat) (hk : k < o.wait.length) : o.wait[k].pkt ∈ S ∧ o.wait[k].pkt.seq = ((x + k : Nat) : Int) := by
  have hl := h.len
  have e1 : (o.wait.map PW.pkt)[k]? = (S.drop x)[k]? := by rw [h.wt]
  rw [List.getElem?_map, List.getElem?_eq_getElem hk, List.getElem?_drop, List.getElem?_eq_getElem (show x + k < S.length by omega)] at e1
  have e2 : o.wait[k].pkt = S[x + k] := Option.some.inj e1
  rw [e2]
  exact ⟨List.getElem_mem _, hg.seq _ _⟩
theorem tickW_pkt (t : Int) (s : PW) : (tickW t s).pkt = s.pkt := by unfold tickW; split <;> rfl
theorem tickK_get (o : PO) (t : Int) (m k : Nat) (hm : m ≤ o.wait.length) (hk : k < o.wait.length) : (tickK o t m)[k]? = some (if k < m then tickW t o.wait[k] else o.wait[k]) := by
  have h1 : ((o.wait.take m).map (tickW t)).length = m := by simp; omega
  unfold tickK
  by_cases h : k < m
  · rw [List.getElem?_append_left (by omega), if_pos h, List.getElem?_map, List.getElem?_take_of_lt h, List.getElem?_eq_getElem hk]; rfl
  · rw [List.getElem?_append_right (by omega), if_neg h, h1, List.getElem?_drop, show m + (k - m) = k from by omega, List.getElem?_eq_getElem hk]
structure LvI (t : Nat) (o : PO) (s : PI) : Prop where
  come : 100 ≤ t → ∀ w ∈ o.wait, 101 ≤ w.at_ → LkR s w.pkt.seq
  left : 103 ≤ t → o.wait.length = 0 ∨ o.wait.length + (t - 103) ≤ 40
end Go.Proofs.Ytmaccmgmcahopaa
