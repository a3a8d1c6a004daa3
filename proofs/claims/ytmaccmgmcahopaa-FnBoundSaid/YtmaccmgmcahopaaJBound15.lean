import Derived.Test.YtmaccmgmcahopaaJBound8
import Derived.Test.YtmaccmgmcahopaaJBound10
import Derived.Test.YtmaccmgmcahopaaJBound14
import Derived.Test.YtmaccmgmcahopaaJBound13
import Derived.Test.YtmaccmgmcahopaaJBound6
namespace Go.Proofs.Ytmaccmgmcahopaa
open Go.RowKit
def fcSn (lo : Nat) (s : PW) : Fct := ⟨fun v w => ∃ a c bk, v = .agg #[.int .i64 s.pkt.kind, .int .i64 s.pkt.epoch, .int .i64 s.pkt.seq, .int .i64 s.pkt.count, .bool s.pkt.last, .slice a s.pkt.data.length c, .int .i64 s.at_] ∧ OwnSl cByte 5 w s.pkt.data (.slice a s.pkt.data.length c) bk ∧ (∀ b ∈ bk, lo ≤ b) ∧ bk.Nodup, fun _ _ _ ⟨a, c, bk, e, h1, h2, h3⟩ hb => ⟨a, c, bk, e, ownB_kept h1 hb, h2, h3⟩⟩
def fcMadeS (w : World) (xs : List PW) (k : Nat) : Fct := ⟨fun _ wx => MadeN 7 cSnt 63 w wx xs k, fun _ _ _ h hb => h.later hb⟩
end Go.Proofs.Ytmaccmgmcahopaa
namespace Go.Proofs.Ytmaccmgmcahopaa
open Go.RowKit
def OutBox (B gm : Nat) (e n t : Int) (xs : List PW) (w : World) : Prop :=
  ∃ a c bs, w.heap[gm]? = some (.cells #[.int .i64 e, .int .i64 n, .int .i64 t, .slice a xs.length c] 30 (0, 0)) ∧ OwnSl cSnt 63 w xs (.slice a xs.length c) bs ∧ bs.Nodup ∧ ∀ b ∈ bs, B ≤ b ∧ b ≠ gm
theorem OutBox.later {B gm : Nat} {e n t : Int} {xs : List PW} {w w' : World} (h : OutBox B gm e n t xs w) (hb : Below w.heap.size w w') : OutBox B gm e n t xs w' := by
  obtain ⟨a, c, bs, h1, h2, h3, h4⟩ := h
  exact ⟨a, c, bs, (hb.block _ (Array.getElem?_eq_some_iff.1 h1).1).trans h1, h2.kept (fun b hm => hb.block b (h2.lt b hm)), h3, h4⟩
end Go.Proofs.Ytmaccmgmcahopaa
namespace Go.Proofs.Ytmaccmgmcahopaa
open Go.RowKit
def noOut : PO := ⟨0, 0, 0, []⟩
end Go.Proofs.Ytmaccmgmcahopaa
namespace Go.Proofs.Ytmaccmgmcahopaa
open Go.RowKit
def nPc (xs : List Nat) : Nat := (xs.length + 99) / 100
def pcs (xs : List Nat) (i : Nat) : List Nat := (xs.drop (i * 100)).take 100
def pkW (o : PO) (xs : List Nat) (i : Nat) : PW := ⟨⟨1, o.epoch, o.next + (i : Int), 0, ((i : Int) == (nPc xs : Int) - 1), pcs xs i⟩, -1⟩
def pushK (o : PO) (xs : List Nat) (k : Nat) : List PW := o.wait ++ (List.range k).map (pkW o xs)
theorem pushK_zero (o : PO) (xs : List Nat) : pushK o xs 0 = o.wait := by simp [pushK]
theorem pushK_succ (o : PO) (xs : List Nat) (k : Nat) : pushK o xs (k + 1) = pushK o xs k ++ [pkW o xs k] := by simp [pushK, List.range_succ]
theorem pushK_len (o : PO) (xs : List Nat) (k : Nat) : (pushK o xs k).length = o.wait.length + k := by simp [pushK]
theorem pcs_len (xs : List Nat) (i : Nat) : (pcs xs i).length = min 100 (xs.length - i * 100) := by simp [pcs]
abbrev PushOK (o : PO) (xs : List Nat) : Prop := outOK o = true ∧ 1 ≤ xs.length ∧ xs.length ≤ 20000
abbrev PushFull (o : PO) (xs : List Nat) : Prop := 300 < o.wait.length + nPc xs
abbrev PushEnd (o : PO) (xs : List Nat) : Prop := 1000000000000 < o.next + (nPc xs : Int)
def pushO (o : PO) (xs : List Nat) : PO := if PushOK o xs then (if PushFull o xs then o else if PushEnd o xs then o else ⟨o.epoch, o.next + (nPc xs : Int), o.now, pushK o xs (nPc xs)⟩) else noOut
def pushC (o : PO) (xs : List Nat) : Int := if PushOK o xs then (if PushFull o xs then 2 else if PushEnd o xs then 6 else 0) else 1
theorem push_no {o : PO} {xs : List Nat} (h : ¬ PushOK o xs) : pushO o xs = noOut ∧ pushC o xs = 1 := by unfold pushO pushC; rw [if_neg h, if_neg h]; exact ⟨rfl, rfl⟩
theorem push_full {o : PO} {xs : List Nat} (h : PushOK o xs) (h1 : PushFull o xs) : pushO o xs = o ∧ pushC o xs = 2 := by unfold pushO pushC; rw [if_pos h, if_pos h, if_pos h1, if_pos h1]; exact ⟨rfl, rfl⟩
theorem push_end {o : PO} {xs : List Nat} (h : PushOK o xs) (h1 : ¬ PushFull o xs) (h2 : PushEnd o xs) : pushO o xs = o ∧ pushC o xs = 6 := by unfold pushO pushC; rw [if_pos h, if_pos h, if_neg h1, if_neg h1, if_pos h2, if_pos h2]; exact ⟨rfl, rfl⟩
theorem push_yes {o : PO} {xs : List Nat} (h : PushOK o xs) (h1 : ¬ PushFull o xs) (h2 : ¬ PushEnd o xs) : pushO o xs = ⟨o.epoch, o.next + (nPc xs : Int), o.now, pushK o xs (nPc xs)⟩ ∧ pushC o xs = 0 := by unfold pushO pushC; rw [if_pos h, if_pos h, if_neg h1, if_neg h1, if_neg h2, if_neg h2]; exact ⟨rfl, rfl⟩
theorem sum_le_mul {α : Type} (f : α → Nat) (m : Nat) : ∀ (l : List α), (∀ x ∈ l, f x ≤ m) → (l.map f).sum ≤ m * l.length
  | [], _ => by simp
  | x :: l, h => by
    have h1 := sum_le_mul f m l (fun y hy => h y (List.mem_cons_of_mem _ hy))
    have h2 := h x (by simp)
    simp only [List.map_cons, List.sum_cons, List.length_cons]
    rw [Nat.mul_add, Nat.mul_one]
    omega
theorem out_data {o : PO} (h : outOK o = true) : ∀ s ∈ o.wait, wN s ≤ 100 := by
  intro s hs
  obtain ⟨i, hi, rfl⟩ := List.getElem_of_mem hs
  have h1 := (outOK_of h).2 i hi
  unfold outW dataB at h1
  rw [Bool.and_eq_true, Bool.and_eq_true] at h1
  exact pktOK_data h1.1.1
theorem pushK_tot {o : PO} {xs : List Nat} (h : outOK o = true) (k : Nat) (hk : k ≤ 200) : totL wN (pushK o xs k) ≤ 1048576 := by
  have h0 := (outOK_of h).1
  have hw : o.wait.length ≤ 300 := h0.2.2.2.2.2.2
  have h1 := sum_le_mul wN 100 (pushK o xs k) (fun s hs => by
    rcases List.mem_append.1 hs with hs | hs
    · exact out_data h s hs
    · obtain ⟨i, _, rfl⟩ := List.mem_map.1 hs
      have := pcs_len xs i
      show (pcs xs i).length ≤ 100
      omega)
  have h2 := pushK_len o xs k
  unfold totL
  omega
theorem pkW_in {o : PO} {xs : List Nat} {k : Nat} (h : OutH o) (hk : k ≤ 300) : PPIn (pkW o xs k).pkt := by
  unfold OutH at h
  refine ⟨?_, ?_, ?_, ?_⟩ <;> dsimp only [pkW, IntIn] <;> omega
end Go.Proofs.Ytmaccmgmcahopaa
namespace Go.Proofs.Ytmaccmgmcahopaa
open Go.RowKit
structure PF where
  name : List Nat
  kind : Int
  width : Int
def cField : Cod PF := cMap (cPair (cSl cByte 5) (cPair cInt cInt)) fun f => (f.name, f.kind, f.width)
theorem cField_rd {w : World} {f : PF} {cs : List Value} (h : cField.rd w f cs) : ∃ v, cs = [v, .int .i64 f.kind, .int .i64 f.width] ∧ RdSl cByte w f.name v ∧ IntIn f.kind ∧ IntIn f.width := by
  obtain ⟨c1, c2, rfl, ⟨v, rfl, h1⟩, c3, c4, rfl, ⟨rfl, h2⟩, rfl, h3⟩ := h
  exact ⟨v, rfl, h1, h2, h3⟩
theorem cField_mk {w : World} {f : PF} {v : Value} (h1 : RdSl cByte w f.name v) (h2 : IntIn f.kind) (h3 : IntIn f.width) : cField.rd w f [v, .int .i64 f.kind, .int .i64 f.width] :=
  ⟨[v], _, rfl, ⟨v, rfl, h1⟩, _, _, rfl, ⟨rfl, h2⟩, rfl, h3⟩
theorem cField_shape {w : World} {f : PF} {cs : List Value} (h : cField.rd w f cs) : ∃ a cap, cs = [.slice a f.name.length cap, .int .i64 f.kind, .int .i64 f.width] := by
  obtain ⟨v, rfl, ⟨a, cap, rfl, _⟩, _⟩ := cField_rd h
  exact ⟨a, cap, rfl⟩
end Go.Proofs.Ytmaccmgmcahopaa
