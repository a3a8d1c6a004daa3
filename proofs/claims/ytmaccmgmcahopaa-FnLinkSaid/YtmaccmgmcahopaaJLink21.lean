import Derived.Test.YtmaccmgmcahopaaJLink20
import Derived.Test.YtmaccmgmcahopaaJLink6
import Derived.Deep.RegionHeld
import Derived.Test.YtmaccmgmcahopaaJLink7
import Derived.Test.YtmaccmgmcahopaaJLink12
import Derived.Test.YtmaccmgmcahopaaJLink13
import Derived.Test.YtmaccmgmcahopaaJLink10
namespace Go.Proofs.Ytmaccmgmcahopaa
open Go.RowKit
theorem infoImSent : (Try.prog.info? 63).map (fun i => (i.zero, i.size, i.bytes)) = some (some (.agg #[.int .i64 0, .int .i64 0, .int .i64 0, .int .i64 0, .bool false, .slice none 0 0, .int .i64 0]), 7, 72) := by kernel_rfl
end Go.Proofs.Ytmaccmgmcahopaa
namespace Go.Proofs.Ytmaccmgmcahopaa
open Go.RowKit
structure PO where
  epoch : Int
  next : Int
  now : Int
  wait : List PW
end Go.Proofs.Ytmaccmgmcahopaa
namespace Go.Proofs.Ytmaccmgmcahopaa
open Go.RowKit
def outW (o : PO) (i : Nat) (s : PW) : Bool := dataB s.pkt o.epoch && decide (s.pkt.seq = o.next - o.wait.length + i ∧ -1 ≤ s.at_ ∧ s.at_ ≤ o.now)
abbrev OutH (o : PO) : Prop := 1 ≤ o.epoch ∧ o.epoch ≤ 1000000000 ∧ 0 ≤ o.next ∧ o.next ≤ 1000000000000 ∧ 0 ≤ o.now ∧ o.now ≤ 1000000000 ∧ o.wait.length ≤ 300
def outOK (o : PO) : Bool := decide (OutH o) && (List.range o.wait.length).all fun i => match o.wait[i]? with | some s => outW o i s | none => true
theorem outOK_head {o : PO} (h : ¬ OutH o) : outOK o = false := by unfold outOK; rw [decide_eq_false h]; rfl
theorem outOK_at {o : PO} {k : Nat} (hk : k < o.wait.length) (h : outW o k o.wait[k] = false) : outOK o = false := by
  unfold outOK
  rw [Bool.and_eq_false_iff]
  refine .inr ?_
  rw [List.all_eq_false]
  refine ⟨k, List.mem_range.2 hk, ?_⟩
  simp [hk, h]
theorem outOK_all {o : PO} (h : OutH o) (ha : ∀ k, (hk : k < o.wait.length) → outW o k o.wait[k] = true) : outOK o = true := by
  unfold outOK
  rw [decide_eq_true h, Bool.true_and, List.all_eq_true]
  intro i hi
  have hi' := List.mem_range.1 hi
  simp [hi', ha i hi']
theorem outOK_of {o : PO} (h : outOK o = true) : OutH o ∧ ∀ k, (hk : k < o.wait.length) → outW o k o.wait[k] = true := by
  unfold outOK at h
  rw [Bool.and_eq_true, List.all_eq_true] at h
  refine ⟨of_decide_eq_true h.1, fun k hk => ?_⟩
  have := h.2 k (List.mem_range.2 hk)
  simpa [hk] using this
end Go.Proofs.Ytmaccmgmcahopaa
namespace Go.Proofs.Ytmaccmgmcahopaa
open Go.RowKit
def fcSn (lo : Nat) (s : PW) : Fct := ⟨fun v w => ∃ a c bk, v = .agg #[.int .i64 s.pkt.kind, .int .i64 s.pkt.epoch, .int .i64 s.pkt.seq, .int .i64 s.pkt.count, .bool s.pkt.last, .slice a s.pkt.data.length c, .int .i64 s.at_] ∧ OwnSl cByte 5 w s.pkt.data (.slice a s.pkt.data.length c) bk ∧ (∀ b ∈ bk, lo ≤ b) ∧ bk.Nodup, fun _ _ _ ⟨a, c, bk, e, h1, h2, h3⟩ hb => ⟨a, c, bk, e, ownB_kept h1 hb, h2, h3⟩⟩
def fcMadeS (w : World) (xs : List PW) (k : Nat) : Fct := ⟨fun _ wx => MadeN 7 cSnt 63 w wx xs k, fun _ _ _ h hb => h.later hb⟩
end Go.Proofs.Ytmaccmgmcahopaa
namespace Go.Proofs.Ytmaccmgmcahopaa
open Go.RowKit
def OutBox (B gm : Nat) (e n t : Int) (xs : List PW) (w : World) : Prop :=
  ∃ a c bs, w.heap[gm]? = some (.cells #[.int .i64 e, .int .i64 n, .int .i64 t, .slice a xs.length c] 30 (0, 0)) ∧ OwnSl cSnt 63 w xs (.slice a xs.length c) bs ∧ bs.Nodup ∧ ∀ b ∈ bs, B ≤ b ∧ b ≠ gm
theorem OutBox.later {B gm : Nat} {e n t : Int} {xs : List PW} {w w' : World} (h : OutBox B gm e n t xs w) (hb : Below w.heap.size w w') : OutBox B gm e n t xs w' := by
  obtain ⟨a, c, bs, h1, h2, h3, h4⟩ := h
  exact ⟨a, c, bs, (hb.block _ (Array.getElem?_eq_some_iff.1 h1).1).trans h1, h2.kept (fun b hm => hb.block b (h2.lt b hm)), h3, h4⟩
end Go.Proofs.Ytmaccmgmcahopaa
namespace Go.Proofs.Ytmaccmgmcahopaa
open Go.RowKit
abbrev AckOK (o : PO) (q : Int) : Prop := outOK o = true ∧ 0 ≤ q ∧ q ≤ o.next
def noOut : PO := ⟨0, 0, 0, []⟩
def ackD (o : PO) (q : Int) : Nat := (q - (o.next - o.wait.length)).toNat
def ackO (o : PO) (q : Int) : PO := if AckOK o q then ⟨o.epoch, o.next, o.now, o.wait.drop (ackD o q)⟩ else noOut
def ackC (o : PO) (q : Int) : Int := if AckOK o q then 0 else 1
theorem ack_no {o : PO} {q : Int} (h : ¬ AckOK o q) : ackO o q = noOut ∧ ackC o q = 1 := by unfold ackO ackC; rw [if_neg h, if_neg h]; exact ⟨rfl, rfl⟩
theorem ack_yes {o : PO} {q : Int} (h : AckOK o q) : ackO o q = ⟨o.epoch, o.next, o.now, o.wait.drop (ackD o q)⟩ ∧ ackC o q = 0 := by unfold ackO ackC; rw [if_pos h, if_pos h]; exact ⟨rfl, rfl⟩
def IoPost (w : World) (R : PO) (C : Int) (e : Ending) (w' : World) : Prop :=
  ∃ a c ys d bs, e = .returned (.tuple #[.agg #[.int .i64 R.epoch, .int .i64 R.next, .int .i64 R.now, .slice a R.wait.length c], .int .i64 C]) ∧ R.wait = ys.drop d ∧ OwnCut cSnt 63 w' ys d a c bs ∧ (∀ b ∈ bs, w.heap.size ≤ b) ∧ bs.Nodup ∧ totL wN ys ≤ 1048576 ∧ Below w.heap.size w w'
theorem ioPost_nil {w w' : World} {R : PO} {C C' : Int} (hb : Below w.heap.size w w') (hp : R = noOut) (hC : C = C') : IoPost w R C (.returned (.tuple #[.agg #[.int .i64 0, .int .i64 0, .int .i64 0, .slice none 0 0], .int .i64 C'])) w' := by
  subst hp hC
  exact ⟨none, 0, [], 0, [], rfl, rfl, ⟨Nat.le_refl _, Nat.le_refl _, Nat.zero_le _, fun _ => rfl, .slice none 0 0, .inl ⟨rfl, rfl, rfl⟩, fun h => by simp at h⟩, by simp, by simp, by simp [totL], hb⟩
end Go.Proofs.Ytmaccmgmcahopaa
