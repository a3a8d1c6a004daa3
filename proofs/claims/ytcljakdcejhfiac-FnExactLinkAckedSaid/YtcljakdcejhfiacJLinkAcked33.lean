import Derived.Test.YtcljakdcejhfiacJLinkAcked9
import Derived.Test.YtcljakdcejhfiacJLinkAcked17
import Derived.Test.YtcljakdcejhfiacJLinkAcked29
namespace Go.Proofs.Ytcljakdcejhfiac
def dataB (p : PP) (e : Int) : Bool := pktOK p && (decide (p.kind = 1) && decide (p.epoch = e))
end Go.Proofs.Ytcljakdcejhfiac
namespace Go.Proofs.Ytcljakdcejhfiac
open Go.RowKit
def outW (o : PO) (i : Nat) (s : PW) : Bool := dataB s.pkt o.epoch && decide (s.pkt.seq = o.next - o.wait.length + i ∧ -1 ≤ s.at_ ∧ s.at_ ≤ o.now)
abbrev OutH (o : PO) : Prop := 1 ≤ o.epoch ∧ o.epoch ≤ 1000000000 ∧ 0 ≤ o.next ∧ o.next ≤ 1000000000000 ∧ 0 ≤ o.now ∧ o.now ≤ 1000000000 ∧ o.wait.length ≤ 300
def outOK (o : PO) : Bool := decide (OutH o) && (List.range o.wait.length).all fun i => match o.wait[i]? with | some s => outW o i s | none => true
theorem outOK_head {o : PO} (h : ¬ OutH o) : outOK o = false := by unfold outOK; rw [decide_eq_false h]; rfl
theorem outOK_at {o : PO} {k : Nat} (hk : k < o.wait.length) (h : outW o k o.wait[k] = false) : outOK o = false := by
  unfold outOK
  rw [Bool.and_eq_false_iff]
  refine .inr ?_
  rw [List.all_eq_false]
  refine ⟨k, List.mem_range.2 hk, ?_⟩
  simp [hk, h]
theorem outOK_all {o : PO} (h : OutH o) (ha : ∀ k, (hk : k < o.wait.length) → outW o k o.wait[k] = true) : outOK o = true := by
  unfold outOK
  rw [decide_eq_true h, Bool.true_and, List.all_eq_true]
  intro i hi
  have hi' := List.mem_range.1 hi
  simp [hi', ha i hi']
theorem outOK_of {o : PO} (h : outOK o = true) : OutH o ∧ ∀ k, (hk : k < o.wait.length) → outW o k o.wait[k] = true := by
  unfold outOK at h
  rw [Bool.and_eq_true, List.all_eq_true] at h
  refine ⟨of_decide_eq_true h.1, fun k hk => ?_⟩
  have := h.2 k (List.mem_range.2 hk)
  simpa [hk] using this
end Go.Proofs.Ytcljakdcejhfiac
namespace Go.Proofs.Ytcljakdcejhfiac
open Go.RowKit
theorem filter_seq (q : Int) : ∀ (l : List PW) (b : Int), (∀ i, (h : i < l.length) → l[i].pkt.seq = b + i) → l.filter (fun s => decide (q ≤ s.pkt.seq)) = l.drop (q - b).toNat
  | [], b, _ => by simp
  | x :: l, b, h => by
    have h0 := h 0 (by simp)
    simp only [List.getElem_cons_zero, Int.natCast_zero, Int.add_zero] at h0
    have ih := filter_seq q l (b + 1) (fun i hi => by
      have := h (i + 1) (by simpa using hi)
      simp only [List.getElem_cons_succ] at this
      rw [this]; push_cast; omega)
    by_cases hq : q ≤ b
    · have e1 : (q - b).toNat = 0 := by omega
      have e2 : (q - (b + 1)).toNat = 0 := by omega
      rw [List.filter_cons_of_pos (by rw [h0]; simpa using hq), ih, e1, e2, List.drop_zero, List.drop_zero]
    · rw [List.filter_cons_of_neg (by rw [h0]; simpa using hq), ih, show (q - b).toNat = (q - (b + 1)).toNat + 1 from by omega, List.drop_succ_cons]
def ackP (q : Int) (s : PW) : Bool := decide (q ≤ s.pkt.seq)
def ackK (o : PO) (q : Int) (k : Nat) : List PW := (o.wait.take k).filter (ackP q)
theorem ackK_yes {o : PO} {q : Int} {k : Nat} (hk : k < o.wait.length) (h : q ≤ o.wait[k].pkt.seq) : ackK o q (k + 1) = ackK o q k ++ [o.wait[k]] := by
  unfold ackK
  rw [List.take_succ_eq_append_getElem hk, List.filter_append, List.filter_cons_of_pos (by unfold ackP; simpa using h)]; rfl
theorem ackK_no {o : PO} {q : Int} {k : Nat} (hk : k < o.wait.length) (h : ¬ q ≤ o.wait[k].pkt.seq) : ackK o q (k + 1) = ackK o q k := by
  unfold ackK
  rw [List.take_succ_eq_append_getElem hk, List.filter_append, List.filter_cons_of_neg (by unfold ackP; simpa using h)]; simp
theorem ackK_len (o : PO) (q : Int) (k : Nat) : (ackK o q k).length ≤ o.wait.length := by
  unfold ackK
  exact Nat.le_trans (List.length_filter_le _ _) (by simp; omega)
abbrev AckOK (o : PO) (q : Int) : Prop := outOK o = true ∧ 0 ≤ q ∧ q ≤ o.next
def noOut : PO := ⟨0, 0, 0, []⟩
def ackD (o : PO) (q : Int) : Nat := (q - (o.next - o.wait.length)).toNat
def ackO (o : PO) (q : Int) : PO := if AckOK o q then ⟨o.epoch, o.next, o.now, o.wait.drop (ackD o q)⟩ else noOut
def ackC (o : PO) (q : Int) : Int := if AckOK o q then 0 else 1
theorem ack_no {o : PO} {q : Int} (h : ¬ AckOK o q) : ackO o q = noOut ∧ ackC o q = 1 := by unfold ackO ackC; rw [if_neg h, if_neg h]; exact ⟨rfl, rfl⟩
theorem ack_yes {o : PO} {q : Int} (h : AckOK o q) : ackO o q = ⟨o.epoch, o.next, o.now, o.wait.drop (ackD o q)⟩ ∧ ackC o q = 0 := by unfold ackO ackC; rw [if_pos h, if_pos h]; exact ⟨rfl, rfl⟩
theorem ackK_all {o : PO} {q : Int} (h : AckOK o q) : ackK o q o.wait.length = o.wait.drop (ackD o q) := by
  obtain ⟨h1, h2⟩ := outOK_of h.1
  unfold ackK ackD
  rw [List.take_length]
  refine filter_seq q o.wait (o.next - o.wait.length) (fun i hi => ?_)
  have h3 := h2 i hi
  unfold outW at h3
  rw [Bool.and_eq_true] at h3
  exact (of_decide_eq_true h3.2).1
def SoPost (w : World) (R : PO) (C : Int) (e : Ending) (w' : World) : Prop :=
  ∃ a c, e = .returned (.tuple #[.agg #[.int .i64 R.epoch, .int .i64 R.next, .int .i64 R.now, .slice a R.wait.length c], .int .i64 C]) ∧ RdSl cSnt w' R.wait (.slice a R.wait.length c) ∧ Below w.heap.size w w'
def IoPost (w : World) (R : PO) (C : Int) (e : Ending) (w' : World) : Prop :=
  ∃ a c ys d bs, e = .returned (.tuple #[.agg #[.int .i64 R.epoch, .int .i64 R.next, .int .i64 R.now, .slice a R.wait.length c], .int .i64 C]) ∧ R.wait = ys.drop d ∧ OwnCut cSnt 85 w' ys d a c bs ∧ (∀ b ∈ bs, w.heap.size ≤ b) ∧ bs.Nodup ∧ totL wN ys ≤ 1048576 ∧ Below w.heap.size w w'
theorem ioPost_nil {w w' : World} {R : PO} {C C' : Int} (hb : Below w.heap.size w w') (hp : R = noOut) (hC : C = C') : IoPost w R C (.returned (.tuple #[.agg #[.int .i64 0, .int .i64 0, .int .i64 0, .slice none 0 0], .int .i64 C'])) w' := by
  subst hp hC
  exact ⟨none, 0, [], 0, [], rfl, rfl, ⟨Nat.le_refl _, Nat.le_refl _, Nat.zero_le _, fun _ => rfl, .slice none 0 0, .inl ⟨rfl, rfl, rfl⟩, fun h => by simp at h⟩, by simp, by simp, by simp [totL], hb⟩
end Go.Proofs.Ytcljakdcejhfiac
