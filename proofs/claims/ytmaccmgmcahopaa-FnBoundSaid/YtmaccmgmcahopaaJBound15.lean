/- SntFct, SntRow, AckMath, PushMath, Fld. -/
import Derived.Test.YtmaccmgmcahopaaJBound8
import Derived.Test.YtmaccmgmcahopaaJBound10
import Derived.Test.YtmaccmgmcahopaaJBound14
import Derived.Test.YtmaccmgmcahopaaJBound13
import Derived.Test.YtmaccmgmcahopaaJBound6
/- What is known of packets being copied. No program. -/
namespace Go.Proofs.Ytmaccmgmcahopaa
open Go.RowKit

def fcSn (lo : Nat) (s : PW) : Fct := ⟨fun v w => ∃ a c bk, v = .agg #[.int .i64 s.pkt.kind, .int .i64 s.pkt.epoch, .int .i64 s.pkt.seq, .int .i64 s.pkt.count, .bool s.pkt.last, .slice a s.pkt.data.length c, .int .i64 s.at_] ∧ OwnSl cByte 5 w s.pkt.data (.slice a s.pkt.data.length c) bk ∧ (∀ b ∈ bk, lo ≤ b) ∧ bk.Nodup, fun _ _ _ ⟨a, c, bk, e, h1, h2, h3⟩ hb => ⟨a, c, bk, e, ownB_kept h1 hb, h2, h3⟩⟩
def fcMadeS (w : World) (xs : List PW) (k : Nat) : Fct := ⟨fun _ wx => MadeN 7 cSnt 63 w wx xs k, fun _ _ _ h hb => h.later hb⟩

end Go.Proofs.Ytmaccmgmcahopaa

/- A slice of the call's own grows by one thing; a sending end whose packets grow. No program. -/
namespace Go.Proofs.Ytmaccmgmcahopaa
open Go.RowKit

/-- A sending end in the box at 'gm', its packets the call's own, from B on. -/
def OutBox (B gm : Nat) (e n t : Int) (xs : List PW) (w : World) : Prop :=
  ∃ a c bs, w.heap[gm]? = some (.cells #[.int .i64 e, .int .i64 n, .int .i64 t, .slice a xs.length c] 30 (0, 0)) ∧ OwnSl cSnt 63 w xs (.slice a xs.length c) bs ∧ bs.Nodup ∧ ∀ b ∈ bs, B ≤ b ∧ b ≠ gm
theorem OutBox.later {B gm : Nat} {e n t : Int} {xs : List PW} {w w' : World} (h : OutBox B gm e n t xs w) (hb : Below w.heap.size w w') : OutBox B gm e n t xs w' := by
  obtain ⟨a, c, bs, h1, h2, h3, h4⟩ := h
  exact ⟨a, c, bs, (hb.block _ (Array.getElem?_eq_some_iff.1 h1).1).trans h1, h2.kept (fun b hm => hb.block b (h2.lt b hm)), h3, h4⟩
/-- One element, in a block of its own. -/
def fcOneS (lo : Nat) (s : PW) : Fct := ⟨fun v w => ∃ g a c bk, v = .slice (some ⟨g, 0, none⟩) 1 1 ∧ w.heap[g]? = some (.cells #[.int .i64 s.pkt.kind, .int .i64 s.pkt.epoch, .int .i64 s.pkt.seq, .int .i64 s.pkt.count, .bool s.pkt.last, .slice a s.pkt.data.length c, .int .i64 s.at_] 63 (0, 0)) ∧ OwnSl cByte 5 w s.pkt.data (.slice a s.pkt.data.length c) bk ∧ (∀ b ∈ bk, lo ≤ b) ∧ bk.Nodup,
  fun _ _ _ ⟨g, a, c, bk, e, h0, h1, h2, h3⟩ hb => ⟨g, a, c, bk, e, (hb.block _ (Array.getElem?_eq_some_iff.1 h0).1).trans h0, ownB_kept h1 hb, h2, h3⟩⟩
/-- The slice that has grown, the box as it was. -/
def fcGotS (B gm : Nat) (e n t : Int) (acc : Value) (xs : List PW) : Fct := ⟨fun v w => w.heap[gm]? = some (.cells #[.int .i64 e, .int .i64 n, .int .i64 t, acc] 30 (0, 0)) ∧ ∃ a c bs, v = .slice a xs.length c ∧ OwnSl cSnt 63 w xs (.slice a xs.length c) bs ∧ bs.Nodup ∧ ∀ b ∈ bs, B ≤ b ∧ b ≠ gm,
  fun _ _ _ ⟨h1, a, c, bs, e, h2, h3⟩ hb => ⟨(hb.block _ (Array.getElem?_eq_some_iff.1 h1).1).trans h1, a, c, bs, e, h2.kept (fun b hm => hb.block b (h2.lt b hm)), h3⟩⟩
def fcPutS (B gm : Nat) (e n t : Int) (xs : List PW) : Fct := ⟨fun _ w => OutBox B gm e n t xs w, fun _ _ _ h hb => h.later hb⟩
theorem outBox_put {B gm : Nat} {e n t : Int} {acc : Value} {xs : List PW} {w : World} {a : Option Addr} {c : Nat} {bs : List Nat} (h : w.heap[gm]? = some (.cells #[.int .i64 e, .int .i64 n, .int .i64 t, acc] 30 (0, 0))) (ho : OwnSl cSnt 63 w xs (.slice a xs.length c) bs) (hn : bs.Nodup) (hb : ∀ b ∈ bs, B ≤ b ∧ b ≠ gm) :
    OutBox B gm e n t xs (w.setCell ⟨gm, 3, none⟩ (.slice a xs.length c)) :=
  ⟨a, c, bs, heap_setCell_same _ _ 3 _ _ _ h, ho.kept (fun b hm => Below.heap_setCell _ ⟨gm, 3, none⟩ _ _ (hb b hm).2), hn, hb⟩

end Go.Proofs.Ytmaccmgmcahopaa

/- Acknowledged packets wait no longer; what the functions of the sending end leave. No program. -/
namespace Go.Proofs.Ytmaccmgmcahopaa
open Go.RowKit

theorem filter_seq (q : Int) : ∀ (l : List PW) (b : Int), (∀ i, (h : i < l.length) → l[i].pkt.seq = b + i) → l.filter (fun s => decide (q ≤ s.pkt.seq)) = l.drop (q - b).toNat
  | [], b, _ => by simp
  | x :: l, b, h => by
    have h0 := h 0 (by simp)
    simp only [List.getElem_cons_zero, Int.natCast_zero, Int.add_zero] at h0
    have ih := filter_seq q l (b + 1) (fun i hi => by
      have := h (i + 1) (by simpa using hi)
      simp only [List.getElem_cons_succ] at this
      rw [this]; push_cast; omega)
    by_cases hq : q ≤ b
    · have e1 : (q - b).toNat = 0 := by omega
      have e2 : (q - (b + 1)).toNat = 0 := by omega
      rw [List.filter_cons_of_pos (by rw [h0]; simpa using hq), ih, e1, e2, List.drop_zero, List.drop_zero]
    · rw [List.filter_cons_of_neg (by rw [h0]; simpa using hq), ih, show (q - b).toNat = (q - (b + 1)).toNat + 1 from by omega, List.drop_succ_cons]
def ackP (q : Int) (s : PW) : Bool := decide (q ≤ s.pkt.seq)
def ackK (o : PO) (q : Int) (k : Nat) : List PW := (o.wait.take k).filter (ackP q)
theorem ackK_yes {o : PO} {q : Int} {k : Nat} (hk : k < o.wait.length) (h : q ≤ o.wait[k].pkt.seq) : ackK o q (k + 1) = ackK o q k ++ [o.wait[k]] := by
  unfold ackK
  rw [List.take_succ_eq_append_getElem hk, List.filter_append, List.filter_cons_of_pos (by unfold ackP; simpa using h)]; rfl
theorem ackK_no {o : PO} {q : Int} {k : Nat} (hk : k < o.wait.length) (h : ¬ q ≤ o.wait[k].pkt.seq) : ackK o q (k + 1) = ackK o q k := by
  unfold ackK
  rw [List.take_succ_eq_append_getElem hk, List.filter_append, List.filter_cons_of_neg (by unfold ackP; simpa using h)]; simp
theorem ackK_len (o : PO) (q : Int) (k : Nat) : (ackK o q k).length ≤ o.wait.length := by
  unfold ackK
  exact Nat.le_trans (List.length_filter_le _ _) (by simp; omega)
def AckOK (o : PO) (q : Int) : Prop := outOK o = true ∧ 0 ≤ q ∧ q ≤ o.next
instance (o : PO) (q : Int) : Decidable (AckOK o q) := by unfold AckOK; infer_instance
def noOut : PO := ⟨0, 0, 0, []⟩
def ackD (o : PO) (q : Int) : Nat := (q - (o.next - o.wait.length)).toNat
def ackO (o : PO) (q : Int) : PO := if AckOK o q then ⟨o.epoch, o.next, o.now, o.wait.drop (ackD o q)⟩ else noOut
def ackC (o : PO) (q : Int) : Int := if AckOK o q then 0 else 1
theorem ack_no {o : PO} {q : Int} (h : ¬ AckOK o q) : ackO o q = noOut ∧ ackC o q = 1 := by unfold ackO ackC; rw [if_neg h, if_neg h]; exact ⟨rfl, rfl⟩
theorem ack_yes {o : PO} {q : Int} (h : AckOK o q) : ackO o q = ⟨o.epoch, o.next, o.now, o.wait.drop (ackD o q)⟩ ∧ ackC o q = 0 := by unfold ackO ackC; rw [if_pos h, if_pos h]; exact ⟨rfl, rfl⟩
theorem ackK_all {o : PO} {q : Int} (h : AckOK o q) : ackK o q o.wait.length = o.wait.drop (ackD o q) := by
  obtain ⟨h1, h2⟩ := outOK_of h.1
  unfold ackK ackD
  rw [List.take_length]
  refine filter_seq q o.wait (o.next - o.wait.length) (fun i hi => ?_)
  have h3 := h2 i hi
  unfold outW at h3
  rw [Bool.and_eq_true] at h3
  exact (of_decide_eq_true h3.2).1

/-- A sending end to be read, and a code. -/
def SoPost (w : World) (R : PO) (C : Int) (e : Ending) (w' : World) : Prop :=
  ∃ a c, e = .returned (.tuple #[.agg #[.int .i64 R.epoch, .int .i64 R.next, .int .i64 R.now, .slice a R.wait.length c], .int .i64 C]) ∧ RdSl cSnt w' R.wait (.slice a R.wait.length c) ∧ Below w.heap.size w w'
/-- A sending end of the call's own, and a code. -/
def IoPost (w : World) (R : PO) (C : Int) (e : Ending) (w' : World) : Prop :=
  ∃ a c ys d bs, e = .returned (.tuple #[.agg #[.int .i64 R.epoch, .int .i64 R.next, .int .i64 R.now, .slice a R.wait.length c], .int .i64 C]) ∧ R.wait = ys.drop d ∧ OwnCut cSnt 63 w' ys d a c bs ∧ (∀ b ∈ bs, w.heap.size ≤ b) ∧ bs.Nodup ∧ totL wN ys ≤ 1048576 ∧ Below w.heap.size w w'
theorem soPost_nil {w w' : World} {R : PO} {C C' : Int} (hb : Below w.heap.size w w') (hp : R = noOut) (hC : C = C') : SoPost w R C (.returned (.tuple #[.agg #[.int .i64 0, .int .i64 0, .int .i64 0, .slice none 0 0], .int .i64 C'])) w' := by
  subst hp hC
  exact ⟨none, 0, rfl, RdSl.empty none, hb⟩
theorem ioPost_nil {w w' : World} {R : PO} {C C' : Int} (hb : Below w.heap.size w w') (hp : R = noOut) (hC : C = C') : IoPost w R C (.returned (.tuple #[.agg #[.int .i64 0, .int .i64 0, .int .i64 0, .slice none 0 0], .int .i64 C'])) w' := by
  subst hp hC
  exact ⟨none, 0, [], 0, [], rfl, rfl, ⟨Nat.le_refl _, Nat.le_refl _, Nat.zero_le _, fun _ => rfl, .slice none 0 0, .inl ⟨rfl, rfl, rfl⟩, fun h => by simp at h⟩, by simp, by simp, by simp [totL], hb⟩

end Go.Proofs.Ytmaccmgmcahopaa

/- A message in pieces behind those that wait. No program. -/
namespace Go.Proofs.Ytmaccmgmcahopaa
open Go.RowKit

def nPc (xs : List Nat) : Nat := (xs.length + 99) / 100
def pcs (xs : List Nat) (i : Nat) : List Nat := (xs.drop (i * 100)).take 100
def pkW (o : PO) (xs : List Nat) (i : Nat) : PW := ⟨⟨1, o.epoch, o.next + (i : Int), 0, ((i : Int) == (nPc xs : Int) - 1), pcs xs i⟩, -1⟩
def pushK (o : PO) (xs : List Nat) (k : Nat) : List PW := o.wait ++ (List.range k).map (pkW o xs)
theorem pushK_zero (o : PO) (xs : List Nat) : pushK o xs 0 = o.wait := by simp [pushK]
theorem pushK_succ (o : PO) (xs : List Nat) (k : Nat) : pushK o xs (k + 1) = pushK o xs k ++ [pkW o xs k] := by simp [pushK, List.range_succ]
theorem pushK_len (o : PO) (xs : List Nat) (k : Nat) : (pushK o xs k).length = o.wait.length + k := by simp [pushK]
theorem pcs_len (xs : List Nat) (i : Nat) : (pcs xs i).length = min 100 (xs.length - i * 100) := by simp [pcs]
theorem pcs_take (xs : List Nat) (k : Nat) : (xs.drop (k * 100)).take (pcs xs k).length = pcs xs k := by
  rw [pcs_len]
  unfold pcs
  apply List.ext_getElem?
  intro i
  simp only [List.getElem?_take, List.getElem?_drop]
  by_cases h1 : i < min 100 (xs.length - k * 100)
  · rw [if_pos h1, if_pos (by omega)]
  · rw [if_neg h1]
    split
    · rw [List.getElem?_eq_none (by omega)]
    · rfl
def PushOK (o : PO) (xs : List Nat) : Prop := outOK o = true ∧ 1 ≤ xs.length ∧ xs.length ≤ 20000
instance (o : PO) (xs : List Nat) : Decidable (PushOK o xs) := by unfold PushOK; infer_instance
def PushFull (o : PO) (xs : List Nat) : Prop := 300 < o.wait.length + nPc xs
instance (o : PO) (xs : List Nat) : Decidable (PushFull o xs) := by unfold PushFull; infer_instance
def PushEnd (o : PO) (xs : List Nat) : Prop := 1000000000000 < o.next + (nPc xs : Int)
instance (o : PO) (xs : List Nat) : Decidable (PushEnd o xs) := by unfold PushEnd; infer_instance
def pushO (o : PO) (xs : List Nat) : PO := if PushOK o xs then (if PushFull o xs then o else if PushEnd o xs then o else ⟨o.epoch, o.next + (nPc xs : Int), o.now, pushK o xs (nPc xs)⟩) else noOut
def pushC (o : PO) (xs : List Nat) : Int := if PushOK o xs then (if PushFull o xs then 2 else if PushEnd o xs then 6 else 0) else 1
theorem push_no {o : PO} {xs : List Nat} (h : ¬ PushOK o xs) : pushO o xs = noOut ∧ pushC o xs = 1 := by unfold pushO pushC; rw [if_neg h, if_neg h]; exact ⟨rfl, rfl⟩
theorem push_full {o : PO} {xs : List Nat} (h : PushOK o xs) (h1 : PushFull o xs) : pushO o xs = o ∧ pushC o xs = 2 := by unfold pushO pushC; rw [if_pos h, if_pos h, if_pos h1, if_pos h1]; exact ⟨rfl, rfl⟩
theorem push_end {o : PO} {xs : List Nat} (h : PushOK o xs) (h1 : ¬ PushFull o xs) (h2 : PushEnd o xs) : pushO o xs = o ∧ pushC o xs = 6 := by unfold pushO pushC; rw [if_pos h, if_pos h, if_neg h1, if_neg h1, if_pos h2, if_pos h2]; exact ⟨rfl, rfl⟩
theorem push_yes {o : PO} {xs : List Nat} (h : PushOK o xs) (h1 : ¬ PushFull o xs) (h2 : ¬ PushEnd o xs) : pushO o xs = ⟨o.epoch, o.next + (nPc xs : Int), o.now, pushK o xs (nPc xs)⟩ ∧ pushC o xs = 0 := by unfold pushO pushC; rw [if_pos h, if_pos h, if_neg h1, if_neg h1, if_neg h2, if_neg h2]; exact ⟨rfl, rfl⟩
theorem sum_le_mul {α : Type} (f : α → Nat) (m : Nat) : ∀ (l : List α), (∀ x ∈ l, f x ≤ m) → (l.map f).sum ≤ m * l.length
  | [], _ => by simp
  | x :: l, h => by
    have h1 := sum_le_mul f m l (fun y hy => h y (List.mem_cons_of_mem _ hy))
    have h2 := h x (by simp)
    simp only [List.map_cons, List.sum_cons, List.length_cons]
    rw [Nat.mul_add, Nat.mul_one]
    omega
theorem out_data {o : PO} (h : outOK o = true) : ∀ s ∈ o.wait, wN s ≤ 100 := by
  intro s hs
  obtain ⟨i, hi, rfl⟩ := List.getElem_of_mem hs
  have h1 := (outOK_of h).2 i hi
  unfold outW dataB at h1
  rw [Bool.and_eq_true, Bool.and_eq_true] at h1
  exact pktOK_data h1.1.1
theorem pushK_tot {o : PO} {xs : List Nat} (h : outOK o = true) (k : Nat) (hk : k ≤ 200) : totL wN (pushK o xs k) ≤ 1048576 := by
  have h0 := (outOK_of h).1
  have hw : o.wait.length ≤ 300 := h0.2.2.2.2.2.2
  have h1 := sum_le_mul wN 100 (pushK o xs k) (fun s hs => by
    rcases List.mem_append.1 hs with hs | hs
    · exact out_data h s hs
    · obtain ⟨i, _, rfl⟩ := List.mem_map.1 hs
      have := pcs_len xs i
      show (pcs xs i).length ≤ 100
      omega)
  have h2 := pushK_len o xs k
  unfold totL
  omega
theorem pushO_tot {o : PO} {xs : List Nat} (h : totL wN o.wait ≤ 1048576) : totL wN (pushO o xs).wait ≤ 1048576 := by
  unfold pushO
  split
  · rename_i hp
    split
    · exact h
    · split
      · exact h
      · exact pushK_tot hp.1 _ (by have := hp.2.2; unfold nPc; omega)
  · simp [noOut, totL]
theorem pkW_in {o : PO} {xs : List Nat} {k : Nat} (h : OutH o) (hk : k ≤ 300) : PPIn (pkW o xs k).pkt := by
  unfold OutH at h
  refine ⟨?_, ?_, ?_, ?_⟩ <;> dsimp only [pkW, IntIn] <;> omega
theorem pkW_at {o : PO} {xs : List Nat} {k : Nat} : IntIn (pkW o xs k).at_ := by dsimp only [pkW, IntIn]; omega

end Go.Proofs.Ytmaccmgmcahopaa

/- Fields in memory. -/
namespace Go.Proofs.Ytmaccmgmcahopaa
open Go.RowKit

structure PF where
  name : List Nat
  kind : Int
  width : Int
deriving DecidableEq

def cField : Cod PF := cMap (cPair (cSl cByte 5) (cPair cInt cInt)) fun f => (f.name, f.kind, f.width)

theorem cField_rd {w : World} {f : PF} {cs : List Value} (h : cField.rd w f cs) : ∃ v, cs = [v, .int .i64 f.kind, .int .i64 f.width] ∧ RdSl cByte w f.name v ∧ IntIn f.kind ∧ IntIn f.width := by
  obtain ⟨c1, c2, rfl, ⟨v, rfl, h1⟩, c3, c4, rfl, ⟨rfl, h2⟩, rfl, h3⟩ := h
  exact ⟨v, rfl, h1, h2, h3⟩
theorem cField_mk {w : World} {f : PF} {v : Value} (h1 : RdSl cByte w f.name v) (h2 : IntIn f.kind) (h3 : IntIn f.width) : cField.rd w f [v, .int .i64 f.kind, .int .i64 f.width] :=
  ⟨[v], _, rfl, ⟨v, rfl, h1⟩, _, _, rfl, ⟨rfl, h2⟩, rfl, h3⟩
theorem cField_own {w : World} {f : PF} {v : Value} {bs : List Nat} (h1 : OwnSl cByte 5 w f.name v bs) (h2 : IntIn f.kind) (h3 : IntIn f.width) : cField.own w f [v, .int .i64 f.kind, .int .i64 f.width] bs :=
  ⟨[v], _, bs, [], rfl, by simp, ⟨v, rfl, h1⟩, _, _, [], [], rfl, rfl, ⟨rfl, h2, rfl⟩, rfl, h3, rfl⟩
theorem cField_owned {w : World} {f : PF} {cs : List Value} {bs : List Nat} (h : cField.own w f cs bs) : ∃ v, cs = [v, .int .i64 f.kind, .int .i64 f.width] ∧ OwnSl cByte 5 w f.name v bs ∧ IntIn f.kind ∧ IntIn f.width := by
  obtain ⟨c1, c2, b1, b2, rfl, rfl, ⟨v, rfl, h1⟩, c3, c4, b3, b4, rfl, rfl, ⟨rfl, h2, rfl⟩, rfl, h3, rfl⟩ := h
  exact ⟨v, rfl, by simpa using h1, h2, h3⟩
theorem cField_shape {w : World} {f : PF} {cs : List Value} (h : cField.rd w f cs) : ∃ a cap, cs = [.slice a f.name.length cap, .int .i64 f.kind, .int .i64 f.width] := by
  obtain ⟨v, rfl, ⟨a, cap, rfl, _⟩, _⟩ := cField_rd h
  exact ⟨a, cap, rfl⟩

end Go.Proofs.Ytmaccmgmcahopaa
