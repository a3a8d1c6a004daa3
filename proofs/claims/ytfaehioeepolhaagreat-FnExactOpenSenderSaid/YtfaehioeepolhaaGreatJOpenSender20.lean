import Derived.Test.YtfaehioeepolhaaGreatJOpenSender19
import Derived.Test.YtfaehioeepolhaaGreatJOpenSender15
import Derived.Test.YtfaehioeepolhaaGreatJOpenSender4
import Derived.Test.YtfaehioeepolhaaGreatJOpenSender8
import Derived.Test.YtfaehioeepolhaaGreatJOpenSender17
import Derived.Test.YtfaehioeepolhaaGreatJOpenSender1
import Derived.Handy
import Derived.Test.YtfaehioeepolhaaGreatJOpenSender0
namespace Go.Proofs.YtfaehioeepolhaaGreat
open Go.RowKit
def fcRowD (lo : Nat) (D : List Nat) : Fct := ⟨fun v w => w.ownsRow lo 5 1 v D.length (byt D), fun _ _ _ h hb => own_later h hb⟩
def fcNewD (lo : Nat) : Fct := ⟨fun v w => ∃ g, v = .pointer (some ⟨g, 0, none⟩) ∧ lo ≤ g ∧ w.heap[g]? = some (.cells #[.int .i64 0, .int .i64 0, .int .i64 0, .int .i64 0, .bool false, .slice none 0 0] 120 (0, 0)), fun _ _ _ ⟨g, e, l, h⟩ hb => ⟨g, e, l, (hb.block _ (Array.getElem?_eq_some_iff.1 h).1).trans h⟩⟩
theorem box_far {w : World} {gm : Nat} {cs : Array Value} {t : TypeId} {B n s : Nat} {e : TypeId} {u : Value} {vs : List Value} {k : Nat} (hb : w.heap[gm]? = some (.cells cs t (0, 0))) (ho : w.ownsRow B e s u n vs) (hne : e ≠ t) (hk : u.ownBlock = some k) : k ≠ gm := by
  intro he
  subst he
  rcases ho.2 with ⟨rfl, _⟩ | ⟨g, cap, cur, rfl, _, hh, _⟩
  · simp [Value.ownBlock] at hk
  · simp [Value.ownBlock] at hk
    subst hk
    rw [hb] at hh
    simp at hh
    exact hne hh.2.symm
end Go.Proofs.YtfaehioeepolhaaGreat
namespace Go.Proofs.YtfaehioeepolhaaGreat
def dataB (p : PP) (e : Int) : Bool := pktOK p && (decide (p.kind = 1) && decide (p.epoch = e))
end Go.Proofs.YtfaehioeepolhaaGreat
namespace Go.Proofs.YtfaehioeepolhaaGreat
open Go.RowKit
def outW (o : PO) (i : Nat) (s : PW) : Bool := dataB s.pkt o.epoch && decide (s.pkt.seq = o.next - o.wait.length + i ∧ -1 ≤ s.at_ ∧ s.at_ ≤ o.now)
abbrev OutH (o : PO) : Prop := 1 ≤ o.epoch ∧ o.epoch ≤ 1000000000 ∧ 0 ≤ o.next ∧ o.next ≤ 1000000000000 ∧ 0 ≤ o.now ∧ o.now ≤ 1000000000 ∧ o.wait.length ≤ 300
def outOK (o : PO) : Bool := decide (OutH o) && (List.range o.wait.length).all fun i => match o.wait[i]? with | some s => outW o i s | none => true
theorem outOK_head {o : PO} (h : ¬ OutH o) : outOK o = false := by unfold outOK; rw [decide_eq_false h]; rfl
theorem outOK_at {o : PO} {k : Nat} (hk : k < o.wait.length) (h : outW o k o.wait[k] = false) : outOK o = false := by
  unfold outOK
  rw [Bool.and_eq_false_iff]
  refine .inr ?_
  rw [List.all_eq_false]
  refine ⟨k, List.mem_range.2 hk, ?_⟩
  simp [hk, h]
theorem outOK_all {o : PO} (h : OutH o) (ha : ∀ k, (hk : k < o.wait.length) → outW o k o.wait[k] = true) : outOK o = true := by
  unfold outOK
  rw [decide_eq_true h, Bool.true_and, List.all_eq_true]
  intro i hi
  have hi' := List.mem_range.1 hi
  simp [hi', ha i hi']
theorem outOK_of {o : PO} (h : outOK o = true) : OutH o ∧ ∀ k, (hk : k < o.wait.length) → outW o k o.wait[k] = true := by
  unfold outOK at h
  rw [Bool.and_eq_true, List.all_eq_true] at h
  refine ⟨of_decide_eq_true h.1, fun k hk => ?_⟩
  have := h.2 k (List.mem_range.2 hk)
  simpa [hk] using this
end Go.Proofs.YtfaehioeepolhaaGreat
namespace Go.Proofs.YtfaehioeepolhaaGreat
open Go.RowKit
def noOut : PO := ⟨0, 0, 0, []⟩
end Go.Proofs.YtfaehioeepolhaaGreat
namespace Go.Proofs.YtfaehioeepolhaaGreat
open Go.RowKit
def nPc (xs : List Nat) : Nat := (xs.length + 99) / 100
def pcs (xs : List Nat) (i : Nat) : List Nat := (xs.drop (i * 100)).take 100
def pkW (o : PO) (xs : List Nat) (i : Nat) : PW := ⟨⟨1, o.epoch, o.next + (i : Int), 0, ((i : Int) == (nPc xs : Int) - 1), pcs xs i⟩, -1⟩
def pushK (o : PO) (xs : List Nat) (k : Nat) : List PW := o.wait ++ (List.range k).map (pkW o xs)
theorem pushK_zero (o : PO) (xs : List Nat) : pushK o xs 0 = o.wait := by simp [pushK]
theorem pushK_succ (o : PO) (xs : List Nat) (k : Nat) : pushK o xs (k + 1) = pushK o xs k ++ [pkW o xs k] := by simp [pushK, List.range_succ]
theorem pushK_len (o : PO) (xs : List Nat) (k : Nat) : (pushK o xs k).length = o.wait.length + k := by simp [pushK]
theorem pcs_len (xs : List Nat) (i : Nat) : (pcs xs i).length = min 100 (xs.length - i * 100) := by simp [pcs]
theorem pcs_take (xs : List Nat) (k : Nat) : (xs.drop (k * 100)).take (pcs xs k).length = pcs xs k := by
  rw [pcs_len]
  unfold pcs
  apply List.ext_getElem?
  intro i
  simp only [List.getElem?_take, List.getElem?_drop]
  by_cases h1 : i < min 100 (xs.length - k * 100)
  · rw [if_pos h1, if_pos (by omega)]
  · rw [if_neg h1]
    split
    · rw [List.getElem?_eq_none (by omega)]
    · rfl
abbrev PushOK (o : PO) (xs : List Nat) : Prop := outOK o = true ∧ 1 ≤ xs.length ∧ xs.length ≤ 20000
abbrev PushFull (o : PO) (xs : List Nat) : Prop := 300 < o.wait.length + nPc xs
abbrev PushEnd (o : PO) (xs : List Nat) : Prop := 1000000000000 < o.next + (nPc xs : Int)
def pushO (o : PO) (xs : List Nat) : PO := if PushOK o xs then (if PushFull o xs then o else if PushEnd o xs then o else ⟨o.epoch, o.next + (nPc xs : Int), o.now, pushK o xs (nPc xs)⟩) else noOut
def pushC (o : PO) (xs : List Nat) : Int := if PushOK o xs then (if PushFull o xs then 2 else if PushEnd o xs then 6 else 0) else 1
theorem push_no {o : PO} {xs : List Nat} (h : ¬ PushOK o xs) : pushO o xs = noOut ∧ pushC o xs = 1 := by unfold pushO pushC; rw [if_neg h, if_neg h]; exact ⟨rfl, rfl⟩
theorem push_full {o : PO} {xs : List Nat} (h : PushOK o xs) (h1 : PushFull o xs) : pushO o xs = o ∧ pushC o xs = 2 := by unfold pushO pushC; rw [if_pos h, if_pos h, if_pos h1, if_pos h1]; exact ⟨rfl, rfl⟩
theorem push_end {o : PO} {xs : List Nat} (h : PushOK o xs) (h1 : ¬ PushFull o xs) (h2 : PushEnd o xs) : pushO o xs = o ∧ pushC o xs = 6 := by unfold pushO pushC; rw [if_pos h, if_pos h, if_neg h1, if_neg h1, if_pos h2, if_pos h2]; exact ⟨rfl, rfl⟩
theorem push_yes {o : PO} {xs : List Nat} (h : PushOK o xs) (h1 : ¬ PushFull o xs) (h2 : ¬ PushEnd o xs) : pushO o xs = ⟨o.epoch, o.next + (nPc xs : Int), o.now, pushK o xs (nPc xs)⟩ ∧ pushC o xs = 0 := by unfold pushO pushC; rw [if_pos h, if_pos h, if_neg h1, if_neg h1, if_neg h2, if_neg h2]; exact ⟨rfl, rfl⟩
theorem sum_le_mul {α : Type} (f : α → Nat) (m : Nat) : ∀ (l : List α), (∀ x ∈ l, f x ≤ m) → (l.map f).sum ≤ m * l.length
  | [], _ => by simp
  | x :: l, h => by
    have h1 := sum_le_mul f m l (fun y hy => h y (List.mem_cons_of_mem _ hy))
    have h2 := h x (by simp)
    simp only [List.map_cons, List.sum_cons, List.length_cons]
    rw [Nat.mul_add, Nat.mul_one]
    omega
theorem out_data {o : PO} (h : outOK o = true) : ∀ s ∈ o.wait, wN s ≤ 100 := by
  intro s hs
  obtain ⟨i, hi, rfl⟩ := List.getElem_of_mem hs
  have h1 := (outOK_of h).2 i hi
  unfold outW dataB at h1
  rw [Bool.and_eq_true, Bool.and_eq_true] at h1
  exact pktOK_data h1.1.1
theorem pushK_tot {o : PO} {xs : List Nat} (h : outOK o = true) (k : Nat) (hk : k ≤ 200) : totL wN (pushK o xs k) ≤ 1048576 := by
  have h0 := (outOK_of h).1
  have hw : o.wait.length ≤ 300 := h0.2.2.2.2.2.2
  have h1 := sum_le_mul wN 100 (pushK o xs k) (fun s hs => by
    rcases List.mem_append.1 hs with hs | hs
    · exact out_data h s hs
    · obtain ⟨i, _, rfl⟩ := List.mem_map.1 hs
      have := pcs_len xs i
      show (pcs xs i).length ≤ 100
      omega)
  have h2 := pushK_len o xs k
  unfold totL
  omega
theorem pkW_in {o : PO} {xs : List Nat} {k : Nat} (h : OutH o) (hk : k ≤ 300) : PPIn (pkW o xs k).pkt := by
  unfold OutH at h
  refine ⟨?_, ?_, ?_, ?_⟩ <;> dsimp only [pkW, IntIn] <;> omega
end Go.Proofs.YtfaehioeepolhaaGreat
namespace Go.Proofs.YtfaehioeepolhaaGreat
open Go.RowKit
def fcAggW (lo : Nat) (e nx : Int) (k N : Nat) (D : List Nat) : Fct := ⟨fun v w => ∃ a c, v = .agg #[.int .i64 1, .int .i64 e, .int .i64 (nx + (k : Int)), .int .i64 0, .bool ((k : Int) == (N : Int) - 1), .slice a D.length c] ∧ w.ownsRow lo 5 1 (.slice a D.length c) D.length (byt D), fun _ _ _ ⟨a, c, e, h⟩ hb => ⟨a, c, e, own_later h hb⟩⟩
def npH (lo : Nat) (e nx : Int) (k N : Nat) (D : List Nat) (AL ST : Nat) (x : Nat → Bool) (t : Nat → Value) (w : World) : Prop := x ST = true → ∃ g a c, t AL = .pointer (some ⟨g, 0, none⟩) ∧ lo ≤ g ∧ w.heap[g]? = some (.cells #[.int .i64 1, .int .i64 e, .int .i64 (nx + (k : Int)), .int .i64 0, .bool ((k : Int) == (N : Int) - 1), .slice a D.length c] 120 (0, 0)) ∧ w.ownsRow lo 5 1 (.slice a D.length c) D.length (byt D) ∧ ∀ x, (Value.slice a D.length c).ownBlock = some x → x ≠ g
set_option linter.unusedVariables false in
def npST (lo gO k N bm om cm PL : Nat) (e nx : Int) (D : List Nat) : Nat → FX
  | 0 => FX.eq (.pointer (some ⟨gO, 0, none⟩))
  | 1 => FX.eq (.int .i64 e)
  | 2 => FX.eq (.pointer (some ⟨gO, 1, none⟩))
  | 3 => FX.eq (.int .i64 nx)
  | 4 => FX.eq (.int .i64 (k : Int))
  | 5 => FX.eq (.int .i64 (nx + (k : Int)))
  | 6 => FX.eq (.int .i64 (k : Int))
  | 7 => FX.eq (.int .i64 (N : Int))
  | 8 => FX.eq (.int .i64 ((N : Int) - 1))
  | 9 => FX.eq (.bool ((k : Int) == (N : Int) - 1))
  | 10 => FX.eq (.slice (some ⟨bm, om + k * 100, none⟩) PL (cm - k * 100))
  | 11 => FX.pre [14] (fcRowD lo D)
  | 12 => FX.pre [14] (fcAggW lo e nx k N D)
  | 13 => FX.pre [14] (fcNewD lo)
  | 14 => FX.is Fct.any
  | _ => FX.eq undef
set_option linter.unusedVariables false in
def npIT (lo gO k N bm om cm PL : Nat) (e nx : Int) (D : List Nat) : Nat → FX
  | 0 => FX.eq (.pointer (some ⟨gO, 0, none⟩))
  | 1 => FX.eq (.int .i64 e)
  | 2 => FX.eq (.pointer (some ⟨gO, 1, none⟩))
  | 3 => FX.eq (.int .i64 nx)
  | 4 => FX.eq (.int .i64 (k : Int))
  | 5 => FX.eq (.int .i64 (nx + (k : Int)))
  | 6 => FX.eq (.int .i64 (k : Int))
  | 7 => FX.eq (.int .i64 (N : Int))
  | 8 => FX.eq (.int .i64 ((N : Int) - 1))
  | 9 => FX.eq (.bool ((k : Int) == (N : Int) - 1))
  | 10 => FX.eq (.slice (some ⟨bm, om, none⟩) PL cm)
  | 11 => FX.eq (.int .i64 (k : Int))
  | 12 => FX.pre [15] (fcRowD lo D)
  | 13 => FX.pre [15] (fcAggW lo e nx k N D)
  | 14 => FX.pre [15] (fcNewD lo)
  | 15 => FX.is Fct.any
  | _ => FX.eq undef
end Go.Proofs.YtfaehioeepolhaaGreat
namespace Go.Proofs.YtfaehioeepolhaaGreat
open Go.RowKit
set_option maxHeartbeats 4000000 in
theorem l5valid_raw (kind epoch seq count : Int) (last : Bool) (a : Option Addr) (n cap : Nat) (w : World) (B : Bool) (hT : (1 ≤ epoch ∧ epoch ≤ 1000000000 ∧ 0 ≤ seq ∧ seq ≤ 1000000000000 ∧ 0 ≤ count ∧ count ≤ 1000000000 ∧ ((kind = 1 ∧ seq < 1000000000000 ∧ count = 0 ∧ 1 ≤ n ∧ n ≤ 100) ∨ (lastN last = 0 ∧ n = 0 ∧ (kind = 2 ∨ (kind = 3 ∧ seq = 0) ∨ (kind = 4 ∧ seq = 0 ∧ count = 0))))) → B = true) (hF : ¬ (1 ≤ epoch ∧ epoch ≤ 1000000000 ∧ 0 ≤ seq ∧ seq ≤ 1000000000000 ∧ 0 ≤ count ∧ count ≤ 1000000000 ∧ ((kind = 1 ∧ seq < 1000000000000 ∧ count = 0 ∧ 1 ≤ n ∧ n ≤ 100) ∨ (lastN last = 0 ∧ n = 0 ∧ (kind = 2 ∨ (kind = 3 ∧ seq = 0) ∨ (kind = 4 ∧ seq = 0 ∧ count = 0))))) → B = false) (hn : n ≤ maxLen) :
    Calls Tryz.prog 102 #[.agg #[.int .i64 kind, .int .i64 epoch, .int .i64 seq, .int .i64 count, .bool last, .slice a n cap]] w fun e w' => e = .returned (.bool B) ∧ Below w.heap.size w w' := by
  have HT := hid hT
  have HF := hid hF
  unfold maxLen at hn
  clear hT hF
  by_cases c0 : kind < 1
  · have HB := hid (HF.out (by omega))
    go_enter Tryz.func102, Tryz.ntmps102
    go_wp2
    go_ret
    exact ⟨(by rw [HB.out]; first | done | rfl), below_new1 _ _⟩
  by_cases c1 : 4 < kind
  · have HB := hid (HF.out (by omega))
    go_enter Tryz.func102, Tryz.ntmps102
    go_wp2
    go_ret
    exact ⟨(by rw [HB.out]; first | done | rfl), below_new1 _ _⟩
  by_cases c2 : epoch < 1
  · have HB := hid (HF.out (by omega))
    go_enter Tryz.func102, Tryz.ntmps102
    go_wp2
    go_ret
    exact ⟨(by rw [HB.out]; first | done | rfl), below_new1 _ _⟩
  by_cases c3 : 1000000000 < epoch
  · have HB := hid (HF.out (by omega))
    go_enter Tryz.func102, Tryz.ntmps102
    go_wp2
    go_ret
    exact ⟨(by rw [HB.out]; first | done | rfl), below_new1 _ _⟩
  by_cases c4 : seq < 0
  · have HB := hid (HF.out (by omega))
    go_enter Tryz.func102, Tryz.ntmps102
    go_wp2
    go_ret
    exact ⟨(by rw [HB.out]; first | done | rfl), below_new1 _ _⟩
  by_cases c5 : 1000000000000 < seq
  · have HB := hid (HF.out (by omega))
    go_enter Tryz.func102, Tryz.ntmps102
    go_wp2
    go_ret
    exact ⟨(by rw [HB.out]; first | done | rfl), below_new1 _ _⟩
  by_cases c6 : count < 0
  · have HB := hid (HF.out (by omega))
    go_enter Tryz.func102, Tryz.ntmps102
    go_wp2
    go_ret
    exact ⟨(by rw [HB.out]; first | done | rfl), below_new1 _ _⟩
  by_cases c7 : 1000000000 < count
  · have HB := hid (HF.out (by omega))
    go_enter Tryz.func102, Tryz.ntmps102
    go_wp2
    go_ret
    exact ⟨(by rw [HB.out]; first | done | rfl), below_new1 _ _⟩
  by_cases k1 : kind = 1
  · subst k1
    by_cases d0 : count = 0
    · subst d0
      by_cases d1 : seq < 1000000000000
      · by_cases d2 : 1 ≤ n
        · have d2' : (1 : Int) ≤ (n : Int) := by omega
          by_cases d3 : n ≤ 100
          · have d3' : (n : Int) ≤ 100 := by omega
            have HB := hid (HT.out (by omega))
            go_enter Tryz.func102, Tryz.ntmps102
            go_wp2
            go_ret
            exact ⟨(by rw [HB.out]; first | done | rfl), below_new1 _ _⟩
          have d3' : decide ((n : Int) ≤ 100) = false := decide_eq_false (by omega)
          have HB := hid (HF.out (by omega))
          go_enter Tryz.func102, Tryz.ntmps102
          go_wp2
          go_ret
          exact ⟨(by rw [HB.out]; first | done | rfl), below_new1 _ _⟩
        have d2' : (n : Int) < 1 := by omega
        have HB := hid (HF.out (by omega))
        go_enter Tryz.func102, Tryz.ntmps102
        go_wp2
        go_ret
        exact ⟨(by rw [HB.out]; first | done | rfl), below_new1 _ _⟩
      have HB := hid (HF.out (by omega))
      go_enter Tryz.func102, Tryz.ntmps102
      go_wp2
      go_ret
      exact ⟨(by rw [HB.out]; first | done | rfl), below_new1 _ _⟩
    have d0' : (count == 0) = false := by simpa using d0
    have HB := hid (HF.out (by omega))
    go_enter Tryz.func102, Tryz.ntmps102
    go_wp2
    go_ret
    exact ⟨(by rw [HB.out]; first | done | rfl), below_new1 _ _⟩
  have k1' : (kind == 1) = false := by simpa using k1
  cases last with
  | true =>
    have hl : lastN true = 1 := rfl
    have HB := hid (HF.out (by omega))
    go_enter Tryz.func102, Tryz.ntmps102
    go_wp2
    go_ret
    exact ⟨(by rw [HB.out]; first | done | rfl), below_new1 _ _⟩
  | false =>
    have hl : lastN false = 0 := rfl
    by_cases n0 : n = 0
    · subst n0
      by_cases k2 : kind = 2
      · subst k2
        have HB := hid (HT.out (by omega))
        go_enter Tryz.func102, Tryz.ntmps102
        go_wp2
        go_ret
        exact ⟨(by rw [HB.out]; first | done | rfl), below_new1 _ _⟩
      have k2' : (kind == 2) = false := by simpa using k2
      by_cases s0 : seq = 0
      · subst s0
        by_cases k3 : kind = 3
        · subst k3
          have HB := hid (HT.out (by omega))
          go_enter Tryz.func102, Tryz.ntmps102
          go_wp2
          go_ret
          exact ⟨(by rw [HB.out]; first | done | rfl), below_new1 _ _⟩
        have k3' : (kind == 3) = false := by simpa using k3
        by_cases x0 : count = 0
        · subst x0
          have HB := hid (HT.out (by omega))
          go_enter Tryz.func102, Tryz.ntmps102
          go_wp2
          go_ret
          exact ⟨(by rw [HB.out]; first | done | rfl), below_new1 _ _⟩
        have x0' : (count == 0) = false := by simpa using x0
        have HB := hid (HF.out (by omega))
        go_enter Tryz.func102, Tryz.ntmps102
        go_wp2
        go_ret
        exact ⟨(by rw [HB.out]; first | done | rfl), below_new1 _ _⟩
      have s0' : (seq == 0) = false := by simpa using s0
      have HB := hid (HF.out (by omega))
      go_enter Tryz.func102, Tryz.ntmps102
      go_wp2
      go_ret
      exact ⟨(by rw [HB.out]; first | done | rfl), below_new1 _ _⟩
    have n0' : ((n : Int) != 0) = true := by simp; omega
    have HB := hid (HF.out (by omega))
    go_enter Tryz.func102, Tryz.ntmps102
    go_wp2
    go_ret
    exact ⟨(by rw [HB.out]; first | done | rfl), below_new1 _ _⟩
theorem l5valid_any (p : PP) (a : Option Addr) (cap : Nat) (w : World) (hn : p.data.length ≤ maxLen) :
    Calls Tryz.prog 102 #[.agg #[.int .i64 p.kind, .int .i64 p.epoch, .int .i64 p.seq, .int .i64 p.count, .bool p.last, .slice a p.data.length cap]] w fun e w' => e = .returned (.bool (pktOK p)) ∧ Below w.heap.size w w' :=
  l5valid_raw p.kind p.epoch p.seq p.count p.last a p.data.length cap w (pktOK p) (fun h => decide_eq_true h) (fun h => decide_eq_false h) hn
end Go.Proofs.YtfaehioeepolhaaGreat
namespace Go.Proofs.YtfaehioeepolhaaGreat
open Go.RowKit
theorem box_laterP2 {w w' : World} {g : Nat} {o : Obj} (h : w.heap[g]? = some o) (hb : Below w.heap.size w w') : w'.heap[g]? = some o := (hb.block g (Array.getElem?_eq_some_iff.1 h).1).trans h
end Go.Proofs.YtfaehioeepolhaaGreat
