import Derived.Test.YtcljakdcejhfiacJLinkPush36
import Derived.Test.YtcljakdcejhfiacJLinkPush35
namespace Go.Proofs.Ytcljakdcejhfiac
open Go.RowKit
def nPc (xs : List Nat) : Nat := (xs.length + 99) / 100
def pcs (xs : List Nat) (i : Nat) : List Nat := (xs.drop (i * 100)).take 100
def pkW (o : PO) (xs : List Nat) (i : Nat) : PW := ⟨⟨1, o.epoch, o.next + (i : Int), 0, ((i : Int) == (nPc xs : Int) - 1), pcs xs i⟩, -1⟩
def pushK (o : PO) (xs : List Nat) (k : Nat) : List PW := o.wait ++ (List.range k).map (pkW o xs)
theorem pushK_zero (o : PO) (xs : List Nat) : pushK o xs 0 = o.wait := by simp [pushK]
theorem pushK_succ (o : PO) (xs : List Nat) (k : Nat) : pushK o xs (k + 1) = pushK o xs k ++ [pkW o xs k] := by simp [pushK, List.range_succ]
theorem pushK_len (o : PO) (xs : List Nat) (k : Nat) : (pushK o xs k).length = o.wait.length + k := by simp [pushK]
theorem pcs_len (xs : List Nat) (i : Nat) : (pcs xs i).length = min 100 (xs.length - i * 100) := by simp [pcs]
theorem pcs_take (xs : List Nat) (k : Nat) : (xs.drop (k * 100)).take (pcs xs k).length = pcs xs k := by
  rw [pcs_len]
  unfold pcs
  apply List.ext_getElem?
  intro i
  simp only [List.getElem?_take, List.getElem?_drop]
  by_cases h1 : i < min 100 (xs.length - k * 100)
  · rw [if_pos h1, if_pos (by omega)]
  · rw [if_neg h1]
    split
    · rw [List.getElem?_eq_none (by omega)]
    · rfl
abbrev PushOK (o : PO) (xs : List Nat) : Prop := outOK o = true ∧ 1 ≤ xs.length ∧ xs.length ≤ 20000
abbrev PushFull (o : PO) (xs : List Nat) : Prop := 300 < o.wait.length + nPc xs
abbrev PushEnd (o : PO) (xs : List Nat) : Prop := 1000000000000 < o.next + (nPc xs : Int)
def pushO (o : PO) (xs : List Nat) : PO := if PushOK o xs then (if PushFull o xs then o else if PushEnd o xs then o else ⟨o.epoch, o.next + (nPc xs : Int), o.now, pushK o xs (nPc xs)⟩) else noOut
def pushC (o : PO) (xs : List Nat) : Int := if PushOK o xs then (if PushFull o xs then 2 else if PushEnd o xs then 6 else 0) else 1
theorem push_no {o : PO} {xs : List Nat} (h : ¬ PushOK o xs) : pushO o xs = noOut ∧ pushC o xs = 1 := by unfold pushO pushC; rw [if_neg h, if_neg h]; exact ⟨rfl, rfl⟩
theorem push_full {o : PO} {xs : List Nat} (h : PushOK o xs) (h1 : PushFull o xs) : pushO o xs = o ∧ pushC o xs = 2 := by unfold pushO pushC; rw [if_pos h, if_pos h, if_pos h1, if_pos h1]; exact ⟨rfl, rfl⟩
theorem push_end {o : PO} {xs : List Nat} (h : PushOK o xs) (h1 : ¬ PushFull o xs) (h2 : PushEnd o xs) : pushO o xs = o ∧ pushC o xs = 6 := by unfold pushO pushC; rw [if_pos h, if_pos h, if_neg h1, if_neg h1, if_pos h2, if_pos h2]; exact ⟨rfl, rfl⟩
theorem push_yes {o : PO} {xs : List Nat} (h : PushOK o xs) (h1 : ¬ PushFull o xs) (h2 : ¬ PushEnd o xs) : pushO o xs = ⟨o.epoch, o.next + (nPc xs : Int), o.now, pushK o xs (nPc xs)⟩ ∧ pushC o xs = 0 := by unfold pushO pushC; rw [if_pos h, if_pos h, if_neg h1, if_neg h1, if_neg h2, if_neg h2]; exact ⟨rfl, rfl⟩
theorem sum_le_mul {α : Type} (f : α → Nat) (m : Nat) : ∀ (l : List α), (∀ x ∈ l, f x ≤ m) → (l.map f).sum ≤ m * l.length
  | [], _ => by simp
  | x :: l, h => by
    have h1 := sum_le_mul f m l (fun y hy => h y (List.mem_cons_of_mem _ hy))
    have h2 := h x (by simp)
    simp only [List.map_cons, List.sum_cons, List.length_cons]
    rw [Nat.mul_add, Nat.mul_one]
    omega
theorem out_data {o : PO} (h : outOK o = true) : ∀ s ∈ o.wait, wN s ≤ 100 := by
  intro s hs
  obtain ⟨i, hi, rfl⟩ := List.getElem_of_mem hs
  have h1 := (outOK_of h).2 i hi
  unfold outW dataB at h1
  rw [Bool.and_eq_true, Bool.and_eq_true] at h1
  exact pktOK_data h1.1.1
theorem pushK_tot {o : PO} {xs : List Nat} (h : outOK o = true) (k : Nat) (hk : k ≤ 200) : totL wN (pushK o xs k) ≤ 1048576 := by
  have h0 := (outOK_of h).1
  have hw : o.wait.length ≤ 300 := h0.2.2.2.2.2.2
  have h1 := sum_le_mul wN 100 (pushK o xs k) (fun s hs => by
    rcases List.mem_append.1 hs with hs | hs
    · exact out_data h s hs
    · obtain ⟨i, _, rfl⟩ := List.mem_map.1 hs
      have := pcs_len xs i
      show (pcs xs i).length ≤ 100
      omega)
  have h2 := pushK_len o xs k
  unfold totL
  omega
theorem pushO_tot {o : PO} {xs : List Nat} (h : totL wN o.wait ≤ 1048576) : totL wN (pushO o xs).wait ≤ 1048576 := by
  unfold pushO
  split
  · rename_i hp
    split
    · exact h
    · split
      · exact h
      · exact pushK_tot hp.1 _ (by have := hp.2.2; unfold nPc; omega)
  · simp [noOut, totL]
theorem pkW_in {o : PO} {xs : List Nat} {k : Nat} (h : OutH o) (hk : k ≤ 300) : PPIn (pkW o xs k).pkt := by
  unfold OutH at h
  refine ⟨?_, ?_, ?_, ?_⟩ <;> dsimp only [pkW, IntIn] <;> omega
end Go.Proofs.Ytcljakdcejhfiac
namespace Go.Proofs.Ytcljakdcejhfiac
open Go.RowKit
def fcAggW (lo : Nat) (e nx : Int) (k N : Nat) (D : List Nat) : Fct := ⟨fun v w => ∃ a c, v = .agg #[.int .i64 1, .int .i64 e, .int .i64 (nx + (k : Int)), .int .i64 0, .bool ((k : Int) == (N : Int) - 1), .slice a D.length c] ∧ w.ownsRow lo 5 1 (.slice a D.length c) D.length (byt D), fun _ _ _ ⟨a, c, e, h⟩ hb => ⟨a, c, e, own_later h hb⟩⟩
def npH (lo : Nat) (e nx : Int) (k N : Nat) (D : List Nat) (AL ST : Nat) (x : Nat → Bool) (t : Nat → Value) (w : World) : Prop := x ST = true → ∃ g a c, t AL = .pointer (some ⟨g, 0, none⟩) ∧ lo ≤ g ∧ w.heap[g]? = some (.cells #[.int .i64 1, .int .i64 e, .int .i64 (nx + (k : Int)), .int .i64 0, .bool ((k : Int) == (N : Int) - 1), .slice a D.length c] 83 (0, 0)) ∧ w.ownsRow lo 5 1 (.slice a D.length c) D.length (byt D) ∧ ∀ x, (Value.slice a D.length c).ownBlock = some x → x ≠ g
set_option linter.unusedVariables false in
def npST (lo gO k N bm om cm PL : Nat) (e nx : Int) (D : List Nat) : Nat → FX
  | 0 => FX.eq (.pointer (some ⟨gO, 0, none⟩))
  | 1 => FX.eq (.int .i64 e)
  | 2 => FX.eq (.pointer (some ⟨gO, 1, none⟩))
  | 3 => FX.eq (.int .i64 nx)
  | 4 => FX.eq (.int .i64 (k : Int))
  | 5 => FX.eq (.int .i64 (nx + (k : Int)))
  | 6 => FX.eq (.int .i64 (k : Int))
  | 7 => FX.eq (.int .i64 (N : Int))
  | 8 => FX.eq (.int .i64 ((N : Int) - 1))
  | 9 => FX.eq (.bool ((k : Int) == (N : Int) - 1))
  | 10 => FX.eq (.slice (some ⟨bm, om + k * 100, none⟩) PL (cm - k * 100))
  | 11 => FX.pre [14] (fcRowD lo D)
  | 12 => FX.pre [14] (fcAggW lo e nx k N D)
  | 13 => FX.pre [14] (fcNewD lo)
  | 14 => FX.is Fct.any
  | _ => FX.eq undef
set_option linter.unusedVariables false in
def npIT (lo gO k N bm om cm PL : Nat) (e nx : Int) (D : List Nat) : Nat → FX
  | 0 => FX.eq (.pointer (some ⟨gO, 0, none⟩))
  | 1 => FX.eq (.int .i64 e)
  | 2 => FX.eq (.pointer (some ⟨gO, 1, none⟩))
  | 3 => FX.eq (.int .i64 nx)
  | 4 => FX.eq (.int .i64 (k : Int))
  | 5 => FX.eq (.int .i64 (nx + (k : Int)))
  | 6 => FX.eq (.int .i64 (k : Int))
  | 7 => FX.eq (.int .i64 (N : Int))
  | 8 => FX.eq (.int .i64 ((N : Int) - 1))
  | 9 => FX.eq (.bool ((k : Int) == (N : Int) - 1))
  | 10 => FX.eq (.slice (some ⟨bm, om, none⟩) PL cm)
  | 11 => FX.eq (.int .i64 (k : Int))
  | 12 => FX.pre [15] (fcRowD lo D)
  | 13 => FX.pre [15] (fcAggW lo e nx k N D)
  | 14 => FX.pre [15] (fcNewD lo)
  | 15 => FX.is Fct.any
  | _ => FX.eq undef
end Go.Proofs.Ytcljakdcejhfiac
