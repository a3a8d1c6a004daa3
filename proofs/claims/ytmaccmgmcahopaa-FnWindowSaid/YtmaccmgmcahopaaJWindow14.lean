import Derived.Test.YtmaccmgmcahopaaJWindow13
import Derived.Test.YtmaccmgmcahopaaJWindow7
import Derived.Laws.ResultCell
import Derived.Test.YtmaccmgmcahopaaJWindow10
namespace Go.Proofs.Ytmaccmgmcahopaa
open Go.RowKit
def nPc (xs : List Nat) : Nat := (xs.length + 99) / 100
def pcs (xs : List Nat) (i : Nat) : List Nat := (xs.drop (i * 100)).take 100
def pkW (o : PO) (xs : List Nat) (i : Nat) : PW := ⟨⟨1, o.epoch, o.next + (i : Int), 0, ((i : Int) == (nPc xs : Int) - 1), pcs xs i⟩, -1⟩
def pushK (o : PO) (xs : List Nat) (k : Nat) : List PW := o.wait ++ (List.range k).map (pkW o xs)
theorem pushK_zero (o : PO) (xs : List Nat) : pushK o xs 0 = o.wait := by simp [pushK]
theorem pushK_succ (o : PO) (xs : List Nat) (k : Nat) : pushK o xs (k + 1) = pushK o xs k ++ [pkW o xs k] := by simp [pushK, List.range_succ]
theorem pushK_len (o : PO) (xs : List Nat) (k : Nat) : (pushK o xs k).length = o.wait.length + k := by simp [pushK]
theorem pcs_len (xs : List Nat) (i : Nat) : (pcs xs i).length = min 100 (xs.length - i * 100) := by simp [pcs]
theorem pcs_take (xs : List Nat) (k : Nat) : (xs.drop (k * 100)).take (pcs xs k).length = pcs xs k := by
  rw [pcs_len]
  unfold pcs
  apply List.ext_getElem?
  intro i
  simp only [List.getElem?_take, List.getElem?_drop]
  by_cases h1 : i < min 100 (xs.length - k * 100)
  · rw [if_pos h1, if_pos (by omega)]
  · rw [if_neg h1]
    split
    · rw [List.getElem?_eq_none (by omega)]
    · rfl
abbrev PushOK (o : PO) (xs : List Nat) : Prop := outOK o = true ∧ 1 ≤ xs.length ∧ xs.length ≤ 20000
abbrev PushFull (o : PO) (xs : List Nat) : Prop := 300 < o.wait.length + nPc xs
abbrev PushEnd (o : PO) (xs : List Nat) : Prop := 1000000000000 < o.next + (nPc xs : Int)
def pushO (o : PO) (xs : List Nat) : PO := if PushOK o xs then (if PushFull o xs then o else if PushEnd o xs then o else ⟨o.epoch, o.next + (nPc xs : Int), o.now, pushK o xs (nPc xs)⟩) else noOut
def pushC (o : PO) (xs : List Nat) : Int := if PushOK o xs then (if PushFull o xs then 2 else if PushEnd o xs then 6 else 0) else 1
theorem push_no {o : PO} {xs : List Nat} (h : ¬ PushOK o xs) : pushO o xs = noOut ∧ pushC o xs = 1 := by unfold pushO pushC; rw [if_neg h, if_neg h]; exact ⟨rfl, rfl⟩
theorem push_full {o : PO} {xs : List Nat} (h : PushOK o xs) (h1 : PushFull o xs) : pushO o xs = o ∧ pushC o xs = 2 := by unfold pushO pushC; rw [if_pos h, if_pos h, if_pos h1, if_pos h1]; exact ⟨rfl, rfl⟩
theorem push_end {o : PO} {xs : List Nat} (h : PushOK o xs) (h1 : ¬ PushFull o xs) (h2 : PushEnd o xs) : pushO o xs = o ∧ pushC o xs = 6 := by unfold pushO pushC; rw [if_pos h, if_pos h, if_neg h1, if_neg h1, if_pos h2, if_pos h2]; exact ⟨rfl, rfl⟩
theorem push_yes {o : PO} {xs : List Nat} (h : PushOK o xs) (h1 : ¬ PushFull o xs) (h2 : ¬ PushEnd o xs) : pushO o xs = ⟨o.epoch, o.next + (nPc xs : Int), o.now, pushK o xs (nPc xs)⟩ ∧ pushC o xs = 0 := by unfold pushO pushC; rw [if_pos h, if_pos h, if_neg h1, if_neg h1, if_neg h2, if_neg h2]; exact ⟨rfl, rfl⟩
theorem sum_le_mul {α : Type} (f : α → Nat) (m : Nat) : ∀ (l : List α), (∀ x ∈ l, f x ≤ m) → (l.map f).sum ≤ m * l.length
  | [], _ => by simp
  | x :: l, h => by
    have h1 := sum_le_mul f m l (fun y hy => h y (List.mem_cons_of_mem _ hy))
    have h2 := h x (by simp)
    simp only [List.map_cons, List.sum_cons, List.length_cons]
    rw [Nat.mul_add, Nat.mul_one]
    omega
theorem out_data {o : PO} (h : outOK o = true) : ∀ s ∈ o.wait, wN s ≤ 100 := by
  intro s hs
  obtain ⟨i, hi, rfl⟩ := List.getElem_of_mem hs
  have h1 := (outOK_of h).2 i hi
  unfold outW dataB at h1
  rw [Bool.and_eq_true, Bool.and_eq_true] at h1
  exact pktOK_data h1.1.1
theorem pushK_tot {o : PO} {xs : List Nat} (h : outOK o = true) (k : Nat) (hk : k ≤ 200) : totL wN (pushK o xs k) ≤ 1048576 := by
  have h0 := (outOK_of h).1
  have hw : o.wait.length ≤ 300 := h0.2.2.2.2.2.2
  have h1 := sum_le_mul wN 100 (pushK o xs k) (fun s hs => by
    rcases List.mem_append.1 hs with hs | hs
    · exact out_data h s hs
    · obtain ⟨i, _, rfl⟩ := List.mem_map.1 hs
      have := pcs_len xs i
      show (pcs xs i).length ≤ 100
      omega)
  have h2 := pushK_len o xs k
  unfold totL
  omega
theorem pushO_tot {o : PO} {xs : List Nat} (h : totL wN o.wait ≤ 1048576) : totL wN (pushO o xs).wait ≤ 1048576 := by
  unfold pushO
  split
  · rename_i hp
    split
    · exact h
    · split
      · exact h
      · exact pushK_tot hp.1 _ (by have := hp.2.2; unfold nPc; omega)
  · simp [noOut, totL]
theorem pkW_in {o : PO} {xs : List Nat} {k : Nat} (h : OutH o) (hk : k ≤ 300) : PPIn (pkW o xs k).pkt := by
  unfold OutH at h
  refine ⟨?_, ?_, ?_, ?_⟩ <;> dsimp only [pkW, IntIn] <;> omega
end Go.Proofs.Ytmaccmgmcahopaa
namespace Go.Proofs.Ytmaccmgmcahopaa
open Go.RowKit
set_option linter.unusedVariables false in
def soT (B lo gm gO b off c n k : Nat) (s : PW) (an : Option Addr) (cn : Nat) (acc : Value) (e nx t : Int) (xs : List PW) : Nat → FX
  | 0 => FX.eq (.pointer (some ⟨gm, 3, none⟩))
  | 1 => FX.eq (acc)
  | 2 => FX.eq (.pointer (some ⟨gO, 3, none⟩))
  | 3 => FX.eq (.slice (some ⟨b, off, none⟩) n c)
  | 4 => FX.eq (.int .i64 (k : Int))
  | 5 => FX.eq (.pointer (some ⟨b, off + k * 7, none⟩))
  | 6 => FX.eq (.pointer (some ⟨b, off + k * 7, none⟩))
  | 7 => FX.eq (.agg #[.int .i64 s.pkt.kind, .int .i64 s.pkt.epoch, .int .i64 s.pkt.seq, .int .i64 s.pkt.count, .bool s.pkt.last, .slice an s.pkt.data.length cn])
  | 8 => FX.pre [17, 19] (fcPk lo s.pkt)
  | 9 => FX.eq (.pointer (some ⟨gO, 3, none⟩))
  | 10 => FX.eq (.slice (some ⟨b, off, none⟩) n c)
  | 11 => FX.eq (.int .i64 (k : Int))
  | 12 => FX.eq (.pointer (some ⟨b, off + k * 7, none⟩))
  | 13 => FX.eq (.pointer (some ⟨b, off + k * 7 + 6, none⟩))
  | 14 => FX.eq (.int .i64 s.at_)
  | 15 => FX.pre [17, 19] (fcSn lo s)
  | 16 => FX.pre [17, 19] (fcOneS lo s)
  | 17 => FX.pre [19] (fcGotS B gm e nx t acc (xs ++ [s]))
  | 18 => FX.eq (.pointer (some ⟨gm, 3, none⟩))
  | 19 => FX.is (fcPutS B gm e nx t (xs ++ [s]))
  | _ => FX.eq undef
end Go.Proofs.Ytmaccmgmcahopaa
namespace Go.Proofs.Ytmaccmgmcahopaa
open Go.RowKit
def dueB (t : Int) (s : PW) : Bool := decide (s.at_ < 0) || decide (4 ≤ t - s.at_)
def tickW (t : Int) (s : PW) : PW := if dueB t s = true then ⟨s.pkt, t⟩ else s
def tickK (o : PO) (t : Int) (k : Nat) : List PW := (o.wait.take k).map (tickW t) ++ o.wait.drop k
def gramK (o : PO) (t : Int) (k : Nat) : List (List Nat) := ((o.wait.take k).filter (dueB t)).map fun s => pktR s.pkt
theorem tickK_zero (o : PO) (t : Int) : tickK o t 0 = o.wait := by simp [tickK]
theorem gramK_zero (o : PO) (t : Int) : gramK o t 0 = [] := by simp [gramK]
theorem tickK_len (o : PO) (t : Int) (k : Nat) (h : k ≤ o.wait.length) : (tickK o t k).length = o.wait.length := by simp [tickK]; omega
theorem gramK_len (o : PO) (t : Int) (k : Nat) : (gramK o t k).length ≤ k := by
  unfold gramK
  rw [List.length_map]
  exact Nat.le_trans (List.length_filter_le _ _) (by simp; omega)
theorem tickK_at (o : PO) (t : Int) (k : Nat) (h : k < o.wait.length) : (tickK o t k)[k]'(by rw [tickK_len o t k (by omega)]; exact h) = o.wait[k] := by
  have h1 : ((o.wait.take k).map (tickW t)).length = k := by simp; omega
  have h2 : (tickK o t k)[k]? = some o.wait[k] := by
    unfold tickK
    rw [List.getElem?_append_right (by omega), h1, Nat.sub_self, List.getElem?_drop]
    simp [h]
  exact (List.getElem?_eq_some_iff.1 h2).2
theorem tickK_yes (o : PO) (t : Int) (k : Nat) (h : k < o.wait.length) (hd : dueB t o.wait[k] = true) : (tickK o t k).set k ⟨o.wait[k].pkt, t⟩ = tickK o t (k + 1) := by
  have h1 : ((o.wait.take k).map (tickW t)).length = k := by simp; omega
  have hdr : o.wait.drop k = o.wait[k] :: o.wait.drop (k + 1) := List.drop_eq_getElem_cons h
  unfold tickK
  rw [List.set_append_right _ _ (by omega), h1, Nat.sub_self, hdr, List.set_cons_zero, List.take_succ_eq_append_getElem h, List.map_append, List.append_assoc]
  simp [tickW, hd]
theorem tickK_no (o : PO) (t : Int) (k : Nat) (h : k < o.wait.length) (hd : dueB t o.wait[k] = false) : tickK o t (k + 1) = tickK o t k := by
  have hdr : o.wait.drop k = o.wait[k] :: o.wait.drop (k + 1) := List.drop_eq_getElem_cons h
  unfold tickK
  rw [hdr, List.take_succ_eq_append_getElem h, List.map_append, List.append_assoc]
  simp [tickW, hd]
theorem gramK_yes (o : PO) (t : Int) (k : Nat) (h : k < o.wait.length) (hd : dueB t o.wait[k] = true) : gramK o t (k + 1) = gramK o t k ++ [pktR o.wait[k].pkt] := by
  unfold gramK
  rw [List.take_succ_eq_append_getElem h, List.filter_append, List.filter_cons_of_pos hd, List.map_append]; rfl
theorem gramK_no (o : PO) (t : Int) (k : Nat) (h : k < o.wait.length) (hd : dueB t o.wait[k] = false) : gramK o t (k + 1) = gramK o t k := by
  unfold gramK
  rw [List.take_succ_eq_append_getElem h, List.filter_append, List.filter_cons_of_neg (by simp [hd])]; simp
def tickM (o : PO) : Nat := min 8 o.wait.length
def tickO (o : PO) : PO := if outOK o = true then (if o.now = 1000000000 then o else ⟨o.epoch, o.next, o.now + 1, tickK o (o.now + 1) (tickM o)⟩) else noOut
def tickG (o : PO) : List (List Nat) := if outOK o = true then (if o.now = 1000000000 then [] else gramK o (o.now + 1) (tickM o)) else []
def tickC (o : PO) : Int := if outOK o = true then (if o.now = 1000000000 then 6 else 0) else 1
theorem tick_no {o : PO} (h : outOK o = false) : tickO o = noOut ∧ tickG o = [] ∧ tickC o = 1 := by unfold tickO tickG tickC; rw [if_neg (by simp [h]), if_neg (by simp [h]), if_neg (by simp [h])]; exact ⟨rfl, rfl, rfl⟩
theorem tick_end {o : PO} (h : outOK o = true) (h1 : o.now = 1000000000) : tickO o = o ∧ tickG o = [] ∧ tickC o = 6 := by unfold tickO tickG tickC; rw [if_pos h, if_pos h, if_pos h, if_pos h1, if_pos h1, if_pos h1]; exact ⟨rfl, rfl, rfl⟩
theorem tick_yes {o : PO} (h : outOK o = true) (h1 : ¬ o.now = 1000000000) : tickO o = ⟨o.epoch, o.next, o.now + 1, tickK o (o.now + 1) (tickM o)⟩ ∧ tickG o = gramK o (o.now + 1) (tickM o) ∧ tickC o = 0 := by unfold tickO tickG tickC; rw [if_pos h, if_pos h, if_pos h, if_neg h1, if_neg h1, if_neg h1]; exact ⟨rfl, rfl, rfl⟩
theorem tickK_map (o : PO) (t : Int) (k : Nat) : (tickK o t k).map wN = o.wait.map wN := by
  have h1 : ∀ s, wN (tickW t s) = wN s := fun s => by unfold tickW; split <;> rfl
  unfold tickK
  conv => rhs; rw [← List.take_append_drop k o.wait]
  rw [List.map_append, List.map_append, List.map_map]
  congr 1
  exact List.map_congr_left (fun s _ => h1 s)
theorem tickO_tot {o : PO} (h : totL wN o.wait ≤ 1048576) : totL wN (tickO o).wait ≤ 1048576 := by
  unfold tickO
  split
  · split
    · exact h
    · unfold totL at *
      dsimp only
      rw [tickK_map, tickK_len o _ _ (by unfold tickM; omega)]
      exact h
  · simp [noOut, totL]
theorem pktR_le (p : PP) : (pktR p).length ≤ 125 := by
  have h := pktR_len p
  omega
theorem tickG_tot (o : PO) : (tickG o).length ≤ 8 ∧ tot (tickG o) ≤ 1000 := by
  have h1 : (tickG o).length ≤ 8 := by
    unfold tickG
    split
    · split
      · simp
      · exact Nat.le_trans (gramK_len _ _ _) (by unfold tickM; omega)
    · simp
  have h2 : ∀ x ∈ tickG o, x.length ≤ 125 := by
    unfold tickG
    split
    · split
      · simp
      · intro x hx
        obtain ⟨s, _, rfl⟩ := List.mem_map.1 hx
        exact pktR_le _
    · simp
  refine ⟨h1, ?_⟩
  have h3 : tot (tickG o) ≤ 125 * (tickG o).length := sum_le_mul List.length 125 _ h2
  omega
end Go.Proofs.Ytmaccmgmcahopaa
namespace Go.Proofs.Ytmaccmgmcahopaa
open Go.RowKit
end Go.Proofs.Ytmaccmgmcahopaa
