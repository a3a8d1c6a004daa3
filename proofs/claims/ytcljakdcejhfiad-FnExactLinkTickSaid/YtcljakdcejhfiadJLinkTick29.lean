import Derived.Test.YtcljakdcejhfiadJLinkTick25
import Derived.Test.YtcljakdcejhfiadJLinkTick28
import Derived.Test.YtcljakdcejhfiadJLinkTick24
import Derived.Laws.ResultCell
import Derived.Test.YtcljakdcejhfiadJLinkTick10
namespace Go.Proofs.Ytcljakdcejhfiad
open Go.RowKit
def dueB (t : Int) (s : PW) : Bool := decide (s.at_ < 0) || decide (4 ≤ t - s.at_)
def tickW (t : Int) (s : PW) : PW := if dueB t s = true then ⟨s.pkt, t⟩ else s
def tickK (o : PO) (t : Int) (k : Nat) : List PW := (o.wait.take k).map (tickW t) ++ o.wait.drop k
def gramK (o : PO) (t : Int) (k : Nat) : List (List Nat) := ((o.wait.take k).filter (dueB t)).map fun s => pktR s.pkt
theorem tickK_zero (o : PO) (t : Int) : tickK o t 0 = o.wait := by simp [tickK]
theorem gramK_zero (o : PO) (t : Int) : gramK o t 0 = [] := by simp [gramK]
theorem tickK_len (o : PO) (t : Int) (k : Nat) (h : k ≤ o.wait.length) : (tickK o t k).length = o.wait.length := by simp [tickK]; omega
theorem gramK_len (o : PO) (t : Int) (k : Nat) : (gramK o t k).length ≤ k := by
  unfold gramK
  rw [List.length_map]
  exact Nat.le_trans (List.length_filter_le _ _) (by simp; omega)
theorem tickK_at (o : PO) (t : Int) (k : Nat) (h : k < o.wait.length) : (tickK o t k)[k]'(by rw [tickK_len o t k (by omega)]; exact h) = o.wait[k] := by
  have h1 : ((o.wait.take k).map (tickW t)).length = k := by simp; omega
  have h2 : (tickK o t k)[k]? = some o.wait[k] := by
    unfold tickK
    rw [List.getElem?_append_right (by omega), h1, Nat.sub_self, List.getElem?_drop]
    simp [h]
  exact (List.getElem?_eq_some_iff.1 h2).2
theorem tickK_yes (o : PO) (t : Int) (k : Nat) (h : k < o.wait.length) (hd : dueB t o.wait[k] = true) : (tickK o t k).set k ⟨o.wait[k].pkt, t⟩ = tickK o t (k + 1) := by
  have h1 : ((o.wait.take k).map (tickW t)).length = k := by simp; omega
  have hdr : o.wait.drop k = o.wait[k] :: o.wait.drop (k + 1) := List.drop_eq_getElem_cons h
  unfold tickK
  rw [List.set_append_right _ _ (by omega), h1, Nat.sub_self, hdr, List.set_cons_zero, List.take_succ_eq_append_getElem h, List.map_append, List.append_assoc]
  simp [tickW, hd]
theorem tickK_no (o : PO) (t : Int) (k : Nat) (h : k < o.wait.length) (hd : dueB t o.wait[k] = false) : tickK o t (k + 1) = tickK o t k := by
  have hdr : o.wait.drop k = o.wait[k] :: o.wait.drop (k + 1) := List.drop_eq_getElem_cons h
  unfold tickK
  rw [hdr, List.take_succ_eq_append_getElem h, List.map_append, List.append_assoc]
  simp [tickW, hd]
theorem gramK_yes (o : PO) (t : Int) (k : Nat) (h : k < o.wait.length) (hd : dueB t o.wait[k] = true) : gramK o t (k + 1) = gramK o t k ++ [pktR o.wait[k].pkt] := by
  unfold gramK
  rw [List.take_succ_eq_append_getElem h, List.filter_append, List.filter_cons_of_pos hd, List.map_append]; rfl
theorem gramK_no (o : PO) (t : Int) (k : Nat) (h : k < o.wait.length) (hd : dueB t o.wait[k] = false) : gramK o t (k + 1) = gramK o t k := by
  unfold gramK
  rw [List.take_succ_eq_append_getElem h, List.filter_append, List.filter_cons_of_neg (by simp [hd])]; simp
def tickM (o : PO) : Nat := min 8 o.wait.length
def tickO (o : PO) : PO := if outOK o = true then (if o.now = 1000000000 then o else ⟨o.epoch, o.next, o.now + 1, tickK o (o.now + 1) (tickM o)⟩) else noOut
def tickG (o : PO) : List (List Nat) := if outOK o = true then (if o.now = 1000000000 then [] else gramK o (o.now + 1) (tickM o)) else []
def tickC (o : PO) : Int := if outOK o = true then (if o.now = 1000000000 then 6 else 0) else 1
theorem tick_no {o : PO} (h : outOK o = false) : tickO o = noOut ∧ tickG o = [] ∧ tickC o = 1 := by unfold tickO tickG tickC; rw [if_neg (by simp [h]), if_neg (by simp [h]), if_neg (by simp [h])]; exact ⟨rfl, rfl, rfl⟩
theorem tick_end {o : PO} (h : outOK o = true) (h1 : o.now = 1000000000) : tickO o = o ∧ tickG o = [] ∧ tickC o = 6 := by unfold tickO tickG tickC; rw [if_pos h, if_pos h, if_pos h, if_pos h1, if_pos h1, if_pos h1]; exact ⟨rfl, rfl, rfl⟩
theorem tick_yes {o : PO} (h : outOK o = true) (h1 : ¬ o.now = 1000000000) : tickO o = ⟨o.epoch, o.next, o.now + 1, tickK o (o.now + 1) (tickM o)⟩ ∧ tickG o = gramK o (o.now + 1) (tickM o) ∧ tickC o = 0 := by unfold tickO tickG tickC; rw [if_pos h, if_pos h, if_pos h, if_neg h1, if_neg h1, if_neg h1]; exact ⟨rfl, rfl, rfl⟩
theorem tickK_map (o : PO) (t : Int) (k : Nat) : (tickK o t k).map wN = o.wait.map wN := by
  have h1 : ∀ s, wN (tickW t s) = wN s := fun s => by unfold tickW; split <;> rfl
  unfold tickK
  conv => rhs; rw [← List.take_append_drop k o.wait]
  rw [List.map_append, List.map_append, List.map_map]
  congr 1
  exact List.map_congr_left (fun s _ => h1 s)
theorem tickO_tot {o : PO} (h : totL wN o.wait ≤ 1048576) : totL wN (tickO o).wait ≤ 1048576 := by
  unfold tickO
  split
  · split
    · exact h
    · unfold totL at *
      dsimp only
      rw [tickK_map, tickK_len o _ _ (by unfold tickM; omega)]
      exact h
  · simp [noOut, totL]
theorem pktR_le (p : PP) : (pktR p).length ≤ 125 := by
  have h := pktR_len p
  omega
theorem tickG_tot (o : PO) : (tickG o).length ≤ 8 ∧ tot (tickG o) ≤ 1000 := by
  have h1 : (tickG o).length ≤ 8 := by
    unfold tickG
    split
    · split
      · simp
      · exact Nat.le_trans (gramK_len _ _ _) (by unfold tickM; omega)
    · simp
  have h2 : ∀ x ∈ tickG o, x.length ≤ 125 := by
    unfold tickG
    split
    · split
      · simp
      · intro x hx
        obtain ⟨s, _, rfl⟩ := List.mem_map.1 hx
        exact pktR_le _
    · simp
  refine ⟨h1, ?_⟩
  have h3 : tot (tickG o) ≤ 125 * (tickG o).length := sum_le_mul List.length 125 _ h2
  omega
end Go.Proofs.Ytcljakdcejhfiad
namespace Go.Proofs.Ytcljakdcejhfiad
open Go.RowKit
end Go.Proofs.Ytcljakdcejhfiad
