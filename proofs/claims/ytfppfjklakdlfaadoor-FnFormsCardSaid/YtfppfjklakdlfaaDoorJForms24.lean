/- BndMath, BndKit, BndKit2. -/
import Derived.Test.YtfppfjklakdlfaaDoorJForms6
import Derived.Test.YtfppfjklakdlfaaDoorJForms21
import Derived.Test.YtfppfjklakdlfaaDoorJForms23
import Derived.Test.YtfppfjklakdlfaaDoorJForms10
import Derived.Test.YtfppfjklakdlfaaDoorJForms4
/- What FnBound's own arguments come to. No program. -/
namespace Go.Proofs.YtfppfjklakdlfaaDoor
open Go.RowKit

def Zs (n : Nat) : List Nat := List.replicate n 0
theorem Zs_len (n : Nat) : (Zs n).length = n := by simp [Zs]
theorem encM_one (K F C : Nat) (z : List Nat) : (encM K F C [z]).length = 20 + evn z.length := by
  have h0 := join_next [lensM [z], z] 0 (by simp)
  have h1 := join_next [lensM [z], z] 1 (by simp)
  have e0 : (join (([lensM [z], z] : List (List Nat)).take 0)).length = 0 := by simp [join]
  have e1 : ([lensM [z], z] : List (List Nat))[0].length = 4 := by simp [lensM_len]
  rw [e0, e1] at h0
  have e2 : evn 4 = 8 := by decide
  simp only [List.take_succ_cons, List.take_zero, List.getElem_cons_succ, List.getElem_cons_zero] at h0 h1
  unfold encM bodyM
  simp only [List.length_append, headM_len, digs_len]
  omega
theorem bnd_enc (n : Nat) : (0 < (encR ⟨4, 0, 0, [Zs n]⟩).length) ↔ evn n ≤ 19980 := by
  have h1 : (encB ⟨4, 0, 0, [Zs n]⟩).length = 20 + evn n := by
    show (encM _ _ _ [Zs n]).length = _
    rw [encM_one, Zs_len]
  have h2 : msgOK ⟨4, 0, 0, [Zs n]⟩ = true := by simp [msgOK]
  unfold encR
  by_cases h : evn n ≤ 19980
  · rw [if_pos ⟨h2, by omega⟩]
    omega
  · rw [if_neg (fun k => h (by have := k.2; omega))]
    simp
    omega
def bo0 : PO := ⟨1, 0, 0, []⟩
def bo1 (n : Nat) : PO := ⟨1, 200, 0, pushK bo0 (Zs n) 200⟩
theorem bo0_ok : outOK bo0 = true := by decide
theorem bnd_push {n : Nat} (h1 : 19999 ≤ n) (h2 : n ≤ 20000) : pushO bo0 (Zs n) = bo1 n ∧ pushC bo0 (Zs n) = 0 := by
  have hp : nPc (Zs n) = 200 := by unfold nPc; rw [Zs_len]; omega
  have h := push_yes (o := bo0) (xs := Zs n) ⟨bo0_ok, by rw [Zs_len]; omega, by rw [Zs_len]; omega⟩ (by unfold PushFull; rw [hp]; decide) (by unfold PushEnd; rw [hp]; decide)
  rw [hp] at h
  exact h
theorem bnd_push_no : pushC bo0 (Zs 20001) = 1 := (push_no (fun h => by have := h.2.2; rw [Zs_len] at this; omega)).2
theorem bo1_len (n : Nat) : (bo1 n).wait.length = 200 := by show (pushK bo0 (Zs n) 200).length = 200; rw [pushK_len]; rfl
theorem bo1_ok {n : Nat} (h1 : 19999 ≤ n) : outOK (bo1 n) = true := by
  refine outOK_all ?_ (fun k hk => ?_)
  · have := bo1_len n
    show (1 : Int) ≤ 1 ∧ (1 : Int) ≤ 1000000000 ∧ (0 : Int) ≤ 200 ∧ (200 : Int) ≤ 1000000000000 ∧ (0 : Int) ≤ 0 ∧ (0 : Int) ≤ 1000000000 ∧ (bo1 n).wait.length ≤ 300
    exact ⟨by decide, by decide, by decide, by decide, by decide, by decide, by omega⟩
  · have hk2 : k < 200 := by have := bo1_len n; omega
    have e : ∀ h : k < (bo1 n).wait.length, (bo1 n).wait[k]'h = pkW bo0 (Zs n) k := fun h => by simp [bo1, pushK, bo0]
    generalize hg : (bo1 n).wait[k] = g
    have hg2 : g = pkW bo0 (Zs n) k := hg.symm.trans (e hk)
    clear hg
    subst hg2
    have hl : (pcs (Zs n) k).length = min 100 (n - k * 100) := by rw [pcs_len, Zs_len]
    have hd : pktOK (pkW bo0 (Zs n) k).pkt = true := by
      refine decide_eq_true ⟨by show (1 : Int) ≤ 1; omega, by show (1 : Int) ≤ 1000000000; omega, ?_, ?_, by show (0 : Int) ≤ 0; omega, by show (0 : Int) ≤ 1000000000; omega, .inl ⟨rfl, ?_, rfl, ?_, ?_⟩⟩
      · show (0 : Int) ≤ 0 + (k : Int); omega
      · show 0 + (k : Int) ≤ 1000000000000; omega
      · show 0 + (k : Int) < 1000000000000; omega
      · show 1 ≤ (pcs (Zs n) k).length; omega
      · show (pcs (Zs n) k).length ≤ 100; omega
    have hw := bo1_len n
    have h3 : (pkW bo0 (Zs n) k).pkt.seq = (bo1 n).next - ((bo1 n).wait.length : Int) + (k : Int) := by
      rw [hw]
      show 0 + (k : Int) = 200 - ((200 : Nat) : Int) + (k : Int)
      omega
    unfold outW dataB
    rw [hd, decide_eq_true (show (pkW bo0 (Zs n) k).pkt.kind = 1 from rfl), decide_eq_true (show (pkW bo0 (Zs n) k).pkt.epoch = (bo1 n).epoch from rfl), decide_eq_true (show _ ∧ _ ∧ _ from ⟨h3, by show (-1 : Int) ≤ -1; omega, by show (-1 : Int) ≤ 0; omega⟩)]
    rfl
theorem bnd_more {n : Nat} (h1 : 19999 ≤ n) : pushC (bo1 n) (Zs 10000) = 0 := by
  have hp : nPc (Zs 10000) = 100 := by unfold nPc; rw [Zs_len]
  refine (push_yes (o := bo1 n) (xs := Zs 10000) ⟨bo1_ok h1, by rw [Zs_len]; omega, by rw [Zs_len]; omega⟩ ?_ ?_).2
  · unfold PushFull; rw [hp, bo1_len]; omega
  · unfold PushEnd; rw [hp]; show ¬ (1000000000000 : Int) < 200 + ((100 : Nat) : Int); omega
theorem bnd_full {n : Nat} (h1 : 19999 ≤ n) : pushO (bo1 n) (Zs 10001) = bo1 n ∧ pushC (bo1 n) (Zs 10001) = 2 := by
  have hp : nPc (Zs 10001) = 101 := by unfold nPc; rw [Zs_len]
  refine push_full (o := bo1 n) (xs := Zs 10001) ⟨bo1_ok h1, by rw [Zs_len]; omega, by rw [Zs_len]; omega⟩ ?_
  unfold PushFull; rw [hp, bo1_len]; omega
theorem bnd_pkt (n : Nat) (h : 1 ≤ n) : (0 < (pktR ⟨1, 1, 0, 0, false, Zs n⟩).length) ↔ n ≤ 100 := by
  unfold pktR
  by_cases h2 : n ≤ 100
  · have hk : pktOK ⟨1, 1, 0, 0, false, Zs n⟩ = true := decide_eq_true ⟨by show (1 : Int) ≤ 1; omega, by show (1 : Int) ≤ 1000000000; omega, by show (0 : Int) ≤ 0; omega, by show (0 : Int) ≤ 1000000000000; omega, by show (0 : Int) ≤ 0; omega, by show (0 : Int) ≤ 1000000000; omega, .inl ⟨rfl, by show (0 : Int) < 1000000000000; omega, rfl, by show 1 ≤ (Zs n).length; rw [Zs_len]; omega, by show (Zs n).length ≤ 100; rw [Zs_len]; omega⟩⟩
    rw [if_pos hk]
    refine ⟨fun _ => h2, fun _ => ?_⟩
    show 0 < (encP _ _ _ _ _ _).length
    unfold encP
    simp only [List.length_append, headP_len]
    omega
  · have hk : pktOK ⟨1, 1, 0, 0, false, Zs n⟩ = false := decide_eq_false (fun ⟨_, _, _, _, _, _, k⟩ => by
      have hz := Zs_len n
      rcases k with ⟨_, _, _, _, k5⟩ | ⟨_, k2, _⟩
      · simp only [hz] at k5; omega
      · simp only [hz] at k2; omega)
    rw [hk]
    simp
    omega
def oneT (n : Nat) : List (List Nat) := (List.range n).map fun i => [i % 256]
theorem bnd_dict {d : Nat} (h : d < 3) : dictOK (oneT (39 + d)) = decide (d < 2) := by
  rcases (by omega : d = 0 ∨ d = 1 ∨ d = 2) with rfl | rfl | rfl <;> decide +kernel
def zTab (n : Nat) : PT := ⟨(n : Int), List.replicate n ⟨false, 0, []⟩⟩
theorem bnd_tab {d : Nat} (h : d < 3) : tableOK [⟨[97], 0, 0⟩] (zTab (99 + d)) = decide (d < 2) := by
  rcases (by omega : d = 0 ∨ d = 1 ∨ d = 2) with rfl | rfl | rfl <;> decide +kernel

end Go.Proofs.YtfppfjklakdlfaaDoor

/- Zeros in new memory. -/
namespace Go.Proofs.YtfppfjklakdlfaaDoor
open Go.RowKit

theorem zs_rd {B n : Nat} {w : World} {g : Nat} (h : w.ownsRow B 5 1 (.slice (some ⟨g, 0, none⟩) n n) n (madeCells #[.int .u8 0] n).toList) (hn : n ≤ 1048576) : RdSl cByte w (Zs n) (.slice (some ⟨g, 0, none⟩) n n) := by
  rw [made_list] at h
  have hr := rd_row h
  have e : byt (Zs n) = List.replicate n (.int .u8 0) := by simp [byt, Zs]
  have h4 : Rd w (some ⟨g, 0, none⟩) (byt (Zs n)) := by rw [e]; exact hr
  have h5 := rdSl_bytes (xs := Zs n) (cap := n) (by rw [Zs_len]; omega) (by unfold maxLen; omega) (fun h => by cases h) h4 (fun x hx => by simp [Zs] at hx; omega)
  rwa [Zs_len] at h5
theorem one_rd {w : World} {g n : Nat} {v : Option Addr} (hz : RdSl cByte w (Zs n) (.slice v n n)) {t : TypeId} (hb : w.heap[g]? = some (.cells #[.slice v n n] t (0, 0))) : RdSl cSS w [Zs n] (.slice (some ⟨g, 0, none⟩) 1 1) := by
  have hc := cell_of_row _ _ 0 _ _ _ hb
  simp only [List.getElem?_toArray, List.getElem?_cons_zero] at hc
  refine ⟨_, 1, rfl, by simp, by unfold maxLen; omega, (fun h => by cases h), .inr ⟨g, 0, rfl, fun i hi => ?_⟩⟩
  obtain rfl : i = 0 := by simp at hi; omega
  refine ⟨[.slice v n n], ⟨_, rfl, hz⟩, fun j hj => ?_⟩
  obtain rfl : j = 0 := by simpa using hj
  simpa using hc

end Go.Proofs.YtfppfjklakdlfaaDoor

/- Rows that were made or built: zero cells, one byte, one field. -/
namespace Go.Proofs.YtfppfjklakdlfaaDoor
open Go.RowKit

theorem in0 : IntIn 0 := ⟨by decide, by decide⟩
theorem zc_rd {B n : Nat} {w : World} {g : Nat} {e : TypeId} (h : w.ownsRow B e 3 (.slice (some ⟨g, 0, none⟩) n n) n (madeCells #[.bool false, .int .i64 0, .slice none 0 0] (n * 3)).toList) : RdSl cCell w (List.replicate n ⟨false, 0, []⟩) (.slice (some ⟨g, 0, none⟩) n n) := by
  obtain ⟨hm, -⟩ : n ≤ maxLen ∧ True := by
    rcases h.2 with ⟨h0, _⟩ | ⟨g', cap, cur, h0, _, _, hn, hm, _⟩
    · cases h0
    · simp at h0; exact ⟨by omega, trivial⟩
  refine ⟨_, n, by simp, by simp, hm, (fun h => by cases h), .inr ⟨g, 0, rfl, fun i hi => ?_⟩⟩
  have hin : i < n := by simpa using hi
  refine ⟨[.bool false, .int .i64 0, .slice none 0 0], ?_, fun j hj => ?_⟩
  · rw [List.getElem_replicate]
    exact ⟨[.bool false], _, rfl, rfl, [.int .i64 0], _, rfl, ⟨rfl, in0⟩, _, rfl, RdSl.empty none⟩
  · have hj3 : j < 3 := by simpa using hj
    have hc : i * 3 + j < n * 3 := by omega
    have := World.ownsRow.cellAt h (i * 3 + j) (by omega)
    rw [show (0 + (i * cCell.n + j) : Nat) = i * 3 + j from by simp [cCell, cMap, cPair, cBool, cInt, cSl], this]
    simp only [madeCells, Array.toList_map, Array.toList_range, List.getElem?_map, List.getElem?_range hc, Option.map_some]
    rcases (by omega : j = 0 ∨ j = 1 ∨ j = 2) with rfl | rfl | rfl
    · rw [show (i * 3 + 0) % (#[Value.bool false, .int .i64 0, .slice none 0 0] : Array Value).size = 0 from by simp]; rfl
    · rw [show (i * 3 + 1) % (#[Value.bool false, .int .i64 0, .slice none 0 0] : Array Value).size = 1 from by simp]; rfl
    · rw [show (i * 3 + 2) % (#[Value.bool false, .int .i64 0, .slice none 0 0] : Array Value).size = 2 from by simp]; rfl
theorem own_one (w : World) (x : Value) (e : TypeId) {B : Nat} (hb : B ≤ w.heap.size) : (w.alloc (.cells #[x] e)).ownsRow B e 1 (.slice (some ⟨w.heap.size, 0, none⟩) 1 1) 1 [x] :=
  ⟨rfl, .inr ⟨w.heap.size, 1, #[x], rfl, hb, heap_alloc_new w _, Nat.le_refl _, by unfold maxLen; omega, rfl, rfl⟩⟩
theorem cell_one_new2 (w : World) (o : Obj) (x : Value) (t : TypeId) : ∀ j u, [x][j]? = some u → ((w.alloc o).alloc (.cells #[x] t)).cell? ((⟨w.heap.size + 1, 0, none⟩ : Addr).add j) = some u := by
  have h := cell_one_new (w.alloc o) x t
  rwa [show (w.alloc o).heap.size = w.heap.size + 1 from by simp] at h
theorem oneT_succ (k : Nat) : oneT (k + 1) = oneT k ++ [[k % 256]] := by simp [oneT, List.range_succ]
theorem oneT_len (k : Nat) : (oneT k).length = k := by simp [oneT]
theorem oneT_tot {d : Nat} (h : d < 3) : totL List.length (oneT (39 + d)) ≤ 1048576 := by
  rcases (by omega : d = 0 ∨ d = 1 ∨ d = 2) with rfl | rfl | rfl <;> decide
theorem zTab_tot {d : Nat} (h : d < 3) : totT (zTab (99 + d)) ≤ 1048576 := by
  rcases (by omega : d = 0 ∨ d = 1 ∨ d = 2) with rfl | rfl | rfl <;> decide
theorem field_rd {w : World} {g b : Nat} {t : TypeId} {z : Nat × Nat} (h1 : w.heap[g]? = some (.cells #[.slice (some ⟨b, 0, none⟩) 1 1, .int .i64 0, .int .i64 0] t (0, 0))) (h2 : w.heap[b]? = some (.cells #[.int .u8 97] 5 z)) : RdSl cField w [⟨[97], 0, 0⟩] (.slice (some ⟨g, 0, none⟩) 1 1) := by
  have hr : Rd w (some ⟨b, 0, none⟩) (byt [97]) := .inr ⟨b, 0, rfl, fun i hi => by
    obtain rfl : i = 0 := by simpa [byt] using hi
    simp [World.cell?, h2, byt]⟩
  have hb : RdSl cByte w [97] (.slice (some ⟨b, 0, none⟩) 1 1) := rdSl_bytes (xs := [97]) (cap := 1) (by simp) (by unfold maxLen; omega) (fun h => by cases h) hr (by simp)
  refine ⟨_, 1, rfl, by simp, by unfold maxLen; omega, (fun h => by cases h), .inr ⟨g, 0, rfl, fun i hi => ?_⟩⟩
  obtain rfl : i = 0 := by simp at hi; omega
  refine ⟨[.slice (some ⟨b, 0, none⟩) 1 1, .int .i64 0, .int .i64 0], cField_mk (f := ⟨[97], 0, 0⟩) hb in0 in0, fun j hj => ?_⟩
  have hj3 : j < 3 := by simpa using hj
  rcases (by omega : j = 0 ∨ j = 1 ∨ j = 2) with rfl | rfl | rfl
  · simpa [cField, cMap, cPair, cInt, cSl] using cell_of_row _ _ 0 _ _ _ h1
  · simpa [cField, cMap, cPair, cInt, cSl] using cell_of_row _ _ 1 _ _ _ h1
  · simpa [cField, cMap, cPair, cInt, cSl] using cell_of_row _ _ 2 _ _ _ h1

end Go.Proofs.YtfppfjklakdlfaaDoor
