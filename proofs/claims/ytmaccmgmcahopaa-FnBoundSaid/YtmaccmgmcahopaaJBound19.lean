import Derived.Test.YtmaccmgmcahopaaJBound4
import Derived.Test.YtmaccmgmcahopaaJBound15
import Derived.Test.YtmaccmgmcahopaaJBound18
namespace Go.Proofs.Ytmaccmgmcahopaa
open Go.RowKit
def Zs (n : Nat) : List Nat := List.replicate n 0
theorem Zs_len (n : Nat) : (Zs n).length = n := by simp [Zs]
theorem encM_one (K F C : Nat) (z : List Nat) : (encM K F C [z]).length = 20 + evn z.length := by
  have h0 := join_next [lensM [z], z] 0 (by simp)
  have h1 := join_next [lensM [z], z] 1 (by simp)
  have e0 : (join (([lensM [z], z] : List (List Nat)).take 0)).length = 0 := by simp [join]
  have e1 : ([lensM [z], z] : List (List Nat))[0].length = 4 := by simp [lensM_len]
  rw [e0, e1] at h0
  have e2 : evn 4 = 8 := by decide
  simp only [List.take_succ_cons, List.take_zero, List.getElem_cons_succ, List.getElem_cons_zero] at h0 h1
  unfold encM bodyM
  simp only [List.length_append, headM_len, digs_len]
  omega
theorem bnd_enc (n : Nat) : (0 < (encR ⟨4, 0, 0, [Zs n]⟩).length) ↔ evn n ≤ 19980 := by
  have h1 : (encB ⟨4, 0, 0, [Zs n]⟩).length = 20 + evn n := by
    show (encM _ _ _ [Zs n]).length = _
    rw [encM_one, Zs_len]
  have h2 : msgOK ⟨4, 0, 0, [Zs n]⟩ = true := by simp [msgOK]
  unfold encR
  by_cases h : evn n ≤ 19980
  · rw [if_pos ⟨h2, by omega⟩]
    omega
  · rw [if_neg (fun k => h (by have := k.2; omega))]
    simp
    omega
def bo0 : PO := ⟨1, 0, 0, []⟩
def bo1 (n : Nat) : PO := ⟨1, 200, 0, pushK bo0 (Zs n) 200⟩
theorem bo0_ok : outOK bo0 = true := by decide
theorem bnd_push {n : Nat} (h1 : 19999 ≤ n) (h2 : n ≤ 20000) : pushO bo0 (Zs n) = bo1 n ∧ pushC bo0 (Zs n) = 0 := by
  have hp : nPc (Zs n) = 200 := by unfold nPc; rw [Zs_len]; omega
  have h := push_yes (o := bo0) (xs := Zs n) ⟨bo0_ok, by rw [Zs_len]; omega, by rw [Zs_len]; omega⟩ (by unfold PushFull; rw [hp]; decide) (by unfold PushEnd; rw [hp]; decide)
  rw [hp] at h
  exact h
theorem bnd_push_no : pushC bo0 (Zs 20001) = 1 := (push_no (fun h => by have := h.2.2; rw [Zs_len] at this; omega)).2
theorem bo1_len (n : Nat) : (bo1 n).wait.length = 200 := by show (pushK bo0 (Zs n) 200).length = 200; rw [pushK_len]; rfl
theorem bo1_ok {n : Nat} (h1 : 19999 ≤ n) : outOK (bo1 n) = true := by
  refine outOK_all ?_ (fun k hk => ?_)
  · have := bo1_len n
    show (1 : Int) ≤ 1 ∧ (1 : Int) ≤ 1000000000 ∧ (0 : Int) ≤ 200 ∧ (200 : Int) ≤ 1000000000000 ∧ (0 : Int) ≤ 0 ∧ (0 : Int) ≤ 1000000000 ∧ (bo1 n).wait.length ≤ 300
    exact ⟨by decide, by decide, by decide, by decide, by decide, by decide, by omega⟩
  · have hk2 : k < 200 := by have := bo1_len n; omega
    have e : ∀ h : k < (bo1 n).wait.length, (bo1 n).wait[k]'h = pkW bo0 (Zs n) k := fun h => by simp [bo1, pushK, bo0]
    generalize hg : (bo1 n).wait[k] = g
    have hg2 : g = pkW bo0 (Zs n) k := hg.symm.trans (e hk)
    clear hg
    subst hg2
    have hl : (pcs (Zs n) k).length = min 100 (n - k * 100) := by rw [pcs_len, Zs_len]
    have hd : pktOK (pkW bo0 (Zs n) k).pkt = true := by
      refine decide_eq_true ⟨by show (1 : Int) ≤ 1; omega, by show (1 : Int) ≤ 1000000000; omega, ?_, ?_, by show (0 : Int) ≤ 0; omega, by show (0 : Int) ≤ 1000000000; omega, .inl ⟨rfl, ?_, rfl, ?_, ?_⟩⟩
      · show (0 : Int) ≤ 0 + (k : Int); omega
      · show 0 + (k : Int) ≤ 1000000000000; omega
      · show 0 + (k : Int) < 1000000000000; omega
      · show 1 ≤ (pcs (Zs n) k).length; omega
      · show (pcs (Zs n) k).length ≤ 100; omega
    have hw := bo1_len n
    have h3 : (pkW bo0 (Zs n) k).pkt.seq = (bo1 n).next - ((bo1 n).wait.length : Int) + (k : Int) := by
      rw [hw]
      show 0 + (k : Int) = 200 - ((200 : Nat) : Int) + (k : Int)
      omega
    unfold outW dataB
    rw [hd, decide_eq_true (show (pkW bo0 (Zs n) k).pkt.kind = 1 from rfl), decide_eq_true (show (pkW bo0 (Zs n) k).pkt.epoch = (bo1 n).epoch from rfl), decide_eq_true (show _ ∧ _ ∧ _ from ⟨h3, by show (-1 : Int) ≤ -1; omega, by show (-1 : Int) ≤ 0; omega⟩)]
    rfl
theorem bnd_more {n : Nat} (h1 : 19999 ≤ n) : pushC (bo1 n) (Zs 10000) = 0 := by
  have hp : nPc (Zs 10000) = 100 := by unfold nPc; rw [Zs_len]
  refine (push_yes (o := bo1 n) (xs := Zs 10000) ⟨bo1_ok h1, by rw [Zs_len]; omega, by rw [Zs_len]; omega⟩ ?_ ?_).2
  · unfold PushFull; rw [hp, bo1_len]; omega
  · unfold PushEnd; rw [hp]; show ¬ (1000000000000 : Int) < 200 + ((100 : Nat) : Int); omega
theorem bnd_full {n : Nat} (h1 : 19999 ≤ n) : pushO (bo1 n) (Zs 10001) = bo1 n ∧ pushC (bo1 n) (Zs 10001) = 2 := by
  have hp : nPc (Zs 10001) = 101 := by unfold nPc; rw [Zs_len]
  refine push_full (o := bo1 n) (xs := Zs 10001) ⟨bo1_ok h1, by rw [Zs_len]; omega, by rw [Zs_len]; omega⟩ ?_
  unfold PushFull; rw [hp, bo1_len]; omega
theorem bnd_pkt (n : Nat) (h : 1 ≤ n) : (0 < (pktR ⟨1, 1, 0, 0, false, Zs n⟩).length) ↔ n ≤ 100 := by
  unfold pktR
  by_cases h2 : n ≤ 100
  · have hk : pktOK ⟨1, 1, 0, 0, false, Zs n⟩ = true := decide_eq_true ⟨by show (1 : Int) ≤ 1; omega, by show (1 : Int) ≤ 1000000000; omega, by show (0 : Int) ≤ 0; omega, by show (0 : Int) ≤ 1000000000000; omega, by show (0 : Int) ≤ 0; omega, by show (0 : Int) ≤ 1000000000; omega, .inl ⟨rfl, by show (0 : Int) < 1000000000000; omega, rfl, by show 1 ≤ (Zs n).length; rw [Zs_len]; omega, by show (Zs n).length ≤ 100; rw [Zs_len]; omega⟩⟩
    rw [if_pos hk]
    refine ⟨fun _ => h2, fun _ => ?_⟩
    show 0 < (encP _ _ _ _ _ _).length
    unfold encP
    simp only [List.length_append, headP_len]
    omega
  · have hk : pktOK ⟨1, 1, 0, 0, false, Zs n⟩ = false := decide_eq_false (fun ⟨_, _, _, _, _, _, k⟩ => by
      have hz := Zs_len n
      rcases k with ⟨_, _, _, _, k5⟩ | ⟨_, k2, _⟩
      · simp only [hz] at k5; omega
      · simp only [hz] at k2; omega)
    rw [hk]
    simp
    omega
def oneT (n : Nat) : List (List Nat) := (List.range n).map fun i => [i % 256]
theorem bnd_dict {d : Nat} (h : d < 3) : dictOK (oneT (39 + d)) = decide (d < 2) := by
  rcases (by omega : d = 0 ∨ d = 1 ∨ d = 2) with rfl | rfl | rfl <;> decide +kernel
def zTab (n : Nat) : PT := ⟨(n : Int), List.replicate n ⟨false, 0, []⟩⟩
theorem bnd_tab {d : Nat} (h : d < 3) : tableOK [⟨[97], 0, 0⟩] (zTab (99 + d)) = decide (d < 2) := by
  rcases (by omega : d = 0 ∨ d = 1 ∨ d = 2) with rfl | rfl | rfl <;> decide +kernel
end Go.Proofs.Ytmaccmgmcahopaa
