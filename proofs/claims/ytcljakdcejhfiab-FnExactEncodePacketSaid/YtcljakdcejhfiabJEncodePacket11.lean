import Derived.Test.YtcljakdcejhfiabJEncodePacket10
namespace Go.Proofs.Ytcljakdcejhfiab
open Go.RowKit
structure PP where
  kind : Int
  epoch : Int
  seq : Int
  count : Int
  last : Bool
  data : List Nat
def lastN (b : Bool) : Nat := if b then 1 else 0
theorem lastN_lt (b : Bool) : lastN b < 256 := by cases b <;> decide
abbrev PktOK (p : PP) : Prop := 1 ≤ p.epoch ∧ p.epoch ≤ 1000000000 ∧ 0 ≤ p.seq ∧ p.seq ≤ 1000000000000 ∧ 0 ≤ p.count ∧ p.count ≤ 1000000000 ∧
  ((p.kind = 1 ∧ p.seq < 1000000000000 ∧ p.count = 0 ∧ 1 ≤ p.data.length ∧ p.data.length ≤ 100) ∨ (lastN p.last = 0 ∧ p.data.length = 0 ∧ (p.kind = 2 ∨ (p.kind = 3 ∧ p.seq = 0) ∨ (p.kind = 4 ∧ p.seq = 0 ∧ p.count = 0))))
def pktOK (p : PP) : Bool := decide (PktOK p)
def headP (K E S C : Nat) (L : Bool) (D : List Nat) : List Nat := [67, K] ++ (digs E 4 ++ (digs S 8 ++ (digs C 4 ++ ([lastN L] ++ (digs D.length 2 ++ D)))))
theorem headP_len (K E S C : Nat) (L : Bool) (D : List Nat) : (headP K E S C L D).length = 21 + D.length := by simp [headP, digs_len]; omega
theorem headP_lt {K E S C : Nat} {L : Bool} {D : List Nat} (hK : K < 256) (hD : ∀ x ∈ D, x < 256) : ∀ x ∈ headP K E S C L D, x < 256 := by
  intro x hx
  simp only [headP, List.mem_append, List.mem_cons, List.not_mem_nil, or_false] at hx
  rcases hx with (rfl | rfl) | h | h | h | rfl | h | h
  · omega
  · exact hK
  · exact digs_lt _ _ x h
  · exact digs_lt _ _ x h
  · exact digs_lt _ _ x h
  · exact lastN_lt _
  · exact digs_lt _ _ x h
  · exact hD x h
def encP (K E S C : Nat) (L : Bool) (D : List Nat) : List Nat := headP K E S C L D ++ digs (crcM (headP K E S C L D)) 4
theorem encP_len (K E S C : Nat) (L : Bool) (D : List Nat) : (encP K E S C L D).length = 25 + D.length := by simp [encP, headP_len, digs_len]; omega
def pktB (p : PP) : List Nat := encP p.kind.toNat p.epoch.toNat p.seq.toNat p.count.toNat p.last p.data
def pktR (p : PP) : List Nat := if pktOK p = true then pktB p else []
theorem pktR_ok {p : PP} (h : pktOK p = true) : pktR p = pktB p := by unfold pktR; rw [if_pos h]
theorem pktR_bad {p : PP} (h : pktOK p = false) : pktR p = [] := by unfold pktR; rw [if_neg (by simp [h])]
theorem pktOK_data {p : PP} (h : pktOK p = true) : p.data.length ≤ 100 := by
  have := of_decide_eq_true h
  unfold PktOK at this
  omega
theorem pktR_len (p : PP) : (pktR p).length ≤ 125 := by
  unfold pktR
  split
  · rename_i h
    have := pktOK_data h
    simp only [pktB, encP_len]; omega
  · simp
end Go.Proofs.Ytcljakdcejhfiab
