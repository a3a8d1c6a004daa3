import Derived.Test.YtcljakdcejhfiabJDecodePacket13
namespace Go.Proofs.Ytcljakdcejhfiab
open Go.RowKit
structure PP where
  kind : Int
  epoch : Int
  seq : Int
  count : Int
  last : Bool
  data : List Nat
def lastN (b : Bool) : Nat := if b then 1 else 0
theorem lastN_lt (b : Bool) : lastN b < 256 := by cases b <;> decide
abbrev PktOK (p : PP) : Prop := 1 ≤ p.epoch ∧ p.epoch ≤ 1000000000 ∧ 0 ≤ p.seq ∧ p.seq ≤ 1000000000000 ∧ 0 ≤ p.count ∧ p.count ≤ 1000000000 ∧
  ((p.kind = 1 ∧ p.seq < 1000000000000 ∧ p.count = 0 ∧ 1 ≤ p.data.length ∧ p.data.length ≤ 100) ∨ (lastN p.last = 0 ∧ p.data.length = 0 ∧ (p.kind = 2 ∨ (p.kind = 3 ∧ p.seq = 0) ∨ (p.kind = 4 ∧ p.seq = 0 ∧ p.count = 0))))
def pktOK (p : PP) : Bool := decide (PktOK p)
def headP (K E S C : Nat) (L : Bool) (D : List Nat) : List Nat := [67, K] ++ (digs E 4 ++ (digs S 8 ++ (digs C 4 ++ ([lastN L] ++ (digs D.length 2 ++ D)))))
theorem headP_len (K E S C : Nat) (L : Bool) (D : List Nat) : (headP K E S C L D).length = 21 + D.length := by simp [headP, digs_len]; omega
theorem headP_lt {K E S C : Nat} {L : Bool} {D : List Nat} (hK : K < 256) (hD : ∀ x ∈ D, x < 256) : ∀ x ∈ headP K E S C L D, x < 256 := by
  intro x hx
  simp only [headP, List.mem_append, List.mem_cons, List.not_mem_nil, or_false] at hx
  rcases hx with (rfl | rfl) | h | h | h | rfl | h | h
  · omega
  · exact hK
  · exact digs_lt _ _ x h
  · exact digs_lt _ _ x h
  · exact digs_lt _ _ x h
  · exact lastN_lt _
  · exact digs_lt _ _ x h
  · exact hD x h
def encP (K E S C : Nat) (L : Bool) (D : List Nat) : List Nat := headP K E S C L D ++ digs (crcM (headP K E S C L D)) 4
theorem encP_len (K E S C : Nat) (L : Bool) (D : List Nat) : (encP K E S C L D).length = 25 + D.length := by simp [encP, headP_len, digs_len]; omega
def pktB (p : PP) : List Nat := encP p.kind.toNat p.epoch.toNat p.seq.toNat p.count.toNat p.last p.data
def pktR (p : PP) : List Nat := if pktOK p = true then pktB p else []
theorem pktR_ok {p : PP} (h : pktOK p = true) : pktR p = pktB p := by unfold pktR; rw [if_pos h]
theorem pktR_bad {p : PP} (h : pktOK p = false) : pktR p = [] := by unfold pktR; rw [if_neg (by simp [h])]
theorem pktOK_data {p : PP} (h : pktOK p = true) : p.data.length ≤ 100 := by
  have := of_decide_eq_true h
  unfold PktOK at this
  omega
theorem pktOK_kind {p : PP} (h : pktOK p = true) : 1 ≤ p.kind ∧ p.kind ≤ 4 := by
  have := of_decide_eq_true h
  unfold PktOK at this
  omega
theorem pktR_len (p : PP) : (pktR p).length ≤ 125 := by
  unfold pktR
  split
  · rename_i h
    have := pktOK_data h
    simp only [pktB, encP_len]; omega
  · simp
theorem pktR_lt {p : PP} (hD : ∀ x ∈ p.data, x < 256) : ∀ x ∈ pktR p, x < 256 := by
  intro x hx
  unfold pktR at hx
  split at hx
  · rename_i h
    have hk := pktOK_kind h
    simp only [pktB, encP, List.mem_append] at hx
    rcases hx with hx | hx
    · exact headP_lt (by omega) hD x hx
    · exact digs_lt _ _ x hx
  · simp at hx
def pktG (b : List Nat) : PP := ⟨((b[1]?.getD 0 : Nat) : Int), ((num ((b.drop 2).take 4) : Nat) : Int), IntKind.i64.wrap ((num ((b.drop 6).take 8) : Nat) : Int), ((num ((b.drop 14).take 4) : Nat) : Int), b[18]?.getD 0 == 1, (b.drop 21).take (b.length - 25)⟩
def noPkt : PP := ⟨0, 0, 0, 0, false, []⟩
def okB (b : List Nat) : Bool := decide (25 ≤ b.length) && decide (pktR (pktG b) = b)
def pkP (b : List Nat) : PP := if okB b = true then pktG b else noPkt
def pkC (b : List Nat) : Int := if okB b = true then 0 else 3
theorem okB_short {b : List Nat} (h : b.length < 25) : okB b = false := by
  unfold okB; rw [decide_eq_false (by omega)]; rfl
theorem okB_long {b : List Nat} (h : 125 < b.length) : okB b = false := by
  unfold okB
  have h1 := pktR_len (pktG b)
  rw [decide_eq_false (p := pktR (pktG b) = b) (fun e => by rw [e] at h1; omega)]
  simp
theorem okB_no {b : List Nat} (h : pktR (pktG b) ≠ b) : okB b = false := by unfold okB; rw [decide_eq_false h]; simp
theorem okB_yes {b : List Nat} (h1 : 25 ≤ b.length) (h : pktR (pktG b) = b) : okB b = true := by unfold okB; rw [decide_eq_true h, decide_eq_true h1]; rfl
theorem pk_no {b : List Nat} (h : okB b = false) : pkP b = noPkt ∧ pkC b = 3 := by simp [pkP, pkC, h]
theorem pk_yes {b : List Nat} (h : okB b = true) : pkP b = pktG b ∧ pkC b = 0 := by simp [pkP, pkC, h]
end Go.Proofs.Ytcljakdcejhfiab
