import Derived.Test.YtfaehioeepolhaaGreatJValidSender24
import Derived.Test.YtfaehioeepolhaaGreatJValidSender41
import Derived.Test.YtfaehioeepolhaaGreatJValidSender42
import Derived.Test.YtfaehioeepolhaaGreatJValidSender43
import Derived.Test.YtfaehioeepolhaaGreatJValidSender44
import Derived.Test.YtfaehioeepolhaaGreatJValidSender16
import Derived.Test.YtfaehioeepolhaaGreatJValidSender1
import Derived.Handy
import Derived.Test.YtfaehioeepolhaaGreatJValidSender0
namespace Go.Proofs.YtfaehioeepolhaaGreat
open Go.RowKit
abbrev SndE (r : PSnd) : Prop := 1 ≤ r.epoch ∧ r.epoch ≤ 1000000000 ∧ r.out.epoch = r.epoch
abbrev SndB (r : PSnd) : Prop := 0 ≤ r.base ∧ r.base ≤ 1000000000 - (r.tables.length : Int)
abbrev SndP (r : PSnd) : Prop := 0 ≤ r.pushed ∧ r.pushed ≤ (r.tables.length : Int)
def sndS (r : PSnd) : Bool := strOK r.str && (r.str.opened && (sameFs r.str.fields r.fields && decide (r.str.next = r.base + r.pushed)))
def sndOK (r : PSnd) : Bool := fieldsOK r.fields && (decide (SndE r) && (outOK r.out && (decide (SndB r) && ((decide (r.tables.length ≤ 20) && tabsOK r.fields r.tables) && (decide (SndP r) && sndS r)))))
theorem outOK_epoch {o : PO} (h : outOK o = true) : 1 ≤ o.epoch ∧ o.epoch ≤ 1000000000 := by
  by_cases k : OutH o
  · exact ⟨k.1, k.2.1⟩
  · rw [outOK_head k] at h; cases h
theorem sndOK_of {r : PSnd} (h : sndOK r = true) : fieldsOK r.fields = true ∧ SndE r ∧ outOK r.out = true ∧ SndB r ∧ r.tables.length ≤ 20 ∧ tabsOK r.fields r.tables = true ∧ SndP r ∧ sndS r = true := by
  unfold sndOK at h
  simp only [Bool.and_eq_true, decide_eq_true_eq] at h
  obtain ⟨h0, h1, h2, h3, ⟨h4, h5⟩, h6, h7⟩ := h
  exact ⟨h0, h1, h2, h3, h4, h5, h6, h7⟩
theorem sndOK_no {r : PSnd} (h : ¬ (fieldsOK r.fields = true ∧ SndE r ∧ outOK r.out = true ∧ SndB r ∧ r.tables.length ≤ 20 ∧ tabsOK r.fields r.tables = true ∧ SndP r ∧ sndS r = true)) : sndOK r = false := by
  cases k : sndOK r with
  | false => rfl
  | true => exact absurd (sndOK_of k) h
theorem sndOK_last {r : PSnd} (h0 : fieldsOK r.fields = true) (h1 : SndE r) (h2 : outOK r.out = true) (h3 : SndB r) (h4 : r.tables.length ≤ 20) (h5 : tabsOK r.fields r.tables = true) (h6 : SndP r) : sndOK r = sndS r := by
  unfold sndOK
  rw [h0, decide_eq_true h1, h2, decide_eq_true h3, decide_eq_true h4, h5, decide_eq_true h6]
  rfl
theorem sndS_no {r : PSnd} (h : ¬ (strOK r.str = true ∧ r.str.opened = true ∧ sameFs r.str.fields r.fields = true ∧ r.str.next = r.base + r.pushed)) : sndS r = false := by
  cases k : sndS r with
  | false => rfl
  | true =>
    unfold sndS at k
    simp only [Bool.and_eq_true, decide_eq_true_eq] at k
    exact absurd k h
theorem sndS_yes {r : PSnd} (h : strOK r.str = true ∧ r.str.opened = true ∧ sameFs r.str.fields r.fields = true ∧ r.str.next = r.base + r.pushed) : sndS r = true := by
  unfold sndS
  rw [h.1, h.2.1, h.2.2.1, decide_eq_true h.2.2.2]
  rfl
end Go.Proofs.YtfaehioeepolhaaGreat
namespace Go.Proofs.YtfaehioeepolhaaGreat
open Go.RowKit
set_option maxHeartbeats 4000000 in
theorem l5valid_raw (kind epoch seq count : Int) (last : Bool) (a : Option Addr) (n cap : Nat) (w : World) (B : Bool) (hT : (1 ≤ epoch ∧ epoch ≤ 1000000000 ∧ 0 ≤ seq ∧ seq ≤ 1000000000000 ∧ 0 ≤ count ∧ count ≤ 1000000000 ∧ ((kind = 1 ∧ seq < 1000000000000 ∧ count = 0 ∧ 1 ≤ n ∧ n ≤ 100) ∨ (lastN last = 0 ∧ n = 0 ∧ (kind = 2 ∨ (kind = 3 ∧ seq = 0) ∨ (kind = 4 ∧ seq = 0 ∧ count = 0))))) → B = true) (hF : ¬ (1 ≤ epoch ∧ epoch ≤ 1000000000 ∧ 0 ≤ seq ∧ seq ≤ 1000000000000 ∧ 0 ≤ count ∧ count ≤ 1000000000 ∧ ((kind = 1 ∧ seq < 1000000000000 ∧ count = 0 ∧ 1 ≤ n ∧ n ≤ 100) ∨ (lastN last = 0 ∧ n = 0 ∧ (kind = 2 ∨ (kind = 3 ∧ seq = 0) ∨ (kind = 4 ∧ seq = 0 ∧ count = 0))))) → B = false) (hn : n ≤ maxLen) :
    Calls Tryz.prog 102 #[.agg #[.int .i64 kind, .int .i64 epoch, .int .i64 seq, .int .i64 count, .bool last, .slice a n cap]] w fun e w' => e = .returned (.bool B) ∧ Below w.heap.size w w' := by
  have HT := hid hT
  have HF := hid hF
  unfold maxLen at hn
  clear hT hF
  by_cases c0 : kind < 1
  · have HB := hid (HF.out (by omega))
    go_enter Tryz.func102, Tryz.ntmps102
    go_wp2
    go_ret
    exact ⟨(by rw [HB.out]; first | done | rfl), below_new1 _ _⟩
  by_cases c1 : 4 < kind
  · have HB := hid (HF.out (by omega))
    go_enter Tryz.func102, Tryz.ntmps102
    go_wp2
    go_ret
    exact ⟨(by rw [HB.out]; first | done | rfl), below_new1 _ _⟩
  by_cases c2 : epoch < 1
  · have HB := hid (HF.out (by omega))
    go_enter Tryz.func102, Tryz.ntmps102
    go_wp2
    go_ret
    exact ⟨(by rw [HB.out]; first | done | rfl), below_new1 _ _⟩
  by_cases c3 : 1000000000 < epoch
  · have HB := hid (HF.out (by omega))
    go_enter Tryz.func102, Tryz.ntmps102
    go_wp2
    go_ret
    exact ⟨(by rw [HB.out]; first | done | rfl), below_new1 _ _⟩
  by_cases c4 : seq < 0
  · have HB := hid (HF.out (by omega))
    go_enter Tryz.func102, Tryz.ntmps102
    go_wp2
    go_ret
    exact ⟨(by rw [HB.out]; first | done | rfl), below_new1 _ _⟩
  by_cases c5 : 1000000000000 < seq
  · have HB := hid (HF.out (by omega))
    go_enter Tryz.func102, Tryz.ntmps102
    go_wp2
    go_ret
    exact ⟨(by rw [HB.out]; first | done | rfl), below_new1 _ _⟩
  by_cases c6 : count < 0
  · have HB := hid (HF.out (by omega))
    go_enter Tryz.func102, Tryz.ntmps102
    go_wp2
    go_ret
    exact ⟨(by rw [HB.out]; first | done | rfl), below_new1 _ _⟩
  by_cases c7 : 1000000000 < count
  · have HB := hid (HF.out (by omega))
    go_enter Tryz.func102, Tryz.ntmps102
    go_wp2
    go_ret
    exact ⟨(by rw [HB.out]; first | done | rfl), below_new1 _ _⟩
  by_cases k1 : kind = 1
  · subst k1
    by_cases d0 : count = 0
    · subst d0
      by_cases d1 : seq < 1000000000000
      · by_cases d2 : 1 ≤ n
        · have d2' : (1 : Int) ≤ (n : Int) := by omega
          by_cases d3 : n ≤ 100
          · have d3' : (n : Int) ≤ 100 := by omega
            have HB := hid (HT.out (by omega))
            go_enter Tryz.func102, Tryz.ntmps102
            go_wp2
            go_ret
            exact ⟨(by rw [HB.out]; first | done | rfl), below_new1 _ _⟩
          have d3' : decide ((n : Int) ≤ 100) = false := decide_eq_false (by omega)
          have HB := hid (HF.out (by omega))
          go_enter Tryz.func102, Tryz.ntmps102
          go_wp2
          go_ret
          exact ⟨(by rw [HB.out]; first | done | rfl), below_new1 _ _⟩
        have d2' : (n : Int) < 1 := by omega
        have HB := hid (HF.out (by omega))
        go_enter Tryz.func102, Tryz.ntmps102
        go_wp2
        go_ret
        exact ⟨(by rw [HB.out]; first | done | rfl), below_new1 _ _⟩
      have HB := hid (HF.out (by omega))
      go_enter Tryz.func102, Tryz.ntmps102
      go_wp2
      go_ret
      exact ⟨(by rw [HB.out]; first | done | rfl), below_new1 _ _⟩
    have d0' : (count == 0) = false := by simpa using d0
    have HB := hid (HF.out (by omega))
    go_enter Tryz.func102, Tryz.ntmps102
    go_wp2
    go_ret
    exact ⟨(by rw [HB.out]; first | done | rfl), below_new1 _ _⟩
  have k1' : (kind == 1) = false := by simpa using k1
  cases last with
  | true =>
    have hl : lastN true = 1 := rfl
    have HB := hid (HF.out (by omega))
    go_enter Tryz.func102, Tryz.ntmps102
    go_wp2
    go_ret
    exact ⟨(by rw [HB.out]; first | done | rfl), below_new1 _ _⟩
  | false =>
    have hl : lastN false = 0 := rfl
    by_cases n0 : n = 0
    · subst n0
      by_cases k2 : kind = 2
      · subst k2
        have HB := hid (HT.out (by omega))
        go_enter Tryz.func102, Tryz.ntmps102
        go_wp2
        go_ret
        exact ⟨(by rw [HB.out]; first | done | rfl), below_new1 _ _⟩
      have k2' : (kind == 2) = false := by simpa using k2
      by_cases s0 : seq = 0
      · subst s0
        by_cases k3 : kind = 3
        · subst k3
          have HB := hid (HT.out (by omega))
          go_enter Tryz.func102, Tryz.ntmps102
          go_wp2
          go_ret
          exact ⟨(by rw [HB.out]; first | done | rfl), below_new1 _ _⟩
        have k3' : (kind == 3) = false := by simpa using k3
        by_cases x0 : count = 0
        · subst x0
          have HB := hid (HT.out (by omega))
          go_enter Tryz.func102, Tryz.ntmps102
          go_wp2
          go_ret
          exact ⟨(by rw [HB.out]; first | done | rfl), below_new1 _ _⟩
        have x0' : (count == 0) = false := by simpa using x0
        have HB := hid (HF.out (by omega))
        go_enter Tryz.func102, Tryz.ntmps102
        go_wp2
        go_ret
        exact ⟨(by rw [HB.out]; first | done | rfl), below_new1 _ _⟩
      have s0' : (seq == 0) = false := by simpa using s0
      have HB := hid (HF.out (by omega))
      go_enter Tryz.func102, Tryz.ntmps102
      go_wp2
      go_ret
      exact ⟨(by rw [HB.out]; first | done | rfl), below_new1 _ _⟩
    have n0' : ((n : Int) != 0) = true := by simp; omega
    have HB := hid (HF.out (by omega))
    go_enter Tryz.func102, Tryz.ntmps102
    go_wp2
    go_ret
    exact ⟨(by rw [HB.out]; first | done | rfl), below_new1 _ _⟩
theorem l5valid_any (p : PP) (a : Option Addr) (cap : Nat) (w : World) (hn : p.data.length ≤ maxLen) :
    Calls Tryz.prog 102 #[.agg #[.int .i64 p.kind, .int .i64 p.epoch, .int .i64 p.seq, .int .i64 p.count, .bool p.last, .slice a p.data.length cap]] w fun e w' => e = .returned (.bool (pktOK p)) ∧ Below w.heap.size w w' :=
  l5valid_raw p.kind p.epoch p.seq p.count p.last a p.data.length cap w (pktOK p) (fun h => decide_eq_true h) (fun h => decide_eq_false h) hn
end Go.Proofs.YtfaehioeepolhaaGreat
namespace Go.Proofs.YtfaehioeepolhaaGreat
open Go.RowKit
theorem box_laterP2 {w w' : World} {g : Nat} {o : Obj} (h : w.heap[g]? = some o) (hb : Below w.heap.size w w') : w'.heap[g]? = some o := (hb.block g (Array.getElem?_eq_some_iff.1 h).1).trans h
end Go.Proofs.YtfaehioeepolhaaGreat
