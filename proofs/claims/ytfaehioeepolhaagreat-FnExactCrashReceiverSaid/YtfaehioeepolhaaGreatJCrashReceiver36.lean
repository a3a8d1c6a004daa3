import Derived.Test.YtfaehioeepolhaaGreatJCrashReceiver20
import Derived.Test.YtfaehioeepolhaaGreatJCrashReceiver33
import Derived.Test.YtfaehioeepolhaaGreatJCrashReceiver34
import Derived.Test.YtfaehioeepolhaaGreatJCrashReceiver35
import Derived.Test.YtfaehioeepolhaaGreatJCrashReceiver14
import Derived.Test.YtfaehioeepolhaaGreatJCrashReceiver1
import Derived.Handy
import Derived.Test.YtfaehioeepolhaaGreatJCrashReceiver0
namespace Go.Proofs.YtfaehioeepolhaaGreat
open Go.RowKit
def readyOK (r : PRcv) : Bool := if r.str.opened = true then (decide (r.ready.length ≤ 20) && tabsOK r.str.fields r.ready) else decide (r.ready.length = 0)
abbrev RcvH (r : PRcv) : Prop := 0 ≤ r.epoch ∧ r.epoch ≤ 1000000000 ∧ 0 ≤ r.count ∧ r.count ≤ 1000000000 ∧ 0 ≤ r.errors ∧ r.errors ≤ 1000000000
abbrev RcvZ (r : PRcv) : Prop := r.inn.epoch = 0 ∧ r.inn.expect = 0 ∧ r.inn.held.length = 0 ∧ r.inn.part.length = 0 ∧ r.str.opened = false ∧ r.str.next = 0 ∧ r.str.fields.length = 0 ∧ r.str.dicts.length = 0 ∧ r.ready.length = 0
abbrev RcvN (r : PRcv) : Prop := r.str.next ≤ r.count + (r.ready.length : Int) ∧ (r.ready.length = 0 ∨ r.str.next = r.count + (r.ready.length : Int))
def rcvOK (r : PRcv) : Bool := decide (RcvH r) && (if r.live = false then decide (RcvZ r) else (decide (1 ≤ r.epoch ∧ r.inn.epoch = r.epoch) && (inOK r.inn && (strOK r.str && (readyOK r && (!r.str.opened || decide (RcvN r)))))))
theorem rcv_head {r : PRcv} (h : ¬ RcvH r) : rcvOK r = false := by unfold rcvOK; rw [decide_eq_false h]; rfl
theorem rcv_dead {r : PRcv} (h : RcvH r) (hl : r.live = false) : rcvOK r = decide (RcvZ r) := by unfold rcvOK; rw [decide_eq_true h, if_pos hl]; rfl
theorem rcv_live {r : PRcv} (h : RcvH r) (hl : r.live = true) : rcvOK r = (decide (1 ≤ r.epoch ∧ r.inn.epoch = r.epoch) && (inOK r.inn && (strOK r.str && (readyOK r && (!r.str.opened || decide (RcvN r)))))) := by unfold rcvOK; rw [decide_eq_true h, if_neg (by simp [hl])]; rfl
end Go.Proofs.YtfaehioeepolhaaGreat
namespace Go.Proofs.YtfaehioeepolhaaGreat
open Go.RowKit
set_option maxHeartbeats 4000000 in
theorem l5valid_raw (kind epoch seq count : Int) (last : Bool) (a : Option Addr) (n cap : Nat) (w : World) (B : Bool) (hT : (1 ≤ epoch ∧ epoch ≤ 1000000000 ∧ 0 ≤ seq ∧ seq ≤ 1000000000000 ∧ 0 ≤ count ∧ count ≤ 1000000000 ∧ ((kind = 1 ∧ seq < 1000000000000 ∧ count = 0 ∧ 1 ≤ n ∧ n ≤ 100) ∨ (lastN last = 0 ∧ n = 0 ∧ (kind = 2 ∨ (kind = 3 ∧ seq = 0) ∨ (kind = 4 ∧ seq = 0 ∧ count = 0))))) → B = true) (hF : ¬ (1 ≤ epoch ∧ epoch ≤ 1000000000 ∧ 0 ≤ seq ∧ seq ≤ 1000000000000 ∧ 0 ≤ count ∧ count ≤ 1000000000 ∧ ((kind = 1 ∧ seq < 1000000000000 ∧ count = 0 ∧ 1 ≤ n ∧ n ≤ 100) ∨ (lastN last = 0 ∧ n = 0 ∧ (kind = 2 ∨ (kind = 3 ∧ seq = 0) ∨ (kind = 4 ∧ seq = 0 ∧ count = 0))))) → B = false) (hn : n ≤ maxLen) :
    Calls Tryz.prog 102 #[.agg #[.int .i64 kind, .int .i64 epoch, .int .i64 seq, .int .i64 count, .bool last, .slice a n cap]] w fun e w' => e = .returned (.bool B) ∧ Below w.heap.size w w' := by
  have HT := hid hT
  have HF := hid hF
  unfold maxLen at hn
  clear hT hF
  by_cases c0 : kind < 1
  · have HB := hid (HF.out (by omega))
    go_enter Tryz.func102, Tryz.ntmps102
    go_wp2
    go_ret
    exact ⟨(by rw [HB.out]; first | done | rfl), below_new1 _ _⟩
  by_cases c1 : 4 < kind
  · have HB := hid (HF.out (by omega))
    go_enter Tryz.func102, Tryz.ntmps102
    go_wp2
    go_ret
    exact ⟨(by rw [HB.out]; first | done | rfl), below_new1 _ _⟩
  by_cases c2 : epoch < 1
  · have HB := hid (HF.out (by omega))
    go_enter Tryz.func102, Tryz.ntmps102
    go_wp2
    go_ret
    exact ⟨(by rw [HB.out]; first | done | rfl), below_new1 _ _⟩
  by_cases c3 : 1000000000 < epoch
  · have HB := hid (HF.out (by omega))
    go_enter Tryz.func102, Tryz.ntmps102
    go_wp2
    go_ret
    exact ⟨(by rw [HB.out]; first | done | rfl), below_new1 _ _⟩
  by_cases c4 : seq < 0
  · have HB := hid (HF.out (by omega))
    go_enter Tryz.func102, Tryz.ntmps102
    go_wp2
    go_ret
    exact ⟨(by rw [HB.out]; first | done | rfl), below_new1 _ _⟩
  by_cases c5 : 1000000000000 < seq
  · have HB := hid (HF.out (by omega))
    go_enter Tryz.func102, Tryz.ntmps102
    go_wp2
    go_ret
    exact ⟨(by rw [HB.out]; first | done | rfl), below_new1 _ _⟩
  by_cases c6 : count < 0
  · have HB := hid (HF.out (by omega))
    go_enter Tryz.func102, Tryz.ntmps102
    go_wp2
    go_ret
    exact ⟨(by rw [HB.out]; first | done | rfl), below_new1 _ _⟩
  by_cases c7 : 1000000000 < count
  · have HB := hid (HF.out (by omega))
    go_enter Tryz.func102, Tryz.ntmps102
    go_wp2
    go_ret
    exact ⟨(by rw [HB.out]; first | done | rfl), below_new1 _ _⟩
  by_cases k1 : kind = 1
  · subst k1
    by_cases d0 : count = 0
    · subst d0
      by_cases d1 : seq < 1000000000000
      · by_cases d2 : 1 ≤ n
        · have d2' : (1 : Int) ≤ (n : Int) := by omega
          by_cases d3 : n ≤ 100
          · have d3' : (n : Int) ≤ 100 := by omega
            have HB := hid (HT.out (by omega))
            go_enter Tryz.func102, Tryz.ntmps102
            go_wp2
            go_ret
            exact ⟨(by rw [HB.out]; first | done | rfl), below_new1 _ _⟩
          have d3' : decide ((n : Int) ≤ 100) = false := decide_eq_false (by omega)
          have HB := hid (HF.out (by omega))
          go_enter Tryz.func102, Tryz.ntmps102
          go_wp2
          go_ret
          exact ⟨(by rw [HB.out]; first | done | rfl), below_new1 _ _⟩
        have d2' : (n : Int) < 1 := by omega
        have HB := hid (HF.out (by omega))
        go_enter Tryz.func102, Tryz.ntmps102
        go_wp2
        go_ret
        exact ⟨(by rw [HB.out]; first | done | rfl), below_new1 _ _⟩
      have HB := hid (HF.out (by omega))
      go_enter Tryz.func102, Tryz.ntmps102
      go_wp2
      go_ret
      exact ⟨(by rw [HB.out]; first | done | rfl), below_new1 _ _⟩
    have d0' : (count == 0) = false := by simpa using d0
    have HB := hid (HF.out (by omega))
    go_enter Tryz.func102, Tryz.ntmps102
    go_wp2
    go_ret
    exact ⟨(by rw [HB.out]; first | done | rfl), below_new1 _ _⟩
  have k1' : (kind == 1) = false := by simpa using k1
  cases last with
  | true =>
    have hl : lastN true = 1 := rfl
    have HB := hid (HF.out (by omega))
    go_enter Tryz.func102, Tryz.ntmps102
    go_wp2
    go_ret
    exact ⟨(by rw [HB.out]; first | done | rfl), below_new1 _ _⟩
  | false =>
    have hl : lastN false = 0 := rfl
    by_cases n0 : n = 0
    · subst n0
      by_cases k2 : kind = 2
      · subst k2
        have HB := hid (HT.out (by omega))
        go_enter Tryz.func102, Tryz.ntmps102
        go_wp2
        go_ret
        exact ⟨(by rw [HB.out]; first | done | rfl), below_new1 _ _⟩
      have k2' : (kind == 2) = false := by simpa using k2
      by_cases s0 : seq = 0
      · subst s0
        by_cases k3 : kind = 3
        · subst k3
          have HB := hid (HT.out (by omega))
          go_enter Tryz.func102, Tryz.ntmps102
          go_wp2
          go_ret
          exact ⟨(by rw [HB.out]; first | done | rfl), below_new1 _ _⟩
        have k3' : (kind == 3) = false := by simpa using k3
        by_cases x0 : count = 0
        · subst x0
          have HB := hid (HT.out (by omega))
          go_enter Tryz.func102, Tryz.ntmps102
          go_wp2
          go_ret
          exact ⟨(by rw [HB.out]; first | done | rfl), below_new1 _ _⟩
        have x0' : (count == 0) = false := by simpa using x0
        have HB := hid (HF.out (by omega))
        go_enter Tryz.func102, Tryz.ntmps102
        go_wp2
        go_ret
        exact ⟨(by rw [HB.out]; first | done | rfl), below_new1 _ _⟩
      have s0' : (seq == 0) = false := by simpa using s0
      have HB := hid (HF.out (by omega))
      go_enter Tryz.func102, Tryz.ntmps102
      go_wp2
      go_ret
      exact ⟨(by rw [HB.out]; first | done | rfl), below_new1 _ _⟩
    have n0' : ((n : Int) != 0) = true := by simp; omega
    have HB := hid (HF.out (by omega))
    go_enter Tryz.func102, Tryz.ntmps102
    go_wp2
    go_ret
    exact ⟨(by rw [HB.out]; first | done | rfl), below_new1 _ _⟩
theorem l5valid_any (p : PP) (a : Option Addr) (cap : Nat) (w : World) (hn : p.data.length ≤ maxLen) :
    Calls Tryz.prog 102 #[.agg #[.int .i64 p.kind, .int .i64 p.epoch, .int .i64 p.seq, .int .i64 p.count, .bool p.last, .slice a p.data.length cap]] w fun e w' => e = .returned (.bool (pktOK p)) ∧ Below w.heap.size w w' :=
  l5valid_raw p.kind p.epoch p.seq p.count p.last a p.data.length cap w (pktOK p) (fun h => decide_eq_true h) (fun h => decide_eq_false h) hn
end Go.Proofs.YtfaehioeepolhaaGreat
namespace Go.Proofs.YtfaehioeepolhaaGreat
open Go.RowKit
theorem box_laterP2 {w w' : World} {g : Nat} {o : Obj} (h : w.heap[g]? = some o) (hb : Below w.heap.size w w') : w'.heap[g]? = some o := (hb.block g (Array.getElem?_eq_some_iff.1 h).1).trans h
end Go.Proofs.YtfaehioeepolhaaGreat
namespace Go.Proofs.YtfaehioeepolhaaGreat
open Go.RowKit
set_option maxRecDepth 100000 in
set_option maxHeartbeats 4000000 in
theorem l5data_any (p : PP) (a : Option Addr) (cap : Nat) (ep : Int) (w : World) (hn : p.data.length ≤ maxLen) :
    Calls Tryz.prog 86 #[.agg #[.int .i64 p.kind, .int .i64 p.epoch, .int .i64 p.seq, .int .i64 p.count, .bool p.last, .slice a p.data.length cap], .int .i64 ep] w fun e w' => e = .returned (.bool (dataB p ep)) ∧ Below w.heap.size w w' := by
  have HV := hid (l5valid_any p a cap (w.alloc (.cells #[.int .i64 p.kind, .int .i64 p.epoch, .int .i64 p.seq, .int .i64 p.count, .bool p.last, .slice a p.data.length cap] 120)) hn)
  have HB0 := hid (below_new1 w (.cells #[.int .i64 p.kind, .int .i64 p.epoch, .int .i64 p.seq, .int .i64 p.count, .bool p.last, .slice a p.data.length cap] 120))
  have HK0 : Hid ((w.alloc (.cells #[.int .i64 p.kind, .int .i64 p.epoch, .int .i64 p.seq, .int .i64 p.count, .bool p.last, .slice a p.data.length cap] 120)).heap[w.heap.size]? = some (.cells #[.int .i64 p.kind, .int .i64 p.epoch, .int .i64 p.seq, .int .i64 p.count, .bool p.last, .slice a p.data.length cap] 120 (0, 0))) := hid (heap_alloc_new w _)
  have HD : Hid (dataB p ep = (pktOK p && (decide (p.kind = 1) && decide (p.epoch = ep)))) := hid rfl
  clear hn
  go_enter Tryz.func86, Tryz.ntmps86
  go_wp2_with fail
  refine HV.out.mono ?_
  rintro e w2 ⟨rfl, b2⟩
  have hx := box_laterP2 HK0.out b2
  have z0 := cell_of_row _ _ 0 _ _ _ hx
  have z1 := cell_of_row _ _ 1 _ _ _ hx
  simp only [List.getElem?_toArray, List.getElem?_cons_zero, List.getElem?_cons_succ] at z0 z1
  have HB2 := hid (below_chain HB0.out b2)
  clear b2 hx
  cases hok : pktOK p with
  | false =>
    rw [hok] at HD
    clear hok
    go_wp2
    go_ret
    exact ⟨(by rw [HD.out]; first | done | rfl), HB2.out⟩
  | true =>
    rw [hok] at HD
    clear hok
    by_cases k1 : p.kind = 1
    · have k1t : (p.kind == 1) = true := by simp; omega
      rw [decide_eq_true k1] at HD
      clear k1
      by_cases e1 : p.epoch = ep
      · have e1t : (p.epoch == ep) = true := by simp; omega
        rw [decide_eq_true e1] at HD
        clear e1
        go_wp2
        go_ret
        exact ⟨(by rw [HD.out]; first | done | rfl), HB2.out⟩
      · have e1t : (p.epoch == ep) = false := by simp; omega
        rw [decide_eq_false e1] at HD
        clear e1
        go_wp2
        go_ret
        exact ⟨(by rw [HD.out]; first | done | rfl), HB2.out⟩
    · have k1t : (p.kind == 1) = false := by simp; omega
      rw [decide_eq_false k1] at HD
      clear k1
      go_wp2
      go_ret
      exact ⟨(by rw [HD.out]; first | done | rfl), HB2.out⟩
end Go.Proofs.YtfaehioeepolhaaGreat
