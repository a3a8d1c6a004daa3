import Derived.Test.YtfaehioeepolhaaGreatJCrashReceiver34
import Derived.Test.YtfaehioeepolhaaGreatJCrashReceiver36
import Derived.Test.YtfaehioeepolhaaGreatJCrashReceiver37
namespace Go.Proofs.YtfaehioeepolhaaGreat
open Go.RowKit
set_option linter.unusedVariables false in
def viTF (w wr : World) (s : PI) (bb off c k m : Nat) (p : PP) (a0 : Option Addr) (c0 : Nat) (pv : Int) : Nat → Value
  | 0 => .agg #[.int .i64 p.kind, .int .i64 p.epoch, .int .i64 p.seq, .int .i64 p.count, .bool p.last, .slice a0 p.data.length c0]
  | 1 => .pointer (some ⟨w.heap.size, 0, none⟩)
  | 2 => .int .i64 s.epoch
  | 3 => .bool false
  | 4 => .bool true
  | 5 => .bool true
  | 6 => undef
  | 7 => undef
  | 8 => undef
  | 9 => undef
  | 10 => undef
  | 11 => .bool true
  | 12 => .bool true
  | 13 => undef
  | 14 => undef
  | 15 => undef
  | 16 => undef
  | 17 => undef
  | 18 => undef
  | 19 => .bool true
  | 20 => .bool true
  | 21 => undef
  | 22 => undef
  | 23 => undef
  | 24 => undef
  | 25 => undef
  | 26 => undef
  | 27 => undef
  | 28 => undef
  | 29 => undef
  | 30 => undef
  | 31 => undef
  | 32 => undef
  | 33 => undef
  | 34 => undef
  | 35 => .bool true
  | _ => undef
set_option linter.unusedVariables false in
def viT1 (w wr : World) (s : PI) (bb off c k m : Nat) (p : PP) (a0 : Option Addr) (c0 : Nat) (pv : Int) : Nat → Value
  | 0 => .agg #[.int .i64 p.kind, .int .i64 p.epoch, .int .i64 p.seq, .int .i64 p.count, .bool p.last, .slice a0 p.data.length c0]
  | 1 => .pointer (some ⟨w.heap.size, 0, none⟩)
  | 2 => .int .i64 s.epoch
  | 3 => .bool true
  | 4 => .bool false
  | 5 => .bool false
  | 6 => .pointer (some ⟨wr.heap.size, 2, none⟩)
  | 7 => .int .i64 p.seq
  | 8 => .pointer (some ⟨w.heap.size, 1, none⟩)
  | 9 => .int .i64 s.expect
  | 10 => .bool true
  | 11 => .bool true
  | 12 => .bool true
  | 13 => undef
  | 14 => undef
  | 15 => undef
  | 16 => undef
  | 17 => undef
  | 18 => undef
  | 19 => .bool true
  | 20 => .bool true
  | 21 => undef
  | 22 => undef
  | 23 => undef
  | 24 => undef
  | 25 => undef
  | 26 => undef
  | 27 => undef
  | 28 => undef
  | 29 => undef
  | 30 => undef
  | 31 => undef
  | 32 => undef
  | 33 => undef
  | 34 => undef
  | 35 => .bool true
  | _ => undef
set_option linter.unusedVariables false in
def viT2 (w wr : World) (s : PI) (bb off c k m : Nat) (p : PP) (a0 : Option Addr) (c0 : Nat) (pv : Int) : Nat → Value
  | 0 => .agg #[.int .i64 p.kind, .int .i64 p.epoch, .int .i64 p.seq, .int .i64 p.count, .bool p.last, .slice a0 p.data.length c0]
  | 1 => .pointer (some ⟨w.heap.size, 0, none⟩)
  | 2 => .int .i64 s.epoch
  | 3 => .bool true
  | 4 => .bool false
  | 5 => .bool false
  | 6 => .pointer (some ⟨wr.heap.size, 2, none⟩)
  | 7 => .int .i64 p.seq
  | 8 => .pointer (some ⟨w.heap.size, 1, none⟩)
  | 9 => .int .i64 s.expect
  | 10 => .bool false
  | 11 => .bool false
  | 12 => .bool false
  | 13 => .pointer (some ⟨wr.heap.size, 2, none⟩)
  | 14 => .int .i64 p.seq
  | 15 => .pointer (some ⟨w.heap.size, 1, none⟩)
  | 16 => .int .i64 s.expect
  | 17 => .int .i64 (s.expect + 8)
  | 18 => .bool true
  | 19 => .bool true
  | 20 => .bool true
  | 21 => undef
  | 22 => undef
  | 23 => undef
  | 24 => undef
  | 25 => undef
  | 26 => undef
  | 27 => undef
  | 28 => undef
  | 29 => undef
  | 30 => undef
  | 31 => undef
  | 32 => undef
  | 33 => undef
  | 34 => undef
  | 35 => .bool true
  | _ => undef
set_option linter.unusedVariables false in
def viT0 (w wr : World) (s : PI) (bb off c k m : Nat) (p : PP) (a0 : Option Addr) (c0 : Nat) (pv : Int) : Nat → Value
  | 0 => .agg #[.int .i64 p.kind, .int .i64 p.epoch, .int .i64 p.seq, .int .i64 p.count, .bool p.last, .slice a0 p.data.length c0]
  | 1 => .pointer (some ⟨w.heap.size, 0, none⟩)
  | 2 => .int .i64 s.epoch
  | 3 => .bool true
  | 4 => .bool false
  | 5 => .bool false
  | 6 => .pointer (some ⟨wr.heap.size, 2, none⟩)
  | 7 => .int .i64 p.seq
  | 8 => .pointer (some ⟨w.heap.size, 1, none⟩)
  | 9 => .int .i64 s.expect
  | 10 => .bool false
  | 11 => .bool false
  | 12 => .bool false
  | 13 => .pointer (some ⟨wr.heap.size, 2, none⟩)
  | 14 => .int .i64 p.seq
  | 15 => .pointer (some ⟨w.heap.size, 1, none⟩)
  | 16 => .int .i64 s.expect
  | 17 => .int .i64 (s.expect + 8)
  | 18 => .bool false
  | 19 => .bool false
  | 20 => .bool false
  | 21 => .int .i64 (k : Int)
  | 22 => .bool false
  | 23 => .bool false
  | 24 => undef
  | 25 => undef
  | 26 => undef
  | 27 => undef
  | 28 => undef
  | 29 => undef
  | 30 => undef
  | 31 => undef
  | 32 => undef
  | 33 => undef
  | 34 => .bool false
  | 35 => .bool false
  | _ => undef
set_option linter.unusedVariables false in
def viTB (w wr : World) (s : PI) (bb off c k m : Nat) (p : PP) (a0 : Option Addr) (c0 : Nat) (pv : Int) : Nat → Value
  | 0 => .agg #[.int .i64 p.kind, .int .i64 p.epoch, .int .i64 p.seq, .int .i64 p.count, .bool p.last, .slice a0 p.data.length c0]
  | 1 => .pointer (some ⟨w.heap.size, 0, none⟩)
  | 2 => .int .i64 s.epoch
  | 3 => .bool true
  | 4 => .bool false
  | 5 => .bool false
  | 6 => .pointer (some ⟨wr.heap.size, 2, none⟩)
  | 7 => .int .i64 p.seq
  | 8 => .pointer (some ⟨w.heap.size, 1, none⟩)
  | 9 => .int .i64 s.expect
  | 10 => .bool false
  | 11 => .bool false
  | 12 => .bool false
  | 13 => .pointer (some ⟨wr.heap.size, 2, none⟩)
  | 14 => .int .i64 p.seq
  | 15 => .pointer (some ⟨w.heap.size, 1, none⟩)
  | 16 => .int .i64 s.expect
  | 17 => .int .i64 (s.expect + 8)
  | 18 => .bool false
  | 19 => .bool false
  | 20 => .bool false
  | 21 => .int .i64 ((m : Int) + 1)
  | 22 => .bool true
  | 23 => .bool true
  | 24 => .pointer (some ⟨w.heap.size, 2, none⟩)
  | 25 => .slice (some ⟨bb, off, none⟩) s.held.length c
  | 26 => .int .i64 ((m : Int) + 1)
  | 27 => .int .i64 (m : Int)
  | 28 => .pointer (some ⟨bb, off + m * 6, none⟩)
  | 29 => .pointer (some ⟨bb, off + m * 6 + 2, none⟩)
  | 30 => .int .i64 pv
  | 31 => .pointer (some ⟨wr.heap.size, 2, none⟩)
  | 32 => .int .i64 p.seq
  | 33 => .bool true
  | 34 => .bool true
  | 35 => .bool true
  | _ => undef
set_option linter.unusedVariables false in
def viTG (w wr : World) (s : PI) (bb off c k m : Nat) (p : PP) (a0 : Option Addr) (c0 : Nat) (pv : Int) : Nat → Value
  | 0 => .agg #[.int .i64 p.kind, .int .i64 p.epoch, .int .i64 p.seq, .int .i64 p.count, .bool p.last, .slice a0 p.data.length c0]
  | 1 => .pointer (some ⟨w.heap.size, 0, none⟩)
  | 2 => .int .i64 s.epoch
  | 3 => .bool true
  | 4 => .bool false
  | 5 => .bool false
  | 6 => .pointer (some ⟨wr.heap.size, 2, none⟩)
  | 7 => .int .i64 p.seq
  | 8 => .pointer (some ⟨w.heap.size, 1, none⟩)
  | 9 => .int .i64 s.expect
  | 10 => .bool false
  | 11 => .bool false
  | 12 => .bool false
  | 13 => .pointer (some ⟨wr.heap.size, 2, none⟩)
  | 14 => .int .i64 p.seq
  | 15 => .pointer (some ⟨w.heap.size, 1, none⟩)
  | 16 => .int .i64 s.expect
  | 17 => .int .i64 (s.expect + 8)
  | 18 => .bool false
  | 19 => .bool false
  | 20 => .bool false
  | 21 => .int .i64 ((m : Int) + 1)
  | 22 => .bool true
  | 23 => .bool true
  | 24 => .pointer (some ⟨w.heap.size, 2, none⟩)
  | 25 => .slice (some ⟨bb, off, none⟩) s.held.length c
  | 26 => .int .i64 ((m : Int) + 1)
  | 27 => .int .i64 (m : Int)
  | 28 => .pointer (some ⟨bb, off + m * 6, none⟩)
  | 29 => .pointer (some ⟨bb, off + m * 6 + 2, none⟩)
  | 30 => .int .i64 pv
  | 31 => .pointer (some ⟨wr.heap.size, 2, none⟩)
  | 32 => .int .i64 p.seq
  | 33 => .bool false
  | 34 => .bool false
  | 35 => .bool false
  | _ => undef
set_option maxRecDepth 100000 in
set_option maxHeartbeats 8000000 in
theorem specVI_any (s : PI) (a b : Option Addr) (c d : Nat) (w : World) (hr : RdIn w s a c b d) :
    Calls Tryz.prog 38 #[.agg #[.int .i64 s.epoch, .int .i64 s.expect, .slice a s.held.length c, .slice b s.part.length d]] w fun e w' => e = .returned (.bool (inOK s)) ∧ Below w.heap.size w w' := by
  have HR := hid hr
  have HF : Hid (¬ InH s → inOK s = false) := hid inOK_head
  have HW : Hid (∀ k, (hk : k < s.held.length) → inW s k s.held[k] = false → inOK s = false) := hid (fun k hk h => inOK_at hk h)
  have HB0 := hid (below_new1 w (.cells #[.int .i64 s.epoch, .int .i64 s.expect, .slice a s.held.length c, .slice b s.part.length d] 37))
  have HK0 : Hid ((w.alloc (.cells #[.int .i64 s.epoch, .int .i64 s.expect, .slice a s.held.length c, .slice b s.part.length d] 37)).heap[w.heap.size]? = some (.cells #[.int .i64 s.epoch, .int .i64 s.expect, .slice a s.held.length c, .slice b s.part.length d] 37 (0, 0))) := hid (heap_alloc_new w _)
  have hml : s.held.length ≤ maxLen := by obtain ⟨a', cap', e', g1, g2, _⟩ := hr.f; omega
  have hpl := rdBytes_max hr.t
  unfold maxLen at hml hpl
  clear hr
  by_cases c0 : s.epoch < 0
  · have HX := hid (HF.out (by unfold InH; omega))
    go_enter Tryz.func38, Tryz.ntmps38
    go_wp2
    go_ret
    exact ⟨(by rw [HX.out]; first | done | rfl), HB0.out⟩
  by_cases c1 : 1000000000 < s.epoch
  · have HX := hid (HF.out (by unfold InH; omega))
    go_enter Tryz.func38, Tryz.ntmps38
    go_wp2
    go_ret
    exact ⟨(by rw [HX.out]; first | done | rfl), HB0.out⟩
  by_cases c2 : s.expect < 0
  · have HX := hid (HF.out (by unfold InH; omega))
    go_enter Tryz.func38, Tryz.ntmps38
    go_wp2
    go_ret
    exact ⟨(by rw [HX.out]; first | done | rfl), HB0.out⟩
  by_cases c3 : 1000000000000 < s.expect
  · have HX := hid (HF.out (by unfold InH; omega))
    go_enter Tryz.func38, Tryz.ntmps38
    go_wp2
    go_ret
    exact ⟨(by rw [HX.out]; first | done | rfl), HB0.out⟩
  by_cases c4 : 20000 < s.part.length
  · have HX := hid (HF.out (by unfold InH; omega))
    have c4' : (20000 : Int) < (s.part.length : Int) := by omega
    go_enter Tryz.func38, Tryz.ntmps38
    go_wp2
    go_ret
    exact ⟨(by rw [HX.out]; first | done | rfl), HB0.out⟩
  have HH : Hid (InH s) := hid (by unfold InH; omega)
  have c4' : decide (20000 < (s.part.length : Int)) = false := decide_eq_false (by omega)
  go_enter Tryz.func38, Tryz.ntmps38
  go_wp2
  go_loopw [3] (fun i wr => ∃ k : Nat, k ≤ s.held.length ∧ i = .int .i64 k ∧ (∀ j, (hj : j < s.held.length) → j < k → inW s j s.held[j] = true) ∧ wr.heap[w.heap.size]? = some (.cells #[.int .i64 s.epoch, .int .i64 s.expect, .slice a s.held.length c, .slice b s.part.length d] 37 (0, 0)) ∧ Below w.heap.size w wr) (fun i _ => s.held.length - (intOf i).toNat)
  case atStart => exact ⟨0, Nat.zero_le _, rfl, fun j _ h => by omega, HK0.out, HB0.out⟩
  case round =>
    obtain ⟨k, hk, rfl, hall, hbx, hbe⟩ := hrel
    have HA := hid hall
    have HB := hid hbe
    have HX := hid hbx
    have hG : w.heap.size < wr.heap.size := (Array.getElem?_eq_some_iff.1 hbx).1
    have p0 := cell_of_row _ _ 0 _ _ _ hbx
    have p1 := cell_of_row _ _ 1 _ _ _ hbx
    have p2 := cell_of_row _ _ 2 _ _ _ hbx
    have p3 := cell_of_row _ _ 3 _ _ _ hbx
    simp only [List.getElem?_toArray, List.getElem?_cons_zero, List.getElem?_cons_succ] at p0 p1 p2 p3
    clear hall hbe hbx
    by_cases hlt : k < s.held.length
    · obtain ⟨bb, off, es, rfl, hes, hcs⟩ := (HR.out.f.later HB.out).atN hlt
      obtain ⟨a0, c0, rfl, hrd, hpin⟩ := cPkt_rd hes
      have d0 : wr.cell? ⟨bb, off + k * 6, none⟩ = some (.int .i64 s.held[k].kind) := by have h := hcs 0 (by decide); rw [show cPkt.n = 6 from rfl] at h; simpa [Nat.add_assoc] using h
      have d1 : wr.cell? ⟨bb, off + k * 6 + 1, none⟩ = some (.int .i64 s.held[k].epoch) := by have h := hcs 1 (by decide); rw [show cPkt.n = 6 from rfl] at h; simpa [Nat.add_assoc] using h
      have d2 : wr.cell? ⟨bb, off + k * 6 + 2, none⟩ = some (.int .i64 s.held[k].seq) := by have h := hcs 2 (by decide); rw [show cPkt.n = 6 from rfl] at h; simpa [Nat.add_assoc] using h
      have d3 : wr.cell? ⟨bb, off + k * 6 + 3, none⟩ = some (.int .i64 s.held[k].count) := by have h := hcs 3 (by decide); rw [show cPkt.n = 6 from rfl] at h; simpa [Nat.add_assoc] using h
      have d4 : wr.cell? ⟨bb, off + k * 6 + 4, none⟩ = some (.bool s.held[k].last) := by have h := hcs 4 (by decide); rw [show cPkt.n = 6 from rfl] at h; simpa [Nat.add_assoc] using h
      have d5 : wr.cell? ⟨bb, off + k * 6 + 5, none⟩ = some (.slice a0 s.held[k].data.length c0) := by have h := hcs 5 (by decide); rw [show cPkt.n = 6 from rfl] at h; simpa [Nat.add_assoc] using h
      have hdl : s.held[k].data.length ≤ maxLen := rdBytes_max hrd
      have hki : (k : Int) < (s.held.length : Int) := by omega
      have HOW : Hid (inW s k s.held[k] = (dataB s.held[k] s.epoch && decide (s.expect < s.held[k].seq ∧ prevSeq s k < s.held[k].seq ∧ s.held[k].seq < s.expect + 8))) := hid rfl
      have HWk := hid (HW.out k hlt)
      have HPG := hid (prevSeq_ge hk HA.out)
      have HB1 := hid (below_new1 wr (.cells #[.int .i64 s.held[k].kind, .int .i64 s.held[k].epoch, .int .i64 s.held[k].seq, .int .i64 s.held[k].count, .bool s.held[k].last, .slice a0 s.held[k].data.length c0] 120))
      have HY1 : Hid ((wr.alloc (.cells #[.int .i64 s.held[k].kind, .int .i64 s.held[k].epoch, .int .i64 s.held[k].seq, .int .i64 s.held[k].count, .bool s.held[k].last, .slice a0 s.held[k].data.length c0] 120)).heap[wr.heap.size]? = some (.cells #[.int .i64 s.held[k].kind, .int .i64 s.held[k].epoch, .int .i64 s.held[k].seq, .int .i64 s.held[k].count, .bool s.held[k].last, .slice a0 s.held[k].data.length c0] 120 (0, 0))) := hid (heap_alloc_new wr _)
      have HNX : Hid (inW s k s.held[k] = true → ∀ j, (hj : j < s.held.length) → j < k + 1 → inW s j s.held[j] = true) := hid (fun h j hj hjk => by
        by_cases e : j = k
        · subst e; exact h
        · exact HA.out j hj (by omega))
      have HQ1 : Hid (∀ wx, Below wr.heap.size wr wx → 0 < k → wx.cell? ⟨bb, off + (k - 1) * 6 + 2, none⟩ = some (.int .i64 (prevSeq s k))) := hid (fun wx hbx hk0 => by
        obtain ⟨b', off', es', e', hes', hcs'⟩ := (HR.out.f.later HB.out).atN (k := k - 1) (by omega)
        simp only [Option.some.injEq, Addr.mk.injEq, and_true] at e'
        obtain ⟨rfl, rfl⟩ := e'
        obtain ⟨a1, c1, rfl, -, -⟩ := cPkt_rd hes'
        have h := hcs' 2 (by decide)
        rw [show cPkt.n = 6 from rfl] at h
        have h2 : wr.cell? ⟨bb, off + (k - 1) * 6 + 2, none⟩ = some (.int .i64 (prevSeq s k)) := by
          rw [show prevSeq s k = s.held[k - 1].seq from by have := prevSeq_succ s (k - 1) (by omega); rw [← this]; congr 1; omega]
          simpa [Nat.add_assoc] using h
        exact (hbx.cell (World.block_lt_of_cell? _ _ h2)).trans h2)
      clear hes hcs hrd hpin
      have HL5 := hid (fun w0 => l5data_any s.held[k] a0 c0 s.epoch w0 hdl)
      have HWE : Hid (IntKind.i64.wrap (s.expect + 8) = s.expect + 8) := hid ((fit_i64 _).2 ⟨by omega, by omega⟩)
      have HPZ : Hid (k = 0 → prevSeq s k = s.expect) := hid (fun h => by subst h; rfl)
      generalize prevSeq s k = pv at *
      go_wp2_with fail
      have HXW : Hid ((wr.alloc (.cells #[.int .i64 s.held[k].kind, .int .i64 s.held[k].epoch, .int .i64 s.held[k].seq, .int .i64 s.held[k].count, .bool s.held[k].last, .slice a0 s.held[k].data.length c0] 120)).heap[w.heap.size]? = some (.cells #[.int .i64 s.epoch, .int .i64 s.expect, .slice (some ⟨bb, off, none⟩) s.held.length c, .slice b s.part.length d] 37 (0, 0))) := hid (box_laterP2 HX.out HB1.out)
      generalize (wr.alloc (.cells #[.int .i64 s.held[k].kind, .int .i64 s.held[k].epoch, .int .i64 s.held[k].seq, .int .i64 s.held[k].count, .bool s.held[k].last, .slice a0 s.held[k].data.length c0] 120)) = W at *
      have HBW := hid (below_chain HB.out HB1.out)
      clear d0 d1 d2 d3 d4 d5 p0 p1 p2 p3
      have p0 := cell_of_row _ _ 0 _ _ _ HXW.out
      have p1 := cell_of_row _ _ 1 _ _ _ HXW.out
      have p2 := cell_of_row _ _ 2 _ _ _ HXW.out
      have q0 := cell_of_row _ _ 0 _ _ _ HY1.out
      have q1 := cell_of_row _ _ 1 _ _ _ HY1.out
      have q2 := cell_of_row _ _ 2 _ _ _ HY1.out
      have q3 := cell_of_row _ _ 3 _ _ _ HY1.out
      have q4 := cell_of_row _ _ 4 _ _ _ HY1.out
      have q5 := cell_of_row _ _ 5 _ _ _ HY1.out
      simp only [List.getElem?_toArray, List.getElem?_cons_zero, List.getElem?_cons_succ] at p0 p1 p2 q0 q1 q2 q3 q4 q5
      cases hok : dataB s.held[k] s.epoch with
      | false =>
        have HOK := hid hok
        clear hok
        have HZ := hid (HWk.out (by rw [HOW.out]; rw [HOK.out]; rfl))
        refine region_facts (n := 36) (by kernel_rfl) (by kernel_rfl) ?_ (fun t => { tmps := #[.agg #[.int .i64 s.epoch, .int .i64 s.expect, .slice (some ⟨bb, off, none⟩) s.held.length c, .slice b s.part.length d], .pointer (some ⟨w.heap.size, 0, none⟩), u2, .int .i64 (k : Int), .pointer (some ⟨wr.heap.size, 0, none⟩), .pointer (some ⟨w.heap.size, 0, none⟩), .int .i64 s.epoch, .bool false, .bool false, .pointer (some ⟨w.heap.size, 0, none⟩), .int .i64 s.epoch, .bool false, .bool false, .bool false, .pointer (some ⟨w.heap.size, 1, none⟩), .int .i64 s.expect, .bool false, .bool false, .bool false, .pointer (some ⟨w.heap.size, 1, none⟩), .int .i64 s.expect, .bool false, .bool false, .bool false, .pointer (some ⟨w.heap.size, 3, none⟩), .slice b s.part.length d, .int .i64 (s.part.length : Int), .bool false, .bool false, .int .i64 (k : Int), .pointer (some ⟨w.heap.size, 2, none⟩), .slice (some ⟨bb, off, none⟩) s.held.length c, .int .i64 (s.held.length : Int), .bool true, u34, u35, .pointer (some ⟨w.heap.size, 2, none⟩), .slice (some ⟨bb, off, none⟩) s.held.length c, .int .i64 (k : Int), .pointer (some ⟨bb, off + k * 6, none⟩), .agg #[.int .i64 s.held[k].kind, .int .i64 s.held[k].epoch, .int .i64 s.held[k].seq, .int .i64 s.held[k].count, .bool s.held[k].last, .slice a0 s.held[k].data.length c0], t 0, t 1, t 2, t 3, t 4, t 5, t 6, t 7, t 8, t 9, t 10, t 11, t 12, t 13, t 14, t 15, t 16, t 17, t 18, t 19, t 20, t 21, t 22, t 23, t 24, t 25, t 26, t 27, t 28, t 29, t 30, t 31, t 32, t 33, t 34, t 35], defers := [] }) (fun i v _ => v = viTF w wr s bb off c k 0 s.held[k] a0 c0 pv i) (fun wx => Below W.heap.size W wx) W (fun _ _ _ _ h _ => h) (fun j => ([u41, u42, u43, u44, u45, u46, u47, u48, u49, u50, u51, u52, u53, u54, u55, u56, u57, u58, u59, u60, u61, u62, u63, u64, u65, u66, u67, u68, u69, u70, u71, u72, u73, u74, u75, u76] : List Value).getD j undef) ((Below.refl _ W).drew) ?_ ?_
        · rfl
        · intro i hi t wx hgx hdep
          have kp : ∀ p v, W.cell? p = some v → wx.cell? p = some v := fun p v h => (hgx.cell (World.block_lt_of_cell? W _ h)).trans h
          replace p0 := kp _ _ p0
          replace p1 := kp _ _ p1
          replace p2 := kp _ _ p2
          replace q0 := kp _ _ q0
          replace q1 := kp _ _ q1
          replace q2 := kp _ _ q2
          replace q3 := kp _ _ q3
          replace q4 := kp _ _ q4
          replace q5 := kp _ _ q5
          clear kp
          rcases (by omega : i = 0 ∨ i = 1 ∨ i = 2 ∨ i = 3 ∨ i = 4 ∨ i = 5 ∨ i = 6 ∨ i = 7 ∨ i = 8 ∨ i = 9 ∨ i = 10 ∨ i = 11 ∨ i = 12 ∨ i = 13 ∨ i = 14 ∨ i = 15 ∨ i = 16 ∨ i = 17 ∨ i = 18 ∨ i = 19 ∨ i = 20 ∨ i = 21 ∨ i = 22 ∨ i = 23 ∨ i = 24 ∨ i = 25 ∨ i = 26 ∨ i = 27 ∨ i = 28 ∨ i = 29 ∨ i = 30 ∨ i = 31 ∨ i = 32 ∨ i = 33 ∨ i = 34 ∨ i = 35) with rfl | rfl | rfl | rfl | rfl | rfl | rfl | rfl | rfl | rfl | rfl | rfl | rfl | rfl | rfl | rfl | rfl | rfl | rfl | rfl | rfl | rfl | rfl | rfl | rfl | rfl | rfl | rfl | rfl | rfl | rfl | rfl | rfl | rfl | rfl | rfl
          · 
            try dsimp only
            refine wpOp_step rfl (fun K' hK => ?_)
            go_simp
            exact hK _ _ ⟨.agg #[.int .i64 s.held[k].kind, .int .i64 s.held[k].epoch, .int .i64 s.held[k].seq, .int .i64 s.held[k].count, .bool s.held[k].last, .slice a0 s.held[k].data.length c0], (by simp [upd]), rfl, hgx, Below.refl _ _⟩
          · 
            try dsimp only
            refine wpOp_step rfl (fun K' hK => ?_)
            go_simp
            exact hK _ _ ⟨.pointer (some ⟨w.heap.size, 0, none⟩), (by simp [upd]), rfl, hgx, Below.refl _ _⟩
          · 
            try dsimp only
            have e1 : t 1 = .pointer (some ⟨w.heap.size, 0, none⟩) := dep (F := fun i v (_ : World) => v = viTF w wr s bb off c k 0 s.held[k] a0 c0 pv i) (t := t) (w := wx) hdep 1 (by kernel_rfl)
            rw [e1]
            refine wpOp_step rfl (fun K' hK => ?_)
            go_simp
            exact hK _ _ ⟨.int .i64 s.epoch, (by simp [upd, e1]), rfl, hgx, Below.refl _ _⟩
          · 
            try dsimp only
            have e0 : t 0 = .agg #[.int .i64 s.held[k].kind, .int .i64 s.held[k].epoch, .int .i64 s.held[k].seq, .int .i64 s.held[k].count, .bool s.held[k].last, .slice a0 s.held[k].data.length c0] := dep (F := fun i v (_ : World) => v = viTF w wr s bb off c k 0 s.held[k] a0 c0 pv i) (t := t) (w := wx) hdep 0 (by kernel_rfl)
            have e2 : t 2 = .int .i64 s.epoch := dep (F := fun i v (_ : World) => v = viTF w wr s bb off c k 0 s.held[k] a0 c0 pv i) (t := t) (w := wx) hdep 2 (by kernel_rfl)
            rw [e0, e2]
            refine wpOp_step rfl (fun K' hK => ?_)
            go_simp
            refine (HL5.out wx).mono ?_
            rintro e w2 ⟨rfl, b2⟩
            rw [HOK.out]
            exact hK _ _ ⟨.bool false, (by simp [upd, e0, e2]), rfl, below_chain hgx b2, b2⟩
          · 
            try dsimp only
            have e3 : t 3 = .bool false := dep (F := fun i v (_ : World) => v = viTF w wr s bb off c k 0 s.held[k] a0 c0 pv i) (t := t) (w := wx) hdep 3 (by kernel_rfl)
            rw [e3]
            refine wpOp_step rfl (fun K' hK => ?_)
            go_simp
            exact hK _ _ ⟨.bool true, (by simp [upd, e3]), rfl, hgx, Below.refl _ _⟩
          · 
            try dsimp only
            have e4 : t 4 = .bool true := dep (F := fun i v (_ : World) => v = viTF w wr s bb off c k 0 s.held[k] a0 c0 pv i) (t := t) (w := wx) hdep 4 (by kernel_rfl)
            rw [e4]
            refine wpOp_step rfl (fun K' hK => ?_)
            go_simp
            exact hK _ _ ⟨.bool true, (by simp [upd, e4]), rfl, hgx, Below.refl _ _⟩
          · 
            try dsimp only
            have e5 : t 5 = .bool true := dep (F := fun i v (_ : World) => v = viTF w wr s bb off c k 0 s.held[k] a0 c0 pv i) (t := t) (w := wx) hdep 5 (by kernel_rfl)
            rw [e5]
            refine wpOp_step rfl (fun K' hK => ?_)
            go_simp
            exact hK _ _ ⟨undef, (by simp [upd, e5]), rfl, hgx, Below.refl _ _⟩
          · 
            try dsimp only
            have e6 : t 6 = undef := dep (F := fun i v (_ : World) => v = viTF w wr s bb off c k 0 s.held[k] a0 c0 pv i) (t := t) (w := wx) hdep 6 (by kernel_rfl)
            have e5 : t 5 = .bool true := dep (F := fun i v (_ : World) => v = viTF w wr s bb off c k 0 s.held[k] a0 c0 pv i) (t := t) (w := wx) hdep 5 (by kernel_rfl)
            rw [e6, e5]
            refine wpOp_step rfl (fun K' hK => ?_)
            go_simp
            exact hK _ _ ⟨undef, (by simp [upd, e6, e5]), rfl, hgx, Below.refl _ _⟩
          · 
            try dsimp only
            have e5 : t 5 = .bool true := dep (F := fun i v (_ : World) => v = viTF w wr s bb off c k 0 s.held[k] a0 c0 pv i) (t := t) (w := wx) hdep 5 (by kernel_rfl)
            rw [e5]
            refine wpOp_step rfl (fun K' hK => ?_)
            go_simp
            exact hK _ _ ⟨undef, (by simp [upd, e5]), rfl, hgx, Below.refl _ _⟩
          · 
            try dsimp only
            have e8 : t 8 = undef := dep (F := fun i v (_ : World) => v = viTF w wr s bb off c k 0 s.held[k] a0 c0 pv i) (t := t) (w := wx) hdep 8 (by kernel_rfl)
            have e5 : t 5 = .bool true := dep (F := fun i v (_ : World) => v = viTF w wr s bb off c k 0 s.held[k] a0 c0 pv i) (t := t) (w := wx) hdep 5 (by kernel_rfl)
            rw [e8, e5]
            refine wpOp_step rfl (fun K' hK => ?_)
            go_simp
            exact hK _ _ ⟨undef, (by simp [upd, e8, e5]), rfl, hgx, Below.refl _ _⟩
          · 
            try dsimp only
            have e7 : t 7 = undef := dep (F := fun i v (_ : World) => v = viTF w wr s bb off c k 0 s.held[k] a0 c0 pv i) (t := t) (w := wx) hdep 7 (by kernel_rfl)
            have e9 : t 9 = undef := dep (F := fun i v (_ : World) => v = viTF w wr s bb off c k 0 s.held[k] a0 c0 pv i) (t := t) (w := wx) hdep 9 (by kernel_rfl)
            have e5 : t 5 = .bool true := dep (F := fun i v (_ : World) => v = viTF w wr s bb off c k 0 s.held[k] a0 c0 pv i) (t := t) (w := wx) hdep 5 (by kernel_rfl)
            rw [e7, e9, e5]
            refine wpOp_step rfl (fun K' hK => ?_)
            go_simp
            exact hK _ _ ⟨undef, (by simp [upd, e7, e9, e5]), rfl, hgx, Below.refl _ _⟩
          · 
            try dsimp only
            have e5 : t 5 = .bool true := dep (F := fun i v (_ : World) => v = viTF w wr s bb off c k 0 s.held[k] a0 c0 pv i) (t := t) (w := wx) hdep 5 (by kernel_rfl)
            have e10 : t 10 = undef := dep (F := fun i v (_ : World) => v = viTF w wr s bb off c k 0 s.held[k] a0 c0 pv i) (t := t) (w := wx) hdep 10 (by kernel_rfl)
            rw [e5, e10]
            refine wpOp_step rfl (fun K' hK => ?_)
            go_simp
            exact hK _ _ ⟨.bool true, (by simp [upd, e5, e10]), rfl, hgx, Below.refl _ _⟩
          · 
            try dsimp only
            have e11 : t 11 = .bool true := dep (F := fun i v (_ : World) => v = viTF w wr s bb off c k 0 s.held[k] a0 c0 pv i) (t := t) (w := wx) hdep 11 (by kernel_rfl)
            rw [e11]
            refine wpOp_step rfl (fun K' hK => ?_)
            go_simp
            exact hK _ _ ⟨.bool true, (by simp [upd, e11]), rfl, hgx, Below.refl _ _⟩
          · 
            try dsimp only
            have e12 : t 12 = .bool true := dep (F := fun i v (_ : World) => v = viTF w wr s bb off c k 0 s.held[k] a0 c0 pv i) (t := t) (w := wx) hdep 12 (by kernel_rfl)
            rw [e12]
            refine wpOp_step rfl (fun K' hK => ?_)
            go_simp
            exact hK _ _ ⟨undef, (by simp [upd, e12]), rfl, hgx, Below.refl _ _⟩
          · 
            try dsimp only
            have e13 : t 13 = undef := dep (F := fun i v (_ : World) => v = viTF w wr s bb off c k 0 s.held[k] a0 c0 pv i) (t := t) (w := wx) hdep 13 (by kernel_rfl)
            have e12 : t 12 = .bool true := dep (F := fun i v (_ : World) => v = viTF w wr s bb off c k 0 s.held[k] a0 c0 pv i) (t := t) (w := wx) hdep 12 (by kernel_rfl)
            rw [e13, e12]
            refine wpOp_step rfl (fun K' hK => ?_)
            go_simp
            exact hK _ _ ⟨undef, (by simp [upd, e13, e12]), rfl, hgx, Below.refl _ _⟩
          · 
            try dsimp only
            have e12 : t 12 = .bool true := dep (F := fun i v (_ : World) => v = viTF w wr s bb off c k 0 s.held[k] a0 c0 pv i) (t := t) (w := wx) hdep 12 (by kernel_rfl)
            rw [e12]
            refine wpOp_step rfl (fun K' hK => ?_)
            go_simp
            exact hK _ _ ⟨undef, (by simp [upd, e12]), rfl, hgx, Below.refl _ _⟩
          · 
            try dsimp only
            have e15 : t 15 = undef := dep (F := fun i v (_ : World) => v = viTF w wr s bb off c k 0 s.held[k] a0 c0 pv i) (t := t) (w := wx) hdep 15 (by kernel_rfl)
            have e12 : t 12 = .bool true := dep (F := fun i v (_ : World) => v = viTF w wr s bb off c k 0 s.held[k] a0 c0 pv i) (t := t) (w := wx) hdep 12 (by kernel_rfl)
            rw [e15, e12]
            refine wpOp_step rfl (fun K' hK => ?_)
            go_simp
            exact hK _ _ ⟨undef, (by simp [upd, e15, e12]), rfl, hgx, Below.refl _ _⟩
          · 
            try dsimp only
            have e16 : t 16 = undef := dep (F := fun i v (_ : World) => v = viTF w wr s bb off c k 0 s.held[k] a0 c0 pv i) (t := t) (w := wx) hdep 16 (by kernel_rfl)
            have e12 : t 12 = .bool true := dep (F := fun i v (_ : World) => v = viTF w wr s bb off c k 0 s.held[k] a0 c0 pv i) (t := t) (w := wx) hdep 12 (by kernel_rfl)
            rw [e16, e12]
            refine wpOp_step rfl (fun K' hK => ?_)
            go_simp
            exact hK _ _ ⟨undef, (by simp [upd, e16, e12]), rfl, hgx, Below.refl _ _⟩
          · 
            try dsimp only
            have e14 : t 14 = undef := dep (F := fun i v (_ : World) => v = viTF w wr s bb off c k 0 s.held[k] a0 c0 pv i) (t := t) (w := wx) hdep 14 (by kernel_rfl)
            have e17 : t 17 = undef := dep (F := fun i v (_ : World) => v = viTF w wr s bb off c k 0 s.held[k] a0 c0 pv i) (t := t) (w := wx) hdep 17 (by kernel_rfl)
            have e12 : t 12 = .bool true := dep (F := fun i v (_ : World) => v = viTF w wr s bb off c k 0 s.held[k] a0 c0 pv i) (t := t) (w := wx) hdep 12 (by kernel_rfl)
            rw [e14, e17, e12]
            refine wpOp_step rfl (fun K' hK => ?_)
            go_simp
            exact hK _ _ ⟨undef, (by simp [upd, e14, e17, e12]), rfl, hgx, Below.refl _ _⟩
          · 
            try dsimp only
            have e12 : t 12 = .bool true := dep (F := fun i v (_ : World) => v = viTF w wr s bb off c k 0 s.held[k] a0 c0 pv i) (t := t) (w := wx) hdep 12 (by kernel_rfl)
            have e18 : t 18 = undef := dep (F := fun i v (_ : World) => v = viTF w wr s bb off c k 0 s.held[k] a0 c0 pv i) (t := t) (w := wx) hdep 18 (by kernel_rfl)
            rw [e12, e18]
            refine wpOp_step rfl (fun K' hK => ?_)
            go_simp
            exact hK _ _ ⟨.bool true, (by simp [upd, e12, e18]), rfl, hgx, Below.refl _ _⟩
          · 
            try dsimp only
            have e19 : t 19 = .bool true := dep (F := fun i v (_ : World) => v = viTF w wr s bb off c k 0 s.held[k] a0 c0 pv i) (t := t) (w := wx) hdep 19 (by kernel_rfl)
            rw [e19]
            refine wpOp_step rfl (fun K' hK => ?_)
            go_simp
            exact hK _ _ ⟨.bool true, (by simp [upd, e19]), rfl, hgx, Below.refl _ _⟩
          · 
            try dsimp only
            have e20 : t 20 = .bool true := dep (F := fun i v (_ : World) => v = viTF w wr s bb off c k 0 s.held[k] a0 c0 pv i) (t := t) (w := wx) hdep 20 (by kernel_rfl)
            rw [e20]
            refine wpOp_step rfl (fun K' hK => ?_)
            go_simp
            exact hK _ _ ⟨undef, (by simp [upd, e20]), rfl, hgx, Below.refl _ _⟩
          · 
            try dsimp only
            have e21 : t 21 = undef := dep (F := fun i v (_ : World) => v = viTF w wr s bb off c k 0 s.held[k] a0 c0 pv i) (t := t) (w := wx) hdep 21 (by kernel_rfl)
            have e20 : t 20 = .bool true := dep (F := fun i v (_ : World) => v = viTF w wr s bb off c k 0 s.held[k] a0 c0 pv i) (t := t) (w := wx) hdep 20 (by kernel_rfl)
            rw [e21, e20]
            refine wpOp_step rfl (fun K' hK => ?_)
            go_simp
            exact hK _ _ ⟨undef, (by simp [upd, e21, e20]), rfl, hgx, Below.refl _ _⟩
          · 
            try dsimp only
            have e22 : t 22 = undef := dep (F := fun i v (_ : World) => v = viTF w wr s bb off c k 0 s.held[k] a0 c0 pv i) (t := t) (w := wx) hdep 22 (by kernel_rfl)
            have e20 : t 20 = .bool true := dep (F := fun i v (_ : World) => v = viTF w wr s bb off c k 0 s.held[k] a0 c0 pv i) (t := t) (w := wx) hdep 20 (by kernel_rfl)
            rw [e22, e20]
            refine wpOp_step rfl (fun K' hK => ?_)
            go_simp
            exact hK _ _ ⟨undef, (by simp [upd, e22, e20]), rfl, hgx, Below.refl _ _⟩
          · 
            try dsimp only
            have e23 : t 23 = undef := dep (F := fun i v (_ : World) => v = viTF w wr s bb off c k 0 s.held[k] a0 c0 pv i) (t := t) (w := wx) hdep 23 (by kernel_rfl)
            rw [e23]
            refine wpOp_step rfl (fun K' hK => ?_)
            go_simp
            exact hK _ _ ⟨undef, (by simp [upd, e23]), rfl, hgx, Below.refl _ _⟩
          · 
            try dsimp only
            have e24 : t 24 = undef := dep (F := fun i v (_ : World) => v = viTF w wr s bb off c k 0 s.held[k] a0 c0 pv i) (t := t) (w := wx) hdep 24 (by kernel_rfl)
            have e23 : t 23 = undef := dep (F := fun i v (_ : World) => v = viTF w wr s bb off c k 0 s.held[k] a0 c0 pv i) (t := t) (w := wx) hdep 23 (by kernel_rfl)
            rw [e24, e23]
            refine wpOp_step rfl (fun K' hK => ?_)
            go_simp
            exact hK _ _ ⟨undef, (by simp [upd, e24, e23]), rfl, hgx, Below.refl _ _⟩
          · 
            try dsimp only
            have e23 : t 23 = undef := dep (F := fun i v (_ : World) => v = viTF w wr s bb off c k 0 s.held[k] a0 c0 pv i) (t := t) (w := wx) hdep 23 (by kernel_rfl)
            rw [e23]
            refine wpOp_step rfl (fun K' hK => ?_)
            go_simp
            exact hK _ _ ⟨undef, (by simp [upd, e23]), rfl, hgx, Below.refl _ _⟩
          · 
            try dsimp only
            have e26 : t 26 = undef := dep (F := fun i v (_ : World) => v = viTF w wr s bb off c k 0 s.held[k] a0 c0 pv i) (t := t) (w := wx) hdep 26 (by kernel_rfl)
            have e23 : t 23 = undef := dep (F := fun i v (_ : World) => v = viTF w wr s bb off c k 0 s.held[k] a0 c0 pv i) (t := t) (w := wx) hdep 23 (by kernel_rfl)
            rw [e26, e23]
            refine wpOp_step rfl (fun K' hK => ?_)
            go_simp
            exact hK _ _ ⟨undef, (by simp [upd, e26, e23]), rfl, hgx, Below.refl _ _⟩
          · 
            try dsimp only
            have e25 : t 25 = undef := dep (F := fun i v (_ : World) => v = viTF w wr s bb off c k 0 s.held[k] a0 c0 pv i) (t := t) (w := wx) hdep 25 (by kernel_rfl)
            have e27 : t 27 = undef := dep (F := fun i v (_ : World) => v = viTF w wr s bb off c k 0 s.held[k] a0 c0 pv i) (t := t) (w := wx) hdep 27 (by kernel_rfl)
            have e23 : t 23 = undef := dep (F := fun i v (_ : World) => v = viTF w wr s bb off c k 0 s.held[k] a0 c0 pv i) (t := t) (w := wx) hdep 23 (by kernel_rfl)
            rw [e25, e27, e23]
            refine wpOp_step rfl (fun K' hK => ?_)
            go_simp
            exact hK _ _ ⟨undef, (by simp [upd, e25, e27, e23]), rfl, hgx, Below.refl _ _⟩
          · 
            try dsimp only
            have e28 : t 28 = undef := dep (F := fun i v (_ : World) => v = viTF w wr s bb off c k 0 s.held[k] a0 c0 pv i) (t := t) (w := wx) hdep 28 (by kernel_rfl)
            have e23 : t 23 = undef := dep (F := fun i v (_ : World) => v = viTF w wr s bb off c k 0 s.held[k] a0 c0 pv i) (t := t) (w := wx) hdep 23 (by kernel_rfl)
            rw [e28, e23]
            refine wpOp_step rfl (fun K' hK => ?_)
            go_simp
            exact hK _ _ ⟨undef, (by simp [upd, e28, e23]), rfl, hgx, Below.refl _ _⟩
          · 
            try dsimp only
            have e29 : t 29 = undef := dep (F := fun i v (_ : World) => v = viTF w wr s bb off c k 0 s.held[k] a0 c0 pv i) (t := t) (w := wx) hdep 29 (by kernel_rfl)
            have e23 : t 23 = undef := dep (F := fun i v (_ : World) => v = viTF w wr s bb off c k 0 s.held[k] a0 c0 pv i) (t := t) (w := wx) hdep 23 (by kernel_rfl)
            rw [e29, e23]
            refine wpOp_step rfl (fun K' hK => ?_)
            go_simp
            exact hK _ _ ⟨undef, (by simp [upd, e29, e23]), rfl, hgx, Below.refl _ _⟩
          · 
            try dsimp only
            have e23 : t 23 = undef := dep (F := fun i v (_ : World) => v = viTF w wr s bb off c k 0 s.held[k] a0 c0 pv i) (t := t) (w := wx) hdep 23 (by kernel_rfl)
            rw [e23]
            refine wpOp_step rfl (fun K' hK => ?_)
            go_simp
            exact hK _ _ ⟨undef, (by simp [upd, e23]), rfl, hgx, Below.refl _ _⟩
          · 
            try dsimp only
            have e31 : t 31 = undef := dep (F := fun i v (_ : World) => v = viTF w wr s bb off c k 0 s.held[k] a0 c0 pv i) (t := t) (w := wx) hdep 31 (by kernel_rfl)
            have e23 : t 23 = undef := dep (F := fun i v (_ : World) => v = viTF w wr s bb off c k 0 s.held[k] a0 c0 pv i) (t := t) (w := wx) hdep 23 (by kernel_rfl)
            rw [e31, e23]
            refine wpOp_step rfl (fun K' hK => ?_)
            go_simp
            exact hK _ _ ⟨undef, (by simp [upd, e31, e23]), rfl, hgx, Below.refl _ _⟩
          · 
            try dsimp only
            have e30 : t 30 = undef := dep (F := fun i v (_ : World) => v = viTF w wr s bb off c k 0 s.held[k] a0 c0 pv i) (t := t) (w := wx) hdep 30 (by kernel_rfl)
            have e32 : t 32 = undef := dep (F := fun i v (_ : World) => v = viTF w wr s bb off c k 0 s.held[k] a0 c0 pv i) (t := t) (w := wx) hdep 32 (by kernel_rfl)
            have e23 : t 23 = undef := dep (F := fun i v (_ : World) => v = viTF w wr s bb off c k 0 s.held[k] a0 c0 pv i) (t := t) (w := wx) hdep 23 (by kernel_rfl)
            rw [e30, e32, e23]
            refine wpOp_step rfl (fun K' hK => ?_)
            go_simp
            exact hK _ _ ⟨undef, (by simp [upd, e30, e32, e23]), rfl, hgx, Below.refl _ _⟩
          · 
            try dsimp only
            have e23 : t 23 = undef := dep (F := fun i v (_ : World) => v = viTF w wr s bb off c k 0 s.held[k] a0 c0 pv i) (t := t) (w := wx) hdep 23 (by kernel_rfl)
            have e33 : t 33 = undef := dep (F := fun i v (_ : World) => v = viTF w wr s bb off c k 0 s.held[k] a0 c0 pv i) (t := t) (w := wx) hdep 33 (by kernel_rfl)
            have e20 : t 20 = .bool true := dep (F := fun i v (_ : World) => v = viTF w wr s bb off c k 0 s.held[k] a0 c0 pv i) (t := t) (w := wx) hdep 20 (by kernel_rfl)
            rw [e23, e33, e20]
            refine wpOp_step rfl (fun K' hK => ?_)
            go_simp
            exact hK _ _ ⟨undef, (by simp [upd, e23, e33, e20]), rfl, hgx, Below.refl _ _⟩
          · 
            try dsimp only
            have e20 : t 20 = .bool true := dep (F := fun i v (_ : World) => v = viTF w wr s bb off c k 0 s.held[k] a0 c0 pv i) (t := t) (w := wx) hdep 20 (by kernel_rfl)
            have e34 : t 34 = undef := dep (F := fun i v (_ : World) => v = viTF w wr s bb off c k 0 s.held[k] a0 c0 pv i) (t := t) (w := wx) hdep 34 (by kernel_rfl)
            rw [e20, e34]
            refine wpOp_step rfl (fun K' hK => ?_)
            go_simp
            exact hK _ _ ⟨.bool true, (by simp [upd, e20, e34]), rfl, hgx, Below.refl _ _⟩
        · intro t wx hgx hall
          have HWW := hid hgx
          have hw' : Hid (Below w.heap.size w wx) := hid (below_chain HBW.out hgx)
          have e35 : t 35 = .bool true := hall 35 (by omega)
          clear hall hgx
          try dsimp only
          rw [e35]
          clear e35
          generalize t 0 = v0
          generalize t 1 = v1
          generalize t 2 = v2
          generalize t 3 = v3
          generalize t 4 = v4
          generalize t 5 = v5
          generalize t 6 = v6
          generalize t 7 = v7
          generalize t 8 = v8
          generalize t 9 = v9
          generalize t 10 = v10
          generalize t 11 = v11
          generalize t 12 = v12
          generalize t 13 = v13
          generalize t 14 = v14
          generalize t 15 = v15
          generalize t 16 = v16
          generalize t 17 = v17
          generalize t 18 = v18
          generalize t 19 = v19
          generalize t 20 = v20
          generalize t 21 = v21
          generalize t 22 = v22
          generalize t 23 = v23
          generalize t 24 = v24
          generalize t 25 = v25
          generalize t 26 = v26
          generalize t 27 = v27
          generalize t 28 = v28
          generalize t 29 = v29
          generalize t 30 = v30
          generalize t 31 = v31
          generalize t 32 = v32
          generalize t 33 = v33
          generalize t 34 = v34
          clear t
          go_wp2
          go_ret
          exact ⟨(by rw [HZ.out]; first | done | rfl), hw'.out⟩
      | true =>
        have HOK := hid hok
        clear hok
        by_cases s1 : s.held[k].seq ≤ s.expect
        · have Hs1 := hid s1
          have s1t : decide (s.held[k].seq ≤ s.expect) = true := by simp; omega
          clear s1
          have HZ := hid (HWk.out (by rw [HOW.out]; rw [decide_eq_false (p := _ ∧ _) (fun h => by have := Hs1.out; omega)]; simp))
          refine region_facts (n := 36) (by kernel_rfl) (by kernel_rfl) ?_ (fun t => { tmps := #[.agg #[.int .i64 s.epoch, .int .i64 s.expect, .slice (some ⟨bb, off, none⟩) s.held.length c, .slice b s.part.length d], .pointer (some ⟨w.heap.size, 0, none⟩), u2, .int .i64 (k : Int), .pointer (some ⟨wr.heap.size, 0, none⟩), .pointer (some ⟨w.heap.size, 0, none⟩), .int .i64 s.epoch, .bool false, .bool false, .pointer (some ⟨w.heap.size, 0, none⟩), .int .i64 s.epoch, .bool false, .bool false, .bool false, .pointer (some ⟨w.heap.size, 1, none⟩), .int .i64 s.expect, .bool false, .bool false, .bool false, .pointer (some ⟨w.heap.size, 1, none⟩), .int .i64 s.expect, .bool false, .bool false, .bool false, .pointer (some ⟨w.heap.size, 3, none⟩), .slice b s.part.length d, .int .i64 (s.part.length : Int), .bool false, .bool false, .int .i64 (k : Int), .pointer (some ⟨w.heap.size, 2, none⟩), .slice (some ⟨bb, off, none⟩) s.held.length c, .int .i64 (s.held.length : Int), .bool true, u34, u35, .pointer (some ⟨w.heap.size, 2, none⟩), .slice (some ⟨bb, off, none⟩) s.held.length c, .int .i64 (k : Int), .pointer (some ⟨bb, off + k * 6, none⟩), .agg #[.int .i64 s.held[k].kind, .int .i64 s.held[k].epoch, .int .i64 s.held[k].seq, .int .i64 s.held[k].count, .bool s.held[k].last, .slice a0 s.held[k].data.length c0], t 0, t 1, t 2, t 3, t 4, t 5, t 6, t 7, t 8, t 9, t 10, t 11, t 12, t 13, t 14, t 15, t 16, t 17, t 18, t 19, t 20, t 21, t 22, t 23, t 24, t 25, t 26, t 27, t 28, t 29, t 30, t 31, t 32, t 33, t 34, t 35], defers := [] }) (fun i v _ => v = viT1 w wr s bb off c k 0 s.held[k] a0 c0 pv i) (fun wx => Below W.heap.size W wx) W (fun _ _ _ _ h _ => h) (fun j => ([u41, u42, u43, u44, u45, u46, u47, u48, u49, u50, u51, u52, u53, u54, u55, u56, u57, u58, u59, u60, u61, u62, u63, u64, u65, u66, u67, u68, u69, u70, u71, u72, u73, u74, u75, u76] : List Value).getD j undef) ((Below.refl _ W).drew) ?_ ?_
          · rfl
          · intro i hi t wx hgx hdep
            have kp : ∀ p v, W.cell? p = some v → wx.cell? p = some v := fun p v h => (hgx.cell (World.block_lt_of_cell? W _ h)).trans h
            replace p0 := kp _ _ p0
            replace p1 := kp _ _ p1
            replace p2 := kp _ _ p2
            replace q0 := kp _ _ q0
            replace q1 := kp _ _ q1
            replace q2 := kp _ _ q2
            replace q3 := kp _ _ q3
            replace q4 := kp _ _ q4
            replace q5 := kp _ _ q5
            clear kp
            rcases (by omega : i = 0 ∨ i = 1 ∨ i = 2 ∨ i = 3 ∨ i = 4 ∨ i = 5 ∨ i = 6 ∨ i = 7 ∨ i = 8 ∨ i = 9 ∨ i = 10 ∨ i = 11 ∨ i = 12 ∨ i = 13 ∨ i = 14 ∨ i = 15 ∨ i = 16 ∨ i = 17 ∨ i = 18 ∨ i = 19 ∨ i = 20 ∨ i = 21 ∨ i = 22 ∨ i = 23 ∨ i = 24 ∨ i = 25 ∨ i = 26 ∨ i = 27 ∨ i = 28 ∨ i = 29 ∨ i = 30 ∨ i = 31 ∨ i = 32 ∨ i = 33 ∨ i = 34 ∨ i = 35) with rfl | rfl | rfl | rfl | rfl | rfl | rfl | rfl | rfl | rfl | rfl | rfl | rfl | rfl | rfl | rfl | rfl | rfl | rfl | rfl | rfl | rfl | rfl | rfl | rfl | rfl | rfl | rfl | rfl | rfl | rfl | rfl | rfl | rfl | rfl | rfl
            · 
              try dsimp only
              refine wpOp_step rfl (fun K' hK => ?_)
              go_simp
              exact hK _ _ ⟨.agg #[.int .i64 s.held[k].kind, .int .i64 s.held[k].epoch, .int .i64 s.held[k].seq, .int .i64 s.held[k].count, .bool s.held[k].last, .slice a0 s.held[k].data.length c0], (by simp [upd]), rfl, hgx, Below.refl _ _⟩
            · 
              try dsimp only
              refine wpOp_step rfl (fun K' hK => ?_)
              go_simp
              exact hK _ _ ⟨.pointer (some ⟨w.heap.size, 0, none⟩), (by simp [upd]), rfl, hgx, Below.refl _ _⟩
            · 
              try dsimp only
              have e1 : t 1 = .pointer (some ⟨w.heap.size, 0, none⟩) := dep (F := fun i v (_ : World) => v = viT1 w wr s bb off c k 0 s.held[k] a0 c0 pv i) (t := t) (w := wx) hdep 1 (by kernel_rfl)
              rw [e1]
              refine wpOp_step rfl (fun K' hK => ?_)
              go_simp
              exact hK _ _ ⟨.int .i64 s.epoch, (by simp [upd, e1]), rfl, hgx, Below.refl _ _⟩
            · 
              try dsimp only
              have e0 : t 0 = .agg #[.int .i64 s.held[k].kind, .int .i64 s.held[k].epoch, .int .i64 s.held[k].seq, .int .i64 s.held[k].count, .bool s.held[k].last, .slice a0 s.held[k].data.length c0] := dep (F := fun i v (_ : World) => v = viT1 w wr s bb off c k 0 s.held[k] a0 c0 pv i) (t := t) (w := wx) hdep 0 (by kernel_rfl)
              have e2 : t 2 = .int .i64 s.epoch := dep (F := fun i v (_ : World) => v = viT1 w wr s bb off c k 0 s.held[k] a0 c0 pv i) (t := t) (w := wx) hdep 2 (by kernel_rfl)
              rw [e0, e2]
              refine wpOp_step rfl (fun K' hK => ?_)
              go_simp
              refine (HL5.out wx).mono ?_
              rintro e w2 ⟨rfl, b2⟩
              rw [HOK.out]
              exact hK _ _ ⟨.bool true, (by simp [upd, e0, e2]), rfl, below_chain hgx b2, b2⟩
            · 
              try dsimp only
              have e3 : t 3 = .bool true := dep (F := fun i v (_ : World) => v = viT1 w wr s bb off c k 0 s.held[k] a0 c0 pv i) (t := t) (w := wx) hdep 3 (by kernel_rfl)
              rw [e3]
              refine wpOp_step rfl (fun K' hK => ?_)
              go_simp
              exact hK _ _ ⟨.bool false, (by simp [upd, e3]), rfl, hgx, Below.refl _ _⟩
            · 
              try dsimp only
              have e4 : t 4 = .bool false := dep (F := fun i v (_ : World) => v = viT1 w wr s bb off c k 0 s.held[k] a0 c0 pv i) (t := t) (w := wx) hdep 4 (by kernel_rfl)
              rw [e4]
              refine wpOp_step rfl (fun K' hK => ?_)
              go_simp
              exact hK _ _ ⟨.bool false, (by simp [upd, e4]), rfl, hgx, Below.refl _ _⟩
            · 
              try dsimp only
              have e5 : t 5 = .bool false := dep (F := fun i v (_ : World) => v = viT1 w wr s bb off c k 0 s.held[k] a0 c0 pv i) (t := t) (w := wx) hdep 5 (by kernel_rfl)
              rw [e5]
              refine wpOp_step rfl (fun K' hK => ?_)
              go_simp
              exact hK _ _ ⟨.pointer (some ⟨wr.heap.size, 2, none⟩), (by simp [upd, e5]), rfl, hgx, Below.refl _ _⟩
            · 
              try dsimp only
              have e6 : t 6 = .pointer (some ⟨wr.heap.size, 2, none⟩) := dep (F := fun i v (_ : World) => v = viT1 w wr s bb off c k 0 s.held[k] a0 c0 pv i) (t := t) (w := wx) hdep 6 (by kernel_rfl)
              have e5 : t 5 = .bool false := dep (F := fun i v (_ : World) => v = viT1 w wr s bb off c k 0 s.held[k] a0 c0 pv i) (t := t) (w := wx) hdep 5 (by kernel_rfl)
              rw [e6, e5]
              refine wpOp_step rfl (fun K' hK => ?_)
              go_simp
              exact hK _ _ ⟨.int .i64 s.held[k].seq, (by simp [upd, e6, e5]), rfl, hgx, Below.refl _ _⟩
            · 
              try dsimp only
              have e5 : t 5 = .bool false := dep (F := fun i v (_ : World) => v = viT1 w wr s bb off c k 0 s.held[k] a0 c0 pv i) (t := t) (w := wx) hdep 5 (by kernel_rfl)
              rw [e5]
              refine wpOp_step rfl (fun K' hK => ?_)
              go_simp
              exact hK _ _ ⟨.pointer (some ⟨w.heap.size, 1, none⟩), (by simp [upd, e5]), rfl, hgx, Below.refl _ _⟩
            · 
              try dsimp only
              have e8 : t 8 = .pointer (some ⟨w.heap.size, 1, none⟩) := dep (F := fun i v (_ : World) => v = viT1 w wr s bb off c k 0 s.held[k] a0 c0 pv i) (t := t) (w := wx) hdep 8 (by kernel_rfl)
              have e5 : t 5 = .bool false := dep (F := fun i v (_ : World) => v = viT1 w wr s bb off c k 0 s.held[k] a0 c0 pv i) (t := t) (w := wx) hdep 5 (by kernel_rfl)
              rw [e8, e5]
              refine wpOp_step rfl (fun K' hK => ?_)
              go_simp
              exact hK _ _ ⟨.int .i64 s.expect, (by simp [upd, e8, e5]), rfl, hgx, Below.refl _ _⟩
            · 
              try dsimp only
              have e7 : t 7 = .int .i64 s.held[k].seq := dep (F := fun i v (_ : World) => v = viT1 w wr s bb off c k 0 s.held[k] a0 c0 pv i) (t := t) (w := wx) hdep 7 (by kernel_rfl)
              have e9 : t 9 = .int .i64 s.expect := dep (F := fun i v (_ : World) => v = viT1 w wr s bb off c k 0 s.held[k] a0 c0 pv i) (t := t) (w := wx) hdep 9 (by kernel_rfl)
              have e5 : t 5 = .bool false := dep (F := fun i v (_ : World) => v = viT1 w wr s bb off c k 0 s.held[k] a0 c0 pv i) (t := t) (w := wx) hdep 5 (by kernel_rfl)
              rw [e7, e9, e5]
              refine wpOp_step rfl (fun K' hK => ?_)
              go_simp
              exact hK _ _ ⟨.bool true, (by simp [upd, e7, e9, e5]), rfl, hgx, Below.refl _ _⟩
            · 
              try dsimp only
              have e5 : t 5 = .bool false := dep (F := fun i v (_ : World) => v = viT1 w wr s bb off c k 0 s.held[k] a0 c0 pv i) (t := t) (w := wx) hdep 5 (by kernel_rfl)
              have e10 : t 10 = .bool true := dep (F := fun i v (_ : World) => v = viT1 w wr s bb off c k 0 s.held[k] a0 c0 pv i) (t := t) (w := wx) hdep 10 (by kernel_rfl)
              rw [e5, e10]
              refine wpOp_step rfl (fun K' hK => ?_)
              go_simp
              exact hK _ _ ⟨.bool true, (by simp [upd, e5, e10]), rfl, hgx, Below.refl _ _⟩
            · 
              try dsimp only
              have e11 : t 11 = .bool true := dep (F := fun i v (_ : World) => v = viT1 w wr s bb off c k 0 s.held[k] a0 c0 pv i) (t := t) (w := wx) hdep 11 (by kernel_rfl)
              rw [e11]
              refine wpOp_step rfl (fun K' hK => ?_)
              go_simp
              exact hK _ _ ⟨.bool true, (by simp [upd, e11]), rfl, hgx, Below.refl _ _⟩
            · 
              try dsimp only
              have e12 : t 12 = .bool true := dep (F := fun i v (_ : World) => v = viT1 w wr s bb off c k 0 s.held[k] a0 c0 pv i) (t := t) (w := wx) hdep 12 (by kernel_rfl)
              rw [e12]
              refine wpOp_step rfl (fun K' hK => ?_)
              go_simp
              exact hK _ _ ⟨undef, (by simp [upd, e12]), rfl, hgx, Below.refl _ _⟩
            · 
              try dsimp only
              have e13 : t 13 = undef := dep (F := fun i v (_ : World) => v = viT1 w wr s bb off c k 0 s.held[k] a0 c0 pv i) (t := t) (w := wx) hdep 13 (by kernel_rfl)
              have e12 : t 12 = .bool true := dep (F := fun i v (_ : World) => v = viT1 w wr s bb off c k 0 s.held[k] a0 c0 pv i) (t := t) (w := wx) hdep 12 (by kernel_rfl)
              rw [e13, e12]
              refine wpOp_step rfl (fun K' hK => ?_)
              go_simp
              exact hK _ _ ⟨undef, (by simp [upd, e13, e12]), rfl, hgx, Below.refl _ _⟩
            · 
              try dsimp only
              have e12 : t 12 = .bool true := dep (F := fun i v (_ : World) => v = viT1 w wr s bb off c k 0 s.held[k] a0 c0 pv i) (t := t) (w := wx) hdep 12 (by kernel_rfl)
              rw [e12]
              refine wpOp_step rfl (fun K' hK => ?_)
              go_simp
              exact hK _ _ ⟨undef, (by simp [upd, e12]), rfl, hgx, Below.refl _ _⟩
            · 
              try dsimp only
              have e15 : t 15 = undef := dep (F := fun i v (_ : World) => v = viT1 w wr s bb off c k 0 s.held[k] a0 c0 pv i) (t := t) (w := wx) hdep 15 (by kernel_rfl)
              have e12 : t 12 = .bool true := dep (F := fun i v (_ : World) => v = viT1 w wr s bb off c k 0 s.held[k] a0 c0 pv i) (t := t) (w := wx) hdep 12 (by kernel_rfl)
              rw [e15, e12]
              refine wpOp_step rfl (fun K' hK => ?_)
              go_simp
              exact hK _ _ ⟨undef, (by simp [upd, e15, e12]), rfl, hgx, Below.refl _ _⟩
            · 
              try dsimp only
              have e16 : t 16 = undef := dep (F := fun i v (_ : World) => v = viT1 w wr s bb off c k 0 s.held[k] a0 c0 pv i) (t := t) (w := wx) hdep 16 (by kernel_rfl)
              have e12 : t 12 = .bool true := dep (F := fun i v (_ : World) => v = viT1 w wr s bb off c k 0 s.held[k] a0 c0 pv i) (t := t) (w := wx) hdep 12 (by kernel_rfl)
              rw [e16, e12]
              refine wpOp_step rfl (fun K' hK => ?_)
              go_simp
              exact hK _ _ ⟨undef, (by simp [upd, e16, e12]), rfl, hgx, Below.refl _ _⟩
            · 
              try dsimp only
              have e14 : t 14 = undef := dep (F := fun i v (_ : World) => v = viT1 w wr s bb off c k 0 s.held[k] a0 c0 pv i) (t := t) (w := wx) hdep 14 (by kernel_rfl)
              have e17 : t 17 = undef := dep (F := fun i v (_ : World) => v = viT1 w wr s bb off c k 0 s.held[k] a0 c0 pv i) (t := t) (w := wx) hdep 17 (by kernel_rfl)
              have e12 : t 12 = .bool true := dep (F := fun i v (_ : World) => v = viT1 w wr s bb off c k 0 s.held[k] a0 c0 pv i) (t := t) (w := wx) hdep 12 (by kernel_rfl)
              rw [e14, e17, e12]
              refine wpOp_step rfl (fun K' hK => ?_)
              go_simp
              exact hK _ _ ⟨undef, (by simp [upd, e14, e17, e12]), rfl, hgx, Below.refl _ _⟩
            · 
              try dsimp only
              have e12 : t 12 = .bool true := dep (F := fun i v (_ : World) => v = viT1 w wr s bb off c k 0 s.held[k] a0 c0 pv i) (t := t) (w := wx) hdep 12 (by kernel_rfl)
              have e18 : t 18 = undef := dep (F := fun i v (_ : World) => v = viT1 w wr s bb off c k 0 s.held[k] a0 c0 pv i) (t := t) (w := wx) hdep 18 (by kernel_rfl)
              rw [e12, e18]
              refine wpOp_step rfl (fun K' hK => ?_)
              go_simp
              exact hK _ _ ⟨.bool true, (by simp [upd, e12, e18]), rfl, hgx, Below.refl _ _⟩
            · 
              try dsimp only
              have e19 : t 19 = .bool true := dep (F := fun i v (_ : World) => v = viT1 w wr s bb off c k 0 s.held[k] a0 c0 pv i) (t := t) (w := wx) hdep 19 (by kernel_rfl)
              rw [e19]
              refine wpOp_step rfl (fun K' hK => ?_)
              go_simp
              exact hK _ _ ⟨.bool true, (by simp [upd, e19]), rfl, hgx, Below.refl _ _⟩
            · 
              try dsimp only
              have e20 : t 20 = .bool true := dep (F := fun i v (_ : World) => v = viT1 w wr s bb off c k 0 s.held[k] a0 c0 pv i) (t := t) (w := wx) hdep 20 (by kernel_rfl)
              rw [e20]
              refine wpOp_step rfl (fun K' hK => ?_)
              go_simp
              exact hK _ _ ⟨undef, (by simp [upd, e20]), rfl, hgx, Below.refl _ _⟩
            · 
              try dsimp only
              have e21 : t 21 = undef := dep (F := fun i v (_ : World) => v = viT1 w wr s bb off c k 0 s.held[k] a0 c0 pv i) (t := t) (w := wx) hdep 21 (by kernel_rfl)
              have e20 : t 20 = .bool true := dep (F := fun i v (_ : World) => v = viT1 w wr s bb off c k 0 s.held[k] a0 c0 pv i) (t := t) (w := wx) hdep 20 (by kernel_rfl)
              rw [e21, e20]
              refine wpOp_step rfl (fun K' hK => ?_)
              go_simp
              exact hK _ _ ⟨undef, (by simp [upd, e21, e20]), rfl, hgx, Below.refl _ _⟩
            · 
              try dsimp only
              have e22 : t 22 = undef := dep (F := fun i v (_ : World) => v = viT1 w wr s bb off c k 0 s.held[k] a0 c0 pv i) (t := t) (w := wx) hdep 22 (by kernel_rfl)
              have e20 : t 20 = .bool true := dep (F := fun i v (_ : World) => v = viT1 w wr s bb off c k 0 s.held[k] a0 c0 pv i) (t := t) (w := wx) hdep 20 (by kernel_rfl)
              rw [e22, e20]
              refine wpOp_step rfl (fun K' hK => ?_)
              go_simp
              exact hK _ _ ⟨undef, (by simp [upd, e22, e20]), rfl, hgx, Below.refl _ _⟩
            · 
              try dsimp only
              have e23 : t 23 = undef := dep (F := fun i v (_ : World) => v = viT1 w wr s bb off c k 0 s.held[k] a0 c0 pv i) (t := t) (w := wx) hdep 23 (by kernel_rfl)
              rw [e23]
              refine wpOp_step rfl (fun K' hK => ?_)
              go_simp
              exact hK _ _ ⟨undef, (by simp [upd, e23]), rfl, hgx, Below.refl _ _⟩
            · 
              try dsimp only
              have e24 : t 24 = undef := dep (F := fun i v (_ : World) => v = viT1 w wr s bb off c k 0 s.held[k] a0 c0 pv i) (t := t) (w := wx) hdep 24 (by kernel_rfl)
              have e23 : t 23 = undef := dep (F := fun i v (_ : World) => v = viT1 w wr s bb off c k 0 s.held[k] a0 c0 pv i) (t := t) (w := wx) hdep 23 (by kernel_rfl)
              rw [e24, e23]
              refine wpOp_step rfl (fun K' hK => ?_)
              go_simp
              exact hK _ _ ⟨undef, (by simp [upd, e24, e23]), rfl, hgx, Below.refl _ _⟩
            · 
              try dsimp only
              have e23 : t 23 = undef := dep (F := fun i v (_ : World) => v = viT1 w wr s bb off c k 0 s.held[k] a0 c0 pv i) (t := t) (w := wx) hdep 23 (by kernel_rfl)
              rw [e23]
              refine wpOp_step rfl (fun K' hK => ?_)
              go_simp
              exact hK _ _ ⟨undef, (by simp [upd, e23]), rfl, hgx, Below.refl _ _⟩
            · 
              try dsimp only
              have e26 : t 26 = undef := dep (F := fun i v (_ : World) => v = viT1 w wr s bb off c k 0 s.held[k] a0 c0 pv i) (t := t) (w := wx) hdep 26 (by kernel_rfl)
              have e23 : t 23 = undef := dep (F := fun i v (_ : World) => v = viT1 w wr s bb off c k 0 s.held[k] a0 c0 pv i) (t := t) (w := wx) hdep 23 (by kernel_rfl)
              rw [e26, e23]
              refine wpOp_step rfl (fun K' hK => ?_)
              go_simp
              exact hK _ _ ⟨undef, (by simp [upd, e26, e23]), rfl, hgx, Below.refl _ _⟩
            · 
              try dsimp only
              have e25 : t 25 = undef := dep (F := fun i v (_ : World) => v = viT1 w wr s bb off c k 0 s.held[k] a0 c0 pv i) (t := t) (w := wx) hdep 25 (by kernel_rfl)
              have e27 : t 27 = undef := dep (F := fun i v (_ : World) => v = viT1 w wr s bb off c k 0 s.held[k] a0 c0 pv i) (t := t) (w := wx) hdep 27 (by kernel_rfl)
              have e23 : t 23 = undef := dep (F := fun i v (_ : World) => v = viT1 w wr s bb off c k 0 s.held[k] a0 c0 pv i) (t := t) (w := wx) hdep 23 (by kernel_rfl)
              rw [e25, e27, e23]
              refine wpOp_step rfl (fun K' hK => ?_)
              go_simp
              exact hK _ _ ⟨undef, (by simp [upd, e25, e27, e23]), rfl, hgx, Below.refl _ _⟩
            · 
              try dsimp only
              have e28 : t 28 = undef := dep (F := fun i v (_ : World) => v = viT1 w wr s bb off c k 0 s.held[k] a0 c0 pv i) (t := t) (w := wx) hdep 28 (by kernel_rfl)
              have e23 : t 23 = undef := dep (F := fun i v (_ : World) => v = viT1 w wr s bb off c k 0 s.held[k] a0 c0 pv i) (t := t) (w := wx) hdep 23 (by kernel_rfl)
              rw [e28, e23]
              refine wpOp_step rfl (fun K' hK => ?_)
              go_simp
              exact hK _ _ ⟨undef, (by simp [upd, e28, e23]), rfl, hgx, Below.refl _ _⟩
            · 
              try dsimp only
              have e29 : t 29 = undef := dep (F := fun i v (_ : World) => v = viT1 w wr s bb off c k 0 s.held[k] a0 c0 pv i) (t := t) (w := wx) hdep 29 (by kernel_rfl)
              have e23 : t 23 = undef := dep (F := fun i v (_ : World) => v = viT1 w wr s bb off c k 0 s.held[k] a0 c0 pv i) (t := t) (w := wx) hdep 23 (by kernel_rfl)
              rw [e29, e23]
              refine wpOp_step rfl (fun K' hK => ?_)
              go_simp
              exact hK _ _ ⟨undef, (by simp [upd, e29, e23]), rfl, hgx, Below.refl _ _⟩
            · 
              try dsimp only
              have e23 : t 23 = undef := dep (F := fun i v (_ : World) => v = viT1 w wr s bb off c k 0 s.held[k] a0 c0 pv i) (t := t) (w := wx) hdep 23 (by kernel_rfl)
              rw [e23]
              refine wpOp_step rfl (fun K' hK => ?_)
              go_simp
              exact hK _ _ ⟨undef, (by simp [upd, e23]), rfl, hgx, Below.refl _ _⟩
            · 
              try dsimp only
              have e31 : t 31 = undef := dep (F := fun i v (_ : World) => v = viT1 w wr s bb off c k 0 s.held[k] a0 c0 pv i) (t := t) (w := wx) hdep 31 (by kernel_rfl)
              have e23 : t 23 = undef := dep (F := fun i v (_ : World) => v = viT1 w wr s bb off c k 0 s.held[k] a0 c0 pv i) (t := t) (w := wx) hdep 23 (by kernel_rfl)
              rw [e31, e23]
              refine wpOp_step rfl (fun K' hK => ?_)
              go_simp
              exact hK _ _ ⟨undef, (by simp [upd, e31, e23]), rfl, hgx, Below.refl _ _⟩
            · 
              try dsimp only
              have e30 : t 30 = undef := dep (F := fun i v (_ : World) => v = viT1 w wr s bb off c k 0 s.held[k] a0 c0 pv i) (t := t) (w := wx) hdep 30 (by kernel_rfl)
              have e32 : t 32 = undef := dep (F := fun i v (_ : World) => v = viT1 w wr s bb off c k 0 s.held[k] a0 c0 pv i) (t := t) (w := wx) hdep 32 (by kernel_rfl)
              have e23 : t 23 = undef := dep (F := fun i v (_ : World) => v = viT1 w wr s bb off c k 0 s.held[k] a0 c0 pv i) (t := t) (w := wx) hdep 23 (by kernel_rfl)
              rw [e30, e32, e23]
              refine wpOp_step rfl (fun K' hK => ?_)
              go_simp
              exact hK _ _ ⟨undef, (by simp [upd, e30, e32, e23]), rfl, hgx, Below.refl _ _⟩
            · 
              try dsimp only
              have e23 : t 23 = undef := dep (F := fun i v (_ : World) => v = viT1 w wr s bb off c k 0 s.held[k] a0 c0 pv i) (t := t) (w := wx) hdep 23 (by kernel_rfl)
              have e33 : t 33 = undef := dep (F := fun i v (_ : World) => v = viT1 w wr s bb off c k 0 s.held[k] a0 c0 pv i) (t := t) (w := wx) hdep 33 (by kernel_rfl)
              have e20 : t 20 = .bool true := dep (F := fun i v (_ : World) => v = viT1 w wr s bb off c k 0 s.held[k] a0 c0 pv i) (t := t) (w := wx) hdep 20 (by kernel_rfl)
              rw [e23, e33, e20]
              refine wpOp_step rfl (fun K' hK => ?_)
              go_simp
              exact hK _ _ ⟨undef, (by simp [upd, e23, e33, e20]), rfl, hgx, Below.refl _ _⟩
            · 
              try dsimp only
              have e20 : t 20 = .bool true := dep (F := fun i v (_ : World) => v = viT1 w wr s bb off c k 0 s.held[k] a0 c0 pv i) (t := t) (w := wx) hdep 20 (by kernel_rfl)
              have e34 : t 34 = undef := dep (F := fun i v (_ : World) => v = viT1 w wr s bb off c k 0 s.held[k] a0 c0 pv i) (t := t) (w := wx) hdep 34 (by kernel_rfl)
              rw [e20, e34]
              refine wpOp_step rfl (fun K' hK => ?_)
              go_simp
              exact hK _ _ ⟨.bool true, (by simp [upd, e20, e34]), rfl, hgx, Below.refl _ _⟩
          · intro t wx hgx hall
            have HWW := hid hgx
            have hw' : Hid (Below w.heap.size w wx) := hid (below_chain HBW.out hgx)
            have e35 : t 35 = .bool true := hall 35 (by omega)
            clear hall hgx
            try dsimp only
            rw [e35]
            clear e35
            generalize t 0 = v0
            generalize t 1 = v1
            generalize t 2 = v2
            generalize t 3 = v3
            generalize t 4 = v4
            generalize t 5 = v5
            generalize t 6 = v6
            generalize t 7 = v7
            generalize t 8 = v8
            generalize t 9 = v9
            generalize t 10 = v10
            generalize t 11 = v11
            generalize t 12 = v12
            generalize t 13 = v13
            generalize t 14 = v14
            generalize t 15 = v15
            generalize t 16 = v16
            generalize t 17 = v17
            generalize t 18 = v18
            generalize t 19 = v19
            generalize t 20 = v20
            generalize t 21 = v21
            generalize t 22 = v22
            generalize t 23 = v23
            generalize t 24 = v24
            generalize t 25 = v25
            generalize t 26 = v26
            generalize t 27 = v27
            generalize t 28 = v28
            generalize t 29 = v29
            generalize t 30 = v30
            generalize t 31 = v31
            generalize t 32 = v32
            generalize t 33 = v33
            generalize t 34 = v34
            clear t
            go_wp2
            go_ret
            exact ⟨(by rw [HZ.out]; first | done | rfl), hw'.out⟩
        have Hs1 := hid s1
        have s1t : decide (s.held[k].seq ≤ s.expect) = false := by simp; omega
        clear s1
        by_cases s2 : s.expect + 8 ≤ s.held[k].seq
        · have Hs2 := hid s2
          have s2t : decide (s.expect + 8 ≤ s.held[k].seq) = true := by simp; omega
          clear s2
          have HZ := hid (HWk.out (by rw [HOW.out]; rw [decide_eq_false (p := _ ∧ _) (fun h => by have := Hs2.out; omega)]; simp))
          refine region_facts (n := 36) (by kernel_rfl) (by kernel_rfl) ?_ (fun t => { tmps := #[.agg #[.int .i64 s.epoch, .int .i64 s.expect, .slice (some ⟨bb, off, none⟩) s.held.length c, .slice b s.part.length d], .pointer (some ⟨w.heap.size, 0, none⟩), u2, .int .i64 (k : Int), .pointer (some ⟨wr.heap.size, 0, none⟩), .pointer (some ⟨w.heap.size, 0, none⟩), .int .i64 s.epoch, .bool false, .bool false, .pointer (some ⟨w.heap.size, 0, none⟩), .int .i64 s.epoch, .bool false, .bool false, .bool false, .pointer (some ⟨w.heap.size, 1, none⟩), .int .i64 s.expect, .bool false, .bool false, .bool false, .pointer (some ⟨w.heap.size, 1, none⟩), .int .i64 s.expect, .bool false, .bool false, .bool false, .pointer (some ⟨w.heap.size, 3, none⟩), .slice b s.part.length d, .int .i64 (s.part.length : Int), .bool false, .bool false, .int .i64 (k : Int), .pointer (some ⟨w.heap.size, 2, none⟩), .slice (some ⟨bb, off, none⟩) s.held.length c, .int .i64 (s.held.length : Int), .bool true, u34, u35, .pointer (some ⟨w.heap.size, 2, none⟩), .slice (some ⟨bb, off, none⟩) s.held.length c, .int .i64 (k : Int), .pointer (some ⟨bb, off + k * 6, none⟩), .agg #[.int .i64 s.held[k].kind, .int .i64 s.held[k].epoch, .int .i64 s.held[k].seq, .int .i64 s.held[k].count, .bool s.held[k].last, .slice a0 s.held[k].data.length c0], t 0, t 1, t 2, t 3, t 4, t 5, t 6, t 7, t 8, t 9, t 10, t 11, t 12, t 13, t 14, t 15, t 16, t 17, t 18, t 19, t 20, t 21, t 22, t 23, t 24, t 25, t 26, t 27, t 28, t 29, t 30, t 31, t 32, t 33, t 34, t 35], defers := [] }) (fun i v _ => v = viT2 w wr s bb off c k 0 s.held[k] a0 c0 pv i) (fun wx => Below W.heap.size W wx) W (fun _ _ _ _ h _ => h) (fun j => ([u41, u42, u43, u44, u45, u46, u47, u48, u49, u50, u51, u52, u53, u54, u55, u56, u57, u58, u59, u60, u61, u62, u63, u64, u65, u66, u67, u68, u69, u70, u71, u72, u73, u74, u75, u76] : List Value).getD j undef) ((Below.refl _ W).drew) ?_ ?_
          · rfl
          · intro i hi t wx hgx hdep
            have kp : ∀ p v, W.cell? p = some v → wx.cell? p = some v := fun p v h => (hgx.cell (World.block_lt_of_cell? W _ h)).trans h
            replace p0 := kp _ _ p0
            replace p1 := kp _ _ p1
            replace p2 := kp _ _ p2
            replace q0 := kp _ _ q0
            replace q1 := kp _ _ q1
            replace q2 := kp _ _ q2
            replace q3 := kp _ _ q3
            replace q4 := kp _ _ q4
            replace q5 := kp _ _ q5
            clear kp
            rcases (by omega : i = 0 ∨ i = 1 ∨ i = 2 ∨ i = 3 ∨ i = 4 ∨ i = 5 ∨ i = 6 ∨ i = 7 ∨ i = 8 ∨ i = 9 ∨ i = 10 ∨ i = 11 ∨ i = 12 ∨ i = 13 ∨ i = 14 ∨ i = 15 ∨ i = 16 ∨ i = 17 ∨ i = 18 ∨ i = 19 ∨ i = 20 ∨ i = 21 ∨ i = 22 ∨ i = 23 ∨ i = 24 ∨ i = 25 ∨ i = 26 ∨ i = 27 ∨ i = 28 ∨ i = 29 ∨ i = 30 ∨ i = 31 ∨ i = 32 ∨ i = 33 ∨ i = 34 ∨ i = 35) with rfl | rfl | rfl | rfl | rfl | rfl | rfl | rfl | rfl | rfl | rfl | rfl | rfl | rfl | rfl | rfl | rfl | rfl | rfl | rfl | rfl | rfl | rfl | rfl | rfl | rfl | rfl | rfl | rfl | rfl | rfl | rfl | rfl | rfl | rfl | rfl
            · 
              try dsimp only
              refine wpOp_step rfl (fun K' hK => ?_)
              go_simp
              exact hK _ _ ⟨.agg #[.int .i64 s.held[k].kind, .int .i64 s.held[k].epoch, .int .i64 s.held[k].seq, .int .i64 s.held[k].count, .bool s.held[k].last, .slice a0 s.held[k].data.length c0], (by simp [upd]), rfl, hgx, Below.refl _ _⟩
            · 
              try dsimp only
              refine wpOp_step rfl (fun K' hK => ?_)
              go_simp
              exact hK _ _ ⟨.pointer (some ⟨w.heap.size, 0, none⟩), (by simp [upd]), rfl, hgx, Below.refl _ _⟩
            · 
              try dsimp only
              have e1 : t 1 = .pointer (some ⟨w.heap.size, 0, none⟩) := dep (F := fun i v (_ : World) => v = viT2 w wr s bb off c k 0 s.held[k] a0 c0 pv i) (t := t) (w := wx) hdep 1 (by kernel_rfl)
              rw [e1]
              refine wpOp_step rfl (fun K' hK => ?_)
              go_simp
              exact hK _ _ ⟨.int .i64 s.epoch, (by simp [upd, e1]), rfl, hgx, Below.refl _ _⟩
            · 
              try dsimp only
              have e0 : t 0 = .agg #[.int .i64 s.held[k].kind, .int .i64 s.held[k].epoch, .int .i64 s.held[k].seq, .int .i64 s.held[k].count, .bool s.held[k].last, .slice a0 s.held[k].data.length c0] := dep (F := fun i v (_ : World) => v = viT2 w wr s bb off c k 0 s.held[k] a0 c0 pv i) (t := t) (w := wx) hdep 0 (by kernel_rfl)
              have e2 : t 2 = .int .i64 s.epoch := dep (F := fun i v (_ : World) => v = viT2 w wr s bb off c k 0 s.held[k] a0 c0 pv i) (t := t) (w := wx) hdep 2 (by kernel_rfl)
              rw [e0, e2]
              refine wpOp_step rfl (fun K' hK => ?_)
              go_simp
              refine (HL5.out wx).mono ?_
              rintro e w2 ⟨rfl, b2⟩
              rw [HOK.out]
              exact hK _ _ ⟨.bool true, (by simp [upd, e0, e2]), rfl, below_chain hgx b2, b2⟩
            · 
              try dsimp only
              have e3 : t 3 = .bool true := dep (F := fun i v (_ : World) => v = viT2 w wr s bb off c k 0 s.held[k] a0 c0 pv i) (t := t) (w := wx) hdep 3 (by kernel_rfl)
              rw [e3]
              refine wpOp_step rfl (fun K' hK => ?_)
              go_simp
              exact hK _ _ ⟨.bool false, (by simp [upd, e3]), rfl, hgx, Below.refl _ _⟩
            · 
              try dsimp only
              have e4 : t 4 = .bool false := dep (F := fun i v (_ : World) => v = viT2 w wr s bb off c k 0 s.held[k] a0 c0 pv i) (t := t) (w := wx) hdep 4 (by kernel_rfl)
              rw [e4]
              refine wpOp_step rfl (fun K' hK => ?_)
              go_simp
              exact hK _ _ ⟨.bool false, (by simp [upd, e4]), rfl, hgx, Below.refl _ _⟩
            · 
              try dsimp only
              have e5 : t 5 = .bool false := dep (F := fun i v (_ : World) => v = viT2 w wr s bb off c k 0 s.held[k] a0 c0 pv i) (t := t) (w := wx) hdep 5 (by kernel_rfl)
              rw [e5]
              refine wpOp_step rfl (fun K' hK => ?_)
              go_simp
              exact hK _ _ ⟨.pointer (some ⟨wr.heap.size, 2, none⟩), (by simp [upd, e5]), rfl, hgx, Below.refl _ _⟩
            · 
              try dsimp only
              have e6 : t 6 = .pointer (some ⟨wr.heap.size, 2, none⟩) := dep (F := fun i v (_ : World) => v = viT2 w wr s bb off c k 0 s.held[k] a0 c0 pv i) (t := t) (w := wx) hdep 6 (by kernel_rfl)
              have e5 : t 5 = .bool false := dep (F := fun i v (_ : World) => v = viT2 w wr s bb off c k 0 s.held[k] a0 c0 pv i) (t := t) (w := wx) hdep 5 (by kernel_rfl)
              rw [e6, e5]
              refine wpOp_step rfl (fun K' hK => ?_)
              go_simp
              exact hK _ _ ⟨.int .i64 s.held[k].seq, (by simp [upd, e6, e5]), rfl, hgx, Below.refl _ _⟩
            · 
              try dsimp only
              have e5 : t 5 = .bool false := dep (F := fun i v (_ : World) => v = viT2 w wr s bb off c k 0 s.held[k] a0 c0 pv i) (t := t) (w := wx) hdep 5 (by kernel_rfl)
              rw [e5]
              refine wpOp_step rfl (fun K' hK => ?_)
              go_simp
              exact hK _ _ ⟨.pointer (some ⟨w.heap.size, 1, none⟩), (by simp [upd, e5]), rfl, hgx, Below.refl _ _⟩
            · 
              try dsimp only
              have e8 : t 8 = .pointer (some ⟨w.heap.size, 1, none⟩) := dep (F := fun i v (_ : World) => v = viT2 w wr s bb off c k 0 s.held[k] a0 c0 pv i) (t := t) (w := wx) hdep 8 (by kernel_rfl)
              have e5 : t 5 = .bool false := dep (F := fun i v (_ : World) => v = viT2 w wr s bb off c k 0 s.held[k] a0 c0 pv i) (t := t) (w := wx) hdep 5 (by kernel_rfl)
              rw [e8, e5]
              refine wpOp_step rfl (fun K' hK => ?_)
              go_simp
              exact hK _ _ ⟨.int .i64 s.expect, (by simp [upd, e8, e5]), rfl, hgx, Below.refl _ _⟩
            · 
              try dsimp only
              have e7 : t 7 = .int .i64 s.held[k].seq := dep (F := fun i v (_ : World) => v = viT2 w wr s bb off c k 0 s.held[k] a0 c0 pv i) (t := t) (w := wx) hdep 7 (by kernel_rfl)
              have e9 : t 9 = .int .i64 s.expect := dep (F := fun i v (_ : World) => v = viT2 w wr s bb off c k 0 s.held[k] a0 c0 pv i) (t := t) (w := wx) hdep 9 (by kernel_rfl)
              have e5 : t 5 = .bool false := dep (F := fun i v (_ : World) => v = viT2 w wr s bb off c k 0 s.held[k] a0 c0 pv i) (t := t) (w := wx) hdep 5 (by kernel_rfl)
              rw [e7, e9, e5]
              refine wpOp_step rfl (fun K' hK => ?_)
              go_simp
              exact hK _ _ ⟨.bool false, (by simp [upd, e7, e9, e5]), rfl, hgx, Below.refl _ _⟩
            · 
              try dsimp only
              have e5 : t 5 = .bool false := dep (F := fun i v (_ : World) => v = viT2 w wr s bb off c k 0 s.held[k] a0 c0 pv i) (t := t) (w := wx) hdep 5 (by kernel_rfl)
              have e10 : t 10 = .bool false := dep (F := fun i v (_ : World) => v = viT2 w wr s bb off c k 0 s.held[k] a0 c0 pv i) (t := t) (w := wx) hdep 10 (by kernel_rfl)
              rw [e5, e10]
              refine wpOp_step rfl (fun K' hK => ?_)
              go_simp
              exact hK _ _ ⟨.bool false, (by simp [upd, e5, e10]), rfl, hgx, Below.refl _ _⟩
            · 
              try dsimp only
              have e11 : t 11 = .bool false := dep (F := fun i v (_ : World) => v = viT2 w wr s bb off c k 0 s.held[k] a0 c0 pv i) (t := t) (w := wx) hdep 11 (by kernel_rfl)
              rw [e11]
              refine wpOp_step rfl (fun K' hK => ?_)
              go_simp
              exact hK _ _ ⟨.bool false, (by simp [upd, e11]), rfl, hgx, Below.refl _ _⟩
            · 
              try dsimp only
              have e12 : t 12 = .bool false := dep (F := fun i v (_ : World) => v = viT2 w wr s bb off c k 0 s.held[k] a0 c0 pv i) (t := t) (w := wx) hdep 12 (by kernel_rfl)
              rw [e12]
              refine wpOp_step rfl (fun K' hK => ?_)
              go_simp
              exact hK _ _ ⟨.pointer (some ⟨wr.heap.size, 2, none⟩), (by simp [upd, e12]), rfl, hgx, Below.refl _ _⟩
            · 
              try dsimp only
              have e13 : t 13 = .pointer (some ⟨wr.heap.size, 2, none⟩) := dep (F := fun i v (_ : World) => v = viT2 w wr s bb off c k 0 s.held[k] a0 c0 pv i) (t := t) (w := wx) hdep 13 (by kernel_rfl)
              have e12 : t 12 = .bool false := dep (F := fun i v (_ : World) => v = viT2 w wr s bb off c k 0 s.held[k] a0 c0 pv i) (t := t) (w := wx) hdep 12 (by kernel_rfl)
              rw [e13, e12]
              refine wpOp_step rfl (fun K' hK => ?_)
              go_simp
              exact hK _ _ ⟨.int .i64 s.held[k].seq, (by simp [upd, e13, e12]), rfl, hgx, Below.refl _ _⟩
            · 
              try dsimp only
              have e12 : t 12 = .bool false := dep (F := fun i v (_ : World) => v = viT2 w wr s bb off c k 0 s.held[k] a0 c0 pv i) (t := t) (w := wx) hdep 12 (by kernel_rfl)
              rw [e12]
              refine wpOp_step rfl (fun K' hK => ?_)
              go_simp
              exact hK _ _ ⟨.pointer (some ⟨w.heap.size, 1, none⟩), (by simp [upd, e12]), rfl, hgx, Below.refl _ _⟩
            · 
              try dsimp only
              have e15 : t 15 = .pointer (some ⟨w.heap.size, 1, none⟩) := dep (F := fun i v (_ : World) => v = viT2 w wr s bb off c k 0 s.held[k] a0 c0 pv i) (t := t) (w := wx) hdep 15 (by kernel_rfl)
              have e12 : t 12 = .bool false := dep (F := fun i v (_ : World) => v = viT2 w wr s bb off c k 0 s.held[k] a0 c0 pv i) (t := t) (w := wx) hdep 12 (by kernel_rfl)
              rw [e15, e12]
              refine wpOp_step rfl (fun K' hK => ?_)
              go_simp
              exact hK _ _ ⟨.int .i64 s.expect, (by simp [upd, e15, e12]), rfl, hgx, Below.refl _ _⟩
            · 
              try dsimp only
              have e16 : t 16 = .int .i64 s.expect := dep (F := fun i v (_ : World) => v = viT2 w wr s bb off c k 0 s.held[k] a0 c0 pv i) (t := t) (w := wx) hdep 16 (by kernel_rfl)
              have e12 : t 12 = .bool false := dep (F := fun i v (_ : World) => v = viT2 w wr s bb off c k 0 s.held[k] a0 c0 pv i) (t := t) (w := wx) hdep 12 (by kernel_rfl)
              rw [e16, e12]
              refine wpOp_step rfl (fun K' hK => ?_)
              go_simp
              exact hK _ _ ⟨.int .i64 (s.expect + 8), (by simp [upd, e16, e12, HWE.out]), rfl, hgx, Below.refl _ _⟩
            · 
              try dsimp only
              have e14 : t 14 = .int .i64 s.held[k].seq := dep (F := fun i v (_ : World) => v = viT2 w wr s bb off c k 0 s.held[k] a0 c0 pv i) (t := t) (w := wx) hdep 14 (by kernel_rfl)
              have e17 : t 17 = .int .i64 (s.expect + 8) := dep (F := fun i v (_ : World) => v = viT2 w wr s bb off c k 0 s.held[k] a0 c0 pv i) (t := t) (w := wx) hdep 17 (by kernel_rfl)
              have e12 : t 12 = .bool false := dep (F := fun i v (_ : World) => v = viT2 w wr s bb off c k 0 s.held[k] a0 c0 pv i) (t := t) (w := wx) hdep 12 (by kernel_rfl)
              rw [e14, e17, e12]
              refine wpOp_step rfl (fun K' hK => ?_)
              go_simp
              exact hK _ _ ⟨.bool true, (by simp [upd, e14, e17, e12]), rfl, hgx, Below.refl _ _⟩
            · 
              try dsimp only
              have e12 : t 12 = .bool false := dep (F := fun i v (_ : World) => v = viT2 w wr s bb off c k 0 s.held[k] a0 c0 pv i) (t := t) (w := wx) hdep 12 (by kernel_rfl)
              have e18 : t 18 = .bool true := dep (F := fun i v (_ : World) => v = viT2 w wr s bb off c k 0 s.held[k] a0 c0 pv i) (t := t) (w := wx) hdep 18 (by kernel_rfl)
              rw [e12, e18]
              refine wpOp_step rfl (fun K' hK => ?_)
              go_simp
              exact hK _ _ ⟨.bool true, (by simp [upd, e12, e18]), rfl, hgx, Below.refl _ _⟩
            · 
              try dsimp only
              have e19 : t 19 = .bool true := dep (F := fun i v (_ : World) => v = viT2 w wr s bb off c k 0 s.held[k] a0 c0 pv i) (t := t) (w := wx) hdep 19 (by kernel_rfl)
              rw [e19]
              refine wpOp_step rfl (fun K' hK => ?_)
              go_simp
              exact hK _ _ ⟨.bool true, (by simp [upd, e19]), rfl, hgx, Below.refl _ _⟩
            · 
              try dsimp only
              have e20 : t 20 = .bool true := dep (F := fun i v (_ : World) => v = viT2 w wr s bb off c k 0 s.held[k] a0 c0 pv i) (t := t) (w := wx) hdep 20 (by kernel_rfl)
              rw [e20]
              refine wpOp_step rfl (fun K' hK => ?_)
              go_simp
              exact hK _ _ ⟨undef, (by simp [upd, e20]), rfl, hgx, Below.refl _ _⟩
            · 
              try dsimp only
              have e21 : t 21 = undef := dep (F := fun i v (_ : World) => v = viT2 w wr s bb off c k 0 s.held[k] a0 c0 pv i) (t := t) (w := wx) hdep 21 (by kernel_rfl)
              have e20 : t 20 = .bool true := dep (F := fun i v (_ : World) => v = viT2 w wr s bb off c k 0 s.held[k] a0 c0 pv i) (t := t) (w := wx) hdep 20 (by kernel_rfl)
              rw [e21, e20]
              refine wpOp_step rfl (fun K' hK => ?_)
              go_simp
              exact hK _ _ ⟨undef, (by simp [upd, e21, e20]), rfl, hgx, Below.refl _ _⟩
            · 
              try dsimp only
              have e22 : t 22 = undef := dep (F := fun i v (_ : World) => v = viT2 w wr s bb off c k 0 s.held[k] a0 c0 pv i) (t := t) (w := wx) hdep 22 (by kernel_rfl)
              have e20 : t 20 = .bool true := dep (F := fun i v (_ : World) => v = viT2 w wr s bb off c k 0 s.held[k] a0 c0 pv i) (t := t) (w := wx) hdep 20 (by kernel_rfl)
              rw [e22, e20]
              refine wpOp_step rfl (fun K' hK => ?_)
              go_simp
              exact hK _ _ ⟨undef, (by simp [upd, e22, e20]), rfl, hgx, Below.refl _ _⟩
            · 
              try dsimp only
              have e23 : t 23 = undef := dep (F := fun i v (_ : World) => v = viT2 w wr s bb off c k 0 s.held[k] a0 c0 pv i) (t := t) (w := wx) hdep 23 (by kernel_rfl)
              rw [e23]
              refine wpOp_step rfl (fun K' hK => ?_)
              go_simp
              exact hK _ _ ⟨undef, (by simp [upd, e23]), rfl, hgx, Below.refl _ _⟩
            · 
              try dsimp only
              have e24 : t 24 = undef := dep (F := fun i v (_ : World) => v = viT2 w wr s bb off c k 0 s.held[k] a0 c0 pv i) (t := t) (w := wx) hdep 24 (by kernel_rfl)
              have e23 : t 23 = undef := dep (F := fun i v (_ : World) => v = viT2 w wr s bb off c k 0 s.held[k] a0 c0 pv i) (t := t) (w := wx) hdep 23 (by kernel_rfl)
              rw [e24, e23]
              refine wpOp_step rfl (fun K' hK => ?_)
              go_simp
              exact hK _ _ ⟨undef, (by simp [upd, e24, e23]), rfl, hgx, Below.refl _ _⟩
            · 
              try dsimp only
              have e23 : t 23 = undef := dep (F := fun i v (_ : World) => v = viT2 w wr s bb off c k 0 s.held[k] a0 c0 pv i) (t := t) (w := wx) hdep 23 (by kernel_rfl)
              rw [e23]
              refine wpOp_step rfl (fun K' hK => ?_)
              go_simp
              exact hK _ _ ⟨undef, (by simp [upd, e23]), rfl, hgx, Below.refl _ _⟩
            · 
              try dsimp only
              have e26 : t 26 = undef := dep (F := fun i v (_ : World) => v = viT2 w wr s bb off c k 0 s.held[k] a0 c0 pv i) (t := t) (w := wx) hdep 26 (by kernel_rfl)
              have e23 : t 23 = undef := dep (F := fun i v (_ : World) => v = viT2 w wr s bb off c k 0 s.held[k] a0 c0 pv i) (t := t) (w := wx) hdep 23 (by kernel_rfl)
              rw [e26, e23]
              refine wpOp_step rfl (fun K' hK => ?_)
              go_simp
              exact hK _ _ ⟨undef, (by simp [upd, e26, e23]), rfl, hgx, Below.refl _ _⟩
            · 
              try dsimp only
              have e25 : t 25 = undef := dep (F := fun i v (_ : World) => v = viT2 w wr s bb off c k 0 s.held[k] a0 c0 pv i) (t := t) (w := wx) hdep 25 (by kernel_rfl)
              have e27 : t 27 = undef := dep (F := fun i v (_ : World) => v = viT2 w wr s bb off c k 0 s.held[k] a0 c0 pv i) (t := t) (w := wx) hdep 27 (by kernel_rfl)
              have e23 : t 23 = undef := dep (F := fun i v (_ : World) => v = viT2 w wr s bb off c k 0 s.held[k] a0 c0 pv i) (t := t) (w := wx) hdep 23 (by kernel_rfl)
              rw [e25, e27, e23]
              refine wpOp_step rfl (fun K' hK => ?_)
              go_simp
              exact hK _ _ ⟨undef, (by simp [upd, e25, e27, e23]), rfl, hgx, Below.refl _ _⟩
            · 
              try dsimp only
              have e28 : t 28 = undef := dep (F := fun i v (_ : World) => v = viT2 w wr s bb off c k 0 s.held[k] a0 c0 pv i) (t := t) (w := wx) hdep 28 (by kernel_rfl)
              have e23 : t 23 = undef := dep (F := fun i v (_ : World) => v = viT2 w wr s bb off c k 0 s.held[k] a0 c0 pv i) (t := t) (w := wx) hdep 23 (by kernel_rfl)
              rw [e28, e23]
              refine wpOp_step rfl (fun K' hK => ?_)
              go_simp
              exact hK _ _ ⟨undef, (by simp [upd, e28, e23]), rfl, hgx, Below.refl _ _⟩
            · 
              try dsimp only
              have e29 : t 29 = undef := dep (F := fun i v (_ : World) => v = viT2 w wr s bb off c k 0 s.held[k] a0 c0 pv i) (t := t) (w := wx) hdep 29 (by kernel_rfl)
              have e23 : t 23 = undef := dep (F := fun i v (_ : World) => v = viT2 w wr s bb off c k 0 s.held[k] a0 c0 pv i) (t := t) (w := wx) hdep 23 (by kernel_rfl)
              rw [e29, e23]
              refine wpOp_step rfl (fun K' hK => ?_)
              go_simp
              exact hK _ _ ⟨undef, (by simp [upd, e29, e23]), rfl, hgx, Below.refl _ _⟩
            · 
              try dsimp only
              have e23 : t 23 = undef := dep (F := fun i v (_ : World) => v = viT2 w wr s bb off c k 0 s.held[k] a0 c0 pv i) (t := t) (w := wx) hdep 23 (by kernel_rfl)
              rw [e23]
              refine wpOp_step rfl (fun K' hK => ?_)
              go_simp
              exact hK _ _ ⟨undef, (by simp [upd, e23]), rfl, hgx, Below.refl _ _⟩
            · 
              try dsimp only
              have e31 : t 31 = undef := dep (F := fun i v (_ : World) => v = viT2 w wr s bb off c k 0 s.held[k] a0 c0 pv i) (t := t) (w := wx) hdep 31 (by kernel_rfl)
              have e23 : t 23 = undef := dep (F := fun i v (_ : World) => v = viT2 w wr s bb off c k 0 s.held[k] a0 c0 pv i) (t := t) (w := wx) hdep 23 (by kernel_rfl)
              rw [e31, e23]
              refine wpOp_step rfl (fun K' hK => ?_)
              go_simp
              exact hK _ _ ⟨undef, (by simp [upd, e31, e23]), rfl, hgx, Below.refl _ _⟩
            · 
              try dsimp only
              have e30 : t 30 = undef := dep (F := fun i v (_ : World) => v = viT2 w wr s bb off c k 0 s.held[k] a0 c0 pv i) (t := t) (w := wx) hdep 30 (by kernel_rfl)
              have e32 : t 32 = undef := dep (F := fun i v (_ : World) => v = viT2 w wr s bb off c k 0 s.held[k] a0 c0 pv i) (t := t) (w := wx) hdep 32 (by kernel_rfl)
              have e23 : t 23 = undef := dep (F := fun i v (_ : World) => v = viT2 w wr s bb off c k 0 s.held[k] a0 c0 pv i) (t := t) (w := wx) hdep 23 (by kernel_rfl)
              rw [e30, e32, e23]
              refine wpOp_step rfl (fun K' hK => ?_)
              go_simp
              exact hK _ _ ⟨undef, (by simp [upd, e30, e32, e23]), rfl, hgx, Below.refl _ _⟩
            · 
              try dsimp only
              have e23 : t 23 = undef := dep (F := fun i v (_ : World) => v = viT2 w wr s bb off c k 0 s.held[k] a0 c0 pv i) (t := t) (w := wx) hdep 23 (by kernel_rfl)
              have e33 : t 33 = undef := dep (F := fun i v (_ : World) => v = viT2 w wr s bb off c k 0 s.held[k] a0 c0 pv i) (t := t) (w := wx) hdep 33 (by kernel_rfl)
              have e20 : t 20 = .bool true := dep (F := fun i v (_ : World) => v = viT2 w wr s bb off c k 0 s.held[k] a0 c0 pv i) (t := t) (w := wx) hdep 20 (by kernel_rfl)
              rw [e23, e33, e20]
              refine wpOp_step rfl (fun K' hK => ?_)
              go_simp
              exact hK _ _ ⟨undef, (by simp [upd, e23, e33, e20]), rfl, hgx, Below.refl _ _⟩
            · 
              try dsimp only
              have e20 : t 20 = .bool true := dep (F := fun i v (_ : World) => v = viT2 w wr s bb off c k 0 s.held[k] a0 c0 pv i) (t := t) (w := wx) hdep 20 (by kernel_rfl)
              have e34 : t 34 = undef := dep (F := fun i v (_ : World) => v = viT2 w wr s bb off c k 0 s.held[k] a0 c0 pv i) (t := t) (w := wx) hdep 34 (by kernel_rfl)
              rw [e20, e34]
              refine wpOp_step rfl (fun K' hK => ?_)
              go_simp
              exact hK _ _ ⟨.bool true, (by simp [upd, e20, e34]), rfl, hgx, Below.refl _ _⟩
          · intro t wx hgx hall
            have HWW := hid hgx
            have hw' : Hid (Below w.heap.size w wx) := hid (below_chain HBW.out hgx)
            have e35 : t 35 = .bool true := hall 35 (by omega)
            clear hall hgx
            try dsimp only
            rw [e35]
            clear e35
            generalize t 0 = v0
            generalize t 1 = v1
            generalize t 2 = v2
            generalize t 3 = v3
            generalize t 4 = v4
            generalize t 5 = v5
            generalize t 6 = v6
            generalize t 7 = v7
            generalize t 8 = v8
            generalize t 9 = v9
            generalize t 10 = v10
            generalize t 11 = v11
            generalize t 12 = v12
            generalize t 13 = v13
            generalize t 14 = v14
            generalize t 15 = v15
            generalize t 16 = v16
            generalize t 17 = v17
            generalize t 18 = v18
            generalize t 19 = v19
            generalize t 20 = v20
            generalize t 21 = v21
            generalize t 22 = v22
            generalize t 23 = v23
            generalize t 24 = v24
            generalize t 25 = v25
            generalize t 26 = v26
            generalize t 27 = v27
            generalize t 28 = v28
            generalize t 29 = v29
            generalize t 30 = v30
            generalize t 31 = v31
            generalize t 32 = v32
            generalize t 33 = v33
            generalize t 34 = v34
            clear t
            go_wp2
            go_ret
            exact ⟨(by rw [HZ.out]; first | done | rfl), hw'.out⟩
        have Hs2 := hid s2
        have s2t : decide (s.expect + 8 ≤ s.held[k].seq) = false := by simp; omega
        clear s2
        by_cases k0 : k = 0
        · have HKZ := hid k0
          have HP0 := hid (HPZ.out k0)
          have k0t : decide ((0 : Int) < (k : Int)) = false := by simp; omega
          have HT := hid (HNX.out (by rw [HOW.out, HOK.out, decide_eq_true (by have := Hs1.out; have := Hs2.out; have := HP0.out; omega)]; rfl))
          clear k0
          refine region_facts (n := 36) (by kernel_rfl) (by kernel_rfl) ?_ (fun t => { tmps := #[.agg #[.int .i64 s.epoch, .int .i64 s.expect, .slice (some ⟨bb, off, none⟩) s.held.length c, .slice b s.part.length d], .pointer (some ⟨w.heap.size, 0, none⟩), u2, .int .i64 (k : Int), .pointer (some ⟨wr.heap.size, 0, none⟩), .pointer (some ⟨w.heap.size, 0, none⟩), .int .i64 s.epoch, .bool false, .bool false, .pointer (some ⟨w.heap.size, 0, none⟩), .int .i64 s.epoch, .bool false, .bool false, .bool false, .pointer (some ⟨w.heap.size, 1, none⟩), .int .i64 s.expect, .bool false, .bool false, .bool false, .pointer (some ⟨w.heap.size, 1, none⟩), .int .i64 s.expect, .bool false, .bool false, .bool false, .pointer (some ⟨w.heap.size, 3, none⟩), .slice b s.part.length d, .int .i64 (s.part.length : Int), .bool false, .bool false, .int .i64 (k : Int), .pointer (some ⟨w.heap.size, 2, none⟩), .slice (some ⟨bb, off, none⟩) s.held.length c, .int .i64 (s.held.length : Int), .bool true, u34, u35, .pointer (some ⟨w.heap.size, 2, none⟩), .slice (some ⟨bb, off, none⟩) s.held.length c, .int .i64 (k : Int), .pointer (some ⟨bb, off + k * 6, none⟩), .agg #[.int .i64 s.held[k].kind, .int .i64 s.held[k].epoch, .int .i64 s.held[k].seq, .int .i64 s.held[k].count, .bool s.held[k].last, .slice a0 s.held[k].data.length c0], t 0, t 1, t 2, t 3, t 4, t 5, t 6, t 7, t 8, t 9, t 10, t 11, t 12, t 13, t 14, t 15, t 16, t 17, t 18, t 19, t 20, t 21, t 22, t 23, t 24, t 25, t 26, t 27, t 28, t 29, t 30, t 31, t 32, t 33, t 34, t 35], defers := [] }) (fun i v _ => v = viT0 w wr s bb off c k 0 s.held[k] a0 c0 pv i) (fun wx => Below W.heap.size W wx) W (fun _ _ _ _ h _ => h) (fun j => ([u41, u42, u43, u44, u45, u46, u47, u48, u49, u50, u51, u52, u53, u54, u55, u56, u57, u58, u59, u60, u61, u62, u63, u64, u65, u66, u67, u68, u69, u70, u71, u72, u73, u74, u75, u76] : List Value).getD j undef) ((Below.refl _ W).drew) ?_ ?_
          · rfl
          · intro i hi t wx hgx hdep
            have kp : ∀ p v, W.cell? p = some v → wx.cell? p = some v := fun p v h => (hgx.cell (World.block_lt_of_cell? W _ h)).trans h
            replace p0 := kp _ _ p0
            replace p1 := kp _ _ p1
            replace p2 := kp _ _ p2
            replace q0 := kp _ _ q0
            replace q1 := kp _ _ q1
            replace q2 := kp _ _ q2
            replace q3 := kp _ _ q3
            replace q4 := kp _ _ q4
            replace q5 := kp _ _ q5
            clear kp
            rcases (by omega : i = 0 ∨ i = 1 ∨ i = 2 ∨ i = 3 ∨ i = 4 ∨ i = 5 ∨ i = 6 ∨ i = 7 ∨ i = 8 ∨ i = 9 ∨ i = 10 ∨ i = 11 ∨ i = 12 ∨ i = 13 ∨ i = 14 ∨ i = 15 ∨ i = 16 ∨ i = 17 ∨ i = 18 ∨ i = 19 ∨ i = 20 ∨ i = 21 ∨ i = 22 ∨ i = 23 ∨ i = 24 ∨ i = 25 ∨ i = 26 ∨ i = 27 ∨ i = 28 ∨ i = 29 ∨ i = 30 ∨ i = 31 ∨ i = 32 ∨ i = 33 ∨ i = 34 ∨ i = 35) with rfl | rfl | rfl | rfl | rfl | rfl | rfl | rfl | rfl | rfl | rfl | rfl | rfl | rfl | rfl | rfl | rfl | rfl | rfl | rfl | rfl | rfl | rfl | rfl | rfl | rfl | rfl | rfl | rfl | rfl | rfl | rfl | rfl | rfl | rfl | rfl
            · 
              try dsimp only
              refine wpOp_step rfl (fun K' hK => ?_)
              go_simp
              exact hK _ _ ⟨.agg #[.int .i64 s.held[k].kind, .int .i64 s.held[k].epoch, .int .i64 s.held[k].seq, .int .i64 s.held[k].count, .bool s.held[k].last, .slice a0 s.held[k].data.length c0], (by simp [upd]), rfl, hgx, Below.refl _ _⟩
            · 
              try dsimp only
              refine wpOp_step rfl (fun K' hK => ?_)
              go_simp
              exact hK _ _ ⟨.pointer (some ⟨w.heap.size, 0, none⟩), (by simp [upd]), rfl, hgx, Below.refl _ _⟩
            · 
              try dsimp only
              have e1 : t 1 = .pointer (some ⟨w.heap.size, 0, none⟩) := dep (F := fun i v (_ : World) => v = viT0 w wr s bb off c k 0 s.held[k] a0 c0 pv i) (t := t) (w := wx) hdep 1 (by kernel_rfl)
              rw [e1]
              refine wpOp_step rfl (fun K' hK => ?_)
              go_simp
              exact hK _ _ ⟨.int .i64 s.epoch, (by simp [upd, e1]), rfl, hgx, Below.refl _ _⟩
            · 
              try dsimp only
              have e0 : t 0 = .agg #[.int .i64 s.held[k].kind, .int .i64 s.held[k].epoch, .int .i64 s.held[k].seq, .int .i64 s.held[k].count, .bool s.held[k].last, .slice a0 s.held[k].data.length c0] := dep (F := fun i v (_ : World) => v = viT0 w wr s bb off c k 0 s.held[k] a0 c0 pv i) (t := t) (w := wx) hdep 0 (by kernel_rfl)
              have e2 : t 2 = .int .i64 s.epoch := dep (F := fun i v (_ : World) => v = viT0 w wr s bb off c k 0 s.held[k] a0 c0 pv i) (t := t) (w := wx) hdep 2 (by kernel_rfl)
              rw [e0, e2]
              refine wpOp_step rfl (fun K' hK => ?_)
              go_simp
              refine (HL5.out wx).mono ?_
              rintro e w2 ⟨rfl, b2⟩
              rw [HOK.out]
              exact hK _ _ ⟨.bool true, (by simp [upd, e0, e2]), rfl, below_chain hgx b2, b2⟩
            · 
              try dsimp only
              have e3 : t 3 = .bool true := dep (F := fun i v (_ : World) => v = viT0 w wr s bb off c k 0 s.held[k] a0 c0 pv i) (t := t) (w := wx) hdep 3 (by kernel_rfl)
              rw [e3]
              refine wpOp_step rfl (fun K' hK => ?_)
              go_simp
              exact hK _ _ ⟨.bool false, (by simp [upd, e3]), rfl, hgx, Below.refl _ _⟩
            · 
              try dsimp only
              have e4 : t 4 = .bool false := dep (F := fun i v (_ : World) => v = viT0 w wr s bb off c k 0 s.held[k] a0 c0 pv i) (t := t) (w := wx) hdep 4 (by kernel_rfl)
              rw [e4]
              refine wpOp_step rfl (fun K' hK => ?_)
              go_simp
              exact hK _ _ ⟨.bool false, (by simp [upd, e4]), rfl, hgx, Below.refl _ _⟩
            · 
              try dsimp only
              have e5 : t 5 = .bool false := dep (F := fun i v (_ : World) => v = viT0 w wr s bb off c k 0 s.held[k] a0 c0 pv i) (t := t) (w := wx) hdep 5 (by kernel_rfl)
              rw [e5]
              refine wpOp_step rfl (fun K' hK => ?_)
              go_simp
              exact hK _ _ ⟨.pointer (some ⟨wr.heap.size, 2, none⟩), (by simp [upd, e5]), rfl, hgx, Below.refl _ _⟩
            · 
              try dsimp only
              have e6 : t 6 = .pointer (some ⟨wr.heap.size, 2, none⟩) := dep (F := fun i v (_ : World) => v = viT0 w wr s bb off c k 0 s.held[k] a0 c0 pv i) (t := t) (w := wx) hdep 6 (by kernel_rfl)
              have e5 : t 5 = .bool false := dep (F := fun i v (_ : World) => v = viT0 w wr s bb off c k 0 s.held[k] a0 c0 pv i) (t := t) (w := wx) hdep 5 (by kernel_rfl)
              rw [e6, e5]
              refine wpOp_step rfl (fun K' hK => ?_)
              go_simp
              exact hK _ _ ⟨.int .i64 s.held[k].seq, (by simp [upd, e6, e5]), rfl, hgx, Below.refl _ _⟩
            · 
              try dsimp only
              have e5 : t 5 = .bool false := dep (F := fun i v (_ : World) => v = viT0 w wr s bb off c k 0 s.held[k] a0 c0 pv i) (t := t) (w := wx) hdep 5 (by kernel_rfl)
              rw [e5]
              refine wpOp_step rfl (fun K' hK => ?_)
              go_simp
              exact hK _ _ ⟨.pointer (some ⟨w.heap.size, 1, none⟩), (by simp [upd, e5]), rfl, hgx, Below.refl _ _⟩
            · 
              try dsimp only
              have e8 : t 8 = .pointer (some ⟨w.heap.size, 1, none⟩) := dep (F := fun i v (_ : World) => v = viT0 w wr s bb off c k 0 s.held[k] a0 c0 pv i) (t := t) (w := wx) hdep 8 (by kernel_rfl)
              have e5 : t 5 = .bool false := dep (F := fun i v (_ : World) => v = viT0 w wr s bb off c k 0 s.held[k] a0 c0 pv i) (t := t) (w := wx) hdep 5 (by kernel_rfl)
              rw [e8, e5]
              refine wpOp_step rfl (fun K' hK => ?_)
              go_simp
              exact hK _ _ ⟨.int .i64 s.expect, (by simp [upd, e8, e5]), rfl, hgx, Below.refl _ _⟩
            · 
              try dsimp only
              have e7 : t 7 = .int .i64 s.held[k].seq := dep (F := fun i v (_ : World) => v = viT0 w wr s bb off c k 0 s.held[k] a0 c0 pv i) (t := t) (w := wx) hdep 7 (by kernel_rfl)
              have e9 : t 9 = .int .i64 s.expect := dep (F := fun i v (_ : World) => v = viT0 w wr s bb off c k 0 s.held[k] a0 c0 pv i) (t := t) (w := wx) hdep 9 (by kernel_rfl)
              have e5 : t 5 = .bool false := dep (F := fun i v (_ : World) => v = viT0 w wr s bb off c k 0 s.held[k] a0 c0 pv i) (t := t) (w := wx) hdep 5 (by kernel_rfl)
              rw [e7, e9, e5]
              refine wpOp_step rfl (fun K' hK => ?_)
              go_simp
              exact hK _ _ ⟨.bool false, (by simp [upd, e7, e9, e5]), rfl, hgx, Below.refl _ _⟩
            · 
              try dsimp only
              have e5 : t 5 = .bool false := dep (F := fun i v (_ : World) => v = viT0 w wr s bb off c k 0 s.held[k] a0 c0 pv i) (t := t) (w := wx) hdep 5 (by kernel_rfl)
              have e10 : t 10 = .bool false := dep (F := fun i v (_ : World) => v = viT0 w wr s bb off c k 0 s.held[k] a0 c0 pv i) (t := t) (w := wx) hdep 10 (by kernel_rfl)
              rw [e5, e10]
              refine wpOp_step rfl (fun K' hK => ?_)
              go_simp
              exact hK _ _ ⟨.bool false, (by simp [upd, e5, e10]), rfl, hgx, Below.refl _ _⟩
            · 
              try dsimp only
              have e11 : t 11 = .bool false := dep (F := fun i v (_ : World) => v = viT0 w wr s bb off c k 0 s.held[k] a0 c0 pv i) (t := t) (w := wx) hdep 11 (by kernel_rfl)
              rw [e11]
              refine wpOp_step rfl (fun K' hK => ?_)
              go_simp
              exact hK _ _ ⟨.bool false, (by simp [upd, e11]), rfl, hgx, Below.refl _ _⟩
            · 
              try dsimp only
              have e12 : t 12 = .bool false := dep (F := fun i v (_ : World) => v = viT0 w wr s bb off c k 0 s.held[k] a0 c0 pv i) (t := t) (w := wx) hdep 12 (by kernel_rfl)
              rw [e12]
              refine wpOp_step rfl (fun K' hK => ?_)
              go_simp
              exact hK _ _ ⟨.pointer (some ⟨wr.heap.size, 2, none⟩), (by simp [upd, e12]), rfl, hgx, Below.refl _ _⟩
            · 
              try dsimp only
              have e13 : t 13 = .pointer (some ⟨wr.heap.size, 2, none⟩) := dep (F := fun i v (_ : World) => v = viT0 w wr s bb off c k 0 s.held[k] a0 c0 pv i) (t := t) (w := wx) hdep 13 (by kernel_rfl)
              have e12 : t 12 = .bool false := dep (F := fun i v (_ : World) => v = viT0 w wr s bb off c k 0 s.held[k] a0 c0 pv i) (t := t) (w := wx) hdep 12 (by kernel_rfl)
              rw [e13, e12]
              refine wpOp_step rfl (fun K' hK => ?_)
              go_simp
              exact hK _ _ ⟨.int .i64 s.held[k].seq, (by simp [upd, e13, e12]), rfl, hgx, Below.refl _ _⟩
            · 
              try dsimp only
              have e12 : t 12 = .bool false := dep (F := fun i v (_ : World) => v = viT0 w wr s bb off c k 0 s.held[k] a0 c0 pv i) (t := t) (w := wx) hdep 12 (by kernel_rfl)
              rw [e12]
              refine wpOp_step rfl (fun K' hK => ?_)
              go_simp
              exact hK _ _ ⟨.pointer (some ⟨w.heap.size, 1, none⟩), (by simp [upd, e12]), rfl, hgx, Below.refl _ _⟩
            · 
              try dsimp only
              have e15 : t 15 = .pointer (some ⟨w.heap.size, 1, none⟩) := dep (F := fun i v (_ : World) => v = viT0 w wr s bb off c k 0 s.held[k] a0 c0 pv i) (t := t) (w := wx) hdep 15 (by kernel_rfl)
              have e12 : t 12 = .bool false := dep (F := fun i v (_ : World) => v = viT0 w wr s bb off c k 0 s.held[k] a0 c0 pv i) (t := t) (w := wx) hdep 12 (by kernel_rfl)
              rw [e15, e12]
              refine wpOp_step rfl (fun K' hK => ?_)
              go_simp
              exact hK _ _ ⟨.int .i64 s.expect, (by simp [upd, e15, e12]), rfl, hgx, Below.refl _ _⟩
            · 
              try dsimp only
              have e16 : t 16 = .int .i64 s.expect := dep (F := fun i v (_ : World) => v = viT0 w wr s bb off c k 0 s.held[k] a0 c0 pv i) (t := t) (w := wx) hdep 16 (by kernel_rfl)
              have e12 : t 12 = .bool false := dep (F := fun i v (_ : World) => v = viT0 w wr s bb off c k 0 s.held[k] a0 c0 pv i) (t := t) (w := wx) hdep 12 (by kernel_rfl)
              rw [e16, e12]
              refine wpOp_step rfl (fun K' hK => ?_)
              go_simp
              exact hK _ _ ⟨.int .i64 (s.expect + 8), (by simp [upd, e16, e12, HWE.out]), rfl, hgx, Below.refl _ _⟩
            · 
              try dsimp only
              have e14 : t 14 = .int .i64 s.held[k].seq := dep (F := fun i v (_ : World) => v = viT0 w wr s bb off c k 0 s.held[k] a0 c0 pv i) (t := t) (w := wx) hdep 14 (by kernel_rfl)
              have e17 : t 17 = .int .i64 (s.expect + 8) := dep (F := fun i v (_ : World) => v = viT0 w wr s bb off c k 0 s.held[k] a0 c0 pv i) (t := t) (w := wx) hdep 17 (by kernel_rfl)
              have e12 : t 12 = .bool false := dep (F := fun i v (_ : World) => v = viT0 w wr s bb off c k 0 s.held[k] a0 c0 pv i) (t := t) (w := wx) hdep 12 (by kernel_rfl)
              rw [e14, e17, e12]
              refine wpOp_step rfl (fun K' hK => ?_)
              go_simp
              exact hK _ _ ⟨.bool false, (by simp [upd, e14, e17, e12]), rfl, hgx, Below.refl _ _⟩
            · 
              try dsimp only
              have e12 : t 12 = .bool false := dep (F := fun i v (_ : World) => v = viT0 w wr s bb off c k 0 s.held[k] a0 c0 pv i) (t := t) (w := wx) hdep 12 (by kernel_rfl)
              have e18 : t 18 = .bool false := dep (F := fun i v (_ : World) => v = viT0 w wr s bb off c k 0 s.held[k] a0 c0 pv i) (t := t) (w := wx) hdep 18 (by kernel_rfl)
              rw [e12, e18]
              refine wpOp_step rfl (fun K' hK => ?_)
              go_simp
              exact hK _ _ ⟨.bool false, (by simp [upd, e12, e18]), rfl, hgx, Below.refl _ _⟩
            · 
              try dsimp only
              have e19 : t 19 = .bool false := dep (F := fun i v (_ : World) => v = viT0 w wr s bb off c k 0 s.held[k] a0 c0 pv i) (t := t) (w := wx) hdep 19 (by kernel_rfl)
              rw [e19]
              refine wpOp_step rfl (fun K' hK => ?_)
              go_simp
              exact hK _ _ ⟨.bool false, (by simp [upd, e19]), rfl, hgx, Below.refl _ _⟩
            · 
              try dsimp only
              have e20 : t 20 = .bool false := dep (F := fun i v (_ : World) => v = viT0 w wr s bb off c k 0 s.held[k] a0 c0 pv i) (t := t) (w := wx) hdep 20 (by kernel_rfl)
              rw [e20]
              refine wpOp_step rfl (fun K' hK => ?_)
              go_simp
              exact hK _ _ ⟨.int .i64 (k : Int), (by simp [upd, e20]), rfl, hgx, Below.refl _ _⟩
            · 
              try dsimp only
              have e21 : t 21 = .int .i64 (k : Int) := dep (F := fun i v (_ : World) => v = viT0 w wr s bb off c k 0 s.held[k] a0 c0 pv i) (t := t) (w := wx) hdep 21 (by kernel_rfl)
              have e20 : t 20 = .bool false := dep (F := fun i v (_ : World) => v = viT0 w wr s bb off c k 0 s.held[k] a0 c0 pv i) (t := t) (w := wx) hdep 20 (by kernel_rfl)
              rw [e21, e20]
              refine wpOp_step rfl (fun K' hK => ?_)
              go_simp
              exact hK _ _ ⟨.bool false, (by simp [upd, e21, e20]; exact HKZ.out), rfl, hgx, Below.refl _ _⟩
            · 
              try dsimp only
              have e22 : t 22 = .bool false := dep (F := fun i v (_ : World) => v = viT0 w wr s bb off c k 0 s.held[k] a0 c0 pv i) (t := t) (w := wx) hdep 22 (by kernel_rfl)
              have e20 : t 20 = .bool false := dep (F := fun i v (_ : World) => v = viT0 w wr s bb off c k 0 s.held[k] a0 c0 pv i) (t := t) (w := wx) hdep 20 (by kernel_rfl)
              rw [e22, e20]
              refine wpOp_step rfl (fun K' hK => ?_)
              go_simp
              exact hK _ _ ⟨.bool false, (by simp [upd, e22, e20]), rfl, hgx, Below.refl _ _⟩
            · 
              try dsimp only
              have e23 : t 23 = .bool false := dep (F := fun i v (_ : World) => v = viT0 w wr s bb off c k 0 s.held[k] a0 c0 pv i) (t := t) (w := wx) hdep 23 (by kernel_rfl)
              rw [e23]
              refine wpOp_step rfl (fun K' hK => ?_)
              go_simp
              exact hK _ _ ⟨undef, (by simp [upd, e23]), rfl, hgx, Below.refl _ _⟩
            · 
              try dsimp only
              have e24 : t 24 = undef := dep (F := fun i v (_ : World) => v = viT0 w wr s bb off c k 0 s.held[k] a0 c0 pv i) (t := t) (w := wx) hdep 24 (by kernel_rfl)
              have e23 : t 23 = .bool false := dep (F := fun i v (_ : World) => v = viT0 w wr s bb off c k 0 s.held[k] a0 c0 pv i) (t := t) (w := wx) hdep 23 (by kernel_rfl)
              rw [e24, e23]
              refine wpOp_step rfl (fun K' hK => ?_)
              go_simp
              exact hK _ _ ⟨undef, (by simp [upd, e24, e23]), rfl, hgx, Below.refl _ _⟩
            · 
              try dsimp only
              have e23 : t 23 = .bool false := dep (F := fun i v (_ : World) => v = viT0 w wr s bb off c k 0 s.held[k] a0 c0 pv i) (t := t) (w := wx) hdep 23 (by kernel_rfl)
              rw [e23]
              refine wpOp_step rfl (fun K' hK => ?_)
              go_simp
              exact hK _ _ ⟨undef, (by simp [upd, e23]), rfl, hgx, Below.refl _ _⟩
            · 
              try dsimp only
              have e26 : t 26 = undef := dep (F := fun i v (_ : World) => v = viT0 w wr s bb off c k 0 s.held[k] a0 c0 pv i) (t := t) (w := wx) hdep 26 (by kernel_rfl)
              have e23 : t 23 = .bool false := dep (F := fun i v (_ : World) => v = viT0 w wr s bb off c k 0 s.held[k] a0 c0 pv i) (t := t) (w := wx) hdep 23 (by kernel_rfl)
              rw [e26, e23]
              refine wpOp_step rfl (fun K' hK => ?_)
              go_simp
              exact hK _ _ ⟨undef, (by simp [upd, e26, e23]), rfl, hgx, Below.refl _ _⟩
            · 
              try dsimp only
              have e25 : t 25 = undef := dep (F := fun i v (_ : World) => v = viT0 w wr s bb off c k 0 s.held[k] a0 c0 pv i) (t := t) (w := wx) hdep 25 (by kernel_rfl)
              have e27 : t 27 = undef := dep (F := fun i v (_ : World) => v = viT0 w wr s bb off c k 0 s.held[k] a0 c0 pv i) (t := t) (w := wx) hdep 27 (by kernel_rfl)
              have e23 : t 23 = .bool false := dep (F := fun i v (_ : World) => v = viT0 w wr s bb off c k 0 s.held[k] a0 c0 pv i) (t := t) (w := wx) hdep 23 (by kernel_rfl)
              rw [e25, e27, e23]
              refine wpOp_step rfl (fun K' hK => ?_)
              go_simp
              exact hK _ _ ⟨undef, (by simp [upd, e25, e27, e23]), rfl, hgx, Below.refl _ _⟩
            · 
              try dsimp only
              have e28 : t 28 = undef := dep (F := fun i v (_ : World) => v = viT0 w wr s bb off c k 0 s.held[k] a0 c0 pv i) (t := t) (w := wx) hdep 28 (by kernel_rfl)
              have e23 : t 23 = .bool false := dep (F := fun i v (_ : World) => v = viT0 w wr s bb off c k 0 s.held[k] a0 c0 pv i) (t := t) (w := wx) hdep 23 (by kernel_rfl)
              rw [e28, e23]
              refine wpOp_step rfl (fun K' hK => ?_)
              go_simp
              exact hK _ _ ⟨undef, (by simp [upd, e28, e23]), rfl, hgx, Below.refl _ _⟩
            · 
              try dsimp only
              have e29 : t 29 = undef := dep (F := fun i v (_ : World) => v = viT0 w wr s bb off c k 0 s.held[k] a0 c0 pv i) (t := t) (w := wx) hdep 29 (by kernel_rfl)
              have e23 : t 23 = .bool false := dep (F := fun i v (_ : World) => v = viT0 w wr s bb off c k 0 s.held[k] a0 c0 pv i) (t := t) (w := wx) hdep 23 (by kernel_rfl)
              rw [e29, e23]
              refine wpOp_step rfl (fun K' hK => ?_)
              go_simp
              exact hK _ _ ⟨undef, (by simp [upd, e29, e23]), rfl, hgx, Below.refl _ _⟩
            · 
              try dsimp only
              have e23 : t 23 = .bool false := dep (F := fun i v (_ : World) => v = viT0 w wr s bb off c k 0 s.held[k] a0 c0 pv i) (t := t) (w := wx) hdep 23 (by kernel_rfl)
              rw [e23]
              refine wpOp_step rfl (fun K' hK => ?_)
              go_simp
              exact hK _ _ ⟨undef, (by simp [upd, e23]), rfl, hgx, Below.refl _ _⟩
            · 
              try dsimp only
              have e31 : t 31 = undef := dep (F := fun i v (_ : World) => v = viT0 w wr s bb off c k 0 s.held[k] a0 c0 pv i) (t := t) (w := wx) hdep 31 (by kernel_rfl)
              have e23 : t 23 = .bool false := dep (F := fun i v (_ : World) => v = viT0 w wr s bb off c k 0 s.held[k] a0 c0 pv i) (t := t) (w := wx) hdep 23 (by kernel_rfl)
              rw [e31, e23]
              refine wpOp_step rfl (fun K' hK => ?_)
              go_simp
              exact hK _ _ ⟨undef, (by simp [upd, e31, e23]), rfl, hgx, Below.refl _ _⟩
            · 
              try dsimp only
              have e30 : t 30 = undef := dep (F := fun i v (_ : World) => v = viT0 w wr s bb off c k 0 s.held[k] a0 c0 pv i) (t := t) (w := wx) hdep 30 (by kernel_rfl)
              have e32 : t 32 = undef := dep (F := fun i v (_ : World) => v = viT0 w wr s bb off c k 0 s.held[k] a0 c0 pv i) (t := t) (w := wx) hdep 32 (by kernel_rfl)
              have e23 : t 23 = .bool false := dep (F := fun i v (_ : World) => v = viT0 w wr s bb off c k 0 s.held[k] a0 c0 pv i) (t := t) (w := wx) hdep 23 (by kernel_rfl)
              rw [e30, e32, e23]
              refine wpOp_step rfl (fun K' hK => ?_)
              go_simp
              exact hK _ _ ⟨undef, (by simp [upd, e30, e32, e23]), rfl, hgx, Below.refl _ _⟩
            · 
              try dsimp only
              have e23 : t 23 = .bool false := dep (F := fun i v (_ : World) => v = viT0 w wr s bb off c k 0 s.held[k] a0 c0 pv i) (t := t) (w := wx) hdep 23 (by kernel_rfl)
              have e33 : t 33 = undef := dep (F := fun i v (_ : World) => v = viT0 w wr s bb off c k 0 s.held[k] a0 c0 pv i) (t := t) (w := wx) hdep 33 (by kernel_rfl)
              have e20 : t 20 = .bool false := dep (F := fun i v (_ : World) => v = viT0 w wr s bb off c k 0 s.held[k] a0 c0 pv i) (t := t) (w := wx) hdep 20 (by kernel_rfl)
              rw [e23, e33, e20]
              refine wpOp_step rfl (fun K' hK => ?_)
              go_simp
              exact hK _ _ ⟨.bool false, (by simp [upd, e23, e33, e20]), rfl, hgx, Below.refl _ _⟩
            · 
              try dsimp only
              have e20 : t 20 = .bool false := dep (F := fun i v (_ : World) => v = viT0 w wr s bb off c k 0 s.held[k] a0 c0 pv i) (t := t) (w := wx) hdep 20 (by kernel_rfl)
              have e34 : t 34 = .bool false := dep (F := fun i v (_ : World) => v = viT0 w wr s bb off c k 0 s.held[k] a0 c0 pv i) (t := t) (w := wx) hdep 34 (by kernel_rfl)
              rw [e20, e34]
              refine wpOp_step rfl (fun K' hK => ?_)
              go_simp
              exact hK _ _ ⟨.bool false, (by simp [upd, e20, e34]), rfl, hgx, Below.refl _ _⟩
          · intro t wx hgx hall
            have HWW := hid hgx
            have hw' : Hid (Below w.heap.size w wx) := hid (below_chain HBW.out hgx)
            have e35 : t 35 = .bool false := hall 35 (by omega)
            clear hall hgx
            try dsimp only
            rw [e35]
            clear e35
            generalize t 0 = v0
            generalize t 1 = v1
            generalize t 2 = v2
            generalize t 3 = v3
            generalize t 4 = v4
            generalize t 5 = v5
            generalize t 6 = v6
            generalize t 7 = v7
            generalize t 8 = v8
            generalize t 9 = v9
            generalize t 10 = v10
            generalize t 11 = v11
            generalize t 12 = v12
            generalize t 13 = v13
            generalize t 14 = v14
            generalize t 15 = v15
            generalize t 16 = v16
            generalize t 17 = v17
            generalize t 18 = v18
            generalize t 19 = v19
            generalize t 20 = v20
            generalize t 21 = v21
            generalize t 22 = v22
            generalize t 23 = v23
            generalize t 24 = v24
            generalize t 25 = v25
            generalize t 26 = v26
            generalize t 27 = v27
            generalize t 28 = v28
            generalize t 29 = v29
            generalize t 30 = v30
            generalize t 31 = v31
            generalize t 32 = v32
            generalize t 33 = v33
            generalize t 34 = v34
            clear t
            go_wp2
            go_roundw
            case rel => exact ⟨k + 1, by omega, by go_num, HT.out, box_laterP2 HXW.out HWW.out, hw'.out⟩
            case measure => simp [intOf]; omega
        obtain ⟨m, rfl⟩ : ∃ m, k = m + 1 := ⟨k - 1, by omega⟩
        have hp : W.cell? ⟨bb, off + m * 6 + 2, none⟩ = some (.int .i64 pv) := HQ1.out W HB1.out (by omega)
        have k0t : decide ((0 : Int) < ((m + 1 : Nat) : Int)) = true := decide_eq_true (by omega)
        have hmi : (m : Int) < (s.held.length : Int) := by omega
        have HWM : Hid (IntKind.i64.wrap (m : Int) = (m : Int)) := hid ((fit_i64 _).2 ⟨by omega, by omega⟩)
        clear k0
        by_cases s3 : s.held[m + 1].seq ≤ pv
        · have Hs3 := hid s3
          have s3t : decide (s.held[m + 1].seq ≤ pv) = true := by simp; omega
          clear s3
          have HZ := hid (HWk.out (by rw [HOW.out]; rw [decide_eq_false (p := _ ∧ _) (fun h => by have := Hs3.out; omega)]; simp))
          refine region_facts (n := 36) (by kernel_rfl) (by kernel_rfl) ?_ (fun t => { tmps := #[.agg #[.int .i64 s.epoch, .int .i64 s.expect, .slice (some ⟨bb, off, none⟩) s.held.length c, .slice b s.part.length d], .pointer (some ⟨w.heap.size, 0, none⟩), u2, .int .i64 ((m : Int) + 1), .pointer (some ⟨wr.heap.size, 0, none⟩), .pointer (some ⟨w.heap.size, 0, none⟩), .int .i64 s.epoch, .bool false, .bool false, .pointer (some ⟨w.heap.size, 0, none⟩), .int .i64 s.epoch, .bool false, .bool false, .bool false, .pointer (some ⟨w.heap.size, 1, none⟩), .int .i64 s.expect, .bool false, .bool false, .bool false, .pointer (some ⟨w.heap.size, 1, none⟩), .int .i64 s.expect, .bool false, .bool false, .bool false, .pointer (some ⟨w.heap.size, 3, none⟩), .slice b s.part.length d, .int .i64 (s.part.length : Int), .bool false, .bool false, .int .i64 ((m : Int) + 1), .pointer (some ⟨w.heap.size, 2, none⟩), .slice (some ⟨bb, off, none⟩) s.held.length c, .int .i64 (s.held.length : Int), .bool true, u34, u35, .pointer (some ⟨w.heap.size, 2, none⟩), .slice (some ⟨bb, off, none⟩) s.held.length c, .int .i64 ((m : Int) + 1), .pointer (some ⟨bb, off + (m + 1) * 6, none⟩), .agg #[.int .i64 s.held[m + 1].kind, .int .i64 s.held[m + 1].epoch, .int .i64 s.held[m + 1].seq, .int .i64 s.held[m + 1].count, .bool s.held[m + 1].last, .slice a0 s.held[m + 1].data.length c0], t 0, t 1, t 2, t 3, t 4, t 5, t 6, t 7, t 8, t 9, t 10, t 11, t 12, t 13, t 14, t 15, t 16, t 17, t 18, t 19, t 20, t 21, t 22, t 23, t 24, t 25, t 26, t 27, t 28, t 29, t 30, t 31, t 32, t 33, t 34, t 35], defers := [] }) (fun i v _ => v = viTB w wr s bb off c (m + 1) m s.held[m + 1] a0 c0 pv i) (fun wx => Below W.heap.size W wx) W (fun _ _ _ _ h _ => h) (fun j => ([u41, u42, u43, u44, u45, u46, u47, u48, u49, u50, u51, u52, u53, u54, u55, u56, u57, u58, u59, u60, u61, u62, u63, u64, u65, u66, u67, u68, u69, u70, u71, u72, u73, u74, u75, u76] : List Value).getD j undef) ((Below.refl _ W).drew) ?_ ?_
          · rfl
          · intro i hi t wx hgx hdep
            have kp : ∀ p v, W.cell? p = some v → wx.cell? p = some v := fun p v h => (hgx.cell (World.block_lt_of_cell? W _ h)).trans h
            replace p0 := kp _ _ p0
            replace p1 := kp _ _ p1
            replace p2 := kp _ _ p2
            replace q0 := kp _ _ q0
            replace q1 := kp _ _ q1
            replace q2 := kp _ _ q2
            replace q3 := kp _ _ q3
            replace q4 := kp _ _ q4
            replace q5 := kp _ _ q5
            replace hp := kp _ _ hp
            clear kp
            rcases (by omega : i = 0 ∨ i = 1 ∨ i = 2 ∨ i = 3 ∨ i = 4 ∨ i = 5 ∨ i = 6 ∨ i = 7 ∨ i = 8 ∨ i = 9 ∨ i = 10 ∨ i = 11 ∨ i = 12 ∨ i = 13 ∨ i = 14 ∨ i = 15 ∨ i = 16 ∨ i = 17 ∨ i = 18 ∨ i = 19 ∨ i = 20 ∨ i = 21 ∨ i = 22 ∨ i = 23 ∨ i = 24 ∨ i = 25 ∨ i = 26 ∨ i = 27 ∨ i = 28 ∨ i = 29 ∨ i = 30 ∨ i = 31 ∨ i = 32 ∨ i = 33 ∨ i = 34 ∨ i = 35) with rfl | rfl | rfl | rfl | rfl | rfl | rfl | rfl | rfl | rfl | rfl | rfl | rfl | rfl | rfl | rfl | rfl | rfl | rfl | rfl | rfl | rfl | rfl | rfl | rfl | rfl | rfl | rfl | rfl | rfl | rfl | rfl | rfl | rfl | rfl | rfl
            · 
              try dsimp only
              refine wpOp_step rfl (fun K' hK => ?_)
              go_simp
              exact hK _ _ ⟨.agg #[.int .i64 s.held[m + 1].kind, .int .i64 s.held[m + 1].epoch, .int .i64 s.held[m + 1].seq, .int .i64 s.held[m + 1].count, .bool s.held[m + 1].last, .slice a0 s.held[m + 1].data.length c0], (by simp [upd]), rfl, hgx, Below.refl _ _⟩
            · 
              try dsimp only
              refine wpOp_step rfl (fun K' hK => ?_)
              go_simp
              exact hK _ _ ⟨.pointer (some ⟨w.heap.size, 0, none⟩), (by simp [upd]), rfl, hgx, Below.refl _ _⟩
            · 
              try dsimp only
              have e1 : t 1 = .pointer (some ⟨w.heap.size, 0, none⟩) := dep (F := fun i v (_ : World) => v = viTB w wr s bb off c (m + 1) m s.held[m + 1] a0 c0 pv i) (t := t) (w := wx) hdep 1 (by kernel_rfl)
              rw [e1]
              refine wpOp_step rfl (fun K' hK => ?_)
              go_simp
              exact hK _ _ ⟨.int .i64 s.epoch, (by simp [upd, e1]), rfl, hgx, Below.refl _ _⟩
            · 
              try dsimp only
              have e0 : t 0 = .agg #[.int .i64 s.held[m + 1].kind, .int .i64 s.held[m + 1].epoch, .int .i64 s.held[m + 1].seq, .int .i64 s.held[m + 1].count, .bool s.held[m + 1].last, .slice a0 s.held[m + 1].data.length c0] := dep (F := fun i v (_ : World) => v = viTB w wr s bb off c (m + 1) m s.held[m + 1] a0 c0 pv i) (t := t) (w := wx) hdep 0 (by kernel_rfl)
              have e2 : t 2 = .int .i64 s.epoch := dep (F := fun i v (_ : World) => v = viTB w wr s bb off c (m + 1) m s.held[m + 1] a0 c0 pv i) (t := t) (w := wx) hdep 2 (by kernel_rfl)
              rw [e0, e2]
              refine wpOp_step rfl (fun K' hK => ?_)
              go_simp
              refine (HL5.out wx).mono ?_
              rintro e w2 ⟨rfl, b2⟩
              rw [HOK.out]
              exact hK _ _ ⟨.bool true, (by simp [upd, e0, e2]), rfl, below_chain hgx b2, b2⟩
            · 
              try dsimp only
              have e3 : t 3 = .bool true := dep (F := fun i v (_ : World) => v = viTB w wr s bb off c (m + 1) m s.held[m + 1] a0 c0 pv i) (t := t) (w := wx) hdep 3 (by kernel_rfl)
              rw [e3]
              refine wpOp_step rfl (fun K' hK => ?_)
              go_simp
              exact hK _ _ ⟨.bool false, (by simp [upd, e3]), rfl, hgx, Below.refl _ _⟩
            · 
              try dsimp only
              have e4 : t 4 = .bool false := dep (F := fun i v (_ : World) => v = viTB w wr s bb off c (m + 1) m s.held[m + 1] a0 c0 pv i) (t := t) (w := wx) hdep 4 (by kernel_rfl)
              rw [e4]
              refine wpOp_step rfl (fun K' hK => ?_)
              go_simp
              exact hK _ _ ⟨.bool false, (by simp [upd, e4]), rfl, hgx, Below.refl _ _⟩
            · 
              try dsimp only
              have e5 : t 5 = .bool false := dep (F := fun i v (_ : World) => v = viTB w wr s bb off c (m + 1) m s.held[m + 1] a0 c0 pv i) (t := t) (w := wx) hdep 5 (by kernel_rfl)
              rw [e5]
              refine wpOp_step rfl (fun K' hK => ?_)
              go_simp
              exact hK _ _ ⟨.pointer (some ⟨wr.heap.size, 2, none⟩), (by simp [upd, e5]), rfl, hgx, Below.refl _ _⟩
            · 
              try dsimp only
              have e6 : t 6 = .pointer (some ⟨wr.heap.size, 2, none⟩) := dep (F := fun i v (_ : World) => v = viTB w wr s bb off c (m + 1) m s.held[m + 1] a0 c0 pv i) (t := t) (w := wx) hdep 6 (by kernel_rfl)
              have e5 : t 5 = .bool false := dep (F := fun i v (_ : World) => v = viTB w wr s bb off c (m + 1) m s.held[m + 1] a0 c0 pv i) (t := t) (w := wx) hdep 5 (by kernel_rfl)
              rw [e6, e5]
              refine wpOp_step rfl (fun K' hK => ?_)
              go_simp
              exact hK _ _ ⟨.int .i64 s.held[m + 1].seq, (by simp [upd, e6, e5]), rfl, hgx, Below.refl _ _⟩
            · 
              try dsimp only
              have e5 : t 5 = .bool false := dep (F := fun i v (_ : World) => v = viTB w wr s bb off c (m + 1) m s.held[m + 1] a0 c0 pv i) (t := t) (w := wx) hdep 5 (by kernel_rfl)
              rw [e5]
              refine wpOp_step rfl (fun K' hK => ?_)
              go_simp
              exact hK _ _ ⟨.pointer (some ⟨w.heap.size, 1, none⟩), (by simp [upd, e5]), rfl, hgx, Below.refl _ _⟩
            · 
              try dsimp only
              have e8 : t 8 = .pointer (some ⟨w.heap.size, 1, none⟩) := dep (F := fun i v (_ : World) => v = viTB w wr s bb off c (m + 1) m s.held[m + 1] a0 c0 pv i) (t := t) (w := wx) hdep 8 (by kernel_rfl)
              have e5 : t 5 = .bool false := dep (F := fun i v (_ : World) => v = viTB w wr s bb off c (m + 1) m s.held[m + 1] a0 c0 pv i) (t := t) (w := wx) hdep 5 (by kernel_rfl)
              rw [e8, e5]
              refine wpOp_step rfl (fun K' hK => ?_)
              go_simp
              exact hK _ _ ⟨.int .i64 s.expect, (by simp [upd, e8, e5]), rfl, hgx, Below.refl _ _⟩
            · 
              try dsimp only
              have e7 : t 7 = .int .i64 s.held[m + 1].seq := dep (F := fun i v (_ : World) => v = viTB w wr s bb off c (m + 1) m s.held[m + 1] a0 c0 pv i) (t := t) (w := wx) hdep 7 (by kernel_rfl)
              have e9 : t 9 = .int .i64 s.expect := dep (F := fun i v (_ : World) => v = viTB w wr s bb off c (m + 1) m s.held[m + 1] a0 c0 pv i) (t := t) (w := wx) hdep 9 (by kernel_rfl)
              have e5 : t 5 = .bool false := dep (F := fun i v (_ : World) => v = viTB w wr s bb off c (m + 1) m s.held[m + 1] a0 c0 pv i) (t := t) (w := wx) hdep 5 (by kernel_rfl)
              rw [e7, e9, e5]
              refine wpOp_step rfl (fun K' hK => ?_)
              go_simp
              exact hK _ _ ⟨.bool false, (by simp [upd, e7, e9, e5]), rfl, hgx, Below.refl _ _⟩
            · 
              try dsimp only
              have e5 : t 5 = .bool false := dep (F := fun i v (_ : World) => v = viTB w wr s bb off c (m + 1) m s.held[m + 1] a0 c0 pv i) (t := t) (w := wx) hdep 5 (by kernel_rfl)
              have e10 : t 10 = .bool false := dep (F := fun i v (_ : World) => v = viTB w wr s bb off c (m + 1) m s.held[m + 1] a0 c0 pv i) (t := t) (w := wx) hdep 10 (by kernel_rfl)
              rw [e5, e10]
              refine wpOp_step rfl (fun K' hK => ?_)
              go_simp
              exact hK _ _ ⟨.bool false, (by simp [upd, e5, e10]), rfl, hgx, Below.refl _ _⟩
            · 
              try dsimp only
              have e11 : t 11 = .bool false := dep (F := fun i v (_ : World) => v = viTB w wr s bb off c (m + 1) m s.held[m + 1] a0 c0 pv i) (t := t) (w := wx) hdep 11 (by kernel_rfl)
              rw [e11]
              refine wpOp_step rfl (fun K' hK => ?_)
              go_simp
              exact hK _ _ ⟨.bool false, (by simp [upd, e11]), rfl, hgx, Below.refl _ _⟩
            · 
              try dsimp only
              have e12 : t 12 = .bool false := dep (F := fun i v (_ : World) => v = viTB w wr s bb off c (m + 1) m s.held[m + 1] a0 c0 pv i) (t := t) (w := wx) hdep 12 (by kernel_rfl)
              rw [e12]
              refine wpOp_step rfl (fun K' hK => ?_)
              go_simp
              exact hK _ _ ⟨.pointer (some ⟨wr.heap.size, 2, none⟩), (by simp [upd, e12]), rfl, hgx, Below.refl _ _⟩
            · 
              try dsimp only
              have e13 : t 13 = .pointer (some ⟨wr.heap.size, 2, none⟩) := dep (F := fun i v (_ : World) => v = viTB w wr s bb off c (m + 1) m s.held[m + 1] a0 c0 pv i) (t := t) (w := wx) hdep 13 (by kernel_rfl)
              have e12 : t 12 = .bool false := dep (F := fun i v (_ : World) => v = viTB w wr s bb off c (m + 1) m s.held[m + 1] a0 c0 pv i) (t := t) (w := wx) hdep 12 (by kernel_rfl)
              rw [e13, e12]
              refine wpOp_step rfl (fun K' hK => ?_)
              go_simp
              exact hK _ _ ⟨.int .i64 s.held[m + 1].seq, (by simp [upd, e13, e12]), rfl, hgx, Below.refl _ _⟩
            · 
              try dsimp only
              have e12 : t 12 = .bool false := dep (F := fun i v (_ : World) => v = viTB w wr s bb off c (m + 1) m s.held[m + 1] a0 c0 pv i) (t := t) (w := wx) hdep 12 (by kernel_rfl)
              rw [e12]
              refine wpOp_step rfl (fun K' hK => ?_)
              go_simp
              exact hK _ _ ⟨.pointer (some ⟨w.heap.size, 1, none⟩), (by simp [upd, e12]), rfl, hgx, Below.refl _ _⟩
            · 
              try dsimp only
              have e15 : t 15 = .pointer (some ⟨w.heap.size, 1, none⟩) := dep (F := fun i v (_ : World) => v = viTB w wr s bb off c (m + 1) m s.held[m + 1] a0 c0 pv i) (t := t) (w := wx) hdep 15 (by kernel_rfl)
              have e12 : t 12 = .bool false := dep (F := fun i v (_ : World) => v = viTB w wr s bb off c (m + 1) m s.held[m + 1] a0 c0 pv i) (t := t) (w := wx) hdep 12 (by kernel_rfl)
              rw [e15, e12]
              refine wpOp_step rfl (fun K' hK => ?_)
              go_simp
              exact hK _ _ ⟨.int .i64 s.expect, (by simp [upd, e15, e12]), rfl, hgx, Below.refl _ _⟩
            · 
              try dsimp only
              have e16 : t 16 = .int .i64 s.expect := dep (F := fun i v (_ : World) => v = viTB w wr s bb off c (m + 1) m s.held[m + 1] a0 c0 pv i) (t := t) (w := wx) hdep 16 (by kernel_rfl)
              have e12 : t 12 = .bool false := dep (F := fun i v (_ : World) => v = viTB w wr s bb off c (m + 1) m s.held[m + 1] a0 c0 pv i) (t := t) (w := wx) hdep 12 (by kernel_rfl)
              rw [e16, e12]
              refine wpOp_step rfl (fun K' hK => ?_)
              go_simp
              exact hK _ _ ⟨.int .i64 (s.expect + 8), (by simp [upd, e16, e12, HWE.out]), rfl, hgx, Below.refl _ _⟩
            · 
              try dsimp only
              have e14 : t 14 = .int .i64 s.held[m + 1].seq := dep (F := fun i v (_ : World) => v = viTB w wr s bb off c (m + 1) m s.held[m + 1] a0 c0 pv i) (t := t) (w := wx) hdep 14 (by kernel_rfl)
              have e17 : t 17 = .int .i64 (s.expect + 8) := dep (F := fun i v (_ : World) => v = viTB w wr s bb off c (m + 1) m s.held[m + 1] a0 c0 pv i) (t := t) (w := wx) hdep 17 (by kernel_rfl)
              have e12 : t 12 = .bool false := dep (F := fun i v (_ : World) => v = viTB w wr s bb off c (m + 1) m s.held[m + 1] a0 c0 pv i) (t := t) (w := wx) hdep 12 (by kernel_rfl)
              rw [e14, e17, e12]
              refine wpOp_step rfl (fun K' hK => ?_)
              go_simp
              exact hK _ _ ⟨.bool false, (by simp [upd, e14, e17, e12]), rfl, hgx, Below.refl _ _⟩
            · 
              try dsimp only
              have e12 : t 12 = .bool false := dep (F := fun i v (_ : World) => v = viTB w wr s bb off c (m + 1) m s.held[m + 1] a0 c0 pv i) (t := t) (w := wx) hdep 12 (by kernel_rfl)
              have e18 : t 18 = .bool false := dep (F := fun i v (_ : World) => v = viTB w wr s bb off c (m + 1) m s.held[m + 1] a0 c0 pv i) (t := t) (w := wx) hdep 18 (by kernel_rfl)
              rw [e12, e18]
              refine wpOp_step rfl (fun K' hK => ?_)
              go_simp
              exact hK _ _ ⟨.bool false, (by simp [upd, e12, e18]), rfl, hgx, Below.refl _ _⟩
            · 
              try dsimp only
              have e19 : t 19 = .bool false := dep (F := fun i v (_ : World) => v = viTB w wr s bb off c (m + 1) m s.held[m + 1] a0 c0 pv i) (t := t) (w := wx) hdep 19 (by kernel_rfl)
              rw [e19]
              refine wpOp_step rfl (fun K' hK => ?_)
              go_simp
              exact hK _ _ ⟨.bool false, (by simp [upd, e19]), rfl, hgx, Below.refl _ _⟩
            · 
              try dsimp only
              have e20 : t 20 = .bool false := dep (F := fun i v (_ : World) => v = viTB w wr s bb off c (m + 1) m s.held[m + 1] a0 c0 pv i) (t := t) (w := wx) hdep 20 (by kernel_rfl)
              rw [e20]
              refine wpOp_step rfl (fun K' hK => ?_)
              go_simp
              exact hK _ _ ⟨.int .i64 ((m : Int) + 1), (by simp [upd, e20]), rfl, hgx, Below.refl _ _⟩
            · 
              try dsimp only
              have e21 : t 21 = .int .i64 ((m : Int) + 1) := dep (F := fun i v (_ : World) => v = viTB w wr s bb off c (m + 1) m s.held[m + 1] a0 c0 pv i) (t := t) (w := wx) hdep 21 (by kernel_rfl)
              have e20 : t 20 = .bool false := dep (F := fun i v (_ : World) => v = viTB w wr s bb off c (m + 1) m s.held[m + 1] a0 c0 pv i) (t := t) (w := wx) hdep 20 (by kernel_rfl)
              rw [e21, e20]
              refine wpOp_step rfl (fun K' hK => ?_)
              go_simp
              exact hK _ _ ⟨.bool true, (by simp [upd, e21, e20]), rfl, hgx, Below.refl _ _⟩
            · 
              try dsimp only
              have e22 : t 22 = .bool true := dep (F := fun i v (_ : World) => v = viTB w wr s bb off c (m + 1) m s.held[m + 1] a0 c0 pv i) (t := t) (w := wx) hdep 22 (by kernel_rfl)
              have e20 : t 20 = .bool false := dep (F := fun i v (_ : World) => v = viTB w wr s bb off c (m + 1) m s.held[m + 1] a0 c0 pv i) (t := t) (w := wx) hdep 20 (by kernel_rfl)
              rw [e22, e20]
              refine wpOp_step rfl (fun K' hK => ?_)
              go_simp
              exact hK _ _ ⟨.bool true, (by simp [upd, e22, e20]), rfl, hgx, Below.refl _ _⟩
            · 
              try dsimp only
              have e23 : t 23 = .bool true := dep (F := fun i v (_ : World) => v = viTB w wr s bb off c (m + 1) m s.held[m + 1] a0 c0 pv i) (t := t) (w := wx) hdep 23 (by kernel_rfl)
              rw [e23]
              refine wpOp_step rfl (fun K' hK => ?_)
              go_simp
              exact hK _ _ ⟨.pointer (some ⟨w.heap.size, 2, none⟩), (by simp [upd, e23]), rfl, hgx, Below.refl _ _⟩
            · 
              try dsimp only
              have e24 : t 24 = .pointer (some ⟨w.heap.size, 2, none⟩) := dep (F := fun i v (_ : World) => v = viTB w wr s bb off c (m + 1) m s.held[m + 1] a0 c0 pv i) (t := t) (w := wx) hdep 24 (by kernel_rfl)
              have e23 : t 23 = .bool true := dep (F := fun i v (_ : World) => v = viTB w wr s bb off c (m + 1) m s.held[m + 1] a0 c0 pv i) (t := t) (w := wx) hdep 23 (by kernel_rfl)
              rw [e24, e23]
              refine wpOp_step rfl (fun K' hK => ?_)
              go_simp
              exact hK _ _ ⟨.slice (some ⟨bb, off, none⟩) s.held.length c, (by simp [upd, e24, e23]), rfl, hgx, Below.refl _ _⟩
            · 
              try dsimp only
              have e23 : t 23 = .bool true := dep (F := fun i v (_ : World) => v = viTB w wr s bb off c (m + 1) m s.held[m + 1] a0 c0 pv i) (t := t) (w := wx) hdep 23 (by kernel_rfl)
              rw [e23]
              refine wpOp_step rfl (fun K' hK => ?_)
              go_simp
              exact hK _ _ ⟨.int .i64 ((m : Int) + 1), (by simp [upd, e23]), rfl, hgx, Below.refl _ _⟩
            · 
              try dsimp only
              have e26 : t 26 = .int .i64 ((m : Int) + 1) := dep (F := fun i v (_ : World) => v = viTB w wr s bb off c (m + 1) m s.held[m + 1] a0 c0 pv i) (t := t) (w := wx) hdep 26 (by kernel_rfl)
              have e23 : t 23 = .bool true := dep (F := fun i v (_ : World) => v = viTB w wr s bb off c (m + 1) m s.held[m + 1] a0 c0 pv i) (t := t) (w := wx) hdep 23 (by kernel_rfl)
              rw [e26, e23]
              refine wpOp_step rfl (fun K' hK => ?_)
              go_simp
              exact hK _ _ ⟨.int .i64 (m : Int), (by simp [upd, e26, e23, HWM.out]), rfl, hgx, Below.refl _ _⟩
            · 
              try dsimp only
              have e25 : t 25 = .slice (some ⟨bb, off, none⟩) s.held.length c := dep (F := fun i v (_ : World) => v = viTB w wr s bb off c (m + 1) m s.held[m + 1] a0 c0 pv i) (t := t) (w := wx) hdep 25 (by kernel_rfl)
              have e27 : t 27 = .int .i64 (m : Int) := dep (F := fun i v (_ : World) => v = viTB w wr s bb off c (m + 1) m s.held[m + 1] a0 c0 pv i) (t := t) (w := wx) hdep 27 (by kernel_rfl)
              have e23 : t 23 = .bool true := dep (F := fun i v (_ : World) => v = viTB w wr s bb off c (m + 1) m s.held[m + 1] a0 c0 pv i) (t := t) (w := wx) hdep 23 (by kernel_rfl)
              rw [e25, e27, e23]
              refine wpOp_step rfl (fun K' hK => ?_)
              go_simp
              exact hK _ _ ⟨.pointer (some ⟨bb, off + m * 6, none⟩), (by simp [upd, e25, e27, e23]), rfl, hgx, Below.refl _ _⟩
            · 
              try dsimp only
              have e28 : t 28 = .pointer (some ⟨bb, off + m * 6, none⟩) := dep (F := fun i v (_ : World) => v = viTB w wr s bb off c (m + 1) m s.held[m + 1] a0 c0 pv i) (t := t) (w := wx) hdep 28 (by kernel_rfl)
              have e23 : t 23 = .bool true := dep (F := fun i v (_ : World) => v = viTB w wr s bb off c (m + 1) m s.held[m + 1] a0 c0 pv i) (t := t) (w := wx) hdep 23 (by kernel_rfl)
              rw [e28, e23]
              refine wpOp_step rfl (fun K' hK => ?_)
              go_simp
              exact hK _ _ ⟨.pointer (some ⟨bb, off + m * 6 + 2, none⟩), (by simp [upd, e28, e23]), rfl, hgx, Below.refl _ _⟩
            · 
              try dsimp only
              have e29 : t 29 = .pointer (some ⟨bb, off + m * 6 + 2, none⟩) := dep (F := fun i v (_ : World) => v = viTB w wr s bb off c (m + 1) m s.held[m + 1] a0 c0 pv i) (t := t) (w := wx) hdep 29 (by kernel_rfl)
              have e23 : t 23 = .bool true := dep (F := fun i v (_ : World) => v = viTB w wr s bb off c (m + 1) m s.held[m + 1] a0 c0 pv i) (t := t) (w := wx) hdep 23 (by kernel_rfl)
              rw [e29, e23]
              refine wpOp_step rfl (fun K' hK => ?_)
              go_simp
              exact hK _ _ ⟨.int .i64 pv, (by simp [upd, e29, e23]), rfl, hgx, Below.refl _ _⟩
            · 
              try dsimp only
              have e23 : t 23 = .bool true := dep (F := fun i v (_ : World) => v = viTB w wr s bb off c (m + 1) m s.held[m + 1] a0 c0 pv i) (t := t) (w := wx) hdep 23 (by kernel_rfl)
              rw [e23]
              refine wpOp_step rfl (fun K' hK => ?_)
              go_simp
              exact hK _ _ ⟨.pointer (some ⟨wr.heap.size, 2, none⟩), (by simp [upd, e23]), rfl, hgx, Below.refl _ _⟩
            · 
              try dsimp only
              have e31 : t 31 = .pointer (some ⟨wr.heap.size, 2, none⟩) := dep (F := fun i v (_ : World) => v = viTB w wr s bb off c (m + 1) m s.held[m + 1] a0 c0 pv i) (t := t) (w := wx) hdep 31 (by kernel_rfl)
              have e23 : t 23 = .bool true := dep (F := fun i v (_ : World) => v = viTB w wr s bb off c (m + 1) m s.held[m + 1] a0 c0 pv i) (t := t) (w := wx) hdep 23 (by kernel_rfl)
              rw [e31, e23]
              refine wpOp_step rfl (fun K' hK => ?_)
              go_simp
              exact hK _ _ ⟨.int .i64 s.held[m + 1].seq, (by simp [upd, e31, e23]), rfl, hgx, Below.refl _ _⟩
            · 
              try dsimp only
              have e30 : t 30 = .int .i64 pv := dep (F := fun i v (_ : World) => v = viTB w wr s bb off c (m + 1) m s.held[m + 1] a0 c0 pv i) (t := t) (w := wx) hdep 30 (by kernel_rfl)
              have e32 : t 32 = .int .i64 s.held[m + 1].seq := dep (F := fun i v (_ : World) => v = viTB w wr s bb off c (m + 1) m s.held[m + 1] a0 c0 pv i) (t := t) (w := wx) hdep 32 (by kernel_rfl)
              have e23 : t 23 = .bool true := dep (F := fun i v (_ : World) => v = viTB w wr s bb off c (m + 1) m s.held[m + 1] a0 c0 pv i) (t := t) (w := wx) hdep 23 (by kernel_rfl)
              rw [e30, e32, e23]
              refine wpOp_step rfl (fun K' hK => ?_)
              go_simp
              exact hK _ _ ⟨.bool true, (by simp [upd, e30, e32, e23]), rfl, hgx, Below.refl _ _⟩
            · 
              try dsimp only
              have e23 : t 23 = .bool true := dep (F := fun i v (_ : World) => v = viTB w wr s bb off c (m + 1) m s.held[m + 1] a0 c0 pv i) (t := t) (w := wx) hdep 23 (by kernel_rfl)
              have e33 : t 33 = .bool true := dep (F := fun i v (_ : World) => v = viTB w wr s bb off c (m + 1) m s.held[m + 1] a0 c0 pv i) (t := t) (w := wx) hdep 33 (by kernel_rfl)
              have e20 : t 20 = .bool false := dep (F := fun i v (_ : World) => v = viTB w wr s bb off c (m + 1) m s.held[m + 1] a0 c0 pv i) (t := t) (w := wx) hdep 20 (by kernel_rfl)
              rw [e23, e33, e20]
              refine wpOp_step rfl (fun K' hK => ?_)
              go_simp
              exact hK _ _ ⟨.bool true, (by simp [upd, e23, e33, e20]), rfl, hgx, Below.refl _ _⟩
            · 
              try dsimp only
              have e20 : t 20 = .bool false := dep (F := fun i v (_ : World) => v = viTB w wr s bb off c (m + 1) m s.held[m + 1] a0 c0 pv i) (t := t) (w := wx) hdep 20 (by kernel_rfl)
              have e34 : t 34 = .bool true := dep (F := fun i v (_ : World) => v = viTB w wr s bb off c (m + 1) m s.held[m + 1] a0 c0 pv i) (t := t) (w := wx) hdep 34 (by kernel_rfl)
              rw [e20, e34]
              refine wpOp_step rfl (fun K' hK => ?_)
              go_simp
              exact hK _ _ ⟨.bool true, (by simp [upd, e20, e34]), rfl, hgx, Below.refl _ _⟩
          · intro t wx hgx hall
            have HWW := hid hgx
            have hw' : Hid (Below w.heap.size w wx) := hid (below_chain HBW.out hgx)
            have e35 : t 35 = .bool true := hall 35 (by omega)
            clear hall hgx
            try dsimp only
            rw [e35]
            clear e35
            generalize t 0 = v0
            generalize t 1 = v1
            generalize t 2 = v2
            generalize t 3 = v3
            generalize t 4 = v4
            generalize t 5 = v5
            generalize t 6 = v6
            generalize t 7 = v7
            generalize t 8 = v8
            generalize t 9 = v9
            generalize t 10 = v10
            generalize t 11 = v11
            generalize t 12 = v12
            generalize t 13 = v13
            generalize t 14 = v14
            generalize t 15 = v15
            generalize t 16 = v16
            generalize t 17 = v17
            generalize t 18 = v18
            generalize t 19 = v19
            generalize t 20 = v20
            generalize t 21 = v21
            generalize t 22 = v22
            generalize t 23 = v23
            generalize t 24 = v24
            generalize t 25 = v25
            generalize t 26 = v26
            generalize t 27 = v27
            generalize t 28 = v28
            generalize t 29 = v29
            generalize t 30 = v30
            generalize t 31 = v31
            generalize t 32 = v32
            generalize t 33 = v33
            generalize t 34 = v34
            clear t
            go_wp2
            go_ret
            exact ⟨(by rw [HZ.out]; first | done | rfl), hw'.out⟩
        have Hs3 := hid s3
        have s3t : decide (s.held[m + 1].seq ≤ pv) = false := by simp; omega
        clear s3
        have HT := hid (HNX.out (by rw [HOW.out, HOK.out, decide_eq_true (by have := Hs1.out; have := Hs2.out; have := Hs3.out; omega)]; rfl))
        refine region_facts (n := 36) (by kernel_rfl) (by kernel_rfl) ?_ (fun t => { tmps := #[.agg #[.int .i64 s.epoch, .int .i64 s.expect, .slice (some ⟨bb, off, none⟩) s.held.length c, .slice b s.part.length d], .pointer (some ⟨w.heap.size, 0, none⟩), u2, .int .i64 ((m : Int) + 1), .pointer (some ⟨wr.heap.size, 0, none⟩), .pointer (some ⟨w.heap.size, 0, none⟩), .int .i64 s.epoch, .bool false, .bool false, .pointer (some ⟨w.heap.size, 0, none⟩), .int .i64 s.epoch, .bool false, .bool false, .bool false, .pointer (some ⟨w.heap.size, 1, none⟩), .int .i64 s.expect, .bool false, .bool false, .bool false, .pointer (some ⟨w.heap.size, 1, none⟩), .int .i64 s.expect, .bool false, .bool false, .bool false, .pointer (some ⟨w.heap.size, 3, none⟩), .slice b s.part.length d, .int .i64 (s.part.length : Int), .bool false, .bool false, .int .i64 ((m : Int) + 1), .pointer (some ⟨w.heap.size, 2, none⟩), .slice (some ⟨bb, off, none⟩) s.held.length c, .int .i64 (s.held.length : Int), .bool true, u34, u35, .pointer (some ⟨w.heap.size, 2, none⟩), .slice (some ⟨bb, off, none⟩) s.held.length c, .int .i64 ((m : Int) + 1), .pointer (some ⟨bb, off + (m + 1) * 6, none⟩), .agg #[.int .i64 s.held[m + 1].kind, .int .i64 s.held[m + 1].epoch, .int .i64 s.held[m + 1].seq, .int .i64 s.held[m + 1].count, .bool s.held[m + 1].last, .slice a0 s.held[m + 1].data.length c0], t 0, t 1, t 2, t 3, t 4, t 5, t 6, t 7, t 8, t 9, t 10, t 11, t 12, t 13, t 14, t 15, t 16, t 17, t 18, t 19, t 20, t 21, t 22, t 23, t 24, t 25, t 26, t 27, t 28, t 29, t 30, t 31, t 32, t 33, t 34, t 35], defers := [] }) (fun i v _ => v = viTG w wr s bb off c (m + 1) m s.held[m + 1] a0 c0 pv i) (fun wx => Below W.heap.size W wx) W (fun _ _ _ _ h _ => h) (fun j => ([u41, u42, u43, u44, u45, u46, u47, u48, u49, u50, u51, u52, u53, u54, u55, u56, u57, u58, u59, u60, u61, u62, u63, u64, u65, u66, u67, u68, u69, u70, u71, u72, u73, u74, u75, u76] : List Value).getD j undef) ((Below.refl _ W).drew) ?_ ?_
        · rfl
        · intro i hi t wx hgx hdep
          have kp : ∀ p v, W.cell? p = some v → wx.cell? p = some v := fun p v h => (hgx.cell (World.block_lt_of_cell? W _ h)).trans h
          replace p0 := kp _ _ p0
          replace p1 := kp _ _ p1
          replace p2 := kp _ _ p2
          replace q0 := kp _ _ q0
          replace q1 := kp _ _ q1
          replace q2 := kp _ _ q2
          replace q3 := kp _ _ q3
          replace q4 := kp _ _ q4
          replace q5 := kp _ _ q5
          replace hp := kp _ _ hp
          clear kp
          rcases (by omega : i = 0 ∨ i = 1 ∨ i = 2 ∨ i = 3 ∨ i = 4 ∨ i = 5 ∨ i = 6 ∨ i = 7 ∨ i = 8 ∨ i = 9 ∨ i = 10 ∨ i = 11 ∨ i = 12 ∨ i = 13 ∨ i = 14 ∨ i = 15 ∨ i = 16 ∨ i = 17 ∨ i = 18 ∨ i = 19 ∨ i = 20 ∨ i = 21 ∨ i = 22 ∨ i = 23 ∨ i = 24 ∨ i = 25 ∨ i = 26 ∨ i = 27 ∨ i = 28 ∨ i = 29 ∨ i = 30 ∨ i = 31 ∨ i = 32 ∨ i = 33 ∨ i = 34 ∨ i = 35) with rfl | rfl | rfl | rfl | rfl | rfl | rfl | rfl | rfl | rfl | rfl | rfl | rfl | rfl | rfl | rfl | rfl | rfl | rfl | rfl | rfl | rfl | rfl | rfl | rfl | rfl | rfl | rfl | rfl | rfl | rfl | rfl | rfl | rfl | rfl | rfl
          · 
            try dsimp only
            refine wpOp_step rfl (fun K' hK => ?_)
            go_simp
            exact hK _ _ ⟨.agg #[.int .i64 s.held[m + 1].kind, .int .i64 s.held[m + 1].epoch, .int .i64 s.held[m + 1].seq, .int .i64 s.held[m + 1].count, .bool s.held[m + 1].last, .slice a0 s.held[m + 1].data.length c0], (by simp [upd]), rfl, hgx, Below.refl _ _⟩
          · 
            try dsimp only
            refine wpOp_step rfl (fun K' hK => ?_)
            go_simp
            exact hK _ _ ⟨.pointer (some ⟨w.heap.size, 0, none⟩), (by simp [upd]), rfl, hgx, Below.refl _ _⟩
          · 
            try dsimp only
            have e1 : t 1 = .pointer (some ⟨w.heap.size, 0, none⟩) := dep (F := fun i v (_ : World) => v = viTG w wr s bb off c (m + 1) m s.held[m + 1] a0 c0 pv i) (t := t) (w := wx) hdep 1 (by kernel_rfl)
            rw [e1]
            refine wpOp_step rfl (fun K' hK => ?_)
            go_simp
            exact hK _ _ ⟨.int .i64 s.epoch, (by simp [upd, e1]), rfl, hgx, Below.refl _ _⟩
          · 
            try dsimp only
            have e0 : t 0 = .agg #[.int .i64 s.held[m + 1].kind, .int .i64 s.held[m + 1].epoch, .int .i64 s.held[m + 1].seq, .int .i64 s.held[m + 1].count, .bool s.held[m + 1].last, .slice a0 s.held[m + 1].data.length c0] := dep (F := fun i v (_ : World) => v = viTG w wr s bb off c (m + 1) m s.held[m + 1] a0 c0 pv i) (t := t) (w := wx) hdep 0 (by kernel_rfl)
            have e2 : t 2 = .int .i64 s.epoch := dep (F := fun i v (_ : World) => v = viTG w wr s bb off c (m + 1) m s.held[m + 1] a0 c0 pv i) (t := t) (w := wx) hdep 2 (by kernel_rfl)
            rw [e0, e2]
            refine wpOp_step rfl (fun K' hK => ?_)
            go_simp
            refine (HL5.out wx).mono ?_
            rintro e w2 ⟨rfl, b2⟩
            rw [HOK.out]
            exact hK _ _ ⟨.bool true, (by simp [upd, e0, e2]), rfl, below_chain hgx b2, b2⟩
          · 
            try dsimp only
            have e3 : t 3 = .bool true := dep (F := fun i v (_ : World) => v = viTG w wr s bb off c (m + 1) m s.held[m + 1] a0 c0 pv i) (t := t) (w := wx) hdep 3 (by kernel_rfl)
            rw [e3]
            refine wpOp_step rfl (fun K' hK => ?_)
            go_simp
            exact hK _ _ ⟨.bool false, (by simp [upd, e3]), rfl, hgx, Below.refl _ _⟩
          · 
            try dsimp only
            have e4 : t 4 = .bool false := dep (F := fun i v (_ : World) => v = viTG w wr s bb off c (m + 1) m s.held[m + 1] a0 c0 pv i) (t := t) (w := wx) hdep 4 (by kernel_rfl)
            rw [e4]
            refine wpOp_step rfl (fun K' hK => ?_)
            go_simp
            exact hK _ _ ⟨.bool false, (by simp [upd, e4]), rfl, hgx, Below.refl _ _⟩
          · 
            try dsimp only
            have e5 : t 5 = .bool false := dep (F := fun i v (_ : World) => v = viTG w wr s bb off c (m + 1) m s.held[m + 1] a0 c0 pv i) (t := t) (w := wx) hdep 5 (by kernel_rfl)
            rw [e5]
            refine wpOp_step rfl (fun K' hK => ?_)
            go_simp
            exact hK _ _ ⟨.pointer (some ⟨wr.heap.size, 2, none⟩), (by simp [upd, e5]), rfl, hgx, Below.refl _ _⟩
          · 
            try dsimp only
            have e6 : t 6 = .pointer (some ⟨wr.heap.size, 2, none⟩) := dep (F := fun i v (_ : World) => v = viTG w wr s bb off c (m + 1) m s.held[m + 1] a0 c0 pv i) (t := t) (w := wx) hdep 6 (by kernel_rfl)
            have e5 : t 5 = .bool false := dep (F := fun i v (_ : World) => v = viTG w wr s bb off c (m + 1) m s.held[m + 1] a0 c0 pv i) (t := t) (w := wx) hdep 5 (by kernel_rfl)
            rw [e6, e5]
            refine wpOp_step rfl (fun K' hK => ?_)
            go_simp
            exact hK _ _ ⟨.int .i64 s.held[m + 1].seq, (by simp [upd, e6, e5]), rfl, hgx, Below.refl _ _⟩
          · 
            try dsimp only
            have e5 : t 5 = .bool false := dep (F := fun i v (_ : World) => v = viTG w wr s bb off c (m + 1) m s.held[m + 1] a0 c0 pv i) (t := t) (w := wx) hdep 5 (by kernel_rfl)
            rw [e5]
            refine wpOp_step rfl (fun K' hK => ?_)
            go_simp
            exact hK _ _ ⟨.pointer (some ⟨w.heap.size, 1, none⟩), (by simp [upd, e5]), rfl, hgx, Below.refl _ _⟩
          · 
            try dsimp only
            have e8 : t 8 = .pointer (some ⟨w.heap.size, 1, none⟩) := dep (F := fun i v (_ : World) => v = viTG w wr s bb off c (m + 1) m s.held[m + 1] a0 c0 pv i) (t := t) (w := wx) hdep 8 (by kernel_rfl)
            have e5 : t 5 = .bool false := dep (F := fun i v (_ : World) => v = viTG w wr s bb off c (m + 1) m s.held[m + 1] a0 c0 pv i) (t := t) (w := wx) hdep 5 (by kernel_rfl)
            rw [e8, e5]
            refine wpOp_step rfl (fun K' hK => ?_)
            go_simp
            exact hK _ _ ⟨.int .i64 s.expect, (by simp [upd, e8, e5]), rfl, hgx, Below.refl _ _⟩
          · 
            try dsimp only
            have e7 : t 7 = .int .i64 s.held[m + 1].seq := dep (F := fun i v (_ : World) => v = viTG w wr s bb off c (m + 1) m s.held[m + 1] a0 c0 pv i) (t := t) (w := wx) hdep 7 (by kernel_rfl)
            have e9 : t 9 = .int .i64 s.expect := dep (F := fun i v (_ : World) => v = viTG w wr s bb off c (m + 1) m s.held[m + 1] a0 c0 pv i) (t := t) (w := wx) hdep 9 (by kernel_rfl)
            have e5 : t 5 = .bool false := dep (F := fun i v (_ : World) => v = viTG w wr s bb off c (m + 1) m s.held[m + 1] a0 c0 pv i) (t := t) (w := wx) hdep 5 (by kernel_rfl)
            rw [e7, e9, e5]
            refine wpOp_step rfl (fun K' hK => ?_)
            go_simp
            exact hK _ _ ⟨.bool false, (by simp [upd, e7, e9, e5]), rfl, hgx, Below.refl _ _⟩
          · 
            try dsimp only
            have e5 : t 5 = .bool false := dep (F := fun i v (_ : World) => v = viTG w wr s bb off c (m + 1) m s.held[m + 1] a0 c0 pv i) (t := t) (w := wx) hdep 5 (by kernel_rfl)
            have e10 : t 10 = .bool false := dep (F := fun i v (_ : World) => v = viTG w wr s bb off c (m + 1) m s.held[m + 1] a0 c0 pv i) (t := t) (w := wx) hdep 10 (by kernel_rfl)
            rw [e5, e10]
            refine wpOp_step rfl (fun K' hK => ?_)
            go_simp
            exact hK _ _ ⟨.bool false, (by simp [upd, e5, e10]), rfl, hgx, Below.refl _ _⟩
          · 
            try dsimp only
            have e11 : t 11 = .bool false := dep (F := fun i v (_ : World) => v = viTG w wr s bb off c (m + 1) m s.held[m + 1] a0 c0 pv i) (t := t) (w := wx) hdep 11 (by kernel_rfl)
            rw [e11]
            refine wpOp_step rfl (fun K' hK => ?_)
            go_simp
            exact hK _ _ ⟨.bool false, (by simp [upd, e11]), rfl, hgx, Below.refl _ _⟩
          · 
            try dsimp only
            have e12 : t 12 = .bool false := dep (F := fun i v (_ : World) => v = viTG w wr s bb off c (m + 1) m s.held[m + 1] a0 c0 pv i) (t := t) (w := wx) hdep 12 (by kernel_rfl)
            rw [e12]
            refine wpOp_step rfl (fun K' hK => ?_)
            go_simp
            exact hK _ _ ⟨.pointer (some ⟨wr.heap.size, 2, none⟩), (by simp [upd, e12]), rfl, hgx, Below.refl _ _⟩
          · 
            try dsimp only
            have e13 : t 13 = .pointer (some ⟨wr.heap.size, 2, none⟩) := dep (F := fun i v (_ : World) => v = viTG w wr s bb off c (m + 1) m s.held[m + 1] a0 c0 pv i) (t := t) (w := wx) hdep 13 (by kernel_rfl)
            have e12 : t 12 = .bool false := dep (F := fun i v (_ : World) => v = viTG w wr s bb off c (m + 1) m s.held[m + 1] a0 c0 pv i) (t := t) (w := wx) hdep 12 (by kernel_rfl)
            rw [e13, e12]
            refine wpOp_step rfl (fun K' hK => ?_)
            go_simp
            exact hK _ _ ⟨.int .i64 s.held[m + 1].seq, (by simp [upd, e13, e12]), rfl, hgx, Below.refl _ _⟩
          · 
            try dsimp only
            have e12 : t 12 = .bool false := dep (F := fun i v (_ : World) => v = viTG w wr s bb off c (m + 1) m s.held[m + 1] a0 c0 pv i) (t := t) (w := wx) hdep 12 (by kernel_rfl)
            rw [e12]
            refine wpOp_step rfl (fun K' hK => ?_)
            go_simp
            exact hK _ _ ⟨.pointer (some ⟨w.heap.size, 1, none⟩), (by simp [upd, e12]), rfl, hgx, Below.refl _ _⟩
          · 
            try dsimp only
            have e15 : t 15 = .pointer (some ⟨w.heap.size, 1, none⟩) := dep (F := fun i v (_ : World) => v = viTG w wr s bb off c (m + 1) m s.held[m + 1] a0 c0 pv i) (t := t) (w := wx) hdep 15 (by kernel_rfl)
            have e12 : t 12 = .bool false := dep (F := fun i v (_ : World) => v = viTG w wr s bb off c (m + 1) m s.held[m + 1] a0 c0 pv i) (t := t) (w := wx) hdep 12 (by kernel_rfl)
            rw [e15, e12]
            refine wpOp_step rfl (fun K' hK => ?_)
            go_simp
            exact hK _ _ ⟨.int .i64 s.expect, (by simp [upd, e15, e12]), rfl, hgx, Below.refl _ _⟩
          · 
            try dsimp only
            have e16 : t 16 = .int .i64 s.expect := dep (F := fun i v (_ : World) => v = viTG w wr s bb off c (m + 1) m s.held[m + 1] a0 c0 pv i) (t := t) (w := wx) hdep 16 (by kernel_rfl)
            have e12 : t 12 = .bool false := dep (F := fun i v (_ : World) => v = viTG w wr s bb off c (m + 1) m s.held[m + 1] a0 c0 pv i) (t := t) (w := wx) hdep 12 (by kernel_rfl)
            rw [e16, e12]
            refine wpOp_step rfl (fun K' hK => ?_)
            go_simp
            exact hK _ _ ⟨.int .i64 (s.expect + 8), (by simp [upd, e16, e12, HWE.out]), rfl, hgx, Below.refl _ _⟩
          · 
            try dsimp only
            have e14 : t 14 = .int .i64 s.held[m + 1].seq := dep (F := fun i v (_ : World) => v = viTG w wr s bb off c (m + 1) m s.held[m + 1] a0 c0 pv i) (t := t) (w := wx) hdep 14 (by kernel_rfl)
            have e17 : t 17 = .int .i64 (s.expect + 8) := dep (F := fun i v (_ : World) => v = viTG w wr s bb off c (m + 1) m s.held[m + 1] a0 c0 pv i) (t := t) (w := wx) hdep 17 (by kernel_rfl)
            have e12 : t 12 = .bool false := dep (F := fun i v (_ : World) => v = viTG w wr s bb off c (m + 1) m s.held[m + 1] a0 c0 pv i) (t := t) (w := wx) hdep 12 (by kernel_rfl)
            rw [e14, e17, e12]
            refine wpOp_step rfl (fun K' hK => ?_)
            go_simp
            exact hK _ _ ⟨.bool false, (by simp [upd, e14, e17, e12]), rfl, hgx, Below.refl _ _⟩
          · 
            try dsimp only
            have e12 : t 12 = .bool false := dep (F := fun i v (_ : World) => v = viTG w wr s bb off c (m + 1) m s.held[m + 1] a0 c0 pv i) (t := t) (w := wx) hdep 12 (by kernel_rfl)
            have e18 : t 18 = .bool false := dep (F := fun i v (_ : World) => v = viTG w wr s bb off c (m + 1) m s.held[m + 1] a0 c0 pv i) (t := t) (w := wx) hdep 18 (by kernel_rfl)
            rw [e12, e18]
            refine wpOp_step rfl (fun K' hK => ?_)
            go_simp
            exact hK _ _ ⟨.bool false, (by simp [upd, e12, e18]), rfl, hgx, Below.refl _ _⟩
          · 
            try dsimp only
            have e19 : t 19 = .bool false := dep (F := fun i v (_ : World) => v = viTG w wr s bb off c (m + 1) m s.held[m + 1] a0 c0 pv i) (t := t) (w := wx) hdep 19 (by kernel_rfl)
            rw [e19]
            refine wpOp_step rfl (fun K' hK => ?_)
            go_simp
            exact hK _ _ ⟨.bool false, (by simp [upd, e19]), rfl, hgx, Below.refl _ _⟩
          · 
            try dsimp only
            have e20 : t 20 = .bool false := dep (F := fun i v (_ : World) => v = viTG w wr s bb off c (m + 1) m s.held[m + 1] a0 c0 pv i) (t := t) (w := wx) hdep 20 (by kernel_rfl)
            rw [e20]
            refine wpOp_step rfl (fun K' hK => ?_)
            go_simp
            exact hK _ _ ⟨.int .i64 ((m : Int) + 1), (by simp [upd, e20]), rfl, hgx, Below.refl _ _⟩
          · 
            try dsimp only
            have e21 : t 21 = .int .i64 ((m : Int) + 1) := dep (F := fun i v (_ : World) => v = viTG w wr s bb off c (m + 1) m s.held[m + 1] a0 c0 pv i) (t := t) (w := wx) hdep 21 (by kernel_rfl)
            have e20 : t 20 = .bool false := dep (F := fun i v (_ : World) => v = viTG w wr s bb off c (m + 1) m s.held[m + 1] a0 c0 pv i) (t := t) (w := wx) hdep 20 (by kernel_rfl)
            rw [e21, e20]
            refine wpOp_step rfl (fun K' hK => ?_)
            go_simp
            exact hK _ _ ⟨.bool true, (by simp [upd, e21, e20]), rfl, hgx, Below.refl _ _⟩
          · 
            try dsimp only
            have e22 : t 22 = .bool true := dep (F := fun i v (_ : World) => v = viTG w wr s bb off c (m + 1) m s.held[m + 1] a0 c0 pv i) (t := t) (w := wx) hdep 22 (by kernel_rfl)
            have e20 : t 20 = .bool false := dep (F := fun i v (_ : World) => v = viTG w wr s bb off c (m + 1) m s.held[m + 1] a0 c0 pv i) (t := t) (w := wx) hdep 20 (by kernel_rfl)
            rw [e22, e20]
            refine wpOp_step rfl (fun K' hK => ?_)
            go_simp
            exact hK _ _ ⟨.bool true, (by simp [upd, e22, e20]), rfl, hgx, Below.refl _ _⟩
          · 
            try dsimp only
            have e23 : t 23 = .bool true := dep (F := fun i v (_ : World) => v = viTG w wr s bb off c (m + 1) m s.held[m + 1] a0 c0 pv i) (t := t) (w := wx) hdep 23 (by kernel_rfl)
            rw [e23]
            refine wpOp_step rfl (fun K' hK => ?_)
            go_simp
            exact hK _ _ ⟨.pointer (some ⟨w.heap.size, 2, none⟩), (by simp [upd, e23]), rfl, hgx, Below.refl _ _⟩
          · 
            try dsimp only
            have e24 : t 24 = .pointer (some ⟨w.heap.size, 2, none⟩) := dep (F := fun i v (_ : World) => v = viTG w wr s bb off c (m + 1) m s.held[m + 1] a0 c0 pv i) (t := t) (w := wx) hdep 24 (by kernel_rfl)
            have e23 : t 23 = .bool true := dep (F := fun i v (_ : World) => v = viTG w wr s bb off c (m + 1) m s.held[m + 1] a0 c0 pv i) (t := t) (w := wx) hdep 23 (by kernel_rfl)
            rw [e24, e23]
            refine wpOp_step rfl (fun K' hK => ?_)
            go_simp
            exact hK _ _ ⟨.slice (some ⟨bb, off, none⟩) s.held.length c, (by simp [upd, e24, e23]), rfl, hgx, Below.refl _ _⟩
          · 
            try dsimp only
            have e23 : t 23 = .bool true := dep (F := fun i v (_ : World) => v = viTG w wr s bb off c (m + 1) m s.held[m + 1] a0 c0 pv i) (t := t) (w := wx) hdep 23 (by kernel_rfl)
            rw [e23]
            refine wpOp_step rfl (fun K' hK => ?_)
            go_simp
            exact hK _ _ ⟨.int .i64 ((m : Int) + 1), (by simp [upd, e23]), rfl, hgx, Below.refl _ _⟩
          · 
            try dsimp only
            have e26 : t 26 = .int .i64 ((m : Int) + 1) := dep (F := fun i v (_ : World) => v = viTG w wr s bb off c (m + 1) m s.held[m + 1] a0 c0 pv i) (t := t) (w := wx) hdep 26 (by kernel_rfl)
            have e23 : t 23 = .bool true := dep (F := fun i v (_ : World) => v = viTG w wr s bb off c (m + 1) m s.held[m + 1] a0 c0 pv i) (t := t) (w := wx) hdep 23 (by kernel_rfl)
            rw [e26, e23]
            refine wpOp_step rfl (fun K' hK => ?_)
            go_simp
            exact hK _ _ ⟨.int .i64 (m : Int), (by simp [upd, e26, e23, HWM.out]), rfl, hgx, Below.refl _ _⟩
          · 
            try dsimp only
            have e25 : t 25 = .slice (some ⟨bb, off, none⟩) s.held.length c := dep (F := fun i v (_ : World) => v = viTG w wr s bb off c (m + 1) m s.held[m + 1] a0 c0 pv i) (t := t) (w := wx) hdep 25 (by kernel_rfl)
            have e27 : t 27 = .int .i64 (m : Int) := dep (F := fun i v (_ : World) => v = viTG w wr s bb off c (m + 1) m s.held[m + 1] a0 c0 pv i) (t := t) (w := wx) hdep 27 (by kernel_rfl)
            have e23 : t 23 = .bool true := dep (F := fun i v (_ : World) => v = viTG w wr s bb off c (m + 1) m s.held[m + 1] a0 c0 pv i) (t := t) (w := wx) hdep 23 (by kernel_rfl)
            rw [e25, e27, e23]
            refine wpOp_step rfl (fun K' hK => ?_)
            go_simp
            exact hK _ _ ⟨.pointer (some ⟨bb, off + m * 6, none⟩), (by simp [upd, e25, e27, e23]), rfl, hgx, Below.refl _ _⟩
          · 
            try dsimp only
            have e28 : t 28 = .pointer (some ⟨bb, off + m * 6, none⟩) := dep (F := fun i v (_ : World) => v = viTG w wr s bb off c (m + 1) m s.held[m + 1] a0 c0 pv i) (t := t) (w := wx) hdep 28 (by kernel_rfl)
            have e23 : t 23 = .bool true := dep (F := fun i v (_ : World) => v = viTG w wr s bb off c (m + 1) m s.held[m + 1] a0 c0 pv i) (t := t) (w := wx) hdep 23 (by kernel_rfl)
            rw [e28, e23]
            refine wpOp_step rfl (fun K' hK => ?_)
            go_simp
            exact hK _ _ ⟨.pointer (some ⟨bb, off + m * 6 + 2, none⟩), (by simp [upd, e28, e23]), rfl, hgx, Below.refl _ _⟩
          · 
            try dsimp only
            have e29 : t 29 = .pointer (some ⟨bb, off + m * 6 + 2, none⟩) := dep (F := fun i v (_ : World) => v = viTG w wr s bb off c (m + 1) m s.held[m + 1] a0 c0 pv i) (t := t) (w := wx) hdep 29 (by kernel_rfl)
            have e23 : t 23 = .bool true := dep (F := fun i v (_ : World) => v = viTG w wr s bb off c (m + 1) m s.held[m + 1] a0 c0 pv i) (t := t) (w := wx) hdep 23 (by kernel_rfl)
            rw [e29, e23]
            refine wpOp_step rfl (fun K' hK => ?_)
            go_simp
            exact hK _ _ ⟨.int .i64 pv, (by simp [upd, e29, e23]), rfl, hgx, Below.refl _ _⟩
          · 
            try dsimp only
            have e23 : t 23 = .bool true := dep (F := fun i v (_ : World) => v = viTG w wr s bb off c (m + 1) m s.held[m + 1] a0 c0 pv i) (t := t) (w := wx) hdep 23 (by kernel_rfl)
            rw [e23]
            refine wpOp_step rfl (fun K' hK => ?_)
            go_simp
            exact hK _ _ ⟨.pointer (some ⟨wr.heap.size, 2, none⟩), (by simp [upd, e23]), rfl, hgx, Below.refl _ _⟩
          · 
            try dsimp only
            have e31 : t 31 = .pointer (some ⟨wr.heap.size, 2, none⟩) := dep (F := fun i v (_ : World) => v = viTG w wr s bb off c (m + 1) m s.held[m + 1] a0 c0 pv i) (t := t) (w := wx) hdep 31 (by kernel_rfl)
            have e23 : t 23 = .bool true := dep (F := fun i v (_ : World) => v = viTG w wr s bb off c (m + 1) m s.held[m + 1] a0 c0 pv i) (t := t) (w := wx) hdep 23 (by kernel_rfl)
            rw [e31, e23]
            refine wpOp_step rfl (fun K' hK => ?_)
            go_simp
            exact hK _ _ ⟨.int .i64 s.held[m + 1].seq, (by simp [upd, e31, e23]), rfl, hgx, Below.refl _ _⟩
          · 
            try dsimp only
            have e30 : t 30 = .int .i64 pv := dep (F := fun i v (_ : World) => v = viTG w wr s bb off c (m + 1) m s.held[m + 1] a0 c0 pv i) (t := t) (w := wx) hdep 30 (by kernel_rfl)
            have e32 : t 32 = .int .i64 s.held[m + 1].seq := dep (F := fun i v (_ : World) => v = viTG w wr s bb off c (m + 1) m s.held[m + 1] a0 c0 pv i) (t := t) (w := wx) hdep 32 (by kernel_rfl)
            have e23 : t 23 = .bool true := dep (F := fun i v (_ : World) => v = viTG w wr s bb off c (m + 1) m s.held[m + 1] a0 c0 pv i) (t := t) (w := wx) hdep 23 (by kernel_rfl)
            rw [e30, e32, e23]
            refine wpOp_step rfl (fun K' hK => ?_)
            go_simp
            exact hK _ _ ⟨.bool false, (by simp [upd, e30, e32, e23]), rfl, hgx, Below.refl _ _⟩
          · 
            try dsimp only
            have e23 : t 23 = .bool true := dep (F := fun i v (_ : World) => v = viTG w wr s bb off c (m + 1) m s.held[m + 1] a0 c0 pv i) (t := t) (w := wx) hdep 23 (by kernel_rfl)
            have e33 : t 33 = .bool false := dep (F := fun i v (_ : World) => v = viTG w wr s bb off c (m + 1) m s.held[m + 1] a0 c0 pv i) (t := t) (w := wx) hdep 33 (by kernel_rfl)
            have e20 : t 20 = .bool false := dep (F := fun i v (_ : World) => v = viTG w wr s bb off c (m + 1) m s.held[m + 1] a0 c0 pv i) (t := t) (w := wx) hdep 20 (by kernel_rfl)
            rw [e23, e33, e20]
            refine wpOp_step rfl (fun K' hK => ?_)
            go_simp
            exact hK _ _ ⟨.bool false, (by simp [upd, e23, e33, e20]), rfl, hgx, Below.refl _ _⟩
          · 
            try dsimp only
            have e20 : t 20 = .bool false := dep (F := fun i v (_ : World) => v = viTG w wr s bb off c (m + 1) m s.held[m + 1] a0 c0 pv i) (t := t) (w := wx) hdep 20 (by kernel_rfl)
            have e34 : t 34 = .bool false := dep (F := fun i v (_ : World) => v = viTG w wr s bb off c (m + 1) m s.held[m + 1] a0 c0 pv i) (t := t) (w := wx) hdep 34 (by kernel_rfl)
            rw [e20, e34]
            refine wpOp_step rfl (fun K' hK => ?_)
            go_simp
            exact hK _ _ ⟨.bool false, (by simp [upd, e20, e34]), rfl, hgx, Below.refl _ _⟩
        · intro t wx hgx hall
          have HWW := hid hgx
          have hw' : Hid (Below w.heap.size w wx) := hid (below_chain HBW.out hgx)
          have e35 : t 35 = .bool false := hall 35 (by omega)
          clear hall hgx
          try dsimp only
          rw [e35]
          clear e35
          generalize t 0 = v0
          generalize t 1 = v1
          generalize t 2 = v2
          generalize t 3 = v3
          generalize t 4 = v4
          generalize t 5 = v5
          generalize t 6 = v6
          generalize t 7 = v7
          generalize t 8 = v8
          generalize t 9 = v9
          generalize t 10 = v10
          generalize t 11 = v11
          generalize t 12 = v12
          generalize t 13 = v13
          generalize t 14 = v14
          generalize t 15 = v15
          generalize t 16 = v16
          generalize t 17 = v17
          generalize t 18 = v18
          generalize t 19 = v19
          generalize t 20 = v20
          generalize t 21 = v21
          generalize t 22 = v22
          generalize t 23 = v23
          generalize t 24 = v24
          generalize t 25 = v25
          generalize t 26 = v26
          generalize t 27 = v27
          generalize t 28 = v28
          generalize t 29 = v29
          generalize t 30 = v30
          generalize t 31 = v31
          generalize t 32 = v32
          generalize t 33 = v33
          generalize t 34 = v34
          clear t
          go_wp2
          go_roundw
          case rel => exact ⟨m + 1 + 1, by omega, by go_num, HT.out, box_laterP2 HXW.out HWW.out, hw'.out⟩
          case measure => simp [intOf]; omega
    · obtain rfl : k = s.held.length := by omega
      have HZ := hid (inOK_all HH.out (fun j hj => HA.out j hj hj))
      go_wp2
      go_ret
      exact ⟨(by rw [HZ.out]; first | done | rfl), HB.out⟩
end Go.Proofs.YtfaehioeepolhaaGreat
