import Derived.Test.YtcljakdcejhfiacJLinkAcked33
import Derived.Test.YtcljakdcejhfiacJLinkAcked42
namespace Go.Proofs.Ytcljakdcejhfiac
open Go.RowKit
set_option maxRecDepth 100000 in
set_option maxHeartbeats 8000000 in
theorem specVO_any (o : PO) (a : Option Addr) (cap : Nat) (w : World) (hr : RdSl cSnt w o.wait (.slice a o.wait.length cap)) :
    Calls Try.prog 10 #[.agg #[.int .i64 o.epoch, .int .i64 o.next, .int .i64 o.now, .slice a o.wait.length cap]] w fun e w' => e = .returned (.bool (outOK o)) ∧ Below w.heap.size w w' := by
  have HR := hid hr
  have HF : Hid (¬ OutH o → outOK o = false) := hid outOK_head
  have HW : Hid (∀ k, (hk : k < o.wait.length) → outW o k o.wait[k] = false → outOK o = false) := hid (fun k hk h => outOK_at hk h)
  have HB0 := hid (below_new1 w (.cells #[.int .i64 o.epoch, .int .i64 o.next, .int .i64 o.now, .slice a o.wait.length cap] 29))
  have HK0 : Hid ((w.alloc (.cells #[.int .i64 o.epoch, .int .i64 o.next, .int .i64 o.now, .slice a o.wait.length cap] 29)).heap[w.heap.size]? = some (.cells #[.int .i64 o.epoch, .int .i64 o.next, .int .i64 o.now, .slice a o.wait.length cap] 29 (0, 0))) := hid (heap_alloc_new w _)
  have hml : o.wait.length ≤ maxLen := by obtain ⟨a', cap', e', g1, g2, _⟩ := hr; omega
  unfold maxLen at hml
  clear hr
  by_cases c0 : o.epoch < 1
  · have HX := hid (HF.out (by unfold OutH; omega))
    go_enter Try.func10, Try.ntmps10
    go_wp2
    go_ret
    exact ⟨(by rw [HX.out]; first | done | rfl), HB0.out⟩
  by_cases c1 : 1000000000 < o.epoch
  · have HX := hid (HF.out (by unfold OutH; omega))
    go_enter Try.func10, Try.ntmps10
    go_wp2
    go_ret
    exact ⟨(by rw [HX.out]; first | done | rfl), HB0.out⟩
  by_cases c2 : o.next < 0
  · have HX := hid (HF.out (by unfold OutH; omega))
    go_enter Try.func10, Try.ntmps10
    go_wp2
    go_ret
    exact ⟨(by rw [HX.out]; first | done | rfl), HB0.out⟩
  by_cases c3 : 1000000000000 < o.next
  · have HX := hid (HF.out (by unfold OutH; omega))
    go_enter Try.func10, Try.ntmps10
    go_wp2
    go_ret
    exact ⟨(by rw [HX.out]; first | done | rfl), HB0.out⟩
  by_cases c4 : o.now < 0
  · have HX := hid (HF.out (by unfold OutH; omega))
    go_enter Try.func10, Try.ntmps10
    go_wp2
    go_ret
    exact ⟨(by rw [HX.out]; first | done | rfl), HB0.out⟩
  by_cases c5 : 1000000000 < o.now
  · have HX := hid (HF.out (by unfold OutH; omega))
    go_enter Try.func10, Try.ntmps10
    go_wp2
    go_ret
    exact ⟨(by rw [HX.out]; first | done | rfl), HB0.out⟩
  by_cases c6 : 300 < o.wait.length
  · have HX := hid (HF.out (by unfold OutH; omega))
    have c6' : (300 : Int) < (o.wait.length : Int) := by omega
    go_enter Try.func10, Try.ntmps10
    go_wp2
    go_ret
    exact ⟨(by rw [HX.out]; first | done | rfl), HB0.out⟩
  have HH : Hid (OutH o) := hid (by unfold OutH; omega)
  have c6' : decide (300 < (o.wait.length : Int)) = false := decide_eq_false (by omega)
  go_enter Try.func10, Try.ntmps10
  go_wp2
  go_loopw [3] (fun i wr => ∃ k : Nat, k ≤ o.wait.length ∧ i = .int .i64 k ∧ (∀ j, (hj : j < o.wait.length) → j < k → outW o j o.wait[j] = true) ∧ wr.heap[w.heap.size]? = some (.cells #[.int .i64 o.epoch, .int .i64 o.next, .int .i64 o.now, .slice a o.wait.length cap] 29 (0, 0)) ∧ Below w.heap.size w wr) (fun i _ => o.wait.length - (intOf i).toNat)
  case atStart => exact ⟨0, Nat.zero_le _, rfl, fun j _ h => by omega, HK0.out, HB0.out⟩
  case round =>
    obtain ⟨k, hk, rfl, hall, hbx, hbe⟩ := hrel
    have HA := hid hall
    have HB := hid hbe
    have HX := hid hbx
    have hG : w.heap.size < wr.heap.size := (Array.getElem?_eq_some_iff.1 hbx).1
    have p0 := cell_of_row _ _ 0 _ _ _ hbx
    have p1 := cell_of_row _ _ 1 _ _ _ hbx
    have p2 := cell_of_row _ _ 2 _ _ _ hbx
    have p3 := cell_of_row _ _ 3 _ _ _ hbx
    simp only [List.getElem?_toArray, List.getElem?_cons_zero, List.getElem?_cons_succ] at p0 p1 p2 p3
    clear hall hbe hbx
    by_cases hlt : k < o.wait.length
    · obtain ⟨b, off, es, rfl, hes, hcs⟩ := (HR.out.later HB.out).atN hlt
      obtain ⟨a0, c0, rfl, hrd, -, -⟩ := cSnt_rd hes
      have d0 : wr.cell? ⟨b, off + k * 7, none⟩ = some (.int .i64 o.wait[k].pkt.kind) := by have h := hcs 0 (by decide); rw [show cSnt.n = 7 from rfl] at h; simpa [Nat.add_assoc] using h
      have d1 : wr.cell? ⟨b, off + k * 7 + 1, none⟩ = some (.int .i64 o.wait[k].pkt.epoch) := by have h := hcs 1 (by decide); rw [show cSnt.n = 7 from rfl] at h; simpa [Nat.add_assoc] using h
      have d2 : wr.cell? ⟨b, off + k * 7 + 2, none⟩ = some (.int .i64 o.wait[k].pkt.seq) := by have h := hcs 2 (by decide); rw [show cSnt.n = 7 from rfl] at h; simpa [Nat.add_assoc] using h
      have d3 : wr.cell? ⟨b, off + k * 7 + 3, none⟩ = some (.int .i64 o.wait[k].pkt.count) := by have h := hcs 3 (by decide); rw [show cSnt.n = 7 from rfl] at h; simpa [Nat.add_assoc] using h
      have d4 : wr.cell? ⟨b, off + k * 7 + 4, none⟩ = some (.bool o.wait[k].pkt.last) := by have h := hcs 4 (by decide); rw [show cSnt.n = 7 from rfl] at h; simpa [Nat.add_assoc] using h
      have d5 : wr.cell? ⟨b, off + k * 7 + 5, none⟩ = some (.slice a0 o.wait[k].pkt.data.length c0) := by have h := hcs 5 (by decide); rw [show cSnt.n = 7 from rfl] at h; simpa [Nat.add_assoc] using h
      have d6 : wr.cell? ⟨b, off + k * 7 + 6, none⟩ = some (.int .i64 o.wait[k].at_) := by have h := hcs 6 (by decide); rw [show cSnt.n = 7 from rfl] at h; simpa [Nat.add_assoc] using h
      have hdl : o.wait[k].pkt.data.length ≤ maxLen := by obtain ⟨a', cap', e', g1, g2, _⟩ := hrd; omega
      have hki : (k : Int) < (o.wait.length : Int) := by omega
      have HOW : Hid (outW o k o.wait[k] = (dataB o.wait[k].pkt o.epoch && decide (o.wait[k].pkt.seq = o.next - o.wait.length + k ∧ -1 ≤ o.wait[k].at_ ∧ o.wait[k].at_ ≤ o.now))) := hid rfl
      have HWk := hid (HW.out k hlt)
      have HB1 := hid (below_new1 wr (.cells #[.int .i64 o.wait[k].pkt.kind, .int .i64 o.wait[k].pkt.epoch, .int .i64 o.wait[k].pkt.seq, .int .i64 o.wait[k].pkt.count, .bool o.wait[k].pkt.last, .slice a0 o.wait[k].pkt.data.length c0, .int .i64 o.wait[k].at_] 85))
      have HY1 : Hid ((wr.alloc (.cells #[.int .i64 o.wait[k].pkt.kind, .int .i64 o.wait[k].pkt.epoch, .int .i64 o.wait[k].pkt.seq, .int .i64 o.wait[k].pkt.count, .bool o.wait[k].pkt.last, .slice a0 o.wait[k].pkt.data.length c0, .int .i64 o.wait[k].at_] 85)).heap[wr.heap.size]? = some (.cells #[.int .i64 o.wait[k].pkt.kind, .int .i64 o.wait[k].pkt.epoch, .int .i64 o.wait[k].pkt.seq, .int .i64 o.wait[k].pkt.count, .bool o.wait[k].pkt.last, .slice a0 o.wait[k].pkt.data.length c0, .int .i64 o.wait[k].at_] 85 (0, 0))) := hid (heap_alloc_new wr _)
      have HNX : Hid (outW o k o.wait[k] = true → ∀ j, (hj : j < o.wait.length) → j < k + 1 → outW o j o.wait[j] = true) := hid (fun h j hj hjk => by
        by_cases e : j = k
        · subst e; exact h
        · exact HA.out j hj (by omega))
      clear hes hcs hrd
      go_wp2_with fail
      refine (l5valid_any o.wait[k].pkt a0 c0 _ hdl).mono ?_
      rintro e w2 ⟨rfl, b2⟩
      have hy := box_laterP2 HY1.out b2
      have hx := box_laterP2 HX.out (below_chain HB1.out b2)
      have y0 := cell_of_row _ _ 0 _ _ _ hy
      have y1 := cell_of_row _ _ 1 _ _ _ hy
      have y2 := cell_of_row _ _ 2 _ _ _ hy
      have y3 := cell_of_row _ _ 3 _ _ _ hy
      have y4 := cell_of_row _ _ 4 _ _ _ hy
      have y5 := cell_of_row _ _ 5 _ _ _ hy
      have y6 := cell_of_row _ _ 6 _ _ _ hy
      have z0 := cell_of_row _ _ 0 _ _ _ hx
      have z1 := cell_of_row _ _ 1 _ _ _ hx
      have z2 := cell_of_row _ _ 2 _ _ _ hx
      have z3 := cell_of_row _ _ 3 _ _ _ hx
      simp only [List.getElem?_toArray, List.getElem?_cons_zero, List.getElem?_cons_succ] at y0 y1 y2 y3 y4 y5 y6 z0 z1 z2 z3
      have HX2 := hid hx
      have HB2 := hid (below_chain HB.out (below_chain HB1.out b2))
      clear hx hy b2 HY1 d0 d1 d2 d3 d4 d5 d6 p0 p1 p2 p3
      cases hok : pktOK o.wait[k].pkt with
      | false =>
        have HOK := hid hok
        clear hok
        have HZ := hid (HWk.out (by rw [HOW.out]; unfold dataB; rw [HOK.out]; rfl))
        go_wp2
        go_ret
        exact ⟨(by rw [HZ.out]; first | done | rfl), HB2.out⟩
      | true =>
        have HOK := hid hok
        clear hok
        by_cases k1 : o.wait[k].pkt.kind = 1
        · have Hk1 := hid k1
          have k1t : (o.wait[k].pkt.kind != 1) = false := by simp; omega
          clear k1
          by_cases e1 : o.wait[k].pkt.epoch = o.epoch
          · have He1 := hid e1
            have e1t : (o.wait[k].pkt.epoch != o.epoch) = false := by simp; omega
            clear e1
            by_cases s1 : o.wait[k].pkt.seq = o.next - o.wait.length + k
            · have Hs1 := hid s1
              have s1t : (o.wait[k].pkt.seq != o.next - (o.wait.length : Int) + (k : Int)) = false := by simp; omega
              clear s1
              by_cases a1 : ¬ (o.wait[k].at_ < -1)
              · have Ha1 := hid a1
                have a1t : decide (o.wait[k].at_ < -1) = false := by simp; omega
                clear a1
                by_cases n1 : ¬ (o.now < o.wait[k].at_)
                · have Hn1 := hid n1
                  have n1t : decide (o.now < o.wait[k].at_) = false := by simp; omega
                  clear n1
                  have HT := hid (HNX.out (by rw [HOW.out]; unfold dataB; rw [HOK.out, decide_eq_true Hk1.out, decide_eq_true He1.out, decide_eq_true ⟨Hs1.out, by have := Ha1.out; omega, by have := Hn1.out; omega⟩]; rfl))
                  go_wp2
                  go_roundw
                  case rel => exact ⟨k + 1, by omega, by go_num, HT.out, HX2.out, HB2.out⟩
                  case measure => simp [intOf]; omega
                have Hn1 := hid n1
                have n1f : decide (o.now < o.wait[k].at_) = true := by simp; omega
                clear n1
                have HZ := hid (HWk.out (by rw [HOW.out]; rw [decide_eq_false (p := _ ∧ _) (fun h => Hn1.out (by omega))]; simp))
                go_wp2
                go_ret
                exact ⟨(by rw [HZ.out]; first | done | rfl), HB2.out⟩
              have Ha1 := hid a1
              have a1f : decide (o.wait[k].at_ < -1) = true := by simp; omega
              clear a1
              have HZ := hid (HWk.out (by rw [HOW.out]; rw [decide_eq_false (p := _ ∧ _) (fun h => Ha1.out (by omega))]; simp))
              go_wp2
              go_ret
              exact ⟨(by rw [HZ.out]; first | done | rfl), HB2.out⟩
            have Hs1 := hid s1
            have s1f : (o.wait[k].pkt.seq != o.next - (o.wait.length : Int) + (k : Int)) = true := by simp; omega
            clear s1
            have HZ := hid (HWk.out (by rw [HOW.out]; rw [decide_eq_false (p := _ ∧ _) (fun h => Hs1.out h.1)]; simp))
            go_wp2
            go_ret
            exact ⟨(by rw [HZ.out]; first | done | rfl), HB2.out⟩
          have He1 := hid e1
          have e1f : (o.wait[k].pkt.epoch != o.epoch) = true := by simp; omega
          clear e1
          have HZ := hid (HWk.out (by rw [HOW.out]; unfold dataB; rw [decide_eq_false He1.out]; simp))
          go_wp2
          go_ret
          exact ⟨(by rw [HZ.out]; first | done | rfl), HB2.out⟩
        have Hk1 := hid k1
        have k1f : (o.wait[k].pkt.kind != 1) = true := by simp; omega
        clear k1
        have HZ := hid (HWk.out (by rw [HOW.out]; unfold dataB; rw [decide_eq_false Hk1.out]; simp))
        go_wp2
        go_ret
        exact ⟨(by rw [HZ.out]; first | done | rfl), HB2.out⟩
    · obtain rfl : k = o.wait.length := by omega
      have HZ := hid (outOK_all HH.out (fun j hj => HA.out j hj hj))
      go_wp2
      go_ret
      exact ⟨(by rw [HZ.out]; first | done | rfl), HB.out⟩
end Go.Proofs.Ytcljakdcejhfiac
