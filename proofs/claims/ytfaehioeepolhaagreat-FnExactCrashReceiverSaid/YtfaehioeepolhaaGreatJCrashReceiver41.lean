import Derived.Test.YtfaehioeepolhaaGreatJCrashReceiver34
import Derived.Test.YtfaehioeepolhaaGreatJCrashReceiver40
import Derived.Test.YtfaehioeepolhaaGreatJCrashReceiver36
import Derived.Test.YtfaehioeepolhaaGreatJCrashReceiver0
namespace Go.Proofs.YtfaehioeepolhaaGreat
open Go.RowKit
set_option maxRecDepth 100000 in
set_option maxHeartbeats 4000000 in
theorem isDataOf_any (p : PP) (a : Option Addr) (cap : Nat) (ep : Int) (w : World) (hn : p.data.length ≤ maxLen) :
    Calls Tryz.prog 94 #[.agg #[.int .i64 p.kind, .int .i64 p.epoch, .int .i64 p.seq, .int .i64 p.count, .bool p.last, .slice a p.data.length cap], .int .i64 ep] w fun e w' => e = .returned (.bool (dataB p ep)) ∧ Below w.heap.size w w' := by
  have HV := hid (validPacket_any p a cap (w.alloc (.cells #[.int .i64 p.kind, .int .i64 p.epoch, .int .i64 p.seq, .int .i64 p.count, .bool p.last, .slice a p.data.length cap] 120)) hn)
  have HB0 := hid (below_new1 w (.cells #[.int .i64 p.kind, .int .i64 p.epoch, .int .i64 p.seq, .int .i64 p.count, .bool p.last, .slice a p.data.length cap] 120))
  have HK0 : Hid ((w.alloc (.cells #[.int .i64 p.kind, .int .i64 p.epoch, .int .i64 p.seq, .int .i64 p.count, .bool p.last, .slice a p.data.length cap] 120)).heap[w.heap.size]? = some (.cells #[.int .i64 p.kind, .int .i64 p.epoch, .int .i64 p.seq, .int .i64 p.count, .bool p.last, .slice a p.data.length cap] 120 (0, 0))) := hid (heap_alloc_new w _)
  have HD : Hid (dataB p ep = (pktOK p && (decide (p.kind = 1) && decide (p.epoch = ep)))) := hid rfl
  clear hn
  go_enter Tryz.func94, Tryz.ntmps94
  go_wp2_with fail
  refine HV.out.mono ?_
  rintro e w2 ⟨rfl, b2⟩
  have hx := box_laterP2 HK0.out b2
  have z0 := cell_of_row _ _ 0 _ _ _ hx
  have z1 := cell_of_row _ _ 1 _ _ _ hx
  simp only [List.getElem?_toArray, List.getElem?_cons_zero, List.getElem?_cons_succ] at z0 z1
  have HB2 := hid (below_chain HB0.out b2)
  clear b2 hx
  cases hok : pktOK p with
  | false =>
    rw [hok] at HD
    clear hok
    go_wp2
    go_ret
    exact ⟨(by rw [HD.out]; first | done | rfl), HB2.out⟩
  | true =>
    rw [hok] at HD
    clear hok
    by_cases k1 : p.kind = 1
    · have k1t : (p.kind == 1) = true := by simp; omega
      rw [decide_eq_true k1] at HD
      clear k1
      by_cases e1 : p.epoch = ep
      · have e1t : (p.epoch == ep) = true := by simp; omega
        rw [decide_eq_true e1] at HD
        clear e1
        go_wp2
        go_ret
        exact ⟨(by rw [HD.out]; first | done | rfl), HB2.out⟩
      · have e1t : (p.epoch == ep) = false := by simp; omega
        rw [decide_eq_false e1] at HD
        clear e1
        go_wp2
        go_ret
        exact ⟨(by rw [HD.out]; first | done | rfl), HB2.out⟩
    · have k1t : (p.kind == 1) = false := by simp; omega
      rw [decide_eq_false k1] at HD
      clear k1
      go_wp2
      go_ret
      exact ⟨(by rw [HD.out]; first | done | rfl), HB2.out⟩
end Go.Proofs.YtfaehioeepolhaaGreat
namespace Go.Proofs.YtfaehioeepolhaaGreat
open Go.RowKit
set_option maxRecDepth 100000 in
set_option maxHeartbeats 8000000 in
theorem implVI_any (s : PI) (a b : Option Addr) (c d : Nat) (w : World) (hr : RdIn w s a c b d) :
    Calls Tryz.prog 47 #[.agg #[.int .i64 s.epoch, .int .i64 s.expect, .slice a s.held.length c, .slice b s.part.length d]] w fun e w' => e = .returned (.bool (inOK s)) ∧ Below w.heap.size w w' := by
  have HR := hid hr
  have HF : Hid (¬ InH s → inOK s = false) := hid inOK_head
  have HW : Hid (∀ k, (hk : k < s.held.length) → inW s k s.held[k] = false → inOK s = false) := hid (fun k hk h => inOK_at hk h)
  have HB0 := hid (below_new1 w (.cells #[.int .i64 s.epoch, .int .i64 s.expect, .slice a s.held.length c, .slice b s.part.length d] 37))
  have HK0 : Hid ((w.alloc (.cells #[.int .i64 s.epoch, .int .i64 s.expect, .slice a s.held.length c, .slice b s.part.length d] 37)).heap[w.heap.size]? = some (.cells #[.int .i64 s.epoch, .int .i64 s.expect, .slice a s.held.length c, .slice b s.part.length d] 37 (0, 0))) := hid (heap_alloc_new w _)
  have hml : s.held.length ≤ maxLen := by obtain ⟨a', cap', e', g1, g2, _⟩ := hr.f; omega
  have hpl := rdBytes_max hr.t
  unfold maxLen at hml hpl
  clear hr
  have HE := hid (within_any s.epoch 0 1000000000 (w.alloc (.cells #[.int .i64 s.epoch, .int .i64 s.expect, .slice a s.held.length c, .slice b s.part.length d] 37)))
  have HS := hid (within_any s.expect 0 1000000000000 (w.alloc (.cells #[.int .i64 s.epoch, .int .i64 s.expect, .slice a s.held.length c, .slice b s.part.length d] 37)))
  by_cases c0 : ¬ (0 ≤ s.epoch ∧ s.epoch ≤ 1000000000)
  · rw [decide_eq_false c0] at HE
    have HX := hid (HF.out (by unfold InH; omega))
    go_enter Tryz.func47, Tryz.ntmps47
    go_wp2_with fail
    refine (HE.out).mono ?_
    rintro e w1 ⟨rfl, rfl⟩
    go_wp2
    go_ret
    exact ⟨(by rw [HX.out]; first | done | rfl), HB0.out⟩
  rw [decide_eq_true (Decidable.not_not.1 c0)] at HE
  by_cases c1 : ¬ (0 ≤ s.expect ∧ s.expect ≤ 1000000000000)
  · rw [decide_eq_false c1] at HS
    have HX := hid (HF.out (by unfold InH; omega))
    go_enter Tryz.func47, Tryz.ntmps47
    go_wp2_with fail
    refine (HE.out).mono ?_
    rintro e w1 ⟨rfl, rfl⟩
    go_wp2_with fail
    refine (HS.out).mono ?_
    rintro e w1 ⟨rfl, rfl⟩
    go_wp2
    go_ret
    exact ⟨(by rw [HX.out]; first | done | rfl), HB0.out⟩
  rw [decide_eq_true (Decidable.not_not.1 c1)] at HS
  by_cases c6 : 20000 < s.part.length
  · have HX := hid (HF.out (by unfold InH; omega))
    have c6' : (20000 : Int) < (s.part.length : Int) := by omega
    go_enter Tryz.func47, Tryz.ntmps47
    go_wp2_with fail
    refine (HE.out).mono ?_
    rintro e w1 ⟨rfl, rfl⟩
    go_wp2_with fail
    refine (HS.out).mono ?_
    rintro e w1 ⟨rfl, rfl⟩
    go_wp2
    go_ret
    exact ⟨(by rw [HX.out]; first | done | rfl), HB0.out⟩
  have HH : Hid (InH s) := hid (by unfold InH; omega)
  have c6' : decide (20000 < (s.part.length : Int)) = false := decide_eq_false (by omega)
  have hx0 : 0 ≤ s.expect := by omega
  have hx1 : s.expect ≤ 1000000000000 := by omega
  clear c0 c1 c6
  go_enter Tryz.func47, Tryz.ntmps47
  go_wp2_with fail
  refine (HE.out).mono ?_
  rintro e w1 ⟨rfl, rfl⟩
  go_wp2_with fail
  refine (HS.out).mono ?_
  rintro e w1 ⟨rfl, rfl⟩
  go_wp2
  go_loopw [3, 27] (fun bf i wr => ∃ k : Nat, k ≤ s.held.length ∧ i = .int .i64 k ∧ bf = .int .i64 (prevSeq s k) ∧ (∀ j, (hj : j < s.held.length) → j < k → inW s j s.held[j] = true) ∧ wr.heap[w.heap.size]? = some (.cells #[.int .i64 s.epoch, .int .i64 s.expect, .slice a s.held.length c, .slice b s.part.length d] 37 (0, 0)) ∧ Below w.heap.size w wr) (fun _ i _ => s.held.length - (intOf i).toNat)
  case atStart => exact ⟨0, Nat.zero_le _, rfl, rfl, fun j _ h => by omega, HK0.out, HB0.out⟩
  case round =>
    obtain ⟨k, hk, rfl, rfl, hall, hbx, hbe⟩ := hrel
    have HA := hid hall
    have HB := hid hbe
    have HX := hid hbx
    have hG : w.heap.size < wr.heap.size := (Array.getElem?_eq_some_iff.1 hbx).1
    have p0 := cell_of_row _ _ 0 _ _ _ hbx
    have p1 := cell_of_row _ _ 1 _ _ _ hbx
    have p2 := cell_of_row _ _ 2 _ _ _ hbx
    have p3 := cell_of_row _ _ 3 _ _ _ hbx
    simp only [List.getElem?_toArray, List.getElem?_cons_zero, List.getElem?_cons_succ] at p0 p1 p2 p3
    clear hall hbe hbx
    by_cases hlt : k < s.held.length
    · obtain ⟨bb, off, es, rfl, hes, hcs⟩ := (HR.out.f.later HB.out).atN hlt
      obtain ⟨a0, c0, rfl, hrd, hpin⟩ := cPkt_rd hes
      have d0 : wr.cell? ⟨bb, off + k * 6, none⟩ = some (.int .i64 s.held[k].kind) := by have h := hcs 0 (by decide); rw [show cPkt.n = 6 from rfl] at h; simpa [Nat.add_assoc] using h
      have d1 : wr.cell? ⟨bb, off + k * 6 + 1, none⟩ = some (.int .i64 s.held[k].epoch) := by have h := hcs 1 (by decide); rw [show cPkt.n = 6 from rfl] at h; simpa [Nat.add_assoc] using h
      have d2 : wr.cell? ⟨bb, off + k * 6 + 2, none⟩ = some (.int .i64 s.held[k].seq) := by have h := hcs 2 (by decide); rw [show cPkt.n = 6 from rfl] at h; simpa [Nat.add_assoc] using h
      have d3 : wr.cell? ⟨bb, off + k * 6 + 3, none⟩ = some (.int .i64 s.held[k].count) := by have h := hcs 3 (by decide); rw [show cPkt.n = 6 from rfl] at h; simpa [Nat.add_assoc] using h
      have d4 : wr.cell? ⟨bb, off + k * 6 + 4, none⟩ = some (.bool s.held[k].last) := by have h := hcs 4 (by decide); rw [show cPkt.n = 6 from rfl] at h; simpa [Nat.add_assoc] using h
      have d5 : wr.cell? ⟨bb, off + k * 6 + 5, none⟩ = some (.slice a0 s.held[k].data.length c0) := by have h := hcs 5 (by decide); rw [show cPkt.n = 6 from rfl] at h; simpa [Nat.add_assoc] using h
      have hdl : s.held[k].data.length ≤ maxLen := rdBytes_max hrd
      have hki : (k : Int) < (s.held.length : Int) := by omega
      have HOW : Hid (inW s k s.held[k] = (dataB s.held[k] s.epoch && decide (s.expect < s.held[k].seq ∧ prevSeq s k < s.held[k].seq ∧ s.held[k].seq < s.expect + 8))) := hid rfl
      have HWk := hid (HW.out k hlt)
      have HPG := hid (prevSeq_ge hk HA.out)
      have HB1 := hid (below_new1 wr (.cells #[.int .i64 s.held[k].kind, .int .i64 s.held[k].epoch, .int .i64 s.held[k].seq, .int .i64 s.held[k].count, .bool s.held[k].last, .slice a0 s.held[k].data.length c0] 120))
      have HY1 : Hid ((wr.alloc (.cells #[.int .i64 s.held[k].kind, .int .i64 s.held[k].epoch, .int .i64 s.held[k].seq, .int .i64 s.held[k].count, .bool s.held[k].last, .slice a0 s.held[k].data.length c0] 120)).heap[wr.heap.size]? = some (.cells #[.int .i64 s.held[k].kind, .int .i64 s.held[k].epoch, .int .i64 s.held[k].seq, .int .i64 s.held[k].count, .bool s.held[k].last, .slice a0 s.held[k].data.length c0] 120 (0, 0))) := hid (heap_alloc_new wr _)
      have HNX : Hid (inW s k s.held[k] = true → ∀ j, (hj : j < s.held.length) → j < k + 1 → inW s j s.held[j] = true) := hid (fun h j hj hjk => by
        by_cases e : j = k
        · subst e; exact h
        · exact HA.out j hj (by omega))
      clear hes hcs hrd hpin
      have HPS := hid (prevSeq_succ s k hlt)
      generalize prevSeq s k = pv at *
      go_wp2_with fail
      refine (isDataOf_any s.held[k] a0 c0 s.epoch _ hdl).mono ?_
      rintro e w2 ⟨rfl, b2⟩
      have hy := box_laterP2 HY1.out b2
      have hx := box_laterP2 HX.out (below_chain HB1.out b2)
      have y0 := cell_of_row _ _ 0 _ _ _ hy
      have y1 := cell_of_row _ _ 1 _ _ _ hy
      have y2 := cell_of_row _ _ 2 _ _ _ hy
      have y3 := cell_of_row _ _ 3 _ _ _ hy
      have y4 := cell_of_row _ _ 4 _ _ _ hy
      have y5 := cell_of_row _ _ 5 _ _ _ hy
      have z0 := cell_of_row _ _ 0 _ _ _ hx
      have z1 := cell_of_row _ _ 1 _ _ _ hx
      have z2 := cell_of_row _ _ 2 _ _ _ hx
      have z3 := cell_of_row _ _ 3 _ _ _ hx
      simp only [List.getElem?_toArray, List.getElem?_cons_zero, List.getElem?_cons_succ] at y0 y1 y2 y3 y4 y5 z0 z1 z2 z3
      have HX2 := hid hx
      have HB2 := hid (below_chain HB.out (below_chain HB1.out b2))
      clear hx hy b2 HY1 d0 d1 d2 d3 d4 d5 p0 p1 p2 p3
      cases hok : dataB s.held[k] s.epoch with
      | false =>
        have HOK := hid hok
        clear hok
        have HZ := hid (HWk.out (by rw [HOW.out]; rw [HOK.out]; rfl))
        go_wp2
        go_ret
        exact ⟨(by rw [HZ.out]; first | done | rfl), HB2.out⟩
      | true =>
        have HOK := hid hok
        clear hok
        by_cases s1 : s.held[k].seq ≤ pv
        · have Hs1 := hid s1
          have s1t : decide (s.held[k].seq ≤ pv) = true := by simp; omega
          clear s1
          have HZ := hid (HWk.out (by rw [HOW.out]; rw [decide_eq_false (p := _ ∧ _) (fun h => by have := Hs1.out; omega)]; simp))
          go_wp2
          go_ret
          exact ⟨(by rw [HZ.out]; first | done | rfl), HB2.out⟩
        have Hs1 := hid s1
        have s1t : decide (s.held[k].seq ≤ pv) = false := by simp; omega
        clear s1
        by_cases s2 : s.expect + 8 ≤ s.held[k].seq
        · have Hs2 := hid s2
          have s2t : decide (s.expect + 8 ≤ s.held[k].seq) = true := by simp; omega
          clear s2
          have HZ := hid (HWk.out (by rw [HOW.out]; rw [decide_eq_false (p := _ ∧ _) (fun h => by have := Hs2.out; omega)]; simp))
          go_wp2
          go_ret
          exact ⟨(by rw [HZ.out]; first | done | rfl), HB2.out⟩
        have Hs2 := hid s2
        have s2t : decide (s.expect + 8 ≤ s.held[k].seq) = false := by simp; omega
        clear s2
        have HT := hid (HNX.out (by rw [HOW.out, HOK.out, decide_eq_true (by have := Hs1.out; have := Hs2.out; have := HPG.out; omega)]; rfl))
        go_wp2
        go_roundw
        case rel => exact ⟨k + 1, by omega, by go_num, by rw [HPS.out], HT.out, HX2.out, HB2.out⟩
        case measure => simp [intOf]; omega
    · obtain rfl : k = s.held.length := by omega
      have HZ := hid (inOK_all HH.out (fun j hj => HA.out j hj hj))
      go_wp2
      go_ret
      exact ⟨(by rw [HZ.out]; first | done | rfl), HB.out⟩
end Go.Proofs.YtfaehioeepolhaaGreat
namespace Go.Proofs.YtfaehioeepolhaaGreat
open Go.RowKit
set_option maxHeartbeats 1000000 in
theorem validNext_any (n : Int) (w : World) :
    Calls Tryz.prog 92 #[.int .i64 n] w fun e w' => e = .returned (.bool (decide (0 ≤ n ∧ n ≤ 1000000000))) ∧ w' = w := by
  by_cases h1 : 0 ≤ n
  · by_cases h2 : n ≤ 1000000000
    · rw [decide_eq_true ⟨h1, h2⟩]
      go_enter Tryz.func92, Tryz.ntmps92
      go_wp2
      go_ret
      exact ⟨rfl, rfl⟩
    · rw [decide_eq_false (fun h => h2 h.2)]
      go_enter Tryz.func92, Tryz.ntmps92
      go_wp2
      go_ret
      exact ⟨rfl, rfl⟩
  · rw [decide_eq_false (fun h => h1 h.1)]
    go_enter Tryz.func92, Tryz.ntmps92
    go_wp2
    go_ret
    exact ⟨rfl, rfl⟩
end Go.Proofs.YtfaehioeepolhaaGreat
