import Derived.Test.YtmaccmgmcahopaaJLink13
import Derived.Deep.DeepCutAuto
import Derived.Test.YtmaccmgmcahopaaJLink7
import Derived.Test.YtmaccmgmcahopaaJLink30
import Derived.Test.YtmaccmgmcahopaaJLink26
namespace Go.Proofs.Ytmaccmgmcahopaa
open Go.RowKit Go.Maps Go.WideMaps
set_option maxRecDepth 100000 in
set_option maxHeartbeats 4000000 in
theorem byNumber_any (ps : List PP) (a : Option Addr) (cap : Nat) (w : World) (hr : RdSl cPkt w ps (.slice a ps.length cap)) (hlen : ps.length ≤ 1048576) :
    Calls Try.prog 52 #[.slice a ps.length cap] w fun e w' => ∃ m, e = .returned (.map (some m)) ∧ w.heap.size ≤ m ∧ PkMap w w' m ps.length ps.reverse ∧ Below w.heap.size w w' := by
  have hmm := @run_makeMap Try.prog
  have HR := hid hr
  clear hr
  go_enter Try.func52, Try.ntmps52
  have HM0 : Hid (PkMap w (w.alloc (.map #[] 0)) w.heap.size 0 []) := hid (PkMap.made w w)
  have HB0 : Hid (Below w.heap.size w (w.alloc (.map #[] 0))) := hid (below_new1 w _)
  go_wp2
  generalize (w.alloc (.map #[] 0)) = W0 at *
  clear hmm
  go_loopw [5, 9] (fun _ i wr => ∃ k : Nat, k ≤ ps.length ∧ i = .int .i64 k ∧ PkMap w wr w.heap.size k (ps.take k).reverse ∧ Below w.heap.size w wr) (fun _ i _ => ps.length - (intOf i).toNat)
  case atStart => exact ⟨0, Nat.zero_le _, rfl, HM0.out, HB0.out⟩
  case round =>
    obtain ⟨k, hk, rfl, hmp, hbe⟩ := hrel
    have HMP := hid hmp
    have HBE := hid hbe
    clear hmp hbe
    by_cases hlt : k < ps.length
    · have HTK : Hid ((ps.take (k + 1)).reverse = ps[k] :: (ps.take k).reverse) := hid (by rw [List.take_succ_eq_append_getElem hlt, List.reverse_append]; rfl)
      obtain ⟨bb, off, es, rfl, hes, hcs⟩ := HR.out.atN hlt
      obtain ⟨an, cn, rfl, hnm, hhin⟩ := cPkt_rd hes
      generalize ps[k] = x at *
      have q0 : w.cell? ⟨bb, off + k * 6, none⟩ = some (.int .i64 x.kind) := by have h := hcs 0 (by decide); rw [show cPkt.n = 6 from rfl] at h; simpa [Nat.add_assoc] using h
      have qc0 := (HBE.out.cell (World.block_lt_of_cell? _ _ q0)).trans q0
      clear q0
      have q1 : w.cell? ⟨bb, off + k * 6 + 1, none⟩ = some (.int .i64 x.epoch) := by have h := hcs 1 (by decide); rw [show cPkt.n = 6 from rfl] at h; simpa [Nat.add_assoc] using h
      have qc1 := (HBE.out.cell (World.block_lt_of_cell? _ _ q1)).trans q1
      clear q1
      have q2 : w.cell? ⟨bb, off + k * 6 + 2, none⟩ = some (.int .i64 x.seq) := by have h := hcs 2 (by decide); rw [show cPkt.n = 6 from rfl] at h; simpa [Nat.add_assoc] using h
      have qc2 := (HBE.out.cell (World.block_lt_of_cell? _ _ q2)).trans q2
      clear q2
      have q3 : w.cell? ⟨bb, off + k * 6 + 3, none⟩ = some (.int .i64 x.count) := by have h := hcs 3 (by decide); rw [show cPkt.n = 6 from rfl] at h; simpa [Nat.add_assoc] using h
      have qc3 := (HBE.out.cell (World.block_lt_of_cell? _ _ q3)).trans q3
      clear q3
      have q4 : w.cell? ⟨bb, off + k * 6 + 4, none⟩ = some (.bool x.last) := by have h := hcs 4 (by decide); rw [show cPkt.n = 6 from rfl] at h; simpa [Nat.add_assoc] using h
      have qc4 := (HBE.out.cell (World.block_lt_of_cell? _ _ q4)).trans q4
      clear q4
      have q5 : w.cell? ⟨bb, off + k * 6 + 5, none⟩ = some (.slice an x.data.length cn) := by have h := hcs 5 (by decide); rw [show cPkt.n = 6 from rfl] at h; simpa [Nat.add_assoc] using h
      have qc5 := (HBE.out.cell (World.block_lt_of_cell? _ _ q5)).trans q5
      clear q5
      have HNM := hid hnm
      have HIN := hid hhin
      have hki : (k : Int) < (ps.length : Int) := by omega
      clear hes hcs hnm hhin
      have HK1 : Hid ((wr.alloc (.cells #[.int .i64 x.kind, .int .i64 x.epoch, .int .i64 x.seq, .int .i64 x.count, .bool x.last, .slice an x.data.length cn] 35)).heap[wr.heap.size]? = some (.cells #[.int .i64 x.kind, .int .i64 x.epoch, .int .i64 x.seq, .int .i64 x.count, .bool x.last, .slice an x.data.length cn] 35 (0, 0))) := hid (heap_alloc_new _ _)
      have HBX := hid (below_new1 wr (.cells #[.int .i64 x.kind, .int .i64 x.epoch, .int .i64 x.seq, .int .i64 x.count, .bool x.last, .slice an x.data.length cn] 35))
      go_upto_region 5 with fail
      generalize (wr.alloc (.cells #[.int .i64 x.kind, .int .i64 x.epoch, .int .i64 x.seq, .int .i64 x.count, .bool x.last, .slice an x.data.length cn] 35)) = W1 at *
      obtain ⟨D, hown, hisM, hDD, -⟩ := (HMP.out.later HBX.out).look
      have HOWN := hid hown
      have HISM := hid hisM
      have HDD := hid hDD
      clear hown hisM hDD
      have c0 := cell_of_row _ _ 0 _ _ _ HK1.out
      have c1 := cell_of_row _ _ 1 _ _ _ HK1.out
      have c2 := cell_of_row _ _ 2 _ _ _ HK1.out
      have c3 := cell_of_row _ _ 3 _ _ _ HK1.out
      have c4 := cell_of_row _ _ 4 _ _ _ HK1.out
      have c5 := cell_of_row _ _ 5 _ _ _ HK1.out
      simp only [List.getElem?_toArray, List.getElem?_cons_zero, List.getElem?_cons_succ] at c0 c1 c2 c3 c4 c5
      have HKEY := hid (keyI HIN.out.seq)
      go_wp2_with (first | (at_mapUpdate; refine wpList_mapUpdate_own _ rfl _ _ _ 100 rfl 3 35 keyedI Try.underlying100 anyElem w.heap.size k D rfl HOWN.out (by unfold maxLen; omega) _ _ _ rfl rfl HKEY.out _ [] rfl ?_))
      intro w1 hown1 hgrow1
      have HM2 : Hid (PkMap w w1 w.heap.size (k + 1) (x :: (ps.take k).reverse)) := hid (PkMap.put HISM.out HDD.out hown1 HNM.out HIN.out)
      have HB2 : Hid (Below w.heap.size w w1) := hid (by
        have h0 := below_chain HBE.out HBX.out
        exact h0.grown hgrow1 h0.size (fun j hj => by cases hj; exact Nat.le_refl _))
      clear hown1 hgrow1 c0 c1 c2 c3 c4 c5 qc0 qc1 qc2 qc3 qc4 qc5
      go_wp2
      go_roundw
      case rel => exact ⟨k + 1, by omega, by go_num, by rw [HTK.out]; exact HM2.out, HB2.out⟩
      case measure => simp [intOf]; omega
    · obtain rfl : k = ps.length := by omega
      rw [List.take_length] at HMP
      go_wp2
      go_ret
      exact ⟨_, rfl, Nat.le_refl _, HMP.out, HBE.out⟩
end Go.Proofs.Ytmaccmgmcahopaa
namespace Go.Proofs.Ytmaccmgmcahopaa
open Go.RowKit
set_option maxRecDepth 100000 in
set_option maxHeartbeats 8000000 in
theorem implVI_any (s : PI) (a b : Option Addr) (c d : Nat) (w : World) (hr : RdIn w s a c b d) :
    Calls Try.prog 50 #[.agg #[.int .i64 s.epoch, .int .i64 s.expect, .slice a s.held.length c, .slice b s.part.length d]] w fun e w' => e = .returned (.bool (inOK s)) ∧ Below w.heap.size w w' := by
  have HR := hid hr
  have HF : Hid (¬ InH s → inOK s = false) := hid inOK_head
  have HW : Hid (∀ k, (hk : k < s.held.length) → inW s k s.held[k] = false → inOK s = false) := hid (fun k hk h => inOK_at hk h)
  have HB0 := hid (below_new1 w (.cells #[.int .i64 s.epoch, .int .i64 s.expect, .slice a s.held.length c, .slice b s.part.length d] 48))
  have HK0 : Hid ((w.alloc (.cells #[.int .i64 s.epoch, .int .i64 s.expect, .slice a s.held.length c, .slice b s.part.length d] 48)).heap[w.heap.size]? = some (.cells #[.int .i64 s.epoch, .int .i64 s.expect, .slice a s.held.length c, .slice b s.part.length d] 48 (0, 0))) := hid (heap_alloc_new w _)
  have hml : s.held.length ≤ maxLen := by obtain ⟨a', cap', e', g1, g2, _⟩ := hr.f; omega
  have hpl := rdBytes_max hr.t
  unfold maxLen at hml hpl
  clear hr
  have HE := hid (within_any s.epoch 0 1000000000 (w.alloc (.cells #[.int .i64 s.epoch, .int .i64 s.expect, .slice a s.held.length c, .slice b s.part.length d] 48)))
  have HS := hid (within_any s.expect 0 1000000000000 (w.alloc (.cells #[.int .i64 s.epoch, .int .i64 s.expect, .slice a s.held.length c, .slice b s.part.length d] 48)))
  by_cases c0 : ¬ (0 ≤ s.epoch ∧ s.epoch ≤ 1000000000)
  · rw [decide_eq_false c0] at HE
    have HX := hid (HF.out (by unfold InH; omega))
    go_enter Try.func50, Try.ntmps50
    go_wp2_with fail
    refine (HE.out).mono ?_
    rintro e w1 ⟨rfl, rfl⟩
    go_wp2
    go_ret
    exact ⟨(by rw [HX.out]; first | done | rfl), HB0.out⟩
  rw [decide_eq_true (Decidable.not_not.1 c0)] at HE
  by_cases c1 : ¬ (0 ≤ s.expect ∧ s.expect ≤ 1000000000000)
  · rw [decide_eq_false c1] at HS
    have HX := hid (HF.out (by unfold InH; omega))
    go_enter Try.func50, Try.ntmps50
    go_wp2_with fail
    refine (HE.out).mono ?_
    rintro e w1 ⟨rfl, rfl⟩
    go_wp2_with fail
    refine (HS.out).mono ?_
    rintro e w1 ⟨rfl, rfl⟩
    go_wp2
    go_ret
    exact ⟨(by rw [HX.out]; first | done | rfl), HB0.out⟩
  rw [decide_eq_true (Decidable.not_not.1 c1)] at HS
  by_cases c6 : 20000 < s.part.length
  · have HX := hid (HF.out (by unfold InH; omega))
    have c6' : (20000 : Int) < (s.part.length : Int) := by omega
    go_enter Try.func50, Try.ntmps50
    go_wp2_with fail
    refine (HE.out).mono ?_
    rintro e w1 ⟨rfl, rfl⟩
    go_wp2_with fail
    refine (HS.out).mono ?_
    rintro e w1 ⟨rfl, rfl⟩
    go_wp2
    go_ret
    exact ⟨(by rw [HX.out]; first | done | rfl), HB0.out⟩
  have HH : Hid (InH s) := hid (by unfold InH; omega)
  have c6' : decide (20000 < (s.part.length : Int)) = false := decide_eq_false (by omega)
  have hx0 : 0 ≤ s.expect := by omega
  have hx1 : s.expect ≤ 1000000000000 := by omega
  clear c0 c1 c6
  go_enter Try.func50, Try.ntmps50
  go_wp2_with fail
  refine (HE.out).mono ?_
  rintro e w1 ⟨rfl, rfl⟩
  go_wp2_with fail
  refine (HS.out).mono ?_
  rintro e w1 ⟨rfl, rfl⟩
  go_wp2
  go_loopw [3, 27] (fun bf i wr => ∃ k : Nat, k ≤ s.held.length ∧ i = .int .i64 k ∧ bf = .int .i64 (prevSeq s k) ∧ (∀ j, (hj : j < s.held.length) → j < k → inW s j s.held[j] = true) ∧ wr.heap[w.heap.size]? = some (.cells #[.int .i64 s.epoch, .int .i64 s.expect, .slice a s.held.length c, .slice b s.part.length d] 48 (0, 0)) ∧ Below w.heap.size w wr) (fun _ i _ => s.held.length - (intOf i).toNat)
  case atStart => exact ⟨0, Nat.zero_le _, rfl, rfl, fun j _ h => by omega, HK0.out, HB0.out⟩
  case round =>
    obtain ⟨k, hk, rfl, rfl, hall, hbx, hbe⟩ := hrel
    have HA := hid hall
    have HB := hid hbe
    have HX := hid hbx
    have hG : w.heap.size < wr.heap.size := (Array.getElem?_eq_some_iff.1 hbx).1
    have p0 := cell_of_row _ _ 0 _ _ _ hbx
    have p1 := cell_of_row _ _ 1 _ _ _ hbx
    have p2 := cell_of_row _ _ 2 _ _ _ hbx
    have p3 := cell_of_row _ _ 3 _ _ _ hbx
    simp only [List.getElem?_toArray, List.getElem?_cons_zero, List.getElem?_cons_succ] at p0 p1 p2 p3
    clear hall hbe hbx
    by_cases hlt : k < s.held.length
    · obtain ⟨bb, off, es, rfl, hes, hcs⟩ := (HR.out.f.later HB.out).atN hlt
      obtain ⟨a0, c0, rfl, hrd, hpin⟩ := cPkt_rd hes
      have d0 : wr.cell? ⟨bb, off + k * 6, none⟩ = some (.int .i64 s.held[k].kind) := by have h := hcs 0 (by decide); rw [show cPkt.n = 6 from rfl] at h; simpa [Nat.add_assoc] using h
      have d1 : wr.cell? ⟨bb, off + k * 6 + 1, none⟩ = some (.int .i64 s.held[k].epoch) := by have h := hcs 1 (by decide); rw [show cPkt.n = 6 from rfl] at h; simpa [Nat.add_assoc] using h
      have d2 : wr.cell? ⟨bb, off + k * 6 + 2, none⟩ = some (.int .i64 s.held[k].seq) := by have h := hcs 2 (by decide); rw [show cPkt.n = 6 from rfl] at h; simpa [Nat.add_assoc] using h
      have d3 : wr.cell? ⟨bb, off + k * 6 + 3, none⟩ = some (.int .i64 s.held[k].count) := by have h := hcs 3 (by decide); rw [show cPkt.n = 6 from rfl] at h; simpa [Nat.add_assoc] using h
      have d4 : wr.cell? ⟨bb, off + k * 6 + 4, none⟩ = some (.bool s.held[k].last) := by have h := hcs 4 (by decide); rw [show cPkt.n = 6 from rfl] at h; simpa [Nat.add_assoc] using h
      have d5 : wr.cell? ⟨bb, off + k * 6 + 5, none⟩ = some (.slice a0 s.held[k].data.length c0) := by have h := hcs 5 (by decide); rw [show cPkt.n = 6 from rfl] at h; simpa [Nat.add_assoc] using h
      have hdl : s.held[k].data.length ≤ maxLen := rdBytes_max hrd
      have hki : (k : Int) < (s.held.length : Int) := by omega
      have HOW : Hid (inW s k s.held[k] = (dataB s.held[k] s.epoch && decide (s.expect < s.held[k].seq ∧ prevSeq s k < s.held[k].seq ∧ s.held[k].seq < s.expect + 8))) := hid rfl
      have HWk := hid (HW.out k hlt)
      have HPG := hid (prevSeq_ge hk HA.out)
      have HB1 := hid (below_new1 wr (.cells #[.int .i64 s.held[k].kind, .int .i64 s.held[k].epoch, .int .i64 s.held[k].seq, .int .i64 s.held[k].count, .bool s.held[k].last, .slice a0 s.held[k].data.length c0] 35))
      have HY1 : Hid ((wr.alloc (.cells #[.int .i64 s.held[k].kind, .int .i64 s.held[k].epoch, .int .i64 s.held[k].seq, .int .i64 s.held[k].count, .bool s.held[k].last, .slice a0 s.held[k].data.length c0] 35)).heap[wr.heap.size]? = some (.cells #[.int .i64 s.held[k].kind, .int .i64 s.held[k].epoch, .int .i64 s.held[k].seq, .int .i64 s.held[k].count, .bool s.held[k].last, .slice a0 s.held[k].data.length c0] 35 (0, 0))) := hid (heap_alloc_new wr _)
      have HNX : Hid (inW s k s.held[k] = true → ∀ j, (hj : j < s.held.length) → j < k + 1 → inW s j s.held[j] = true) := hid (fun h j hj hjk => by
        by_cases e : j = k
        · subst e; exact h
        · exact HA.out j hj (by omega))
      clear hes hcs hrd hpin
      have HPS := hid (prevSeq_succ s k hlt)
      generalize prevSeq s k = pv at *
      go_wp2_with fail
      refine (isDataOf_any s.held[k] a0 c0 s.epoch _ hdl).mono ?_
      rintro e w2 ⟨rfl, b2⟩
      have hy := box_laterP2 HY1.out b2
      have hx := box_laterP2 HX.out (below_chain HB1.out b2)
      have y0 := cell_of_row _ _ 0 _ _ _ hy
      have y1 := cell_of_row _ _ 1 _ _ _ hy
      have y2 := cell_of_row _ _ 2 _ _ _ hy
      have y3 := cell_of_row _ _ 3 _ _ _ hy
      have y4 := cell_of_row _ _ 4 _ _ _ hy
      have y5 := cell_of_row _ _ 5 _ _ _ hy
      have z0 := cell_of_row _ _ 0 _ _ _ hx
      have z1 := cell_of_row _ _ 1 _ _ _ hx
      have z2 := cell_of_row _ _ 2 _ _ _ hx
      have z3 := cell_of_row _ _ 3 _ _ _ hx
      simp only [List.getElem?_toArray, List.getElem?_cons_zero, List.getElem?_cons_succ] at y0 y1 y2 y3 y4 y5 z0 z1 z2 z3
      have HX2 := hid hx
      have HB2 := hid (below_chain HB.out (below_chain HB1.out b2))
      clear hx hy b2 HY1 d0 d1 d2 d3 d4 d5 p0 p1 p2 p3
      cases hok : dataB s.held[k] s.epoch with
      | false =>
        have HOK := hid hok
        clear hok
        have HZ := hid (HWk.out (by rw [HOW.out]; rw [HOK.out]; rfl))
        go_wp2
        go_ret
        exact ⟨(by rw [HZ.out]; first | done | rfl), HB2.out⟩
      | true =>
        have HOK := hid hok
        clear hok
        by_cases s1 : s.held[k].seq ≤ pv
        · have Hs1 := hid s1
          have s1t : decide (s.held[k].seq ≤ pv) = true := by simp; omega
          clear s1
          have HZ := hid (HWk.out (by rw [HOW.out]; rw [decide_eq_false (p := _ ∧ _) (fun h => by have := Hs1.out; omega)]; simp))
          go_wp2
          go_ret
          exact ⟨(by rw [HZ.out]; first | done | rfl), HB2.out⟩
        have Hs1 := hid s1
        have s1t : decide (s.held[k].seq ≤ pv) = false := by simp; omega
        clear s1
        by_cases s2 : s.expect + 8 ≤ s.held[k].seq
        · have Hs2 := hid s2
          have s2t : decide (s.expect + 8 ≤ s.held[k].seq) = true := by simp; omega
          clear s2
          have HZ := hid (HWk.out (by rw [HOW.out]; rw [decide_eq_false (p := _ ∧ _) (fun h => by have := Hs2.out; omega)]; simp))
          go_wp2
          go_ret
          exact ⟨(by rw [HZ.out]; first | done | rfl), HB2.out⟩
        have Hs2 := hid s2
        have s2t : decide (s.expect + 8 ≤ s.held[k].seq) = false := by simp; omega
        clear s2
        have HT := hid (HNX.out (by rw [HOW.out, HOK.out, decide_eq_true (by have := Hs1.out; have := Hs2.out; have := HPG.out; omega)]; rfl))
        go_wp2
        go_roundw
        case rel => exact ⟨k + 1, by omega, by go_num, by rw [HPS.out], HT.out, HX2.out, HB2.out⟩
        case measure => simp [intOf]; omega
    · obtain rfl : k = s.held.length := by omega
      have HZ := hid (inOK_all HH.out (fun j hj => HA.out j hj hj))
      go_wp2
      go_ret
      exact ⟨(by rw [HZ.out]; first | done | rfl), HB.out⟩
end Go.Proofs.Ytmaccmgmcahopaa
