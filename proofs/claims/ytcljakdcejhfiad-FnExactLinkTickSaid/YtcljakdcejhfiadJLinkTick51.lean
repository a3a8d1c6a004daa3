import Derived.Test.YtcljakdcejhfiadJLinkTick30
import Derived.Test.YtcljakdcejhfiadJLinkTick39
import Derived.Test.YtcljakdcejhfiadJLinkTick42
import Derived.Test.YtcljakdcejhfiadJLinkTick49
import Derived.Test.YtcljakdcejhfiadJLinkTick50
namespace Go.Proofs.Ytcljakdcejhfiad
open Go.RowKit
set_option maxRecDepth 100000 in
set_option maxHeartbeats 16000000 in
theorem implTick_any (o : PO) (a : Option Addr) (c : Nat) (w : World) (hr : RdSl cSnt w o.wait (.slice a o.wait.length c)) (ht : totL wN o.wait ≤ 1048576) :
    Calls Try.prog 18 #[.agg #[.int .i64 o.epoch, .int .i64 o.next, .int .i64 o.now, .slice a o.wait.length c]] w (ItPost w (tickO o) (tickG o) (tickC o)) := by
  obtain ⟨i0, hi0, hz0, hz1, hz2⟩ := info_parts infoTk
  have HR := hid hr
  clear hr
  have hlen : o.wait.length ≤ 1048576 := by unfold totL at ht; omega
  have HK0 : Hid (((w.alloc (.cells #[.int .i64 o.epoch, .int .i64 o.next, .int .i64 o.now, .slice a o.wait.length c] 44)).alloc (.cells #[.int .i64 0, .int .i64 0, .int .i64 0, .slice none 0 0] 44)).heap[w.heap.size]? = some (.cells #[.int .i64 o.epoch, .int .i64 o.next, .int .i64 o.now, .slice a o.wait.length c] 44 (0, 0))) := hid (heap2 _ _ (Below.refl _ _)).1
  have HK1 : Hid (((w.alloc (.cells #[.int .i64 o.epoch, .int .i64 o.next, .int .i64 o.now, .slice a o.wait.length c] 44)).alloc (.cells #[.int .i64 0, .int .i64 0, .int .i64 0, .slice none 0 0] 44)).heap[w.heap.size + 1]? = some (.cells #[.int .i64 0, .int .i64 0, .int .i64 0, .slice none 0 0] 44 (0, 0))) := hid (heap2 _ _ (Below.refl _ _)).2
  have HB0 := hid (below_new2 w (.cells #[.int .i64 o.epoch, .int .i64 o.next, .int .i64 o.now, .slice a o.wait.length c] 44) (.cells #[.int .i64 0, .int .i64 0, .int .i64 0, .slice none 0 0] 44))
  have HSZ := hid (size2 w (.cells #[.int .i64 o.epoch, .int .i64 o.next, .int .i64 o.now, .slice a o.wait.length c] 44) (.cells #[.int .i64 0, .int .i64 0, .int .i64 0, .slice none 0 0] 44))
  go_enter Try.func18, Try.ntmps18
  go_wp2_with fail
  generalize ((w.alloc (.cells #[.int .i64 o.epoch, .int .i64 o.next, .int .i64 o.now, .slice a o.wait.length c] 44)).alloc (.cells #[.int .i64 0, .int .i64 0, .int .i64 0, .slice none 0 0] 44)) = V0 at *
  have HR0 := hid (HR.out.later HB0.out)
  refine (implVO_any o a c V0 HR0.out).mono ?_
  rintro e V1 ⟨rfl, b2⟩
  have K0 := hid (box_laterP2 HK0.out b2)
  have K1 := hid (box_laterP2 HK1.out b2)
  have HB2 := hid (below_chain HB0.out b2)
  have hsz2 : w.heap.size + 2 ≤ V1.heap.size := by have := b2.size; have := HSZ.out; omega
  clear b2 HK0 HK1 HB0 HSZ HR0
  have c00 := cell_of_row _ _ 0 _ _ _ K0.out
  have c01 := cell_of_row _ _ 1 _ _ _ K0.out
  have c02 := cell_of_row _ _ 2 _ _ _ K0.out
  have c03 := cell_of_row _ _ 3 _ _ _ K0.out
  simp only [List.getElem?_toArray, List.getElem?_cons_zero, List.getElem?_cons_succ] at c00 c01 c02 c03
  have c10 := cell_of_row _ _ 0 _ _ _ K1.out
  have zc10 := frozen_of_row _ _ 0 _ _ K1.out
  have c11 := cell_of_row _ _ 1 _ _ _ K1.out
  have zc11 := frozen_of_row _ _ 1 _ _ K1.out
  have c12 := cell_of_row _ _ 2 _ _ _ K1.out
  have zc12 := frozen_of_row _ _ 2 _ _ K1.out
  have c13 := cell_of_row _ _ 3 _ _ _ K1.out
  have zc13 := frozen_of_row _ _ 3 _ _ K1.out
  simp only [List.getElem?_toArray, List.getElem?_cons_zero, List.getElem?_cons_succ] at c10 c11 c12 c13
  cases hok : outOK o with
  | false =>
    have HD := hid (tick_no hok)
    clear hok
    go_wp2
    refine bodyPost_ret (results_cell_row_tmp2 rfl _ _ (w.heap.size + 1) 44 #[.int .i64 0, .int .i64 0, .int .i64 0, .slice none 0 0] (0, 0) _ rfl (set4 K1.out) Try.underlying44 rfl (by kernel_rfl)) rfl ?_
    exact itPost_nil (set4b HB2.out (by omega)) HD.out.1 HD.out.2.1 HD.out.2.2
  | true =>
  have HOK := hid hok
  have hoh := (outOK_of hok).1
  have hw300 : o.wait.length ≤ 300 := hoh.2.2.2.2.2.2
  have hnow0 : 0 ≤ o.now := hoh.2.2.2.2.1
  have hnow1 : o.now ≤ 1000000000 := hoh.2.2.2.2.2.1
  have HAT : Hid (∀ k, (hk : k < o.wait.length) → -1 ≤ o.wait[k].at_ ∧ o.wait[k].at_ ≤ o.now) := hid (fun k hk => by
    have h := (outOK_of hok).2 k hk
    unfold outW at h
    rw [Bool.and_eq_true] at h
    exact (of_decide_eq_true h.2).2)
  clear hok hoh
  go_wp2_with fail
  refine (copyOut_any o a c V1 (HR.out.later HB2.out) ht).mono ?_
  rintro e W0 ⟨a2, c2, bs2, rfl, o2, l2, n2, b3⟩
  have hb3s := b3.size
  have HBV : Hid (Below V1.heap.size V1 (W0.alloc (.cells #[.int .i64 o.epoch, .int .i64 o.next, .int .i64 o.now, .slice a2 o.wait.length c2] 44))) := hid (below_chain b3 (below_new1 W0 _))
  have HKN : Hid ((W0.alloc (.cells #[.int .i64 o.epoch, .int .i64 o.next, .int .i64 o.now, .slice a2 o.wait.length c2] 44)).heap[W0.heap.size]? = some (.cells #[.int .i64 o.epoch, .int .i64 o.next, .int .i64 o.now, .slice a2 o.wait.length c2] 44 (0, 0))) := hid (heap_alloc_new W0 _)
  have HSZ1 : Hid ((W0.alloc (.cells #[.int .i64 o.epoch, .int .i64 o.next, .int .i64 o.now, .slice a2 o.wait.length c2] 44)).heap.size = W0.heap.size + 1) := hid (by simp)
  have HO2W : Hid (OwnSl cSnt 101 (W0.alloc (.cells #[.int .i64 o.epoch, .int .i64 o.next, .int .i64 o.now, .slice a2 o.wait.length c2] 44)) o.wait (.slice a2 o.wait.length c2) bs2) := hid (o2.kept (fun b hb => (below_new1 W0 _).block b (o2.lt b hb)))
  have HBB2 : Hid (∀ b ∈ bs2, V1.heap.size ≤ b ∧ b < W0.heap.size) := hid (fun b hb => ⟨l2 b hb, o2.lt b hb⟩)
  have HL2 := hid l2
  have HN2 := hid n2
  clear c00 c10 zc10 c01 c11 zc11 c02 c12 zc12 c03 c13 zc13 b3 o2 l2 n2
  have HGN : Hid (V1.heap.size ≤ W0.heap.size) := hid hb3s
  go_upto_region 4 with fail
  generalize (W0.alloc (.cells #[.int .i64 o.epoch, .int .i64 o.next, .int .i64 o.now, .slice a2 o.wait.length c2] 44)) = W1 at *
  have K0W := hid ((HBV.out.block _ (show w.heap.size < V1.heap.size by omega)).trans K0.out)
  have K1W := hid ((HBV.out.block _ (show w.heap.size + 1 < V1.heap.size by omega)).trans K1.out)
  have c00 := cell_of_row _ _ 0 _ _ _ K0W.out
  have c01 := cell_of_row _ _ 1 _ _ _ K0W.out
  have c02 := cell_of_row _ _ 2 _ _ _ K0W.out
  have c03 := cell_of_row _ _ 3 _ _ _ K0W.out
  simp only [List.getElem?_toArray, List.getElem?_cons_zero, List.getElem?_cons_succ] at c00 c01 c02 c03
  have c10 := cell_of_row _ _ 0 _ _ _ K1W.out
  have zc10 := frozen_of_row _ _ 0 _ _ K1W.out
  have c11 := cell_of_row _ _ 1 _ _ _ K1W.out
  have zc11 := frozen_of_row _ _ 1 _ _ K1W.out
  have c12 := cell_of_row _ _ 2 _ _ _ K1W.out
  have zc12 := frozen_of_row _ _ 2 _ _ K1W.out
  have c13 := cell_of_row _ _ 3 _ _ _ K1W.out
  have zc13 := frozen_of_row _ _ 3 _ _ K1W.out
  simp only [List.getElem?_toArray, List.getElem?_cons_zero, List.getElem?_cons_succ] at c10 c11 c12 c13
  have g0 := cell_of_row _ _ 0 _ _ _ HKN.out
  have zg0 := frozen_of_row _ _ 0 _ _ HKN.out
  have g1 := cell_of_row _ _ 1 _ _ _ HKN.out
  have zg1 := frozen_of_row _ _ 1 _ _ HKN.out
  have g2 := cell_of_row _ _ 2 _ _ _ HKN.out
  have zg2 := frozen_of_row _ _ 2 _ _ HKN.out
  have g3 := cell_of_row _ _ 3 _ _ _ HKN.out
  have zg3 := frozen_of_row _ _ 3 _ _ HKN.out
  simp only [List.getElem?_toArray, List.getElem?_cons_zero, List.getElem?_cons_succ] at g0 g1 g2 g3
  by_cases he : o.now = 1000000000
  · have HF := hid (tick_end HOK.out he)
    have het : (o.now == 1000000000) = true := by simpa using he
    clear he
    go_wp2
    refine bodyPost_ret (results_cell_row_tmp2 rfl _ _ (w.heap.size + 1) 44 #[.int .i64 o.epoch, .int .i64 o.next, .int .i64 o.now, .slice a2 o.wait.length c2] (0, 0) _ rfl (set4 K1W.out) Try.underlying44 rfl (by kernel_rfl)) rfl ?_
    rw [HF.out.1, HF.out.2.1, HF.out.2.2]
    refine ⟨a2, c2, _, bs2, [], rfl, HO2W.out.kept (fun x hx => set4o ?_), .inl ⟨rfl, rfl, rfl⟩, HN2.out, by simp, fun x hx => ⟨by have := HL2.out x hx; omega, by simp⟩, by simp, set4b (below_chain HB2.out HBV.out) (by omega)⟩
    have := HL2.out x hx
    omega
  have HY := hid (tick_yes HOK.out he)
  have het : (o.now == 1000000000) = false := by simpa using he
  have HTI : Hid (IntIn (o.now + 1)) := hid (by unfold IntIn; omega)
  clear he
  have HS0 : Hid (TSt V1 W0.heap.size o (o.now + 1) a2 c2 bs2 0 (.slice none 0 0) (W1.setCell ⟨W0.heap.size, 2, none⟩ (.int .i64 (o.now + 1)))) := hid ⟨heap_setCell_same _ _ 2 _ _ _ HKN.out, by rw [tickK_zero]; exact HO2W.out.kept (fun b hb => Below.heap_setCell _ ⟨W0.heap.size, 2, none⟩ _ _ (by have := (HBB2.out b hb).2; simp only []; omega)), ⟨[], by rw [gramK_zero]; exact .inl ⟨rfl, rfl, rfl⟩, by simp, by simp⟩, HBV.out.setCell (p := ⟨W0.heap.size, 2, none⟩) HGN.out _⟩
  have HQB := hid (below_new1 (W1.setCell ⟨W0.heap.size, 2, none⟩ (.int .i64 (o.now + 1))) (.cells #[.slice a2 o.wait.length c2] 105))
  have HS1 := hid (HS0.out.later HQB.out)
  have HKQ : Hid (((W1.setCell ⟨W0.heap.size, 2, none⟩ (.int .i64 (o.now + 1))).alloc (.cells #[.slice a2 o.wait.length c2] 105)).heap[W0.heap.size + 1]? = some (.cells #[.slice a2 o.wait.length c2] 105 (0, 0))) := hid (by have h := heap_alloc_new (W1.setCell ⟨W0.heap.size, 2, none⟩ (.int .i64 (o.now + 1))) (.cells #[.slice a2 o.wait.length c2] 105); rw [show (W1.setCell ⟨W0.heap.size, 2, none⟩ (.int .i64 (o.now + 1))).heap.size = W0.heap.size + 1 from by simp [HSZ1.out]] at h; exact h)
  obtain ⟨a2', c2', e2', hlc, hcm, hnil, -⟩ := id HO2W.out.rd
  simp only [Value.slice.injEq, true_and] at e2'
  obtain ⟨rfl, rfl⟩ := e2'
  have HFR := hid (front_any (W0.heap.size + 1) a2 o.wait.length c2 ((W1.setCell ⟨W0.heap.size, 2, none⟩ (.int .i64 (o.now + 1))).alloc (.cells #[.slice a2 o.wait.length c2] 105)) _ HKQ.out hlc)
  have hs1 := HSZ1.out
  clear hlc hcm hnil
  go_wp2_with fail
  try rw [HSZ1.out]
  generalize ((W1.setCell ⟨W0.heap.size, 2, none⟩ (.int .i64 (o.now + 1))).alloc (.cells #[.slice a2 o.wait.length c2] 105)) = W2 at *
  clear hs1 c00 c10 zc10 g0 zg0 c01 c11 zc11 g1 zg1 c02 c12 zc12 g2 zg2 c03 c13 zc13 g3 zg3
  refine HFR.out.mono ?_
  rintro e W2' ⟨rfl, rfl⟩
  have HMM : Hid (min 8 o.wait.length = tickM o) := hid rfl
  generalize hM : min 8 o.wait.length = M at *
  have hM8 : M ≤ 8 := by omega
  have hML : M ≤ o.wait.length := by omega
  clear hM
  go_wp2
  go_loopw [7, 31] (fun v i wr => ∃ k : Nat, k ≤ M ∧ i = .int .i64 k ∧ TSt V1 W0.heap.size o (o.now + 1) a2 c2 bs2 k v wr) (fun _ i _ => M - (intOf i).toNat)
  case atStart => exact ⟨0, Nat.zero_le _, rfl, HS1.out.later (Below.refl _ _).drew⟩
  case round =>
    obtain ⟨k, hk, rfl, hst⟩ := hrel
    have HST := hid hst
    obtain ⟨hbx, -⟩ := id hst
    have x2 := cell_of_row _ _ 2 _ _ _ hbx
    have x3 := cell_of_row _ _ 3 _ _ _ hbx
    simp only [List.getElem?_toArray, List.getElem?_cons_zero, List.getElem?_cons_succ] at x2 x3
    have hgl : W0.heap.size < wr.heap.size := (Array.getElem?_eq_some_iff.1 hbx).1
    clear hst hbx
    by_cases hlt : k < M
    · have hkM : (k : Int) < (M : Int) := by omega
      have hkn : k + 1 ≤ M := by omega
      replace hlt := Nat.lt_of_lt_of_le hlt hML
      obtain ⟨g2, an, cn, rfl, hgb, hfz, hcell, hrd⟩ := HST.out.here HN2.out hlt
      have d0 : wr.cell? ⟨g2, k * 7, none⟩ = some (.int .i64 o.wait[k].pkt.kind) := by have h := hcell 0 (by omega); simpa using h
      have d1 : wr.cell? ⟨g2, k * 7 + 1, none⟩ = some (.int .i64 o.wait[k].pkt.epoch) := by have h := hcell 1 (by omega); simpa using h
      have d2 : wr.cell? ⟨g2, k * 7 + 2, none⟩ = some (.int .i64 o.wait[k].pkt.seq) := by have h := hcell 2 (by omega); simpa using h
      have d3 : wr.cell? ⟨g2, k * 7 + 3, none⟩ = some (.int .i64 o.wait[k].pkt.count) := by have h := hcell 3 (by omega); simpa using h
      have d4 : wr.cell? ⟨g2, k * 7 + 4, none⟩ = some (.bool o.wait[k].pkt.last) := by have h := hcell 4 (by omega); simpa using h
      have d5 : wr.cell? ⟨g2, k * 7 + 5, none⟩ = some (.slice an o.wait[k].pkt.data.length cn) := by have h := hcell 5 (by omega); simpa using h
      have d6 : wr.cell? ⟨g2, k * 7 + 6, none⟩ = some (.int .i64 o.wait[k].at_) := by have h := hcell 6 (by omega); simpa using h
      have f6 := hfz (k * 7 + 6)
      have f6b : (wr.alloc (.cells #[.int .i64 o.wait[k].pkt.kind, .int .i64 o.wait[k].pkt.epoch, .int .i64 o.wait[k].pkt.seq, .int .i64 o.wait[k].pkt.count, .bool o.wait[k].pkt.last, .slice an o.wait[k].pkt.data.length cn, .int .i64 o.wait[k].at_] 101)).frozen? ⟨g2, k * 7 + 6, none⟩ = false := (World.frozen?_of_block ((below_new1 wr _).block g2 (World.block_lt_of_cell? _ _ d6))).trans f6
      have hki : (k : Int) < (o.wait.length : Int) := by omega
      have hat := HAT.out k hlt
      have hg2 := HBB2.out g2 hgb
      have HRD := hid hrd
      have HNO : Hid (dueB (o.now + 1) o.wait[k] = false → TSt V1 W0.heap.size o (o.now + 1) (some ⟨g2, 0, none⟩) c2 bs2 (k + 1) u7 (wr.alloc (.cells #[.int .i64 o.wait[k].pkt.kind, .int .i64 o.wait[k].pkt.epoch, .int .i64 o.wait[k].pkt.seq, .int .i64 o.wait[k].pkt.count, .bool o.wait[k].pkt.last, .slice an o.wait[k].pkt.data.length cn, .int .i64 o.wait[k].at_] 101))) := hid (fun h => (HST.out.skip hlt h).later (below_new1 wr _))
      have HBYP : Hid (∀ x ∈ pktR o.wait[k].pkt, x < 256) := hid (pktR_lt (rdSl_ok hrd))
      have HRDW : Hid (RdSl cByte ((wr.alloc (.cells #[.int .i64 o.wait[k].pkt.kind, .int .i64 o.wait[k].pkt.epoch, .int .i64 o.wait[k].pkt.seq, .int .i64 o.wait[k].pkt.count, .bool o.wait[k].pkt.last, .slice an o.wait[k].pkt.data.length cn, .int .i64 o.wait[k].at_] 101)).setCell ⟨g2, k * 7 + 6, none⟩ (.int .i64 (o.now + 1))) o.wait[k].pkt.data (.slice an o.wait[k].pkt.data.length cn)) := hid (by
        have h := TSt.here HST.out HN2.out hlt
        exact tick_rd HST.out HN2.out HBB2.out hlt d5 hgb (below_new1 wr _))
      have hGL := gramK_len o (o.now + 1) k
      clear hcell hfz hrd
      have hgne : W0.heap.size ≠ g2 := by omega
      have hgw1 : g2 ≠ wr.heap.size := by omega
      have hgw2 : wr.heap.size ≠ g2 := by omega
      have HBQ := hid (below_new1 wr (.cells #[.int .i64 o.wait[k].pkt.kind, .int .i64 o.wait[k].pkt.epoch, .int .i64 o.wait[k].pkt.seq, .int .i64 o.wait[k].pkt.count, .bool o.wait[k].pkt.last, .slice an o.wait[k].pkt.data.length cn, .int .i64 o.wait[k].at_] 101))
      have HKB : Hid ((wr.alloc (.cells #[.int .i64 o.wait[k].pkt.kind, .int .i64 o.wait[k].pkt.epoch, .int .i64 o.wait[k].pkt.seq, .int .i64 o.wait[k].pkt.count, .bool o.wait[k].pkt.last, .slice an o.wait[k].pkt.data.length cn, .int .i64 o.wait[k].at_] 101)).heap[wr.heap.size]? = some (.cells #[.int .i64 o.wait[k].pkt.kind, .int .i64 o.wait[k].pkt.epoch, .int .i64 o.wait[k].pkt.seq, .int .i64 o.wait[k].pkt.count, .bool o.wait[k].pkt.last, .slice an o.wait[k].pkt.data.length cn, .int .i64 o.wait[k].at_] 101 (0, 0))) := hid (heap_alloc_new wr _)
      go_upto_region 13 with fail
      generalize (wr.alloc (.cells #[.int .i64 o.wait[k].pkt.kind, .int .i64 o.wait[k].pkt.epoch, .int .i64 o.wait[k].pkt.seq, .int .i64 o.wait[k].pkt.count, .bool o.wait[k].pkt.last, .slice an o.wait[k].pkt.data.length cn, .int .i64 o.wait[k].at_] 101)) = wq at *
      have y0 := cell_of_row _ _ 0 _ _ _ HKB.out
      have y1 := cell_of_row _ _ 1 _ _ _ HKB.out
      have y2 := cell_of_row _ _ 2 _ _ _ HKB.out
      have y3 := cell_of_row _ _ 3 _ _ _ HKB.out
      have y4 := cell_of_row _ _ 4 _ _ _ HKB.out
      have y5 := cell_of_row _ _ 5 _ _ _ HKB.out
      have y6 := cell_of_row _ _ 6 _ _ _ HKB.out
      simp only [List.getElem?_toArray, List.getElem?_cons_zero, List.getElem?_cons_succ] at y0 y1 y2 y3 y4 y5 y6
      replace x2 := (HBQ.out.cell (World.block_lt_of_cell? _ _ x2)).trans x2
      replace x3 := (HBQ.out.cell (World.block_lt_of_cell? _ _ x3)).trans x3
      replace d6 := (HBQ.out.cell (World.block_lt_of_cell? _ _ d6)).trans d6
      clear d0 d1 d2 d3 d4 d5 f6
      by_cases h1 : o.wait[k].at_ = -1
      · have HDUE : Hid (dueB (o.now + 1) o.wait[k] = true) := hid (by unfold dueB; rw [decide_eq_true (by omega)]; rfl)
        have h1t : (o.wait[k].at_ == -1) = true := by simpa using h1
        clear h1 hat
        go_wp2_with fail
        refine (implPkt_any o.wait[k].pkt an cn _ HRDW.out).mono ?_
        rintro e w2 ⟨aW, cW, rfl, oW, b2⟩
        obtain ⟨vals, ho, hsend⟩ := TSt.send HST.out HBQ.out hlt HDUE.out HN2.out HBB2.out HGN.out HTI.out rfl (aW := aW) (cW := cW) (W2 := w2) (by have h := oW; simpa using h) HBYP.out (by have h := b2; simpa using h)
        have HO := hid ho
        have HSEND := hid hsend
        have HONE := hid (heap_alloc_new w2 (.cells #[.slice aW (pktR o.wait[k].pkt).length cW] 69))
        have hV2 : V1.heap.size ≤ w2.heap.size := by have h1 := HGN.out; have h2 := b2.size; have h3 := HBQ.out.size; simp at h2; omega
        have hRL := pktR_len o.wait[k].pkt
        clear ho hsend oW b2
        go_wp2_with (first | (at_builtin; refine wpList_append_lies _ rfl (.tmp 53) (.tmp 57) 45 rfl V1.heap.size 69 i0 (.slice none 0 0) 1 24 Try.underlying45 hi0 hz0 hz1 hz2 rfl (by decide) u7 (gramK o (o.now + 1) k).length vals rfl HO.out ⟨w2.heap.size, 0, none⟩ 1 1 [.slice aW (pktR o.wait[k].pkt).length cW] rfl rfl (World.news_of_block HONE.out) (by simp [Value.oneCell']) (by omega) (by unfold maxLen; omega) (by omega) (by simp; omega) _ rfl ?_))
        intro g' cap' w9 hown hgrow hat9 hlt9
        have HT9 := hid (HSEND.out g' cap' w9 hown hgrow (by simpa using hat9))
        clear hown hgrow hat9
        go_wp2
        go_roundw
        case rel => exact ⟨k + 1, by omega, by go_num, HT9.out⟩
        case measure => simp [intOf]; omega
      have h1t : (o.wait[k].at_ == -1) = false := by simpa using h1
      by_cases h2 : o.wait[k].at_ ≤ (o.now + 1) - 4
      · have HDUE : Hid (dueB (o.now + 1) o.wait[k] = true) := hid (by unfold dueB; rw [decide_eq_true (p := 4 ≤ _) (by omega)]; simp)
        have h2t : decide (o.wait[k].at_ ≤ (o.now + 1) - 4) = true := decide_eq_true h2
        clear h1 h2
        go_wp2_with fail
        refine (implPkt_any o.wait[k].pkt an cn _ HRDW.out).mono ?_
        rintro e w2 ⟨aW, cW, rfl, oW, b2⟩
        obtain ⟨vals, ho, hsend⟩ := TSt.send HST.out HBQ.out hlt HDUE.out HN2.out HBB2.out HGN.out HTI.out rfl (aW := aW) (cW := cW) (W2 := w2) (by have h := oW; simpa using h) HBYP.out (by have h := b2; simpa using h)
        have HO := hid ho
        have HSEND := hid hsend
        have HONE := hid (heap_alloc_new w2 (.cells #[.slice aW (pktR o.wait[k].pkt).length cW] 69))
        have hV2 : V1.heap.size ≤ w2.heap.size := by have h1 := HGN.out; have h2 := b2.size; have h3 := HBQ.out.size; simp at h2; omega
        have hRL := pktR_len o.wait[k].pkt
        clear ho hsend oW b2
        go_wp2_with (first | (at_builtin; refine wpList_append_lies _ rfl (.tmp 53) (.tmp 57) 45 rfl V1.heap.size 69 i0 (.slice none 0 0) 1 24 Try.underlying45 hi0 hz0 hz1 hz2 rfl (by decide) u7 (gramK o (o.now + 1) k).length vals rfl HO.out ⟨w2.heap.size, 0, none⟩ 1 1 [.slice aW (pktR o.wait[k].pkt).length cW] rfl rfl (World.news_of_block HONE.out) (by simp [Value.oneCell']) (by omega) (by unfold maxLen; omega) (by omega) (by simp; omega) _ rfl ?_))
        intro g' cap' w9 hown hgrow hat9 hlt9
        have HT9 := hid (HSEND.out g' cap' w9 hown hgrow (by simpa using hat9))
        clear hown hgrow hat9
        go_wp2
        go_roundw
        case rel => exact ⟨k + 1, by omega, by go_num, HT9.out⟩
        case measure => simp [intOf]; omega
      have HT9 := hid (HNO.out (by unfold dueB; rw [decide_eq_false (p := _ < 0) (by omega), decide_eq_false (p := 4 ≤ _) (by omega)]; rfl))
      have h2t : decide (o.wait[k].at_ ≤ (o.now + 1) - 4) = false := decide_eq_false h2
      clear h1 h2
      go_wp2
      go_roundw
      case rel => exact ⟨k + 1, by omega, by go_num, HT9.out⟩
      case measure => simp [intOf]; omega
    · obtain rfl : k = M := by omega
      obtain ⟨hbx, hox, ⟨us, hus, hun, hul⟩, hbe⟩ := HST.out
      have k1 := (hbe.block _ (show w.heap.size + 1 < V1.heap.size by omega)).trans K1.out
      have K1N := hid k1
      have HOX := hid hox
      have HUS := hid hus
      have HUN := hid hun
      have HUL := hid hul
      have HBE := hid hbe
      have y0 := cell_of_row _ _ 0 _ _ _ hbx
      have c10 := cell_of_row _ _ 0 _ _ _ k1
      have f10 := frozen_of_row _ _ 0 _ _ k1
      have y1 := cell_of_row _ _ 1 _ _ _ hbx
      have c11 := cell_of_row _ _ 1 _ _ _ k1
      have f11 := frozen_of_row _ _ 1 _ _ k1
      have y2 := cell_of_row _ _ 2 _ _ _ hbx
      have c12 := cell_of_row _ _ 2 _ _ _ k1
      have f12 := frozen_of_row _ _ 2 _ _ k1
      have y3 := cell_of_row _ _ 3 _ _ _ hbx
      have c13 := cell_of_row _ _ 3 _ _ _ k1
      have f13 := frozen_of_row _ _ 3 _ _ k1
      simp only [List.getElem?_toArray, List.getElem?_cons_zero, List.getElem?_cons_succ] at y0 c10 y1 c11 y2 c12 y3 c13
      clear hbx hox hus hun hul hbe k1 x2 x3
      have hgn := HGN.out
      go_wp2
      refine bodyPost_ret (results_cell_row_tmp2 rfl _ _ (w.heap.size + 1) 44 #[.int .i64 o.epoch, .int .i64 o.next, .int .i64 (o.now + 1), .slice a2 o.wait.length c2] (0, 0) _ rfl (set4 K1N.out) Try.underlying44 rfl (by kernel_rfl)) rfl ?_
      rw [HY.out.1, HY.out.2.1, HY.out.2.2, ← HMM.out]
      exact ⟨_, c2, _, bs2, us, by rw [tickK_len o _ _ (by omega)]; rfl, by rw [tickK_len o _ _ (by omega)]; exact HOX.out.kept (fun x hx => set4o (by have := (HBB2.out x hx).1; omega)), HUS.out.kept (fun x hx => set4o (by have := HUL.out x hx; omega)), HN2.out, HUN.out, fun x hx => ⟨by have := (HBB2.out x hx).1; omega, fun h => by have := HUL.out x h; have := (HBB2.out x hx).2; omega⟩, fun x hx => by have := HUL.out x hx; omega, set4b (below_chain HB2.out HBE.out) (by omega)⟩
end Go.Proofs.Ytcljakdcejhfiad
