import Derived.Test.YtfaehioeepolhabGreatJCrashSender40
import Derived.Test.YtfaehioeepolhabGreatJCrashSender19
import Derived.Test.YtfaehioeepolhabGreatJCrashSender42
import Derived.Test.YtfaehioeepolhabGreatJCrashSender20
namespace Go.Proofs.YtfaehioeepolhabGreat
open Go.RowKit
def IoPost0 (w : World) (R : PO) (C : Int) (e : Ending) (w' : World) : Prop :=
 ∃ a c bs, e = .returned (.tuple #[.agg #[.int .i64 R.epoch, .int .i64 R.next, .int .i64 R.now, .slice a R.wait.length c], .int .i64 C]) ∧ OwnSl cSnt 141 w' R.wait (.slice a R.wait.length c) bs ∧ (∀ b ∈ bs, w.heap.size ≤ b) ∧ bs.Nodup ∧ totL wN R.wait ≤ 1048576 ∧ Below w.heap.size w w'
theorem io0_nil {w w' : World} {R : PO} {C C' : Int} (hb : Below w.heap.size w w') (hp : R = noOut) (hC : C = C') : IoPost0 w R C (.returned (.tuple #[.agg #[.int .i64 0, .int .i64 0, .int .i64 0, .slice none 0 0], .int .i64 C'])) w' := by
 subst hp hC
 exact ⟨none, 0, [], rfl, .inl ⟨rfl, rfl, rfl⟩, by simp, by simp, by simp [totL, noOut], hb⟩
set_option maxRecDepth 100000 in
set_option maxHeartbeats 16000000 in
theorem implPush0_any (o : PO) (a : Option Addr) (c : Nat) (xs : List Nat) (am : Option Addr) (cm : Nat) (w : World) (hr : RdSl cSnt w o.wait (.slice a o.wait.length c)) (hrm : RdSl cByte w xs (.slice am xs.length cm)) (hl : xs.length ≤ 1048576) (ht : totL wN o.wait ≤ 1048576) :
  Calls Tryz.prog 138 #[.agg #[.int .i64 o.epoch, .int .i64 o.next, .int .i64 o.now, .slice a o.wait.length c], .slice am xs.length cm] w (IoPost0 w (pushO o xs) (pushC o xs)) := by
 have HR := hid hr
 have HRM := hid hrm
 have HBY : Hid (∀ x ∈ xs, x < 256) := hid (by obtain ⟨_, _, _, _, _, _, _, h⟩ := hrm.bytes; exact h)
 have hcap : xs.length ≤ cm ∧ cm ≤ maxLen := by obtain ⟨a', cap', e', g1, g2, _⟩ := hrm; simp only [Value.slice.injEq] at e'; omega
 unfold maxLen at hcap
 clear hr hrm
 have hlen : o.wait.length ≤ 1048576 := by unfold totL at ht; omega
 have HK0 : Hid (((w.alloc (.cells #[.int .i64 o.epoch, .int .i64 o.next, .int .i64 o.now, .slice a o.wait.length c] 41)).alloc (.cells #[.int .i64 0, .int .i64 0, .int .i64 0, .slice none 0 0] 41)).heap[w.heap.size]? = some (.cells #[.int .i64 o.epoch, .int .i64 o.next, .int .i64 o.now, .slice a o.wait.length c] 41 (0, 0))) := hid (heap2 _ _ (Below.refl _ _)).1
 have HK1 : Hid (((w.alloc (.cells #[.int .i64 o.epoch, .int .i64 o.next, .int .i64 o.now, .slice a o.wait.length c] 41)).alloc (.cells #[.int .i64 0, .int .i64 0, .int .i64 0, .slice none 0 0] 41)).heap[w.heap.size + 1]? = some (.cells #[.int .i64 0, .int .i64 0, .int .i64 0, .slice none 0 0] 41 (0, 0))) := hid (heap2 _ _ (Below.refl _ _)).2
 have HB0 := hid (below_new2 w (.cells #[.int .i64 o.epoch, .int .i64 o.next, .int .i64 o.now, .slice a o.wait.length c] 41) (.cells #[.int .i64 0, .int .i64 0, .int .i64 0, .slice none 0 0] 41))
 have HSZ := hid (size2 w (.cells #[.int .i64 o.epoch, .int .i64 o.next, .int .i64 o.now, .slice a o.wait.length c] 41) (.cells #[.int .i64 0, .int .i64 0, .int .i64 0, .slice none 0 0] 41))
 go_enter Tryz.func138, Tryz.ntmps138
 go_wp2_with fail
 generalize ((w.alloc (.cells #[.int .i64 o.epoch, .int .i64 o.next, .int .i64 o.now, .slice a o.wait.length c] 41)).alloc (.cells #[.int .i64 0, .int .i64 0, .int .i64 0, .slice none 0 0] 41)) = V0 at *
 have HR0 := hid (HR.out.later HB0.out)
 refine (implVO_any o a c V0 HR0.out).mono ?_
 rintro e V1 ⟨rfl, b2⟩
 have K0 := hid (box_laterP2 HK0.out b2)
 have K1 := hid (box_laterP2 HK1.out b2)
 have HB2 := hid (bC HB0.out b2)
 have hsz2 : w.heap.size + 2 ≤ V1.heap.size := by have := b2.size; have := HSZ.out; omega
 clear b2 HK0 HK1 HB0 HSZ HR0
 have c00 := cR _ _ 0 _ _ _ K0.out
 have c10 := cR _ _ 0 _ _ _ K1.out
 have f10 := fR _ _ 0 _ _ K1.out
 have c01 := cR _ _ 1 _ _ _ K0.out
 have c11 := cR _ _ 1 _ _ _ K1.out
 have f11 := fR _ _ 1 _ _ K1.out
 have c02 := cR _ _ 2 _ _ _ K0.out
 have c12 := cR _ _ 2 _ _ _ K1.out
 have f12 := fR _ _ 2 _ _ K1.out
 have c03 := cR _ _ 3 _ _ _ K0.out
 have c13 := cR _ _ 3 _ _ _ K1.out
 have f13 := fR _ _ 3 _ _ K1.out
 simp only [gA, gZ, gU] at c00 c10 c01 c11 c02 c12 c03 c13
 have HWI := hid (within_any (xs.length : Int) 1 20000 V1)
 cases hok : outOK o with
 | false =>
  have HD := hid (push_no (o := o) (xs := xs) (fun h => by rw [h.1] at hok; cases hok))
  clear hok
  go_wp2
  refine bodyPost_ret (results_cell_row_tmpD rfl _ _ (w.heap.size + 1) 41 #[.int .i64 0, .int .i64 0, .int .i64 0, .slice none 0 0] (0, 0) _ rfl (set4 K1.out) Tryz.underlying41 rfl (by kernel_rfl)) rfl ?_
  exact io0_nil (set4b HB2.out (by omega)) HD.out.1 HD.out.2
 | true =>
 by_cases hq : ¬ (1 ≤ (xs.length : Int) ∧ (xs.length : Int) ≤ 20000)
 ·have HD := hid (push_no (o := o) (xs := xs) (fun h => hq ⟨by have := h.2.1; omega, by have := h.2.2; omega⟩))
  rw [decide_eq_false hq] at HWI
  clear hok hq
  go_wp2_with fail
  refine HWI.out.mono ?_
  rintro e V2 ⟨rfl, rfl⟩
  go_wp2
  refine bodyPost_ret (results_cell_row_tmpD rfl _ _ (w.heap.size + 1) 41 #[.int .i64 0, .int .i64 0, .int .i64 0, .slice none 0 0] (0, 0) _ rfl (set4 K1.out) Tryz.underlying41 rfl (by kernel_rfl)) rfl ?_
  exact io0_nil (set4b HB2.out (by omega)) HD.out.1 HD.out.2
 have hqq := Decidable.not_not.1 hq
 rw [decide_eq_true hqq] at HWI
 have HPK : Hid (PushOK o xs) := hid ⟨hok, by omega, by omega⟩
 have hoh := (outOK_of hok).1
 have hw300 : o.wait.length ≤ 300 := hoh.2.2.2.2.2.2
 have hnx0 : 0 ≤ o.next := hoh.2.2.1
 have hnx1 : o.next ≤ 1000000000000 := hoh.2.2.2.1
 have HOH := hid hoh
 have hxl1 : 1 ≤ xs.length := by omega
 have hxl2 : xs.length ≤ 20000 := by omega
 have HNP : Hid (((xs.length : Int) + 100 - 1) / 100 = (nPc xs : Int)) := hid (by unfold nPc; omega)
 have hnp : nPc xs ≤ 200 := by unfold nPc; omega
 have HNL : Hid (∀ k, k < nPc xs → k * 100 < xs.length) := hid (fun k hk => by unfold nPc at hk; omega)
 have HTOT : Hid (totL wN (pushK o xs (nPc xs)) ≤ 1048576) := hid (pushK_tot hok _ hnp)
 clear hok hoh hq hqq
 obtain ⟨bm, om, rfl⟩ : ∃ bm om, am = some ⟨bm, om, none⟩ := by
  obtain ⟨a', cap', e', _, _, _, h4⟩ := HRM.out
  simp only [Value.slice.injEq] at e'
  obtain ⟨rfl, -, -⟩ := e'
  rcases h4 with h0 | ⟨b, off, rfl, -⟩
  ·rw [h0] at hxl1; simp at hxl1
  ·exact ⟨b, off, rfl⟩
 go_wp2_with fail
 refine HWI.out.mono ?_
 rintro e V2 ⟨rfl, hV⟩
 have hV' := hV.symm
 clear hV
 subst hV'
 go_wp2_with fail
 refine (copyOut_any o a c _ (HR.out.later HB2.out) ht).mono ?_
 rintro e W0 ⟨a2, c2, bs2, rfl, o2, l2, n2, b3⟩
 have hb3s := b3.size
 have HBV : Hid (Below V1.heap.size V1 (W0.alloc (.cells #[.int .i64 o.epoch, .int .i64 o.next, .int .i64 o.now, .slice a2 o.wait.length c2] 41))) := hid (bC b3 (bN W0 _))
 have HKN : Hid ((W0.alloc (.cells #[.int .i64 o.epoch, .int .i64 o.next, .int .i64 o.now, .slice a2 o.wait.length c2] 41)).heap[W0.heap.size]? = some (.cells #[.int .i64 o.epoch, .int .i64 o.next, .int .i64 o.now, .slice a2 o.wait.length c2] 41 (0, 0))) := hid (heap_alloc_new W0 _)
 have HSZ1 : Hid ((W0.alloc (.cells #[.int .i64 o.epoch, .int .i64 o.next, .int .i64 o.now, .slice a2 o.wait.length c2] 41)).heap.size = W0.heap.size + 1) := hid (by simp)
 have HO2W : Hid (OwnSl cSnt 141 (W0.alloc (.cells #[.int .i64 o.epoch, .int .i64 o.next, .int .i64 o.now, .slice a2 o.wait.length c2] 41)) o.wait (.slice a2 o.wait.length c2) bs2) := hid (o2.kept (fun b hb => (bN W0 _).block b (o2.lt b hb)))
 have HLT2 : Hid (∀ b ∈ bs2, b < W0.heap.size) := hid o2.lt
 have HL2 := hid l2
 have HN2 := hid n2
 clear c00 c10 f10 c01 c11 f11 c02 c12 f12 c03 c13 f13 b3 o2 l2 n2
 have HGN : Hid (V1.heap.size ≤ W0.heap.size) := hid hb3s
 go_upto_region 5 with fail
 rw [HNP.out]
 generalize (W0.alloc (.cells #[.int .i64 o.epoch, .int .i64 o.next, .int .i64 o.now, .slice a2 o.wait.length c2] 41)) = W1 at *
 generalize hN : nPc xs = N at *
 have HN := hid hN
 clear hN
 have K0W := hid ((HBV.out.block _ (show w.heap.size < V1.heap.size by omega)).trans K0.out)
 have K1W := hid ((HBV.out.block _ (show w.heap.size + 1 < V1.heap.size by omega)).trans K1.out)
 have c00 := cR _ _ 0 _ _ _ K0W.out
 have c01 := cR _ _ 1 _ _ _ K0W.out
 have c02 := cR _ _ 2 _ _ _ K0W.out
 have c03 := cR _ _ 3 _ _ _ K0W.out
 simp only [gA, gZ, gU] at c00 c01 c02 c03
 have c10 := cR _ _ 0 _ _ _ K1W.out
 have zc10 := fR _ _ 0 _ _ K1W.out
 have c11 := cR _ _ 1 _ _ _ K1W.out
 have zc11 := fR _ _ 1 _ _ K1W.out
 have c12 := cR _ _ 2 _ _ _ K1W.out
 have zc12 := fR _ _ 2 _ _ K1W.out
 have c13 := cR _ _ 3 _ _ _ K1W.out
 have zc13 := fR _ _ 3 _ _ K1W.out
 simp only [gA, gZ, gU] at c10 c11 c12 c13
 have g0 := cR _ _ 0 _ _ _ HKN.out
 have zg0 := fR _ _ 0 _ _ HKN.out
 have g1 := cR _ _ 1 _ _ _ HKN.out
 have zg1 := fR _ _ 1 _ _ HKN.out
 have g2 := cR _ _ 2 _ _ _ HKN.out
 have zg2 := fR _ _ 2 _ _ HKN.out
 have g3 := cR _ _ 3 _ _ _ HKN.out
 have zg3 := fR _ _ 3 _ _ HKN.out
 simp only [gA, gZ, gU] at g0 g1 g2 g3
 by_cases hf : 300 < o.wait.length + N
 ·have HF := hid (push_full HPK.out (by unfold PushFull; rw [HN.out]; exact hf))
  have hft : decide (300 < (o.wait.length : Int) + (N : Int)) = true := decide_eq_true (by omega)
  clear hf
  go_wp2
  refine bodyPost_ret (results_cell_row_tmpD rfl _ _ (w.heap.size + 1) 41 #[.int .i64 o.epoch, .int .i64 o.next, .int .i64 o.now, .slice a2 o.wait.length c2] (0, 0) _ rfl (set4 K1W.out) Tryz.underlying41 rfl (by kernel_rfl)) rfl ?_
  rw [HF.out.1, HF.out.2]
  refine ⟨a2, c2, bs2, rfl, HO2W.out.kept (fun x hx => set4o ?_), fun x hx => by have := HL2.out x hx; omega, HN2.out, ht, set4b (bC HB2.out HBV.out) (by omega)⟩
  have := HL2.out x hx
  omega
 have HNF : Hid (¬ PushFull o xs) := hid (by unfold PushFull; rw [HN.out]; exact hf)
 have hft : decide (300 < (o.wait.length : Int) + (N : Int)) = false := decide_eq_false (by omega)
 by_cases he : 1000000000000 < o.next + (N : Int)
 ·have HF := hid (push_end HPK.out HNF.out (by unfold PushEnd; rw [HN.out]; exact he))
  have het : decide (1000000000000 < o.next + (N : Int)) = true := decide_eq_true he
  clear he
  go_wp2
  refine bodyPost_ret (results_cell_row_tmpD rfl _ _ (w.heap.size + 1) 41 #[.int .i64 o.epoch, .int .i64 o.next, .int .i64 o.now, .slice a2 o.wait.length c2] (0, 0) _ rfl (set4 K1W.out) Tryz.underlying41 rfl (by kernel_rfl)) rfl ?_
  rw [HF.out.1, HF.out.2]
  refine ⟨a2, c2, bs2, rfl, HO2W.out.kept (fun x hx => set4o ?_), fun x hx => by have := HL2.out x hx; omega, HN2.out, ht, set4b (bC HB2.out HBV.out) (by omega)⟩
  have := HL2.out x hx
  omega
 have HY := hid (push_yes HPK.out HNF.out (by unfold PushEnd; rw [HN.out]; exact he))
 rw [HN.out] at HY
 have het : decide (1000000000000 < o.next + (N : Int)) = false := decide_eq_false he
 clear he hf
 have HBQ0 := hid (bC HBV.out (bN W1 (.cells #[.slice a2 o.wait.length c2] 176)))
 have HKQ0 : Hid ((W1.alloc (.cells #[.slice a2 o.wait.length c2] 176)).heap[W0.heap.size + 1]? = some (.cells #[.slice a2 o.wait.length c2] 176 (0, 0))) := hid (by rw [← HSZ1.out]; exact heap_alloc_new W1 _)
 have HKN0 := hid (box_laterP2 HKN.out (bN W1 (.cells #[.slice a2 o.wait.length c2] 176)))
 have HOQ0 : Hid (OwnSl cSnt 141 (W1.alloc (.cells #[.slice a2 o.wait.length c2] 176)) o.wait (.slice a2 o.wait.length c2) bs2) := hid (HO2W.out.kept (fun b hb => (bN W1 _).block b (HO2W.out.lt b hb)))
 have hs1 := HSZ1.out
 go_upto_region 10 with fail
 try rw [HSZ1.out]
 generalize (W1.alloc (.cells #[.slice a2 o.wait.length c2] 176)) = W2 at *
 clear hs1
 go_wp2
 go_loopw [45] (fun i wr => ∃ k : Nat, k ≤ N ∧ i = .int .i64 k ∧ (∃ aA cA bs, wr.heap[W0.heap.size + 1]? = some (.cells #[.slice aA (pushK o xs k).length cA] 176 (0, 0)) ∧ OwnSl cSnt 141 wr (pushK o xs k) (.slice aA (pushK o xs k).length cA) bs ∧ bs.Nodup ∧ ∀ b ∈ bs, V1.heap.size ≤ b ∧ b ≠ W0.heap.size + 1 ∧ b ≠ W0.heap.size) ∧ wr.heap[W0.heap.size]? = some (.cells #[.int .i64 o.epoch, .int .i64 o.next, .int .i64 o.now, .slice a2 o.wait.length c2] 41 (0, 0)) ∧ Below V1.heap.size V1 wr) (fun i _ => N - (intOf i).toNat)
 case atStart => exact ⟨0, Nat.zero_le _, rfl, ⟨a2, c2, bs2, by rw [pushK_zero]; exact HKQ0.out, by rw [pushK_zero]; exact HOQ0.out, HN2.out, fun b hb => ⟨HL2.out b hb, by have := HLT2.out b hb; omega, by have := HLT2.out b hb; omega⟩⟩, HKN0.out, HBQ0.out⟩
 case round =>
  obtain ⟨k, hk, rfl, ⟨aA, cA, bsA, hkq, hox, hnb, hbb⟩, hkn, hbe⟩ := hrel
  have HKQ := hid hkq
  have HOX := hid hox
  have HNB := hid hnb
  have HBB := hid hbb
  have HKNr := hid hkn
  have HBW := hid hbe
  clear hkq hox hnb hbb hkn hbe
  clear c00 c10 zc10 g0 zg0 c01 c11 zc11 g1 zg1 c02 c12 zc12 g2 zg2 c03 c13 zc13 g3 zg3
  have c00 := cR _ _ 0 _ _ _ ((HBW.out.block _ (show w.heap.size < V1.heap.size by omega)).trans K0.out)
  have c01 := cR _ _ 1 _ _ _ ((HBW.out.block _ (show w.heap.size < V1.heap.size by omega)).trans K0.out)
  simp only [gA, gZ, gU] at c00 c01
  by_cases hlt : k < N
  ·have hkx := HNL.out k hlt
   have hki : (k : Int) < (N : Int) := by omega
   have HPIN : Hid (PPIn (pkW o xs k).pkt) := hid (pkW_in HOH.out (by omega))
   have HBP : Hid (∀ x ∈ pcs xs k, x < 256) := hid (fun x hx => HBY.out x (List.mem_of_mem_drop (List.mem_of_mem_take hx)))
   have HYL := hid (pushK_len o xs k)
   have HPKN : Hid (pkW o xs k = ⟨⟨1, o.epoch, o.next + (k : Int), 0, ((k : Int) == (N : Int) - 1), pcs xs k⟩, -1⟩) := hid (by unfold pkW; rw [HN.out])
   have HSU := hid (pushK_succ o xs k)
   rw [HPKN.out] at HSU
   have HPAT : Hid (IntIn ((⟨⟨1, o.epoch, o.next + (k : Int), 0, ((k : Int) == (N : Int) - 1), pcs xs k⟩, -1⟩ : PW).at_)) := hid (by dsimp only [IntIn]; omega)
   rw [HPKN.out] at HPIN
   have HWA : Hid (IntKind.i64.wrap (o.next + (k : Int)) = o.next + (k : Int)) := hid ((fit_i64 _).2 ⟨by omega, by omega⟩)
   have HWB : Hid (IntKind.i64.wrap ((N : Int) - 1) = (N : Int) - 1) := hid ((fit_i64 _).2 ⟨by omega, by omega⟩)
   have HCL : Hid (∀ wx, Below wr.heap.size wr wx → Calls Tryz.prog 155 #[.slice (some ⟨bm, om, none⟩) xs.length cm, .int .i64 (k : Int)] wx fun e w' => ∃ v, e = .returned v ∧ w'.ownsRow wx.heap.size 5 1 v (pcs xs k).length (byt (pcs xs k)) ∧ Below wx.heap.size wx w') := hid (fun wx hb => pieceOf_any bm om cm xs k wx (HRM.out.later (bC (bC HB2.out HBW.out) hb)) hl hkx)
   generalize hys : pushK o xs k = ys at *
   have HEQ : Hid (ys ++ [(⟨⟨1, o.epoch, o.next + (k : Int), 0, ((k : Int) == (N : Int) - 1), pcs xs k⟩, -1⟩ : PW)] = pushK o xs (k + 1)) := hid HSU.out.symm
   have hyl : ys.length ≤ 1048576 := by have := HYL.out; omega
   clear hys
   go_wp2_with fail
   refine region_turns3 (n := 16) (by kernel_rfl) (by kernel_rfl) ?_ (fun t => { tmps := #[.agg #[.int .i64 o.epoch, .int .i64 o.next, .int .i64 o.now, .slice a o.wait.length c], .slice (some ⟨bm, om, none⟩) xs.length cm, .pointer (some ⟨w.heap.size, 0, none⟩), undef, .pointer (some ⟨w.heap.size + 1, 0, none⟩), .int .i64 0, .pointer (some ⟨W0.heap.size, 0, none⟩), .int .i64 (N : Int), .pointer (some ⟨W0.heap.size + 1, 0, none⟩), .int .i64 (k : Int), t 14, .agg #[.int .i64 o.epoch, .int .i64 o.next, .int .i64 o.now, .slice a o.wait.length c], .bool true, .bool false, .bool false, .slice (some ⟨bm, om, none⟩) xs.length cm, .int .i64 (xs.length : Int), .bool true, .bool false, .bool false, undef, .agg #[.int .i64 o.epoch, .int .i64 o.next, .int .i64 o.now, .slice a o.wait.length c], .agg #[.int .i64 o.epoch, .int .i64 o.next, .int .i64 o.now, .slice a2 o.wait.length c2], .slice (some ⟨bm, om, none⟩) xs.length cm, .int .i64 (xs.length : Int), .int .i64 ((xs.length : Int) + 100), .int .i64 ((xs.length : Int) + 100 - 1), .int .i64 (N : Int), .pointer (some ⟨w.heap.size, 3, none⟩), .slice a o.wait.length c, .int .i64 (o.wait.length : Int), .int .i64 (N : Int), .int .i64 ((o.wait.length : Int) + (N : Int)), .bool false, undef, .pointer (some ⟨w.heap.size, 1, none⟩), .int .i64 o.next, .int .i64 (N : Int), .int .i64 (o.next + (N : Int)), .bool false, undef, .pointer (some ⟨W0.heap.size, 3, none⟩), .slice a2 o.wait.length c2, .agg #[.slice a2 o.wait.length c2], .int .i64 (N : Int), .int .i64 (k : Int), .bool true, .int .i64 (k : Int), t 0, t 1, t 2, t 3, t 4, t 5, t 6, t 7, t 8, t 9, t 10, t 11, t 12, t 13, u62, u63, u64, u65, undef, undef, undef, undef, undef, undef, undef, undef, undef], defers := [] }) (npIT wr.heap.size w.heap.size k N bm om cm xs.length o.epoch o.next (pcs xs k)) [15] (Fct.any) (npH wr.heap.size o.epoch o.next k N (pcs xs k) 14 15) wr wr (fun k => if k = 12 then [15] else if k = 13 then [15] else if k = 14 then [15] else []) (fun k => !(k == 12 || k == 13 || k == 14 || k == 15)) (fun _ _ _ => True) [15] (fun _ _ => false) (by kernel_rfl) (fun _ _ _ _ h => by cases h) (fun i hi hn => absurd hi hn) (fun j hj => by rcases (by omega : j = 0 ∨ j = 1 ∨ j = 2 ∨ j = 3 ∨ j = 4 ∨ j = 5 ∨ j = 6 ∨ j = 7 ∨ j = 8 ∨ j = 9 ∨ j = 10 ∨ j = 11 ∨ j = 12 ∨ j = 13 ∨ j = 14 ∨ j = 15) with rfl | rfl | rfl | rfl | rfl | rfl | rfl | rfl | rfl | rfl | rfl | rfl | rfl | rfl | rfl | rfl <;> rfl) (fun j hj hp => by rcases (by omega : j = 0 ∨ j = 1 ∨ j = 2 ∨ j = 3 ∨ j = 4 ∨ j = 5 ∨ j = 6 ∨ j = 7 ∨ j = 8 ∨ j = 9 ∨ j = 10 ∨ j = 11 ∨ j = 12 ∨ j = 13 ∨ j = 14 ∨ j = 15) with rfl | rfl | rfl | rfl | rfl | rfl | rfl | rfl | rfl | rfl | rfl | rfl | rfl | rfl | rfl | rfl <;> first | rfl | (exact absurd hp (by decide))) (fun j => ([u48, u49, u50, u51, u52, u53, u54, u55, u56, u57, u58, u59, u60, u61, u10, undef] : List Value).getD j undef) (fun h => by cases h) (Below.refl _ wr) (trivial) ?_ ?_
   ·rfl
   ·intro i hi x t wx hxi hsh h0 hbx hgx hdp hall hHx
    have c00 := (hbx.cell (World.block_lt_of_cell? _ _ c00)).trans c00
    have c01 := (hbx.cell (World.block_lt_of_cell? _ _ c01)).trans c01
    rcases (by omega : i = 0 ∨ i = 1 ∨ i = 2 ∨ i = 3 ∨ i = 4 ∨ i = 5 ∨ i = 6 ∨ i = 7 ∨ i = 8 ∨ i = 9 ∨ i = 10 ∨ i = 11 ∨ i = 12 ∨ i = 13 ∨ i = 14 ∨ i = 15) with rfl | rfl | rfl | rfl | rfl | rfl | rfl | rfl | rfl | rfl | rfl | rfl | rfl | rfl | rfl | rfl
    ·
     try dsimp only
     have hy := notYet hsh hxi 15 (by kernel_rfl)
     clear h0
     refine wpOp_step rfl (fun K' hK => ?_)
     go_simp
     exact hK _ _ ⟨.pointer (some ⟨w.heap.size, 0, none⟩), (by simp [upd]), FX.eq_mk rfl, fun _ => Below.refl _ _, fun h => absurd h (by decide), hbx, fun h => absurd h (by simp [hy])⟩
    ·
     try dsimp only
     have x0 := depX hdp 0 (by kernel_rfl)
     have d0 := hall 0 (by omega) x0
     have e0 : t 0 = .pointer (some ⟨w.heap.size, 0, none⟩) := d0.1
     rw [e0]
     have hy := notYet hsh hxi 15 (by kernel_rfl)
     clear h0
     refine wpOp_step rfl (fun K' hK => ?_)
     go_simp
     exact hK _ _ ⟨.int .i64 o.epoch, (by simp [upd, e0]), FX.eq_mk rfl, fun _ => Below.refl _ _, fun h => absurd h (by decide), hbx, fun h => absurd h (by simp [hy])⟩
    ·
     try dsimp only
     have hy := notYet hsh hxi 15 (by kernel_rfl)
     clear h0
     refine wpOp_step rfl (fun K' hK => ?_)
     go_simp
     exact hK _ _ ⟨.pointer (some ⟨w.heap.size, 1, none⟩), (by simp [upd]), FX.eq_mk rfl, fun _ => Below.refl _ _, fun h => absurd h (by decide), hbx, fun h => absurd h (by simp [hy])⟩
    ·
     try dsimp only
     have x2 := depX hdp 2 (by kernel_rfl)
     have d2 := hall 2 (by omega) x2
     have e2 : t 2 = .pointer (some ⟨w.heap.size, 1, none⟩) := d2.1
     rw [e2]
     have hy := notYet hsh hxi 15 (by kernel_rfl)
     clear h0
     refine wpOp_step rfl (fun K' hK => ?_)
     go_simp
     exact hK _ _ ⟨.int .i64 o.next, (by simp [upd, e2]), FX.eq_mk rfl, fun _ => Below.refl _ _, fun h => absurd h (by decide), hbx, fun h => absurd h (by simp [hy])⟩
    ·
     try dsimp only
     have hy := notYet hsh hxi 15 (by kernel_rfl)
     clear h0
     refine wpOp_step rfl (fun K' hK => ?_)
     go_simp
     exact hK _ _ ⟨.int .i64 (k : Int), (by simp [upd]), FX.eq_mk rfl, fun _ => Below.refl _ _, fun h => absurd h (by decide), hbx, fun h => absurd h (by simp [hy])⟩
    ·
     try dsimp only
     have x3 := depX hdp 3 (by kernel_rfl)
     have d3 := hall 3 (by omega) x3
     have e3 : t 3 = .int .i64 o.next := d3.1
     have x4 := depX hdp 4 (by kernel_rfl)
     have d4 := hall 4 (by omega) x4
     have e4 : t 4 = .int .i64 (k : Int) := d4.1
     rw [e3, e4]
     have hy := notYet hsh hxi 15 (by kernel_rfl)
     clear h0
     refine wpOp_step rfl (fun K' hK => ?_)
     go_simp
     exact hK _ _ ⟨.int .i64 (o.next + (k : Int)), (by simp [upd, e3, e4, HWA.out]), FX.eq_mk rfl, fun _ => Below.refl _ _, fun h => absurd h (by decide), hbx, fun h => absurd h (by simp [hy])⟩
    ·
     try dsimp only
     have hy := notYet hsh hxi 15 (by kernel_rfl)
     clear h0
     refine wpOp_step rfl (fun K' hK => ?_)
     go_simp
     exact hK _ _ ⟨.int .i64 (k : Int), (by simp [upd]), FX.eq_mk rfl, fun _ => Below.refl _ _, fun h => absurd h (by decide), hbx, fun h => absurd h (by simp [hy])⟩
    ·
     try dsimp only
     have hy := notYet hsh hxi 15 (by kernel_rfl)
     clear h0
     refine wpOp_step rfl (fun K' hK => ?_)
     go_simp
     exact hK _ _ ⟨.int .i64 (N : Int), (by simp [upd]), FX.eq_mk rfl, fun _ => Below.refl _ _, fun h => absurd h (by decide), hbx, fun h => absurd h (by simp [hy])⟩
    ·
     try dsimp only
     have x7 := depX hdp 7 (by kernel_rfl)
     have d7 := hall 7 (by omega) x7
     have e7 : t 7 = .int .i64 (N : Int) := d7.1
     rw [e7]
     have hy := notYet hsh hxi 15 (by kernel_rfl)
     clear h0
     refine wpOp_step rfl (fun K' hK => ?_)
     go_simp
     exact hK _ _ ⟨.int .i64 ((N : Int) - 1), (by simp [upd, e7, HWB.out]), FX.eq_mk rfl, fun _ => Below.refl _ _, fun h => absurd h (by decide), hbx, fun h => absurd h (by simp [hy])⟩
    ·
     try dsimp only
     have x6 := depX hdp 6 (by kernel_rfl)
     have d6 := hall 6 (by omega) x6
     have e6 : t 6 = .int .i64 (k : Int) := d6.1
     have x8 := depX hdp 8 (by kernel_rfl)
     have d8 := hall 8 (by omega) x8
     have e8 : t 8 = .int .i64 ((N : Int) - 1) := d8.1
     rw [e6, e8]
     have hy := notYet hsh hxi 15 (by kernel_rfl)
     clear h0
     refine wpOp_step rfl (fun K' hK => ?_)
     go_simp
     exact hK _ _ ⟨.bool ((k : Int) == (N : Int) - 1), (by simp [upd, e6, e8]), FX.eq_mk rfl, fun _ => Below.refl _ _, fun h => absurd h (by decide), hbx, fun h => absurd h (by simp [hy])⟩
    ·
     try dsimp only
     have hy := notYet hsh hxi 15 (by kernel_rfl)
     clear h0
     refine wpOp_step rfl (fun K' hK => ?_)
     go_simp
     exact hK _ _ ⟨.slice (some ⟨bm, om, none⟩) xs.length cm, (by simp [upd]), FX.eq_mk rfl, fun _ => Below.refl _ _, fun h => absurd h (by decide), hbx, fun h => absurd h (by simp [hy])⟩
    ·
     try dsimp only
     have hy := notYet hsh hxi 15 (by kernel_rfl)
     clear h0
     refine wpOp_step rfl (fun K' hK => ?_)
     go_simp
     exact hK _ _ ⟨.int .i64 (k : Int), (by simp [upd]), FX.eq_mk rfl, fun _ => Below.refl _ _, fun h => absurd h (by decide), hbx, fun h => absurd h (by simp [hy])⟩
    ·
     try dsimp only
     have x10 := depX hdp 10 (by kernel_rfl)
     have d10 := hall 10 (by omega) x10
     have e10 : t 10 = .slice (some ⟨bm, om, none⟩) xs.length cm := d10.1
     have x11 := depX hdp 11 (by kernel_rfl)
     have d11 := hall 11 (by omega) x11
     have e11 : t 11 = .int .i64 (k : Int) := d11.1
     rw [e10, e11]
     have hy := notYet hsh hxi 15 (by kernel_rfl)
     clear h0
     refine wpOp_step rfl (fun K' hK => ?_)
     go_simp
     refine (HCL.out wx hbx).mono ?_
     rintro e w2 ⟨v2, rfl, o2, b2⟩
     exact hK _ _ ⟨v2, (by simp [upd, e10, e11]), FX.pre_mk (own_mono o2 hbx.size), fun _ => b2, fun h => absurd h (by decide), bC hbx b2, fun h => absurd h (by simp [hy])⟩
    ·
     try dsimp only
     have x1 := depX hdp 1 (by kernel_rfl)
     have d1 := hall 1 (by omega) x1
     have e1 : t 1 = .int .i64 o.epoch := d1.1
     have x5 := depX hdp 5 (by kernel_rfl)
     have d5 := hall 5 (by omega) x5
     have e5 : t 5 = .int .i64 (o.next + (k : Int)) := d5.1
     have x9 := depX hdp 9 (by kernel_rfl)
     have d9 := hall 9 (by omega) x9
     have e9 : t 9 = .bool ((k : Int) == (N : Int) - 1) := d9.1
     have x12 := depX hdp 12 (by kernel_rfl)
     have d12 := hall 12 (by omega) x12
     rw [e1, e5, e9]
     have hy := notYet hsh hxi 15 (by kernel_rfl)
     have f12 : wx.ownsRow wr.heap.size 5 1 (t 12) (pcs xs k).length (byt (pcs xs k)) := FX.pre_of d12 hy
     obtain ⟨ad, cd, ed, -⟩ := rd_own f12
     rw [ed]
     clear h0
     refine wpOp_step rfl (fun K' hK => ?_)
     go_simp
     exact hK _ _ ⟨.agg #[.int .i64 1, .int .i64 o.epoch, .int .i64 (o.next + (k : Int)), .int .i64 0, .bool ((k : Int) == (N : Int) - 1), .slice ad (pcs xs k).length cd], (by simp [upd, ed, e1, e5, e9]), FX.pre_mk ⟨ad, cd, rfl, ed ▸ f12⟩, fun _ => Below.refl _ _, fun h => absurd h (by decide), hbx, fun h => absurd h (by simp [hy])⟩
    ·
     try dsimp only
     have hy := notYet hsh hxi 15 (by kernel_rfl)
     clear h0
     refine wpOp_step rfl (fun K' hK => ?_)
     go_simp
     exact hK _ _ ⟨.pointer (some ⟨wx.heap.size, 0, none⟩), (by simp [upd]), FX.pre_mk ⟨wx.heap.size, rfl, hbx.size, heap_alloc_new wx _⟩, fun _ => bN _ _, fun h => absurd h (by decide), bC hbx (bN _ _), fun h => absurd h (by simp [hy])⟩
    ·
     try dsimp only
     have x14 := depX hdp 14 (by kernel_rfl)
     have d14 := hall 14 (by omega) x14
     have x13 := depX hdp 13 (by kernel_rfl)
     have d13 := hall 13 (by omega) x13
     obtain ⟨gs, ea, lg, hbox⟩ : (fcNewD wr.heap.size).p (t 14) wx := FX.pre_of d14 hxi
     obtain ⟨ad, cd, eb, hrow⟩ : (fcAggW wr.heap.size o.epoch o.next k N (pcs xs k)).p (t 13) wx := FX.pre_of d13 hxi
     rw [ea, eb]
     have k0 := cR wx _ 0 _ _ _ hbox
     have k1 := cR wx _ 1 _ _ _ hbox
     have k2 := cR wx _ 2 _ _ _ hbox
     have k3 := cR wx _ 3 _ _ _ hbox
     have k4 := cR wx _ 4 _ _ _ hbox
     have k5 := cR wx _ 5 _ _ _ hbox
     have z0 := fR wx _ 0 _ _ hbox
     have z1 := fR wx _ 1 _ _ hbox
     have z2 := fR wx _ 2 _ _ hbox
     have z3 := fR wx _ 3 _ _ hbox
     have z4 := fR wx _ 4 _ _ hbox
     have z5 := fR wx _ 5 _ _ hbox
     simp only [gA, gZ, gU] at k0 k1 k2 k3 k4 k5
     have HBX := hid hbox
     have HRW := hid hrow
     clear hbox hrow
     clear h0
     refine wpOp_step rfl (fun K' hK => ?_)
     go_simp
     exact hK _ _ ⟨undef, (by simp [upd, ea, eb]), FX.is_mk trivial, fun h => absurd (by decide) h, fun _ => trivial, set6b hbx lg, fun _ => ⟨gs, ad, cd, (by simp [upd]; exact ea), lg, set6 HBX.out, ownsRow_kept HRW.out (fun x hx => set6o (box_far HBX.out HRW.out (by decide) hx)), fun x hx => box_far HBX.out HRW.out (by decide) hx⟩⟩
   ·intro x t wx hx hbx hall hHx
    obtain ⟨gM, aD, cD, eA, lg, hM, hrow, hfar⟩ := hHx (hx 15 (by omega))
    try dsimp only
    rw [eA]
    generalize t 0 = v0
    generalize t 1 = v1
    generalize t 2 = v2
    generalize t 3 = v3
    generalize t 4 = v4
    generalize t 5 = v5
    generalize t 6 = v6
    generalize t 7 = v7
    generalize t 8 = v8
    generalize t 9 = v9
    generalize t 10 = v10
    generalize t 11 = v11
    generalize t 12 = v12
    generalize t 13 = v13
    have HM := hid hM
    have HROW := hid hrow
    have HLG := hid lg
    have HFAR := hid hfar
    have HBX := hid hbx
    clear hall hbx hM hrow eA hHx hx lg hfar c00 c01
    have m0 := cR _ _ 0 _ _ _ HM.out
    have m1 := cR _ _ 1 _ _ _ HM.out
    have m2 := cR _ _ 2 _ _ _ HM.out
    have m3 := cR _ _ 3 _ _ _ HM.out
    have m4 := cR _ _ 4 _ _ _ HM.out
    have m5 := cR _ _ 5 _ _ _ HM.out
    simp only [gA, gZ, gU] at m0 m1 m2 m3 m4 m5
    have hwr := HBW.out.size
    have hgq := (Array.getElem?_eq_some_iff.1 HKQ.out).1
    have hgn := HGN.out
    have hdl9 : ∀ b ∈ (Value.slice aD (pcs xs k).length cD).ownBlock.toList, wr.heap.size ≤ b := fun b hb => (own_in HROW.out (by simpa using hb)).1
    have HDL9 := hid hdl9
    have HPUT := hid (put_any (W0.heap.size + 1) aA cA ys bsA ⟨⟨1, o.epoch, o.next + (k : Int), 0, ((k : Int) == (N : Int) - 1), pcs xs k⟩, -1⟩ aD cD _ V1 wx (bC HBW.out HBX.out) (box_laterP2 HKQ.out HBX.out) (HOX.out.kept (fun b hb => HBX.out.block b (HOX.out.lt b hb))) HNB.out (fun b hb => ⟨(HBB.out b hb).1, (HBB.out b hb).2.1⟩) (ownSl_bytes HROW.out HBP.out) (by cases (Value.slice aD (pcs xs k).length cD).ownBlock <;> simp) (fun b hb => ⟨by have := hdl9 b hb; omega, by have := hdl9 b hb; omega⟩) (fun b hb hc => by have := HOX.out.lt b hc; have := hdl9 b hb; omega) ⟨HPIN.out, HPAT.out⟩ hyl (by omega))
    clear hdl9
    go_wp2_with fail
    refine HPUT.out.mono ?_
    rintro e w9 ⟨rfl, a9, c9, bs9, hk9, o9, n9, hb9, on9, bl9⟩
    rw [HEQ.out] at hk9 o9
    have hsx := HBX.out.size
    have hkn9 := (on9.block _ (Array.getElem?_eq_some_iff.1 (box_laterP2 HKNr.out HBX.out)).1 (fun h => by rcases List.mem_cons.1 h with h | h; omega; exact (HBB.out _ h).2.2 rfl)).trans (box_laterP2 HKNr.out HBX.out)
    have HR9 : Hid (∃ aA cA bs, w9.heap[W0.heap.size + 1]? = some (.cells #[.slice aA (pushK o xs (k + 1)).length cA] 176 (0, 0)) ∧ OwnSl cSnt 141 w9 (pushK o xs (k + 1)) (.slice aA (pushK o xs (k + 1)).length cA) bs ∧ bs.Nodup ∧ ∀ b ∈ bs, V1.heap.size ≤ b ∧ b ≠ W0.heap.size + 1 ∧ b ≠ W0.heap.size) := hid ⟨a9, c9, bs9, hk9, o9, n9, fun b hb => by have h := hb9 b hb; rcases h.1 with h1 | h1 | h1; exact ⟨(HBB.out b h1).1, h.2, (HBB.out b h1).2.2⟩; exact ⟨by have := HDL9.out b h1; omega, h.2, by have := HDL9.out b h1; omega⟩; exact ⟨by omega, h.2, by omega⟩⟩
    have HKN9 := hid hkn9
    have HBL9 := hid bl9
    clear hk9 o9 n9 hb9 on9 bl9 hkn9 m0 m1 m2 m3 m4 m5
    go_wp2
    go_roundw
    case rel => exact ⟨k + 1, by omega, by go_num, HR9.out, HKN9.out, HBL9.out⟩
    case measure => simp [intOf]; omega
  ·obtain rfl : k = N := by omega
   have k1 := (HBW.out.block _ (show w.heap.size + 1 < V1.heap.size by omega)).trans K1.out
   generalize pushK o xs k = ys at *
   have g0 := cR wr _ 0 _ _ _ HKNr.out
   have c10 := cR wr _ 0 _ _ _ k1
   have f10 := fR wr _ 0 _ _ k1
   have g1 := cR wr _ 1 _ _ _ HKNr.out
   have c11 := cR wr _ 1 _ _ _ k1
   have f11 := fR wr _ 1 _ _ k1
   have g2 := cR wr _ 2 _ _ _ HKNr.out
   have c12 := cR wr _ 2 _ _ _ k1
   have f12 := fR wr _ 2 _ _ k1
   have g3 := cR wr _ 3 _ _ _ HKNr.out
   have c13 := cR wr _ 3 _ _ _ k1
   have f13 := fR wr _ 3 _ _ k1
   have zg1 := fR wr _ 1 _ _ HKNr.out
   have zg3 := fR wr _ 3 _ _ HKNr.out
   have q0 := cR wr _ 0 _ _ _ HKQ.out
   simp only [gA, gZ, gU] at q0 g0 c10 g1 c11 g2 c12 g3 c13
   have K1N := hid k1
   have hgn := HGN.out
   have hne2 : w.heap.size + 1 ≠ W0.heap.size := by omega
   clear k1
   go_wp2
   refine bodyPost_ret (results_cell_row_tmpD rfl _ _ (w.heap.size + 1) 41 #[.int .i64 o.epoch, .int .i64 (o.next + (k : Int)), .int .i64 o.now, .slice aA ys.length cA] (0, 0) _ rfl (set4 ((Below.heap_setCell _ ⟨W0.heap.size, 1, none⟩ _ _ hne2).trans ((Below.heap_setCell _ ⟨W0.heap.size, 3, none⟩ _ _ hne2).trans K1N.out))) Tryz.underlying41 rfl (by kernel_rfl)) rfl ?_
   rw [HY.out.1, HY.out.2]
   refine ⟨aA, cA, bsA, rfl, (HOX.out.kept (fun x hx => (set4o ?_).trans ((Below.heap_setCell _ ⟨W0.heap.size, 1, none⟩ _ _ (HBB.out x hx).2.2).trans (Below.heap_setCell _ ⟨W0.heap.size, 3, none⟩ _ _ (HBB.out x hx).2.2)))), fun x hx => by have := (HBB.out x hx).1; omega, HNB.out, HTOT.out, set4b (((bC HB2.out HBW.out).setCell (p := ⟨W0.heap.size, 3, none⟩) (by simp only []; omega) _).setCell (p := ⟨W0.heap.size, 1, none⟩) (by simp only []; omega) _) (by omega)⟩
   have := (HBB.out x hx).1
   omega
end Go.Proofs.YtfaehioeepolhabGreat
