import Derived.Test.YtfaehioeepolhaaJLinkTake46
import Derived.Test.YtfaehioeepolhaaJLinkTake47
import Derived.Test.YtfaehioeepolhaaJLinkTake50
import Derived.Test.YtfaehioeepolhaaJLinkTake49
namespace Go.Proofs.Ytfaehioeepolhaa
open Go.RowKit Go.Maps Go.WideMaps
set_option maxRecDepth 100000 in
set_option maxHeartbeats 16000000 in
theorem implTake_any (s : PI) (a b : Option Addr) (c d : Nat) (p : PP) (ap : Option Addr) (cp : Nat) (w : World) (hr : RdIn w s a c b d) (hrp : RdSl cByte w p.data (.slice ap p.data.length cp)) (hpin : PPIn p) (ht : tIn s ≤ 1048576) :
    Calls Try.prog 9 #[.agg #[.int .i64 s.epoch, .int .i64 s.expect, .slice a s.held.length c, .slice b s.part.length d], .agg #[.int .i64 p.kind, .int .i64 p.epoch, .int .i64 p.seq, .int .i64 p.count, .bool p.last, .slice ap p.data.length cp]] w (IkPost w (takeI s p) (takeG s p) (takeC s p)) := by
  have HR := hid hr
  have HRP := hid hrp
  have HPIN := hid hpin
  have hpm := rdBytes_max hrp
  have ht1 : totL pN s.held ≤ 1048576 ∧ s.part.length ≤ 1048576 := by unfold tIn at ht; omega
  have hlen : s.held.length ≤ 1048576 := by have := ht1.1; unfold totL at this; omega
  clear hr hrp hpin
  have HK0 : Hid ((((w.alloc (.cells #[.int .i64 s.epoch, .int .i64 s.expect, .slice a s.held.length c, .slice b s.part.length d] 32)).alloc (.cells #[.int .i64 p.kind, .int .i64 p.epoch, .int .i64 p.seq, .int .i64 p.count, .bool p.last, .slice ap p.data.length cp] 37)).alloc (.cells #[.int .i64 0, .int .i64 0, .slice none 0 0, .slice none 0 0] 32)).heap[w.heap.size]? = some (.cells #[.int .i64 s.epoch, .int .i64 s.expect, .slice a s.held.length c, .slice b s.part.length d] 32 (0, 0))) := hid (heap3 _ _ _ (Below.refl _ _)).1
  have HK1 : Hid ((((w.alloc (.cells #[.int .i64 s.epoch, .int .i64 s.expect, .slice a s.held.length c, .slice b s.part.length d] 32)).alloc (.cells #[.int .i64 p.kind, .int .i64 p.epoch, .int .i64 p.seq, .int .i64 p.count, .bool p.last, .slice ap p.data.length cp] 37)).alloc (.cells #[.int .i64 0, .int .i64 0, .slice none 0 0, .slice none 0 0] 32)).heap[w.heap.size + 1]? = some (.cells #[.int .i64 p.kind, .int .i64 p.epoch, .int .i64 p.seq, .int .i64 p.count, .bool p.last, .slice ap p.data.length cp] 37 (0, 0))) := hid (heap3 _ _ _ (Below.refl _ _)).2.1
  have HK2 : Hid ((((w.alloc (.cells #[.int .i64 s.epoch, .int .i64 s.expect, .slice a s.held.length c, .slice b s.part.length d] 32)).alloc (.cells #[.int .i64 p.kind, .int .i64 p.epoch, .int .i64 p.seq, .int .i64 p.count, .bool p.last, .slice ap p.data.length cp] 37)).alloc (.cells #[.int .i64 0, .int .i64 0, .slice none 0 0, .slice none 0 0] 32)).heap[w.heap.size + 1 + 1]? = some (.cells #[.int .i64 0, .int .i64 0, .slice none 0 0, .slice none 0 0] 32 (0, 0))) := hid (heap3 _ _ _ (Below.refl _ _)).2.2
  have HB0 := hid (below_new3 w (.cells #[.int .i64 s.epoch, .int .i64 s.expect, .slice a s.held.length c, .slice b s.part.length d] 32) (.cells #[.int .i64 p.kind, .int .i64 p.epoch, .int .i64 p.seq, .int .i64 p.count, .bool p.last, .slice ap p.data.length cp] 37) (.cells #[.int .i64 0, .int .i64 0, .slice none 0 0, .slice none 0 0] 32))
  have HSZ := hid (size3 w (.cells #[.int .i64 s.epoch, .int .i64 s.expect, .slice a s.held.length c, .slice b s.part.length d] 32) (.cells #[.int .i64 p.kind, .int .i64 p.epoch, .int .i64 p.seq, .int .i64 p.count, .bool p.last, .slice ap p.data.length cp] 37) (.cells #[.int .i64 0, .int .i64 0, .slice none 0 0, .slice none 0 0] 32))
  go_enter Try.func9, Try.ntmps9
  go_wp2_with fail
  generalize (((w.alloc (.cells #[.int .i64 s.epoch, .int .i64 s.expect, .slice a s.held.length c, .slice b s.part.length d] 32)).alloc (.cells #[.int .i64 p.kind, .int .i64 p.epoch, .int .i64 p.seq, .int .i64 p.count, .bool p.last, .slice ap p.data.length cp] 37)).alloc (.cells #[.int .i64 0, .int .i64 0, .slice none 0 0, .slice none 0 0] 32)) = V0 at *
  refine (implVI_any s a b c d V0 (HR.out.later HB0.out)).mono ?_
  rintro e Va ⟨rfl, b2⟩
  have J0 := hid (box_laterP2 HK0.out b2)
  have J1 := hid (box_laterP2 HK1.out b2)
  have J2 := hid (box_laterP2 HK2.out b2)
  have HBa := hid (below_chain HB0.out b2)
  have hsz : w.heap.size + 3 ≤ Va.heap.size := by have := b2.size; have := HSZ.out; omega
  clear b2 HK0 HK1 HK2 HB0 HSZ
  have c00 := cell_of_row _ _ 0 _ _ _ J0.out
  have c01 := cell_of_row _ _ 1 _ _ _ J0.out
  have c02 := cell_of_row _ _ 2 _ _ _ J0.out
  have c03 := cell_of_row _ _ 3 _ _ _ J0.out
  simp only [List.getElem?_toArray, List.getElem?_cons_zero, List.getElem?_cons_succ] at c00 c01 c02 c03
  have c10 := cell_of_row _ _ 0 _ _ _ J1.out
  have c11 := cell_of_row _ _ 1 _ _ _ J1.out
  have c12 := cell_of_row _ _ 2 _ _ _ J1.out
  have c13 := cell_of_row _ _ 3 _ _ _ J1.out
  have c14 := cell_of_row _ _ 4 _ _ _ J1.out
  have c15 := cell_of_row _ _ 5 _ _ _ J1.out
  simp only [List.getElem?_toArray, List.getElem?_cons_zero, List.getElem?_cons_succ] at c10 c11 c12 c13 c14 c15
  have c20 := cell_of_row _ _ 0 _ _ _ J2.out
  have zc20 := frozen_of_row _ _ 0 _ _ J2.out
  have c21 := cell_of_row _ _ 1 _ _ _ J2.out
  have zc21 := frozen_of_row _ _ 1 _ _ J2.out
  have c22 := cell_of_row _ _ 2 _ _ _ J2.out
  have zc22 := frozen_of_row _ _ 2 _ _ J2.out
  have c23 := cell_of_row _ _ 3 _ _ _ J2.out
  have zc23 := frozen_of_row _ _ 3 _ _ J2.out
  simp only [List.getElem?_toArray, List.getElem?_cons_zero, List.getElem?_cons_succ] at c20 c21 c22 c23
  cases hok : inOK s with
  | false =>
    have HD := hid (take_no (s := s) (p := p) (by unfold takeOK; rw [hok]; rfl))
    clear hok
    try dsimp only
    repeat go_step
    change bodyPost Try.prog Try.f9 (IkPost w (takeI s p) (takeG s p) (takeC s p)) Exit.ret _ _
    refine bodyPost_ret (results_cell_row_tmp2 rfl _ _ (w.heap.size + 1 + 1) 32 #[.int .i64 0, .int .i64 0, .slice none 0 0, .slice none 0 0] (0, 0) _ rfl (set4 J2.out) Try.underlying32 rfl (by kernel_rfl)) rfl ?_
    rw [HD.out.1, HD.out.2.1, HD.out.2.2]
    exact ⟨none, 0, none, 0, _, [], [], [], rfl, ⟨.inl ⟨rfl, rfl, rfl⟩, .inl ⟨rfl, rfl, rfl⟩⟩, .inl ⟨rfl, rfl, rfl⟩, by simp, by simp, set4b HBa.out (by omega)⟩
  | true =>
  go_wp2_with fail
  refine (isDataOf_any p ap cp s.epoch Va hpm).mono ?_
  rintro e V1 ⟨rfl, b3⟩
  have K0 := hid (box_laterP2 J0.out b3)
  have K1 := hid (box_laterP2 J1.out b3)
  have K2 := hid (box_laterP2 J2.out b3)
  have HB1 := hid (below_chain HBa.out b3)
  have hsz1 : w.heap.size + 3 ≤ V1.heap.size := by have := b3.size; omega
  clear b3 HBa J0 J1 J2 hsz c00 c01 c02 c03 c10 c11 c12 c13 c14 c15 c20 zc20 c21 zc21 c22 zc22 c23 zc23
  have hsz := hsz1
  have c00 := cell_of_row _ _ 0 _ _ _ K0.out
  have c01 := cell_of_row _ _ 1 _ _ _ K0.out
  have c02 := cell_of_row _ _ 2 _ _ _ K0.out
  have c03 := cell_of_row _ _ 3 _ _ _ K0.out
  simp only [List.getElem?_toArray, List.getElem?_cons_zero, List.getElem?_cons_succ] at c00 c01 c02 c03
  have c10 := cell_of_row _ _ 0 _ _ _ K1.out
  have c11 := cell_of_row _ _ 1 _ _ _ K1.out
  have c12 := cell_of_row _ _ 2 _ _ _ K1.out
  have c13 := cell_of_row _ _ 3 _ _ _ K1.out
  have c14 := cell_of_row _ _ 4 _ _ _ K1.out
  have c15 := cell_of_row _ _ 5 _ _ _ K1.out
  simp only [List.getElem?_toArray, List.getElem?_cons_zero, List.getElem?_cons_succ] at c10 c11 c12 c13 c14 c15
  have c20 := cell_of_row _ _ 0 _ _ _ K2.out
  have zc20 := frozen_of_row _ _ 0 _ _ K2.out
  have c21 := cell_of_row _ _ 1 _ _ _ K2.out
  have zc21 := frozen_of_row _ _ 1 _ _ K2.out
  have c22 := cell_of_row _ _ 2 _ _ _ K2.out
  have zc22 := frozen_of_row _ _ 2 _ _ K2.out
  have c23 := cell_of_row _ _ 3 _ _ _ K2.out
  have zc23 := frozen_of_row _ _ 3 _ _ K2.out
  simp only [List.getElem?_toArray, List.getElem?_cons_zero, List.getElem?_cons_succ] at c20 c21 c22 c23
  cases hdb : dataB p s.epoch with
  | false =>
    have HD := hid (take_no (s := s) (p := p) (by unfold takeOK; rw [hdb]; simp))
    clear hok hdb
    try dsimp only
    repeat go_step
    change bodyPost Try.prog Try.f9 (IkPost w (takeI s p) (takeG s p) (takeC s p)) Exit.ret _ _
    refine bodyPost_ret (results_cell_row_tmp2 rfl _ _ (w.heap.size + 1 + 1) 32 #[.int .i64 0, .int .i64 0, .slice none 0 0, .slice none 0 0] (0, 0) _ rfl (set4 K2.out) Try.underlying32 rfl (by kernel_rfl)) rfl ?_
    rw [HD.out.1, HD.out.2.1, HD.out.2.2]
    exact ⟨none, 0, none, 0, _, [], [], [], rfl, ⟨.inl ⟨rfl, rfl, rfl⟩, .inl ⟨rfl, rfl, rfl⟩⟩, .inl ⟨rfl, rfl, rfl⟩, by simp, by simp, set4b HB1.out (by omega)⟩
  | true =>
  have hTK : takeOK s p = true := by unfold takeOK; rw [hok, hdb]; rfl
  have HTK := hid hTK
  have hinh := (inOK_of hok).1
  have hex0 : 0 ≤ s.expect := hinh.2.2.1
  have hex1 : s.expect ≤ 1000000000000 := hinh.2.2.2.1
  have hps := dataB_of hdb
  have hseq0 := hps.2.2.1
  have hseq1 := hps.2.2.2
  clear hok hdb hinh hps hTK
  go_wp2_with fail
  refine (byNumber_any s.held a c V1 (HR.out.f.later HB1.out) hlen).mono ?_
  rintro e V2 ⟨m, rfl, hm1, hmp, b4⟩
  have L0 := hid (box_laterP2 K0.out b4)
  have L1 := hid (box_laterP2 K1.out b4)
  have L2 := hid (box_laterP2 K2.out b4)
  have HB12 := hid b4
  have HB2 := hid (below_chain HB1.out b4)
  have HMP := hid hmp
  have hsz2 := b4.size
  clear b4 hmp c00 c01 c02 c03 c10 c11 c12 c13 c14 c15 c20 zc20 c21 zc21 c22 zc22 c23 zc23 hsz
  have hsz : w.heap.size + 3 ≤ V2.heap.size := by omega
  have c00 := cell_of_row _ _ 0 _ _ _ L0.out
  have c01 := cell_of_row _ _ 1 _ _ _ L0.out
  have c02 := cell_of_row _ _ 2 _ _ _ L0.out
  have c03 := cell_of_row _ _ 3 _ _ _ L0.out
  simp only [List.getElem?_toArray, List.getElem?_cons_zero, List.getElem?_cons_succ] at c00 c01 c02 c03
  have c10 := cell_of_row _ _ 0 _ _ _ L1.out
  have c11 := cell_of_row _ _ 1 _ _ _ L1.out
  have c12 := cell_of_row _ _ 2 _ _ _ L1.out
  have c13 := cell_of_row _ _ 3 _ _ _ L1.out
  have c14 := cell_of_row _ _ 4 _ _ _ L1.out
  have c15 := cell_of_row _ _ 5 _ _ _ L1.out
  simp only [List.getElem?_toArray, List.getElem?_cons_zero, List.getElem?_cons_succ] at c10 c11 c12 c13 c14 c15
  have c20 := cell_of_row _ _ 0 _ _ _ L2.out
  have zc20 := frozen_of_row _ _ 0 _ _ L2.out
  have c21 := cell_of_row _ _ 1 _ _ _ L2.out
  have zc21 := frozen_of_row _ _ 1 _ _ L2.out
  have c22 := cell_of_row _ _ 2 _ _ _ L2.out
  have zc22 := frozen_of_row _ _ 2 _ _ L2.out
  have c23 := cell_of_row _ _ 3 _ _ _ L2.out
  have zc23 := frozen_of_row _ _ 3 _ _ L2.out
  simp only [List.getElem?_toArray, List.getElem?_cons_zero, List.getElem?_cons_succ] at c20 c21 c22 c23
  obtain ⟨D, hown, hisM, hDD, hNN⟩ := HMP.out.look
  have HOWN := hid hown
  have HISM := hid hisM
  have HDD := hid hDD
  have HNN := hid (hNN p.seq)
  clear hown hisM hDD hNN
  have HKEY := hid (keyI HPIN.out.seq)
  cases hf : findS s.held.reverse p.seq with
  | some px =>
    obtain ⟨hpx, hsq⟩ := findS_mem hf
    have HF := hid (take_old HTK.out (by
      obtain ⟨i, hi, e⟩ := List.getElem_of_mem (List.mem_reverse.1 hpx)
      exact oldB_at hi (by rw [e]; exact hsq)))
    obtain ⟨hhas, an, cn, hat, -, -⟩ := (HDD.out p.seq).2 px hf
    have HHAS := hid hhas
    have HAT := hid hat
    clear hf hpx hsq hhas hat
    have HBX := hid (below_new1 V2 (.cells #[.int .i64 px.kind, .int .i64 px.epoch, .int .i64 px.seq, .int .i64 px.count, .bool px.last, .slice an px.data.length cn] 37))
    go_upto_region 5 with (first | (at_lookup; refine wpList_lookup_held _ rfl _ _ 54 rfl 3 37 keyedI Try.underlying54 (zeroPk _) m s.held.length D rfl HOWN.out _ _ rfl HKEY.out _ _ HAT.out HHAS.out ?_))
    generalize (V2.alloc (.cells #[.int .i64 px.kind, .int .i64 px.epoch, .int .i64 px.seq, .int .i64 px.count, .bool px.last, .slice an px.data.length cn] 37)) = V3 at *
    have M0 := hid (box_laterP2 L0.out HBX.out)
    have M2 := hid (box_laterP2 L2.out HBX.out)
    have HB3 := hid (below_chain HB2.out HBX.out)
    have hszz := HBX.out.size
    clear c00 c01 c02 c03 c10 c11 c12 c13 c14 c15 c20 zc20 c21 zc21 c22 zc22 c23 zc23 hsz
    have hsz : w.heap.size + 3 ≤ V3.heap.size := by omega
    have c00 := cell_of_row _ _ 0 _ _ _ M0.out
    have c01 := cell_of_row _ _ 1 _ _ _ M0.out
    have c02 := cell_of_row _ _ 2 _ _ _ M0.out
    have c03 := cell_of_row _ _ 3 _ _ _ M0.out
    simp only [List.getElem?_toArray, List.getElem?_cons_zero, List.getElem?_cons_succ] at c00 c01 c02 c03
    go_wp2_with fail
    refine (copyIn_any s a b c d V3 (HR.out.later HB3.out) ht1.1 ht1.2).mono ?_
    rintro e w9 ⟨a9, c9, b9, d9, bs9, ds9, rfl, o9, l9, n9, bb9⟩
    have hsz9 : w.heap.size + 3 ≤ V3.heap.size := hsz
    have K29 := hid (box_laterP2 M2.out bb9)
    have r0 := cell_of_row _ _ 0 _ _ _ K29.out
    have zr0 := frozen_of_row _ _ 0 _ _ K29.out
    have r1 := cell_of_row _ _ 1 _ _ _ K29.out
    have zr1 := frozen_of_row _ _ 1 _ _ K29.out
    have r2 := cell_of_row _ _ 2 _ _ _ K29.out
    have zr2 := frozen_of_row _ _ 2 _ _ K29.out
    have r3 := cell_of_row _ _ 3 _ _ _ K29.out
    have zr3 := frozen_of_row _ _ 3 _ _ K29.out
    simp only [List.getElem?_toArray, List.getElem?_cons_zero, List.getElem?_cons_succ] at r0 r1 r2 r3

    have HO9 := hid o9
    have HL9 := hid l9
    have HN9 := hid n9
    have HB9 := hid (below_chain HB3.out bb9)
    clear o9 l9 n9 bb9
    try dsimp only
    repeat go_step
    change bodyPost Try.prog Try.f9 (IkPost w (takeI s p) (takeG s p) (takeC s p)) Exit.ret _ _
    refine bodyPost_ret (results_cell_row_tmp2 rfl _ _ (w.heap.size + 1 + 1) 32 #[.int .i64 s.epoch, .int .i64 s.expect, .slice a9 s.held.length c9, .slice b9 s.part.length d9] (0, 0) _ rfl (set4 K29.out) Try.underlying32 rfl (by kernel_rfl)) rfl ?_
    rw [HF.out.1, HF.out.2.1, HF.out.2.2]
    refine ⟨a9, c9, b9, d9, _, bs9, ds9, [], rfl, ⟨HO9.out.f.kept (fun x hx => set4o (by have := HL9.out x (List.mem_append_left _ hx); omega)), HO9.out.t.kept (fun x hx => set4o (by have := HL9.out x (List.mem_append_right _ hx); omega))⟩, .inl ⟨rfl, rfl, rfl⟩, by simpa using HN9.out, fun x hx => ?_, set4b HB9.out (by omega)⟩
    have := HL9.out x (by simpa using hx)
    omega
  | none =>
    have HHAS := hid ((HDD.out p.seq).1 hf)
    have HAT := hid (HNN.out hf)
    have HNE : Hid (∀ k, (hk : k < s.held.length) → s.held[k].seq ≠ p.seq) := hid (fun k hk => findS_none hf _ (List.mem_reverse.2 (List.getElem_mem _)))
    clear hf
    have HBX := hid (below_new1 V2 (.cells #[.int .i64 0, .int .i64 0, .int .i64 0, .int .i64 0, .bool false, .slice none 0 0] 37))
    go_upto_region 5 with (first | (at_lookup; refine wpList_lookup_held _ rfl _ _ 54 rfl 3 37 keyedI Try.underlying54 (zeroPk _) m s.held.length D rfl HOWN.out _ _ rfl HKEY.out _ _ HAT.out HHAS.out ?_))
    generalize (V2.alloc (.cells #[.int .i64 0, .int .i64 0, .int .i64 0, .int .i64 0, .bool false, .slice none 0 0] 37)) = V3 at *
    have M0 := hid (box_laterP2 L0.out HBX.out)
    have M1 := hid (box_laterP2 L1.out HBX.out)
    have M2 := hid (box_laterP2 L2.out HBX.out)
    have HB13 := hid (below_chain HB12.out HBX.out)
    have HB3 := hid (below_chain HB2.out HBX.out)
    have hszz := HBX.out.size
    clear c00 c01 c02 c03 c10 c11 c12 c13 c14 c15 c20 zc20 c21 zc21 c22 zc22 c23 zc23 hsz
    have hsz : w.heap.size + 3 ≤ V3.heap.size := by omega
    have c00 := cell_of_row _ _ 0 _ _ _ M0.out
    have c01 := cell_of_row _ _ 1 _ _ _ M0.out
    have c02 := cell_of_row _ _ 2 _ _ _ M0.out
    have c03 := cell_of_row _ _ 3 _ _ _ M0.out
    simp only [List.getElem?_toArray, List.getElem?_cons_zero, List.getElem?_cons_succ] at c00 c01 c02 c03
    have c10 := cell_of_row _ _ 0 _ _ _ M1.out
    have c11 := cell_of_row _ _ 1 _ _ _ M1.out
    have c12 := cell_of_row _ _ 2 _ _ _ M1.out
    have c13 := cell_of_row _ _ 3 _ _ _ M1.out
    have c14 := cell_of_row _ _ 4 _ _ _ M1.out
    have c15 := cell_of_row _ _ 5 _ _ _ M1.out
    simp only [List.getElem?_toArray, List.getElem?_cons_zero, List.getElem?_cons_succ] at c10 c11 c12 c13 c14 c15
    go_wp2_with fail
    refine (within_any p.seq s.expect (s.expect + 8 - 1) V3).mono ?_
    rintro e w2 ⟨rfl, hw2⟩
    subst w2
    by_cases hwi : s.expect ≤ p.seq ∧ p.seq ≤ s.expect + 8 - 1
    · rw [decide_eq_true hwi]
      have HOB : Hid (oldB s p = false) := hid (oldB_none (by omega) (by omega) HNE.out)
      clear hwi
      have HOW3 : Hid (V3.ownsMap Try.prog 3 anyElem m s.held.length D) := hid (by
        obtain ⟨es, clock, h1, r⟩ := HOWN.out
        exact ⟨es, clock, (HBX.out.block m (Array.getElem?_eq_some_iff.1 h1).1).trans h1, r⟩)
      go_upto_region 8 with (first | (at_mapUpdate; refine wpList_mapUpdate_own _ rfl _ _ _ 54 rfl 3 37 keyedI Try.underlying54 anyElem m s.held.length D rfl HOW3.out (by unfold maxLen; omega) _ _ _ rfl rfl HKEY.out _ [] rfl ?_; intro V4 hown4 hgrow4))
      have hml := HMP.out.lt
      have HM4 : Hid (PkMap V1 V4 m (s.held.length + 1) (p :: s.held.reverse)) := hid (PkMap.put HISM.out HDD.out hown4 (HRP.out.later HB1.out) HPIN.out)
      have HB14 : Hid (Below V1.heap.size V1 V4) := hid (HB13.out.grown hgrow4 HB13.out.size (fun j hj => by cases hj; exact hm1))
      have N0 := hid ((hgrow4.block w.heap.size (by omega) (by intro e; simp at e; omega)).trans M0.out)
      have N2 := hid ((hgrow4.block (w.heap.size + 1 + 1) (by omega) (by intro e; simp at e; omega)).trans M2.out)
      have hsz4 := hgrow4.size
      clear hown4 hgrow4 c00 c01 c02 c03 c10 c11 c12 c13 c14 c15
      have c00 := cell_of_row _ _ 0 _ _ _ N0.out
      have c01 := cell_of_row _ _ 1 _ _ _ N0.out
      have c02 := cell_of_row _ _ 2 _ _ _ N0.out
      have c03 := cell_of_row _ _ 3 _ _ _ N0.out
      simp only [List.getElem?_toArray, List.getElem?_cons_zero, List.getElem?_cons_succ] at c00 c01 c02 c03
      go_wp2_with fail
      refine (takeOut_any s p a b c d m (s.held.length + 1) (p :: s.held.reverse) V1 V4 (HR.out.later HB1.out) HM4.out HB14.out hm1 HTK.out HOB.out (find_all HTK.out HOB.out) (fun y hy => by rw [takeAll_ins, ins_mem]; simpa using hy) hlen).mono ?_
      rintro e V5 ⟨b5, hpost⟩
      have HB15 := hid b5
      have hsz5 := b5.size
      have O0 := hid ((b5.block w.heap.size (by omega)).trans K0.out)
      have O2 := hid ((b5.block (w.heap.size + 1 + 1) (by omega)).trans K2.out)
      have HB5 := hid (HB1.out.trans (b5.mono HB1.out.size))
      clear b5 c00 c01 c02 c03
      rcases hpost with ⟨hno, rfl⟩ | ⟨d0, hyes, a5, c5, b5, d5, v5, bs5, ds5, us5, rfl, ho5, hm5, hn5, hl5⟩
      · have HF := hid (take_bad HTK.out HOB.out hno)
        clear hno hsz
        have HBX5 := hid (below_new1 V5 (.cells #[.int .i64 0, .int .i64 0, .slice none 0 0, .slice none 0 0] 32))
        go_upto_region 10 with fail
        generalize (V5.alloc (.cells #[.int .i64 0, .int .i64 0, .slice none 0 0, .slice none 0 0] 32)) = V6 at *
        have P0 := hid (box_laterP2 O0.out HBX5.out)
        have P2 := hid (box_laterP2 O2.out HBX5.out)
        have HB6 := hid (below_chain HB5.out HBX5.out)
        have hsz6 := HBX5.out.size
        have hsz : w.heap.size + 3 ≤ V6.heap.size := by omega
        have c00 := cell_of_row _ _ 0 _ _ _ P0.out
        have c01 := cell_of_row _ _ 1 _ _ _ P0.out
        have c02 := cell_of_row _ _ 2 _ _ _ P0.out
        have c03 := cell_of_row _ _ 3 _ _ _ P0.out
        simp only [List.getElem?_toArray, List.getElem?_cons_zero, List.getElem?_cons_succ] at c00 c01 c02 c03
        go_wp2_with fail
        refine (copyIn_any s a b c d V6 (HR.out.later HB6.out) ht1.1 ht1.2).mono ?_
        rintro e w9 ⟨a9, c9, b9, d9, bs9, ds9, rfl, o9, l9, n9, bb9⟩
        have hsz9 : w.heap.size + 3 ≤ V6.heap.size := hsz
        have K29 := hid (box_laterP2 P2.out bb9)
        have r0 := cell_of_row _ _ 0 _ _ _ K29.out
        have zr0 := frozen_of_row _ _ 0 _ _ K29.out
        have r1 := cell_of_row _ _ 1 _ _ _ K29.out
        have zr1 := frozen_of_row _ _ 1 _ _ K29.out
        have r2 := cell_of_row _ _ 2 _ _ _ K29.out
        have zr2 := frozen_of_row _ _ 2 _ _ K29.out
        have r3 := cell_of_row _ _ 3 _ _ _ K29.out
        have zr3 := frozen_of_row _ _ 3 _ _ K29.out
        simp only [List.getElem?_toArray, List.getElem?_cons_zero, List.getElem?_cons_succ] at r0 r1 r2 r3

        have HO9 := hid o9
        have HL9 := hid l9
        have HN9 := hid n9
        have HB9 := hid (below_chain HB6.out bb9)
        clear o9 l9 n9 bb9
        try dsimp only
        repeat go_step
        change bodyPost Try.prog Try.f9 (IkPost w (takeI s p) (takeG s p) (takeC s p)) Exit.ret _ _
        refine bodyPost_ret (results_cell_row_tmp2 rfl _ _ (w.heap.size + 1 + 1) 32 #[.int .i64 s.epoch, .int .i64 s.expect, .slice a9 s.held.length c9, .slice b9 s.part.length d9] (0, 0) _ rfl (set4 K29.out) Try.underlying32 rfl (by kernel_rfl)) rfl ?_
        rw [HF.out.1, HF.out.2.1, HF.out.2.2]
        refine ⟨a9, c9, b9, d9, _, bs9, ds9, [], rfl, ⟨HO9.out.f.kept (fun x hx => set4o (by have := HL9.out x (List.mem_append_left _ hx); omega)), HO9.out.t.kept (fun x hx => set4o (by have := HL9.out x (List.mem_append_right _ hx); omega))⟩, .inl ⟨rfl, rfl, rfl⟩, by simpa using HN9.out, fun x hx => ?_, set4b HB9.out (by omega)⟩
        have := HL9.out x (by simpa using hx)
        omega
      · have HY := hid (take_yes HTK.out HOB.out hyes)
        have HO5 := hid ho5
        have HM5 := hid hm5
        have HN5 := hid hn5
        have HL5 := hid hl5
        clear hyes ho5 hm5 hn5 hl5
        generalize hnh : ((takeAll s p).drop d0).length = nh at *
        have HNH := hid hnh
        clear hnh
        generalize hnp : (ptK s (takeAll s p) d0).1.length = np at *
        have HNP := hid hnp
        clear hnp
        have HKB : Hid ((V5.alloc (.cells #[.int .i64 s.epoch, .int .i64 (s.expect + (d0 : Int)), .slice a5 nh c5, .slice b5 np d5] 32)).heap[V5.heap.size]? = some (.cells #[.int .i64 s.epoch, .int .i64 (s.expect + (d0 : Int)), .slice a5 nh c5, .slice b5 np d5] 32 (0, 0))) := hid (heap_alloc_new V5 _)
        have HBX5 := hid (below_new1 V5 (.cells #[.int .i64 s.epoch, .int .i64 (s.expect + (d0 : Int)), .slice a5 nh c5, .slice b5 np d5] 32))
        go_upto_region 11 with fail
        generalize (V5.alloc (.cells #[.int .i64 s.epoch, .int .i64 (s.expect + (d0 : Int)), .slice a5 nh c5, .slice b5 np d5] 32)) = V6 at *
        have P2 := hid (box_laterP2 O2.out HBX5.out)
        have HB6 := hid (below_chain HB5.out HBX5.out)
        have hv56 := HBX5.out.size
        have y0 := cell_of_row _ _ 0 _ _ _ HKB.out
        have y1 := cell_of_row _ _ 1 _ _ _ HKB.out
        have y2 := cell_of_row _ _ 2 _ _ _ HKB.out
        have y3 := cell_of_row _ _ 3 _ _ _ HKB.out
        simp only [List.getElem?_toArray, List.getElem?_cons_zero, List.getElem?_cons_succ] at y0 y1 y2 y3
        have r0 := cell_of_row _ _ 0 _ _ _ P2.out
        have zr0 := frozen_of_row _ _ 0 _ _ P2.out
        have r1 := cell_of_row _ _ 1 _ _ _ P2.out
        have zr1 := frozen_of_row _ _ 1 _ _ P2.out
        have r2 := cell_of_row _ _ 2 _ _ _ P2.out
        have zr2 := frozen_of_row _ _ 2 _ _ P2.out
        have r3 := cell_of_row _ _ 3 _ _ _ P2.out
        have zr3 := frozen_of_row _ _ 3 _ _ P2.out
        simp only [List.getElem?_toArray, List.getElem?_cons_zero, List.getElem?_cons_succ] at r0 r1 r2 r3

        try dsimp only
        repeat go_step
        change bodyPost Try.prog Try.f9 (IkPost w (takeI s p) (takeG s p) (takeC s p)) Exit.ret _ _
        refine bodyPost_ret (results_cell_row_tmp2 rfl _ _ (w.heap.size + 1 + 1) 32 #[.int .i64 s.epoch, .int .i64 (s.expect + (d0 : Int)), .slice a5 nh c5, .slice b5 np d5] (0, 0) _ rfl (set4 P2.out) Try.underlying32 rfl (by kernel_rfl)) rfl ?_
        rw [HY.out.1, HY.out.2.1, HY.out.2.2]
        have h1 := HNH.out
        have h2 := HNP.out
        subst h1
        subst h2
        have hk : ∀ x ∈ bs5 ++ (ds5 ++ us5), x < V5.heap.size → ((((V6.setCell ⟨w.heap.size + 1 + 1, 0, none⟩ (.int .i64 s.epoch)).setCell ⟨w.heap.size + 1 + 1, 1, none⟩ (.int .i64 (s.expect + (d0 : Int)))).setCell ⟨w.heap.size + 1 + 1, 2, none⟩ (.slice a5 ((takeAll s p).drop d0).length c5)).setCell ⟨w.heap.size + 1 + 1, 3, none⟩ (.slice b5 (ptK s (takeAll s p) d0).1.length d5)).heap[x]? = V5.heap[x]? := fun x hx hl => (set4o (by have := HL5.out x hx; omega)).trans (HBX5.out.block x hl)
        refine ⟨a5, c5, b5, d5, _, bs5, ds5, us5, rfl, ⟨HO5.out.f.kept (fun x hx => hk x (List.mem_append_left _ hx) (HO5.out.f.lt x hx)), HO5.out.t.kept (fun x hx => hk x (List.mem_append_right _ (List.mem_append_left _ hx)) (HO5.out.t.lt x hx))⟩, HM5.out.kept (fun x hx => hk x (List.mem_append_right _ (List.mem_append_right _ hx)) (HM5.out.lt x hx)), HN5.out, fun x hx => by have := HL5.out x hx; omega, set4b HB6.out (by omega)⟩
    · rw [decide_eq_false hwi]
      have HF := hid (take_old HTK.out (by
        by_cases h : p.seq < s.expect
        · exact oldB_low h
        · exact oldB_high (by omega)))
      clear hwi
      go_wp2_with fail
      refine (copyIn_any s a b c d V3 (HR.out.later HB3.out) ht1.1 ht1.2).mono ?_
      rintro e w9 ⟨a9, c9, b9, d9, bs9, ds9, rfl, o9, l9, n9, bb9⟩
      have hsz9 : w.heap.size + 3 ≤ V3.heap.size := hsz
      have K29 := hid (box_laterP2 M2.out bb9)
      have r0 := cell_of_row _ _ 0 _ _ _ K29.out
      have zr0 := frozen_of_row _ _ 0 _ _ K29.out
      have r1 := cell_of_row _ _ 1 _ _ _ K29.out
      have zr1 := frozen_of_row _ _ 1 _ _ K29.out
      have r2 := cell_of_row _ _ 2 _ _ _ K29.out
      have zr2 := frozen_of_row _ _ 2 _ _ K29.out
      have r3 := cell_of_row _ _ 3 _ _ _ K29.out
      have zr3 := frozen_of_row _ _ 3 _ _ K29.out
      simp only [List.getElem?_toArray, List.getElem?_cons_zero, List.getElem?_cons_succ] at r0 r1 r2 r3

      have HO9 := hid o9
      have HL9 := hid l9
      have HN9 := hid n9
      have HB9 := hid (below_chain HB3.out bb9)
      clear o9 l9 n9 bb9
      try dsimp only
      repeat go_step
      change bodyPost Try.prog Try.f9 (IkPost w (takeI s p) (takeG s p) (takeC s p)) Exit.ret _ _
      refine bodyPost_ret (results_cell_row_tmp2 rfl _ _ (w.heap.size + 1 + 1) 32 #[.int .i64 s.epoch, .int .i64 s.expect, .slice a9 s.held.length c9, .slice b9 s.part.length d9] (0, 0) _ rfl (set4 K29.out) Try.underlying32 rfl (by kernel_rfl)) rfl ?_
      rw [HF.out.1, HF.out.2.1, HF.out.2.2]
      refine ⟨a9, c9, b9, d9, _, bs9, ds9, [], rfl, ⟨HO9.out.f.kept (fun x hx => set4o (by have := HL9.out x (List.mem_append_left _ hx); omega)), HO9.out.t.kept (fun x hx => set4o (by have := HL9.out x (List.mem_append_right _ hx); omega))⟩, .inl ⟨rfl, rfl, rfl⟩, by simpa using HN9.out, fun x hx => ?_, set4b HB9.out (by omega)⟩
      have := HL9.out x (by simpa using hx)
      omega
end Go.Proofs.Ytfaehioeepolhaa
