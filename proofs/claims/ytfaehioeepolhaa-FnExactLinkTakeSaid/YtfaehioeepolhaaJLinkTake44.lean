import Derived.BigQuiet
import Derived.Deep.DeepCutAuto
import Derived.Test.YtfaehioeepolhaaJLinkTake31
import Derived.Test.YtfaehioeepolhaaJLinkTake34
import Derived.Test.YtfaehioeepolhaaJLinkTake41
import Derived.Test.YtfaehioeepolhaaJLinkTake43
namespace Go.Proofs.Ytfaehioeepolhaa
open Go.RowKit
set_option maxRecDepth 100000 in
set_option maxHeartbeats 16000000 in
theorem specTake_any (s : PI) (a b : Option Addr) (c d : Nat) (p : PP) (ap : Option Addr) (cp : Nat) (w : World) (hr : RdIn w s a c b d) (hrp : RdSl cByte w p.data (.slice ap p.data.length cp)) (hpin : PPIn p) (ht : tIn s ≤ 1048576) (hpl : p.data.length ≤ 1048576) :
    Calls Try.prog 6 #[.agg #[.int .i64 s.epoch, .int .i64 s.expect, .slice a s.held.length c, .slice b s.part.length d], .agg #[.int .i64 p.kind, .int .i64 p.epoch, .int .i64 p.seq, .int .i64 p.count, .bool p.last, .slice ap p.data.length cp]] w (SkPost2 w (takeI s p) (takeG s p) (takeC s p)) := by
  obtain ⟨i0, hi0, hz0, hz1, hz2⟩ := info_parts infoImPacket
  have HR := hid hr
  have HRP := hid hrp
  have HPIN := hid hpin
  have hpm := rdBytes_max hrp
  have ht1 : totL pN s.held ≤ 1048576 ∧ s.part.length ≤ 1048576 := by unfold tIn at ht; omega
  have hlen : s.held.length ≤ 1048576 := by have := ht1.1; unfold totL at this; omega
  clear hr hrp hpin
  have HK0 : Hid ((((w.alloc (.cells #[.int .i64 s.epoch, .int .i64 s.expect, .slice a s.held.length c, .slice b s.part.length d] 32)).alloc (.cells #[.int .i64 p.kind, .int .i64 p.epoch, .int .i64 p.seq, .int .i64 p.count, .bool p.last, .slice ap p.data.length cp] 37)).alloc (.cells #[.int .i64 0, .int .i64 0, .slice none 0 0, .slice none 0 0] 32)).heap[w.heap.size]? = some (.cells #[.int .i64 s.epoch, .int .i64 s.expect, .slice a s.held.length c, .slice b s.part.length d] 32 (0, 0))) := hid (heap3 _ _ _ (Below.refl _ _)).1
  have HK1 : Hid ((((w.alloc (.cells #[.int .i64 s.epoch, .int .i64 s.expect, .slice a s.held.length c, .slice b s.part.length d] 32)).alloc (.cells #[.int .i64 p.kind, .int .i64 p.epoch, .int .i64 p.seq, .int .i64 p.count, .bool p.last, .slice ap p.data.length cp] 37)).alloc (.cells #[.int .i64 0, .int .i64 0, .slice none 0 0, .slice none 0 0] 32)).heap[w.heap.size + 1]? = some (.cells #[.int .i64 p.kind, .int .i64 p.epoch, .int .i64 p.seq, .int .i64 p.count, .bool p.last, .slice ap p.data.length cp] 37 (0, 0))) := hid (heap3 _ _ _ (Below.refl _ _)).2.1
  have HK2 : Hid ((((w.alloc (.cells #[.int .i64 s.epoch, .int .i64 s.expect, .slice a s.held.length c, .slice b s.part.length d] 32)).alloc (.cells #[.int .i64 p.kind, .int .i64 p.epoch, .int .i64 p.seq, .int .i64 p.count, .bool p.last, .slice ap p.data.length cp] 37)).alloc (.cells #[.int .i64 0, .int .i64 0, .slice none 0 0, .slice none 0 0] 32)).heap[w.heap.size + 1 + 1]? = some (.cells #[.int .i64 0, .int .i64 0, .slice none 0 0, .slice none 0 0] 32 (0, 0))) := hid (heap3 _ _ _ (Below.refl _ _)).2.2
  have HB0 := hid (below_new3 w (.cells #[.int .i64 s.epoch, .int .i64 s.expect, .slice a s.held.length c, .slice b s.part.length d] 32) (.cells #[.int .i64 p.kind, .int .i64 p.epoch, .int .i64 p.seq, .int .i64 p.count, .bool p.last, .slice ap p.data.length cp] 37) (.cells #[.int .i64 0, .int .i64 0, .slice none 0 0, .slice none 0 0] 32))
  have HSZ := hid (size3 w (.cells #[.int .i64 s.epoch, .int .i64 s.expect, .slice a s.held.length c, .slice b s.part.length d] 32) (.cells #[.int .i64 p.kind, .int .i64 p.epoch, .int .i64 p.seq, .int .i64 p.count, .bool p.last, .slice ap p.data.length cp] 37) (.cells #[.int .i64 0, .int .i64 0, .slice none 0 0, .slice none 0 0] 32))
  go_enter Try.func6, Try.ntmps6
  go_wp2_with fail
  generalize (((w.alloc (.cells #[.int .i64 s.epoch, .int .i64 s.expect, .slice a s.held.length c, .slice b s.part.length d] 32)).alloc (.cells #[.int .i64 p.kind, .int .i64 p.epoch, .int .i64 p.seq, .int .i64 p.count, .bool p.last, .slice ap p.data.length cp] 37)).alloc (.cells #[.int .i64 0, .int .i64 0, .slice none 0 0, .slice none 0 0] 32)) = V0 at *
  have HR0 := hid (HR.out.later HB0.out)
  refine (specVI_any s a b c d V0 HR0.out).mono ?_
  rintro e Va ⟨rfl, b2⟩
  have J0 := hid (box_laterP2 HK0.out b2)
  have J1 := hid (box_laterP2 HK1.out b2)
  have J2 := hid (box_laterP2 HK2.out b2)
  have HBa := hid (below_chain HB0.out b2)
  have hsza : w.heap.size + 3 ≤ Va.heap.size := by have := b2.size; have := HSZ.out; omega
  clear b2 HK0 HK1 HK2 HB0 HSZ HR0
  have c00 := cell_of_row _ _ 0 _ _ _ J0.out
  have c01 := cell_of_row _ _ 1 _ _ _ J0.out
  have c02 := cell_of_row _ _ 2 _ _ _ J0.out
  have c03 := cell_of_row _ _ 3 _ _ _ J0.out
  simp only [List.getElem?_toArray, List.getElem?_cons_zero, List.getElem?_cons_succ] at c00 c01 c02 c03
  have c10 := cell_of_row _ _ 0 _ _ _ J1.out
  have c11 := cell_of_row _ _ 1 _ _ _ J1.out
  have c12 := cell_of_row _ _ 2 _ _ _ J1.out
  have c13 := cell_of_row _ _ 3 _ _ _ J1.out
  have c14 := cell_of_row _ _ 4 _ _ _ J1.out
  have c15 := cell_of_row _ _ 5 _ _ _ J1.out
  simp only [List.getElem?_toArray, List.getElem?_cons_zero, List.getElem?_cons_succ] at c10 c11 c12 c13 c14 c15
  have c20 := cell_of_row _ _ 0 _ _ _ J2.out
  have zc20 := frozen_of_row _ _ 0 _ _ J2.out
  have c21 := cell_of_row _ _ 1 _ _ _ J2.out
  have zc21 := frozen_of_row _ _ 1 _ _ J2.out
  have c22 := cell_of_row _ _ 2 _ _ _ J2.out
  have zc22 := frozen_of_row _ _ 2 _ _ J2.out
  have c23 := cell_of_row _ _ 3 _ _ _ J2.out
  have zc23 := frozen_of_row _ _ 3 _ _ J2.out
  simp only [List.getElem?_toArray, List.getElem?_cons_zero, List.getElem?_cons_succ] at c20 c21 c22 c23
  cases hok : inOK s with
  | false =>
    have HD := hid (take_no (s := s) (p := p) (by unfold takeOK; rw [hok]; rfl))
    clear hok
    try dsimp only
    repeat go_step
    change bodyPost Try.prog Try.f6 (SkPost2 w (takeI s p) (takeG s p) (takeC s p)) Exit.ret _ _
    refine bodyPost_ret (results_cell_row_tmp2 rfl _ _ (w.heap.size + 1 + 1) 32 #[.int .i64 0, .int .i64 0, .slice none 0 0, .slice none 0 0] (0, 0) _ rfl (set4 J2.out) Try.underlying32 rfl (by kernel_rfl)) rfl ?_
    rw [HD.out.1, HD.out.2.1, HD.out.2.2]
    exact ⟨none, 0, none, 0, _, rfl, fun W _ => ⟨⟨RdSl.empty none, RdSl.empty none⟩, RdSl.empty none⟩, set4b HBa.out (by omega)⟩
  | true =>
  go_wp2_with fail
  refine (l5data_any p ap cp s.epoch Va hpm).mono ?_
  rintro e V1 ⟨rfl, b3⟩
  have K0 := hid (box_laterP2 J0.out b3)
  have K1 := hid (box_laterP2 J1.out b3)
  have K2 := hid (box_laterP2 J2.out b3)
  have HB1 := hid (below_chain HBa.out b3)
  have hsz1 : w.heap.size + 3 ≤ V1.heap.size := by have := b3.size; omega
  clear b3 HBa J0 J1 J2 hsza c00 c01 c02 c03 c10 c11 c12 c13 c14 c15 c20 zc20 c21 zc21 c22 zc22 c23 zc23
  have c00 := cell_of_row _ _ 0 _ _ _ K0.out
  have c01 := cell_of_row _ _ 1 _ _ _ K0.out
  have c02 := cell_of_row _ _ 2 _ _ _ K0.out
  have c03 := cell_of_row _ _ 3 _ _ _ K0.out
  simp only [List.getElem?_toArray, List.getElem?_cons_zero, List.getElem?_cons_succ] at c00 c01 c02 c03
  have c10 := cell_of_row _ _ 0 _ _ _ K1.out
  have c11 := cell_of_row _ _ 1 _ _ _ K1.out
  have c12 := cell_of_row _ _ 2 _ _ _ K1.out
  have c13 := cell_of_row _ _ 3 _ _ _ K1.out
  have c14 := cell_of_row _ _ 4 _ _ _ K1.out
  have c15 := cell_of_row _ _ 5 _ _ _ K1.out
  simp only [List.getElem?_toArray, List.getElem?_cons_zero, List.getElem?_cons_succ] at c10 c11 c12 c13 c14 c15
  have c20 := cell_of_row _ _ 0 _ _ _ K2.out
  have zc20 := frozen_of_row _ _ 0 _ _ K2.out
  have c21 := cell_of_row _ _ 1 _ _ _ K2.out
  have zc21 := frozen_of_row _ _ 1 _ _ K2.out
  have c22 := cell_of_row _ _ 2 _ _ _ K2.out
  have zc22 := frozen_of_row _ _ 2 _ _ K2.out
  have c23 := cell_of_row _ _ 3 _ _ _ K2.out
  have zc23 := frozen_of_row _ _ 3 _ _ K2.out
  simp only [List.getElem?_toArray, List.getElem?_cons_zero, List.getElem?_cons_succ] at c20 c21 c22 c23
  cases hdb : dataB p s.epoch with
  | false =>
    have HD := hid (take_no (s := s) (p := p) (by unfold takeOK; rw [hdb]; simp))
    clear hok hdb
    try dsimp only
    repeat go_step
    change bodyPost Try.prog Try.f6 (SkPost2 w (takeI s p) (takeG s p) (takeC s p)) Exit.ret _ _
    refine bodyPost_ret (results_cell_row_tmp2 rfl _ _ (w.heap.size + 1 + 1) 32 #[.int .i64 0, .int .i64 0, .slice none 0 0, .slice none 0 0] (0, 0) _ rfl (set4 K2.out) Try.underlying32 rfl (by kernel_rfl)) rfl ?_
    rw [HD.out.1, HD.out.2.1, HD.out.2.2]
    exact ⟨none, 0, none, 0, _, rfl, fun W _ => ⟨⟨RdSl.empty none, RdSl.empty none⟩, RdSl.empty none⟩, set4b HB1.out (by omega)⟩
  | true =>
  have hTK : takeOK s p = true := by unfold takeOK; rw [hok, hdb]; rfl
  have HTK := hid hTK
  have hinh := (inOK_of hok).1
  have hex0 : 0 ≤ s.expect := hinh.2.2.1
  have hex1 : s.expect ≤ 1000000000000 := hinh.2.2.2.1
  have hpt : s.part.length ≤ 20000 := hinh.2.2.2.2
  have hps := dataB_of hdb
  have hseq0 := hps.2.2.1
  have hseq1 := hps.2.2.2
  have HDA := hid (takeAll_data hTK)
  clear hok hdb hinh hps hTK
  by_cases h1 : p.seq < s.expect
  · have HF := hid (take_old HTK.out (oldB_low h1))
    have h1t : decide (p.seq < s.expect) = true := decide_eq_true h1
    clear h1
    go_wp2_with fail
    refine (l5in_any s a b c d V1 (HR.out.later HB1.out) ht1.1 ht1.2).mono ?_
    rintro e w9 ⟨a9, c9, b9, d9, bs9, ds9, rfl, o9, l9, n9, bb9⟩
    have hsz9 : w.heap.size + 3 ≤ (V1).heap.size := hsz1
    have K29 := hid (box_laterP2 K2.out bb9)
    have r0 := cell_of_row _ _ 0 _ _ _ K29.out
    have zr0 := frozen_of_row _ _ 0 _ _ K29.out
    have r1 := cell_of_row _ _ 1 _ _ _ K29.out
    have zr1 := frozen_of_row _ _ 1 _ _ K29.out
    have r2 := cell_of_row _ _ 2 _ _ _ K29.out
    have zr2 := frozen_of_row _ _ 2 _ _ K29.out
    have r3 := cell_of_row _ _ 3 _ _ _ K29.out
    have zr3 := frozen_of_row _ _ 3 _ _ K29.out
    simp only [List.getElem?_toArray, List.getElem?_cons_zero, List.getElem?_cons_succ] at r0 r1 r2 r3

    have HO9 := hid o9
    have HL9 := hid l9
    have HB9 := hid (below_chain HB1.out bb9)
    clear o9 l9 n9 bb9
    try dsimp only
    repeat go_step
    change bodyPost Try.prog Try.f6 (SkPost2 w (takeI s p) (takeG s p) (takeC s p)) Exit.ret _ _
    refine bodyPost_ret (results_cell_row_tmp2 rfl _ _ (w.heap.size + 1 + 1) 32 #[.int .i64 s.epoch, .int .i64 s.expect, .slice a9 s.held.length c9, .slice b9 s.part.length d9] (0, 0) _ rfl (set4 K29.out) Try.underlying32 rfl (by kernel_rfl)) rfl ?_
    rw [HF.out.1, HF.out.2.1, HF.out.2.2]
    exact ⟨a9, c9, b9, d9, _, rfl, fun W hW => ⟨⟨(HO9.out.f.kept (fun x hx => (hW x (by have := HL9.out x (List.mem_append_left _ hx); omega) (by rw [set4_size]; exact HO9.out.f.lt x hx)).trans (set4o (by have := HL9.out x (List.mem_append_left _ hx); omega)))).rd, (HO9.out.t.kept (fun x hx => (hW x (by have := HL9.out x (List.mem_append_right _ hx); omega) (by rw [set4_size]; exact HO9.out.t.lt x hx)).trans (set4o (by have := HL9.out x (List.mem_append_right _ hx); omega)))).rd⟩, RdSl.empty none⟩, set4b HB9.out (by omega)⟩
  have h1t : decide (p.seq < s.expect) = false := decide_eq_false h1
  have HN1 := hid h1
  clear h1
  by_cases h2 : s.expect + 8 ≤ p.seq
  · have HF := hid (take_old HTK.out (oldB_high h2))
    have h2t : decide (s.expect + 8 ≤ p.seq) = true := decide_eq_true h2
    clear h2
    go_wp2_with fail
    refine (l5in_any s a b c d V1 (HR.out.later HB1.out) ht1.1 ht1.2).mono ?_
    rintro e w9 ⟨a9, c9, b9, d9, bs9, ds9, rfl, o9, l9, n9, bb9⟩
    have hsz9 : w.heap.size + 3 ≤ (V1).heap.size := hsz1
    have K29 := hid (box_laterP2 K2.out bb9)
    have r0 := cell_of_row _ _ 0 _ _ _ K29.out
    have zr0 := frozen_of_row _ _ 0 _ _ K29.out
    have r1 := cell_of_row _ _ 1 _ _ _ K29.out
    have zr1 := frozen_of_row _ _ 1 _ _ K29.out
    have r2 := cell_of_row _ _ 2 _ _ _ K29.out
    have zr2 := frozen_of_row _ _ 2 _ _ K29.out
    have r3 := cell_of_row _ _ 3 _ _ _ K29.out
    have zr3 := frozen_of_row _ _ 3 _ _ K29.out
    simp only [List.getElem?_toArray, List.getElem?_cons_zero, List.getElem?_cons_succ] at r0 r1 r2 r3

    have HO9 := hid o9
    have HL9 := hid l9
    have HB9 := hid (below_chain HB1.out bb9)
    clear o9 l9 n9 bb9
    try dsimp only
    repeat go_step
    change bodyPost Try.prog Try.f6 (SkPost2 w (takeI s p) (takeG s p) (takeC s p)) Exit.ret _ _
    refine bodyPost_ret (results_cell_row_tmp2 rfl _ _ (w.heap.size + 1 + 1) 32 #[.int .i64 s.epoch, .int .i64 s.expect, .slice a9 s.held.length c9, .slice b9 s.part.length d9] (0, 0) _ rfl (set4 K29.out) Try.underlying32 rfl (by kernel_rfl)) rfl ?_
    rw [HF.out.1, HF.out.2.1, HF.out.2.2]
    exact ⟨a9, c9, b9, d9, _, rfl, fun W hW => ⟨⟨(HO9.out.f.kept (fun x hx => (hW x (by have := HL9.out x (List.mem_append_left _ hx); omega) (by rw [set4_size]; exact HO9.out.f.lt x hx)).trans (set4o (by have := HL9.out x (List.mem_append_left _ hx); omega)))).rd, (HO9.out.t.kept (fun x hx => (hW x (by have := HL9.out x (List.mem_append_right _ hx); omega) (by rw [set4_size]; exact HO9.out.t.lt x hx)).trans (set4o (by have := HL9.out x (List.mem_append_right _ hx); omega)))).rd⟩, RdSl.empty none⟩, set4b HB9.out (by omega)⟩
  have h2t : decide (s.expect + 8 ≤ p.seq) = false := decide_eq_false h2
  have HN2 := hid h2
  clear h2
  have HS0 : Hid (AllSt V1 [] (.slice (some ⟨V1.heap.size, 0, none⟩) 0 0) (V1.alloc (.cells #[] 37))) := hid ⟨⟨[V1.heap.size], .inr ⟨V1.heap.size, 0, [], [], rfl, World.ownsRow_lit V1 #[] 0 (Nat.zero_le _) (by decide) rfl, rfl, rfl, fun i h => absurd h (by simp)⟩, by simp, by simp⟩, below_new1 _ _⟩
  go_upto_region 8 with fail
  generalize (V1.alloc (.cells #[] 37)) = V2 at *
  clear c00 c01 c02 c03 c10 c11 c12 c13 c14 c15 c20 zc20 c21 zc21 c22 zc22 c23 zc23 h1t h2t
  go_wp2
  go_loopw [7, 8, 9] (fun v q i wr => ∃ k : Nat, k ≤ s.held.length ∧ i = .int .i64 k ∧ q = .bool (insK p s.held k).2 ∧ (∀ j, (hj : j < s.held.length) → j < k → s.held[j].seq ≠ p.seq) ∧ AllSt V1 (insK p s.held k).1 v wr) (fun _ _ i _ => s.held.length - (intOf i).toNat)
  case atStart => exact ⟨0, Nat.zero_le _, rfl, rfl, fun j hj h => absurd h (by omega), HS0.out⟩
  case round =>
    obtain ⟨k, hk, rfl, rfl, hne, hst⟩ := hrel
    have HST := hid hst
    have HNE := hid hne
    have HBE := hid hst.2
    have hvr := hst.2.size
    have HIL := hid (insK_len p s.held k hk)
    clear hst hne
    have k0 := hid ((HBE.out.block _ (show w.heap.size < V1.heap.size by omega)).trans K0.out)
    have k1 := hid ((HBE.out.block _ (show w.heap.size + 1 < V1.heap.size by omega)).trans K1.out)
    have k2 := hid ((HBE.out.block _ (show w.heap.size + 1 + 1 < V1.heap.size by omega)).trans K2.out)
    have c00 := cell_of_row _ _ 0 _ _ _ k0.out
    have c01 := cell_of_row _ _ 1 _ _ _ k0.out
    have c02 := cell_of_row _ _ 2 _ _ _ k0.out
    have c03 := cell_of_row _ _ 3 _ _ _ k0.out
    simp only [List.getElem?_toArray, List.getElem?_cons_zero, List.getElem?_cons_succ] at c00 c01 c02 c03
    have c10 := cell_of_row _ _ 0 _ _ _ k1.out
    have c11 := cell_of_row _ _ 1 _ _ _ k1.out
    have c12 := cell_of_row _ _ 2 _ _ _ k1.out
    have c13 := cell_of_row _ _ 3 _ _ _ k1.out
    have c14 := cell_of_row _ _ 4 _ _ _ k1.out
    have c15 := cell_of_row _ _ 5 _ _ _ k1.out
    simp only [List.getElem?_toArray, List.getElem?_cons_zero, List.getElem?_cons_succ] at c10 c11 c12 c13 c14 c15
    have HBW := hid (below_chain HB1.out HBE.out)
    by_cases hlt : k < s.held.length
    · obtain ⟨bb, off, es, rfl, hes, hcs⟩ := (HR.out.f.later HB1.out).atN hlt
      obtain ⟨an, cn, rfl, hnm, hhin⟩ := cPkt_rd hes
      have qv0 : V1.cell? ⟨bb, off + k * 6, none⟩ = some (.int .i64 s.held[k].kind) := by have h := hcs 0 (by decide); rw [show cPkt.n = 6 from rfl] at h; simpa [Nat.add_assoc] using h
      have qv1 : V1.cell? ⟨bb, off + k * 6 + 1, none⟩ = some (.int .i64 s.held[k].epoch) := by have h := hcs 1 (by decide); rw [show cPkt.n = 6 from rfl] at h; simpa [Nat.add_assoc] using h
      have qv2 : V1.cell? ⟨bb, off + k * 6 + 2, none⟩ = some (.int .i64 s.held[k].seq) := by have h := hcs 2 (by decide); rw [show cPkt.n = 6 from rfl] at h; simpa [Nat.add_assoc] using h
      have qv3 : V1.cell? ⟨bb, off + k * 6 + 3, none⟩ = some (.int .i64 s.held[k].count) := by have h := hcs 3 (by decide); rw [show cPkt.n = 6 from rfl] at h; simpa [Nat.add_assoc] using h
      have qv4 : V1.cell? ⟨bb, off + k * 6 + 4, none⟩ = some (.bool s.held[k].last) := by have h := hcs 4 (by decide); rw [show cPkt.n = 6 from rfl] at h; simpa [Nat.add_assoc] using h
      have qv5 : V1.cell? ⟨bb, off + k * 6 + 5, none⟩ = some (.slice an s.held[k].data.length cn) := by have h := hcs 5 (by decide); rw [show cPkt.n = 6 from rfl] at h; simpa [Nat.add_assoc] using h
      have q0 := ((HBE.out).cell (World.block_lt_of_cell? _ _ qv0)).trans qv0
      have q1 := ((HBE.out).cell (World.block_lt_of_cell? _ _ qv1)).trans qv1
      have q2 := ((HBE.out).cell (World.block_lt_of_cell? _ _ qv2)).trans qv2
      have q3 := ((HBE.out).cell (World.block_lt_of_cell? _ _ qv3)).trans qv3
      have q4 := ((HBE.out).cell (World.block_lt_of_cell? _ _ qv4)).trans qv4
      have q5 := ((HBE.out).cell (World.block_lt_of_cell? _ _ qv5)).trans qv5
      have hki : (k : Int) < (s.held.length : Int) := by omega
      have HNM := hid hnm
      have HHIN := hid hhin
      have hnl : s.held[k].data.length ≤ 1048576 := by have h := tot_at pN s.held k hlt; have := ht1.1; unfold totL at this; exact Nat.le_trans h (by omega)
      have HNX := hid (insK_succ p s.held k hlt)
      clear hes hnm hhin hcs
      have hil : (insK p s.held k).1.length ≤ 1048577 := by have := HIL.out; split at this <;> omega
      by_cases heq : s.held[k].seq = p.seq
      · have HF := hid (take_old HTK.out (oldB_at hlt heq))
        have heqt : (s.held[k].seq == p.seq) = true := by simpa using heq
        clear heq
        go_wp2
        go_quiet (fail)
        go_wp2_with fail
        refine (l5in_any s (some ⟨bb, off, none⟩) b c d (wr.drewN nq) (HR.out.later (below_drewN HBW.out nq)) ht1.1 ht1.2).mono ?_
        rintro e w9 ⟨a9, c9, b9, d9, bs9, ds9, rfl, o9, l9, n9, bb9⟩
        have hsz9 : w.heap.size + 3 ≤ ((wr.drewN nq)).heap.size := (by simp; omega)
        have K29 := hid (box_laterP2 (box_laterP2 k2.out (below_drewN (Below.refl _ _) nq)) bb9)
        have r0 := cell_of_row _ _ 0 _ _ _ K29.out
        have zr0 := frozen_of_row _ _ 0 _ _ K29.out
        have r1 := cell_of_row _ _ 1 _ _ _ K29.out
        have zr1 := frozen_of_row _ _ 1 _ _ K29.out
        have r2 := cell_of_row _ _ 2 _ _ _ K29.out
        have zr2 := frozen_of_row _ _ 2 _ _ K29.out
        have r3 := cell_of_row _ _ 3 _ _ _ K29.out
        have zr3 := frozen_of_row _ _ 3 _ _ K29.out
        simp only [List.getElem?_toArray, List.getElem?_cons_zero, List.getElem?_cons_succ] at r0 r1 r2 r3

        have HO9 := hid o9
        have HL9 := hid l9
        have HB9 := hid (below_chain (below_drewN HBW.out nq) bb9)
        clear o9 l9 n9 bb9
        try dsimp only
        repeat go_step
        change bodyPost Try.prog Try.f6 (SkPost2 w (takeI s p) (takeG s p) (takeC s p)) Exit.ret _ _
        refine bodyPost_ret (results_cell_row_tmp2 rfl _ _ (w.heap.size + 1 + 1) 32 #[.int .i64 s.epoch, .int .i64 s.expect, .slice a9 s.held.length c9, .slice b9 s.part.length d9] (0, 0) _ rfl (set4 K29.out) Try.underlying32 rfl (by kernel_rfl)) rfl ?_
        rw [HF.out.1, HF.out.2.1, HF.out.2.2]
        exact ⟨a9, c9, b9, d9, _, rfl, fun W hW => ⟨⟨(HO9.out.f.kept (fun x hx => (hW x (by have := HL9.out x (List.mem_append_left _ hx); omega) (by rw [set4_size]; exact HO9.out.f.lt x hx)).trans (set4o (by have := HL9.out x (List.mem_append_left _ hx); omega)))).rd, (HO9.out.t.kept (fun x hx => (hW x (by have := HL9.out x (List.mem_append_right _ hx); omega) (by rw [set4_size]; exact HO9.out.t.lt x hx)).trans (set4o (by have := HL9.out x (List.mem_append_right _ hx); omega)))).rd⟩, RdSl.empty none⟩, set4b HB9.out (by omega)⟩
      have heqt : (s.held[k].seq == p.seq) = false := by simpa using heq
      have HNE2 : Hid (∀ j, (hj : j < s.held.length) → j < k + 1 → s.held[j].seq ≠ p.seq) := hid (fun j hj hk2 => by
        by_cases hjk : j < k
        · exact HNE.out j hj hjk
        · obtain rfl : j = k := by omega
          exact heq)
      clear heq
      generalize hq2 : (insK p s.held k).2 = q2 at *
      generalize hq1 : (insK p s.held k).1 = ys at *
      have HQ2 := hid hq2
      have HQ1 := hid hq1
      clear hq1 hq2
      cases q2 with
      | true =>
        have HX : Hid (insK p s.held (k + 1) = (ys ++ [s.held[k]], true)) := hid (by rw [HNX.out]; unfold insS; rw [HQ2.out, HQ1.out]; rfl)
        go_wp2
        go_quiet (fail)
        go_wp2_with fail
        go_quiet (fail)
        go_wp2_with fail
        refine (l5packet_any s.held[k] an cn _ (HNM.out.later (below_drewN HBE.out _)) hnl).mono ?_
        rintro e w2 ⟨a2, c2, bk, rfl, o2, lk, nk, b2⟩
        obtain ⟨vals, ho, hadd⟩ := AllSt.add (HST.out.later (below_drewN (Below.refl _ _) _)) b2 o2 lk nk HHIN.out
        have HO := hid ho
        have HADD := hid hadd
        have HONE := hid (heap_alloc_new w2 (.cells #[.int .i64 s.held[k].kind, .int .i64 s.held[k].epoch, .int .i64 s.held[k].seq, .int .i64 s.held[k].count, .bool s.held[k].last, .slice a2 s.held[k].data.length c2] 37))
        have hV2 : V1.heap.size ≤ w2.heap.size := by have h2 := b2.size; (try simp at h2); have h3 := hvr; omega
        clear ho hadd o2 lk nk b2
        go_wp2_with (first | (at_builtin; refine wpList_append_lies _ rfl (.tmp 75) (.tmp 82) 30 rfl V1.heap.size 37 i0 (.agg #[.int .i64 0, .int .i64 0, .int .i64 0, .int .i64 0, .bool false, .slice none 0 0]) 6 64 Try.underlying30 hi0 hz0 hz1 hz2 rfl (by decide) (u7) ys.length vals rfl HO.out ⟨w2.heap.size, 0, none⟩ 1 1 [.int .i64 s.held[k].kind, .int .i64 s.held[k].epoch, .int .i64 s.held[k].seq, .int .i64 s.held[k].count, .bool s.held[k].last, .slice a2 s.held[k].data.length c2] rfl rfl (World.news_of_block HONE.out) (by simp [Value.oneCell']) (by omega) (by unfold maxLen; omega) (by omega) (by simp; omega) _ rfl ?_))
        intro g9 cap9 w9 hown hgrow hat9 hlt9
        have HT9 := hid (HADD.out g9 cap9 w9 hown hgrow (by simpa using hat9))
        clear hown hgrow hat9 HADD HO HONE hlt9 hV2
        go_wp2
        go_roundw
        case rel => exact ⟨k + 1, by omega, by go_num, by rw [HX.out], HNE2.out, by rw [HX.out]; exact HT9.out⟩
        case measure => simp [intOf]; omega
      | false =>
        by_cases hgt : p.seq < s.held[k].seq
        · have hgtt : decide (p.seq < s.held[k].seq) = true := decide_eq_true hgt
          have HX : Hid (insK p s.held (k + 1) = (ys ++ [p] ++ [s.held[k]], true)) := hid (by rw [HNX.out]; unfold insS; rw [HQ2.out, HQ1.out, hgtt]; rfl)
          clear hgt
          go_wp2
          go_quiet (fail)
          go_wp2_with fail
          go_quiet (fail)
          go_wp2_with fail
          refine (l5packet_any p ap cp _ (HRP.out.later (below_drewN HBW.out _)) hpl).mono ?_
          rintro e w2 ⟨a2, c2, bk, rfl, o2, lk, nk, b2⟩
          obtain ⟨vals, ho, hadd⟩ := AllSt.add (HST.out.later (below_drewN (Below.refl _ _) _)) b2 o2 lk nk HPIN.out
          have HO := hid ho
          have HADD := hid hadd
          have HONE := hid (heap_alloc_new w2 (.cells #[.int .i64 p.kind, .int .i64 p.epoch, .int .i64 p.seq, .int .i64 p.count, .bool p.last, .slice a2 p.data.length c2] 37))
          have hV2 : V1.heap.size ≤ w2.heap.size := by have h2 := b2.size; (try simp at h2); have h3 := hvr; omega
          clear ho hadd o2 lk nk b2
          go_wp2_with (first | (at_builtin; refine wpList_append_lies _ rfl (.tmp 70) (.tmp 73) 30 rfl V1.heap.size 37 i0 (.agg #[.int .i64 0, .int .i64 0, .int .i64 0, .int .i64 0, .bool false, .slice none 0 0]) 6 64 Try.underlying30 hi0 hz0 hz1 hz2 rfl (by decide) (u7) ys.length vals rfl HO.out ⟨w2.heap.size, 0, none⟩ 1 1 [.int .i64 p.kind, .int .i64 p.epoch, .int .i64 p.seq, .int .i64 p.count, .bool p.last, .slice a2 p.data.length c2] rfl rfl (World.news_of_block HONE.out) (by simp [Value.oneCell']) (by omega) (by unfold maxLen; omega) (by omega) (by simp; omega) _ rfl ?_))
          intro g8 cap8 w8 hown hgrow hat9 hlt9
          have HT8 := hid (HADD.out g8 cap8 w8 hown hgrow (by simpa using hat9))
          clear hown hgrow hat9 HADD HO HONE hlt9 hV2
          have hv8 := HT8.out.2.size
          clear q0 q1 q2 q3 q4 q5 c00 c01 c02 c03 c10 c11 c12 c13 c14 c15
          have q0 := ((HT8.out.2).cell (World.block_lt_of_cell? _ _ qv0)).trans qv0
          have q1 := ((HT8.out.2).cell (World.block_lt_of_cell? _ _ qv1)).trans qv1
          have q2 := ((HT8.out.2).cell (World.block_lt_of_cell? _ _ qv2)).trans qv2
          have q3 := ((HT8.out.2).cell (World.block_lt_of_cell? _ _ qv3)).trans qv3
          have q4 := ((HT8.out.2).cell (World.block_lt_of_cell? _ _ qv4)).trans qv4
          have q5 := ((HT8.out.2).cell (World.block_lt_of_cell? _ _ qv5)).trans qv5
          have k0' := hid ((HT8.out.2.block _ (show w.heap.size < V1.heap.size by omega)).trans K0.out)
          have c00 := cell_of_row _ _ 0 _ _ _ k0'.out
          have c01 := cell_of_row _ _ 1 _ _ _ k0'.out
          have c02 := cell_of_row _ _ 2 _ _ _ k0'.out
          have c03 := cell_of_row _ _ 3 _ _ _ k0'.out
          simp only [List.getElem?_toArray, List.getElem?_cons_zero, List.getElem?_cons_succ] at c00 c01 c02 c03
          have HY8 : Hid ((ys ++ [p]).length = ys.length + 1) := hid (by simp)
          have HAL8 : Hid (AllSt V1 (ys ++ [p]) (.slice (some ⟨g8, 0, none⟩) (ys.length + 1) cap8) w8) := hid HT8.out
          go_wp2_with fail
          refine (l5packet_any s.held[k] an cn _ (HNM.out.later HT8.out.2) hnl).mono ?_
          rintro e w2 ⟨a2, c2, bk, rfl, o2, lk, nk, b2⟩
          obtain ⟨vals, ho, hadd⟩ := AllSt.add HAL8.out b2 o2 lk nk HHIN.out
          have HO := hid (by rw [HY8.out] at ho; exact ho)
          have HADD := hid (by rw [HY8.out] at hadd; exact hadd)
          have HONE := hid (heap_alloc_new w2 (.cells #[.int .i64 s.held[k].kind, .int .i64 s.held[k].epoch, .int .i64 s.held[k].seq, .int .i64 s.held[k].count, .bool s.held[k].last, .slice a2 s.held[k].data.length c2] 37))
          have hV2 : V1.heap.size ≤ w2.heap.size := by have h2 := b2.size; (try simp at h2); have h3 := hv8; omega
          clear ho hadd HT8 o2 lk nk b2
          go_wp2_with (first | (at_builtin; refine wpList_append_lies _ rfl (.tmp 75) (.tmp 82) 30 rfl V1.heap.size 37 i0 (.agg #[.int .i64 0, .int .i64 0, .int .i64 0, .int .i64 0, .bool false, .slice none 0 0]) 6 64 Try.underlying30 hi0 hz0 hz1 hz2 rfl (by decide) (.slice (some ⟨g8, 0, none⟩) (ys.length + 1) cap8) (ys.length + 1) vals rfl HO.out ⟨w2.heap.size, 0, none⟩ 1 1 [.int .i64 s.held[k].kind, .int .i64 s.held[k].epoch, .int .i64 s.held[k].seq, .int .i64 s.held[k].count, .bool s.held[k].last, .slice a2 s.held[k].data.length c2] rfl rfl (World.news_of_block HONE.out) (by simp [Value.oneCell']) (by omega) (by unfold maxLen; omega) (by omega) (by simp; omega) _ rfl ?_))
          intro g9 cap9 w9 hown hgrow hat9 hlt9
          have HT9 := hid (HADD.out g9 cap9 w9 hown hgrow (by simpa using hat9))
          clear hown hgrow hat9 HADD HO HONE hlt9 hV2
          go_wp2
          go_roundw
          case rel => exact ⟨k + 1, by omega, by go_num, by rw [HX.out], HNE2.out, by rw [HX.out]; exact HT9.out⟩
          case measure => simp [intOf]; omega
        · have hgtt : decide (p.seq < s.held[k].seq) = false := decide_eq_false hgt
          have HX : Hid (insK p s.held (k + 1) = (ys ++ [s.held[k]], false)) := hid (by rw [HNX.out]; unfold insS; rw [HQ2.out, HQ1.out, hgtt]; rfl)
          clear hgt
          go_wp2
          go_quiet (fail)
          go_wp2_with fail
          go_quiet (fail)
          go_wp2_with fail
          refine (l5packet_any s.held[k] an cn _ (HNM.out.later (below_drewN HBE.out _)) hnl).mono ?_
          rintro e w2 ⟨a2, c2, bk, rfl, o2, lk, nk, b2⟩
          obtain ⟨vals, ho, hadd⟩ := AllSt.add (HST.out.later (below_drewN (Below.refl _ _) _)) b2 o2 lk nk HHIN.out
          have HO := hid ho
          have HADD := hid hadd
          have HONE := hid (heap_alloc_new w2 (.cells #[.int .i64 s.held[k].kind, .int .i64 s.held[k].epoch, .int .i64 s.held[k].seq, .int .i64 s.held[k].count, .bool s.held[k].last, .slice a2 s.held[k].data.length c2] 37))
          have hV2 : V1.heap.size ≤ w2.heap.size := by have h2 := b2.size; (try simp at h2); have h3 := hvr; omega
          clear ho hadd o2 lk nk b2
          go_wp2_with (first | (at_builtin; refine wpList_append_lies _ rfl (.tmp 75) (.tmp 82) 30 rfl V1.heap.size 37 i0 (.agg #[.int .i64 0, .int .i64 0, .int .i64 0, .int .i64 0, .bool false, .slice none 0 0]) 6 64 Try.underlying30 hi0 hz0 hz1 hz2 rfl (by decide) (u7) ys.length vals rfl HO.out ⟨w2.heap.size, 0, none⟩ 1 1 [.int .i64 s.held[k].kind, .int .i64 s.held[k].epoch, .int .i64 s.held[k].seq, .int .i64 s.held[k].count, .bool s.held[k].last, .slice a2 s.held[k].data.length c2] rfl rfl (World.news_of_block HONE.out) (by simp [Value.oneCell']) (by omega) (by unfold maxLen; omega) (by omega) (by simp; omega) _ rfl ?_))
          intro g9 cap9 w9 hown hgrow hat9 hlt9
          have HT9 := hid (HADD.out g9 cap9 w9 hown hgrow (by simpa using hat9))
          clear hown hgrow hat9 HADD HO HONE hlt9 hV2
          go_wp2
          go_roundw
          case rel => exact ⟨k + 1, by omega, by go_num, by rw [HX.out], HNE2.out, by rw [HX.out]; exact HT9.out⟩
          case measure => simp [intOf]; omega
    · obtain rfl : k = s.held.length := by omega
      have HOB : Hid (oldB s p = false) := hid (oldB_none (by have := HN1.out; omega) (by have := HN2.out; omega) (fun j hj => HNE.out j hj hj))
      generalize hq2 : (insK p s.held s.held.length).2 = q2 at *
      generalize hq1 : (insK p s.held s.held.length).1 = ys at *
      have HQ2 := hid hq2
      have HQ1 := hid hq1
      have hil : ys.length ≤ 1048577 := by have := HIL.out; split at this <;> omega
      clear hq1 hq2
      go_upto_if 85 with fail
      go_cut [7, 86, 87, 88, 89, 90] (fun v _ _ _ _ _ wx => AllSt V1 (takeAll s p) v wx)
      case first =>
        cases q2 with
        | true =>
          have HTA : Hid (takeAll s p = ys) := hid (by unfold takeAll; rw [HQ2.out, HQ1.out]; rfl)
          go_wp2_with fail
          go_meet
          case rel => rw [HTA.out]; exact HST.out
        | false =>
          have HTA : Hid (takeAll s p = ys ++ [p]) := hid (by unfold takeAll; rw [HQ2.out, HQ1.out]; rfl)
          go_wp2_with fail
          refine (l5packet_any p ap cp _ (HRP.out.later HBW.out) hpl).mono ?_
          rintro e w2 ⟨a2, c2, bk, rfl, o2, lk, nk, b2⟩
          obtain ⟨vals, ho, hadd⟩ := AllSt.add HST.out b2 o2 lk nk HPIN.out
          have HO := hid ho
          have HADD := hid hadd
          have HONE := hid (heap_alloc_new w2 (.cells #[.int .i64 p.kind, .int .i64 p.epoch, .int .i64 p.seq, .int .i64 p.count, .bool p.last, .slice a2 p.data.length c2] 37))
          have hV2 : V1.heap.size ≤ w2.heap.size := by have h2 := b2.size; (try simp at h2); have h3 := hvr; omega
          clear ho hadd o2 lk nk b2
          go_wp2_with (first | (at_builtin; refine wpList_append_lies _ rfl (.tmp 86) (.tmp 89) 30 rfl V1.heap.size 37 i0 (.agg #[.int .i64 0, .int .i64 0, .int .i64 0, .int .i64 0, .bool false, .slice none 0 0]) 6 64 Try.underlying30 hi0 hz0 hz1 hz2 rfl (by decide) (u7) ys.length vals rfl HO.out ⟨w2.heap.size, 0, none⟩ 1 1 [.int .i64 p.kind, .int .i64 p.epoch, .int .i64 p.seq, .int .i64 p.count, .bool p.last, .slice a2 p.data.length c2] rfl rfl (World.news_of_block HONE.out) (by simp [Value.oneCell']) (by omega) (by unfold maxLen; omega) (by omega) (by simp; omega) _ rfl ?_))
          intro g9 cap9 w9 hown hgrow hat9 hlt9
          have HT9 := hid (HADD.out g9 cap9 w9 hown hgrow (by simpa using hat9))
          clear hown hgrow hat9 HADD HO HONE hlt9 hV2
          go_wp2_with fail
          go_meet
          case rel => rw [HTA.out]; exact HT9.out
      case rest =>
        have HAL := hid hcut
        have HBE2 := hid hcut.2
        have hvc := hcut.2.size
        clear hcut c00 c01 c02 c03 c10 c11 c12 c13 c14 c15 HST HBE HBW HIL HNE HQ1 HQ2 hil k0 k1 k2 hvr
        have k0 := hid ((HBE2.out.block _ (show w.heap.size < V1.heap.size by omega)).trans K0.out)
        have k2 := hid ((HBE2.out.block _ (show w.heap.size + 1 + 1 < V1.heap.size by omega)).trans K2.out)
        have c00 := cell_of_row _ _ 0 _ _ _ k0.out
        have c01 := cell_of_row _ _ 1 _ _ _ k0.out
        have c02 := cell_of_row _ _ 2 _ _ _ k0.out
        have c03 := cell_of_row _ _ 3 _ _ _ k0.out
        simp only [List.getElem?_toArray, List.getElem?_cons_zero, List.getElem?_cons_succ] at c00 c01 c02 c03

        have HBC := hid (below_chain HB1.out HBE2.out)
        have HCL : Hid (∀ wx, Below wc.heap.size wc wx → _) := hid (fun wx hbx => l1copy_any b d s.part wx ((HR.out.t.later HBC.out).later hbx) ht1.2)
        have HBY : Hid (∀ x ∈ s.part, x < 256) := hid (by obtain ⟨_, _, _, _, _, _, _, h⟩ := HR.out.t.bytes; exact h)
        go_upto_region 18 with fail
        refine region_turns3 (n := 10) (by kernel_rfl) (by kernel_rfl) ?_ (fun t => { tmps := #[.agg #[.int .i64 s.epoch, .int .i64 s.expect, .slice a s.held.length c, .slice b s.part.length d], .agg #[.int .i64 p.kind, .int .i64 p.epoch, .int .i64 p.seq, .int .i64 p.count, .bool p.last, .slice ap p.data.length cp], .pointer (some ⟨w.heap.size, 0, none⟩), .pointer (some ⟨w.heap.size + 1, 0, none⟩), .pointer (some ⟨w.heap.size + 1 + 1, 0, none⟩), u5, u6, u7, .bool q2, .int .i64 (s.held.length : Int), t 8, undef, u12, u13, u14, u15, u16, u17, u18, u19, u20, u21, u22, u23, u24, u25, u26, u27, u28, u29, u30, u31, u32, u33, u34, u35, u36, u37, u38, u39, u40, u41, u42, u43, u44, u45, u46, u47, u48, u49, u50, u51, u52, u53, u54, u55, u56, u57, u58, u59, u60, u61, u62, u63, u64, u65, u66, u67, u68, u69, u70, u71, u72, u73, u74, u75, u76, u77, u78, u79, u80, u81, u82, u83, u84, u85, u86, u87, u88, u89, u90, t 0, t 1, t 2, t 3, t 4, t 5, t 6, t 7, u99, u100, u101, u102, u103, u104, u105, u106, u107, u108, u109, u110, u111, u112, u113, u114, u115, u116, u117, u118, u119, u120, u121, u122, u123, u124, u125, u126, u127, u128, u129, u130, u131, u132, u133, u134, u135, u136, u137, u138, u139, u140, u141, u142, u143, u144], defers := [] }) (niT wc.heap.size w.heap.size s.epoch s.expect (.slice b s.part.length d) s.part) [9] (Fct.any) (niH wc.heap.size s.epoch s.expect s.part) wc wc (fun k => if k = 6 then [9] else if k = 7 then [9] else if k = 8 then [9] else []) (fun k => !(k == 6 || k == 7 || k == 8 || k == 9)) (fun _ _ _ => True) [9] (fun _ _ => false) (by kernel_rfl) (fun _ _ _ _ h => by cases h) (fun i hi hn => absurd hi hn) (fun j hj => by rcases (by omega : j = 0 ∨ j = 1 ∨ j = 2 ∨ j = 3 ∨ j = 4 ∨ j = 5 ∨ j = 6 ∨ j = 7 ∨ j = 8 ∨ j = 9) with rfl | rfl | rfl | rfl | rfl | rfl | rfl | rfl | rfl | rfl <;> rfl) (fun j hj hp => by rcases (by omega : j = 0 ∨ j = 1 ∨ j = 2 ∨ j = 3 ∨ j = 4 ∨ j = 5 ∨ j = 6 ∨ j = 7 ∨ j = 8 ∨ j = 9) with rfl | rfl | rfl | rfl | rfl | rfl | rfl | rfl | rfl | rfl <;> first | rfl | (exact absurd hp (by decide))) (fun j => ([u91, u92, u93, u94, u95, u96, u97, u98, undef, undef] : List Value).getD j undef) (fun h => by cases h) (Below.refl _ wc) (trivial) ?_ ?_
        · rfl
        · intro i hi x t wx hxi hsh h0 hbx hgx hdp hall hHx
          have c00 := (hbx.cell (World.block_lt_of_cell? _ _ c00)).trans c00
          have c01 := (hbx.cell (World.block_lt_of_cell? _ _ c01)).trans c01
          have c03 := (hbx.cell (World.block_lt_of_cell? _ _ c03)).trans c03
          rcases (by omega : i = 0 ∨ i = 1 ∨ i = 2 ∨ i = 3 ∨ i = 4 ∨ i = 5 ∨ i = 6 ∨ i = 7 ∨ i = 8 ∨ i = 9) with rfl | rfl | rfl | rfl | rfl | rfl | rfl | rfl | rfl | rfl
          · 
            try dsimp only
            have hy := notYet hsh hxi 9 (by kernel_rfl)
            clear h0
            refine wpOp_step rfl (fun K' hK => ?_)
            go_simp
            exact hK _ _ ⟨.pointer (some ⟨w.heap.size, 0, none⟩), (by simp [upd]), FX.eq_mk rfl, fun _ => Below.refl _ _, fun h => absurd h (by decide), hbx, fun h => absurd h (by simp [hy])⟩
          · 
            try dsimp only
            have x0 := depX hdp 0 (by kernel_rfl)
            have d0 := hall 0 (by omega) x0
            have e0 : t 0 = .pointer (some ⟨w.heap.size, 0, none⟩) := d0.1
            rw [e0]
            have hy := notYet hsh hxi 9 (by kernel_rfl)
            clear h0
            refine wpOp_step rfl (fun K' hK => ?_)
            go_simp
            exact hK _ _ ⟨.int .i64 s.epoch, (by simp [upd, e0]), FX.eq_mk rfl, fun _ => Below.refl _ _, fun h => absurd h (by decide), hbx, fun h => absurd h (by simp [hy])⟩
          · 
            try dsimp only
            have hy := notYet hsh hxi 9 (by kernel_rfl)
            clear h0
            refine wpOp_step rfl (fun K' hK => ?_)
            go_simp
            exact hK _ _ ⟨.pointer (some ⟨w.heap.size, 1, none⟩), (by simp [upd]), FX.eq_mk rfl, fun _ => Below.refl _ _, fun h => absurd h (by decide), hbx, fun h => absurd h (by simp [hy])⟩
          · 
            try dsimp only
            have x2 := depX hdp 2 (by kernel_rfl)
            have d2 := hall 2 (by omega) x2
            have e2 : t 2 = .pointer (some ⟨w.heap.size, 1, none⟩) := d2.1
            rw [e2]
            have hy := notYet hsh hxi 9 (by kernel_rfl)
            clear h0
            refine wpOp_step rfl (fun K' hK => ?_)
            go_simp
            exact hK _ _ ⟨.int .i64 s.expect, (by simp [upd, e2]), FX.eq_mk rfl, fun _ => Below.refl _ _, fun h => absurd h (by decide), hbx, fun h => absurd h (by simp [hy])⟩
          · 
            try dsimp only
            have hy := notYet hsh hxi 9 (by kernel_rfl)
            clear h0
            refine wpOp_step rfl (fun K' hK => ?_)
            go_simp
            exact hK _ _ ⟨.pointer (some ⟨w.heap.size, 3, none⟩), (by simp [upd]), FX.eq_mk rfl, fun _ => Below.refl _ _, fun h => absurd h (by decide), hbx, fun h => absurd h (by simp [hy])⟩
          · 
            try dsimp only
            have x4 := depX hdp 4 (by kernel_rfl)
            have d4 := hall 4 (by omega) x4
            have e4 : t 4 = .pointer (some ⟨w.heap.size, 3, none⟩) := d4.1
            rw [e4]
            have hy := notYet hsh hxi 9 (by kernel_rfl)
            clear h0
            refine wpOp_step rfl (fun K' hK => ?_)
            go_simp
            exact hK _ _ ⟨.slice b s.part.length d, (by simp [upd, e4]), FX.eq_mk rfl, fun _ => Below.refl _ _, fun h => absurd h (by decide), hbx, fun h => absurd h (by simp [hy])⟩
          · 
            try dsimp only
            have x5 := depX hdp 5 (by kernel_rfl)
            have d5 := hall 5 (by omega) x5
            have e5 : t 5 = .slice b s.part.length d := d5.1
            rw [e5]
            have hy := notYet hsh hxi 9 (by kernel_rfl)
            clear h0
            refine wpOp_step rfl (fun K' hK => ?_)
            go_simp
            refine (HCL.out wx hbx).mono ?_
            rintro e w2 ⟨v2, rfl, o2, b2⟩
            exact hK _ _ ⟨v2, (by simp [upd, e5]), FX.pre_mk (own_mono o2 hbx.size), fun _ => b2, fun h => absurd h (by decide), below_chain hbx b2, fun h => absurd h (by simp [hy])⟩
          · 
            try dsimp only
            have x1 := depX hdp 1 (by kernel_rfl)
            have d1 := hall 1 (by omega) x1
            have e1 : t 1 = .int .i64 s.epoch := d1.1
            have x3 := depX hdp 3 (by kernel_rfl)
            have d3 := hall 3 (by omega) x3
            have e3 : t 3 = .int .i64 s.expect := d3.1
            have x6 := depX hdp 6 (by kernel_rfl)
            have d6 := hall 6 (by omega) x6
            rw [e1, e3]
            have hy := notYet hsh hxi 9 (by kernel_rfl)
            have f6 : wx.ownsRow wc.heap.size 5 1 (t 6) s.part.length (byt s.part) := FX.pre_of d6 hy
            obtain ⟨ad, cd, ed, -⟩ := rd_own f6
            rw [ed]
            clear h0
            refine wpOp_step rfl (fun K' hK => ?_)
            go_simp
            exact hK _ _ ⟨.agg #[.int .i64 s.epoch, .int .i64 s.expect, .slice none 0 0, .slice ad s.part.length cd], (by simp [upd, ed, e1, e3]), FX.pre_mk ⟨ad, cd, rfl, ed ▸ f6⟩, fun _ => Below.refl _ _, fun h => absurd h (by decide), hbx, fun h => absurd h (by simp [hy])⟩
          · 
            try dsimp only
            have hy := notYet hsh hxi 9 (by kernel_rfl)
            clear h0
            refine wpOp_step rfl (fun K' hK => ?_)
            go_simp
            exact hK _ _ ⟨.pointer (some ⟨wx.heap.size, 0, none⟩), (by simp [upd]), FX.pre_mk ⟨wx.heap.size, rfl, hbx.size, heap_alloc_new wx _⟩, fun _ => below_new1 _ _, fun h => absurd h (by decide), below_chain hbx (below_new1 _ _), fun h => absurd h (by simp [hy])⟩
          · 
            try dsimp only
            have x8 := depX hdp 8 (by kernel_rfl)
            have d8 := hall 8 (by omega) x8
            have x7 := depX hdp 7 (by kernel_rfl)
            have d7 := hall 7 (by omega) x7
            obtain ⟨gs, ea, lg, hbox⟩ : (fcNewI wc.heap.size).p (t 8) wx := FX.pre_of d8 hxi
            obtain ⟨ad, cd, eb, hrow⟩ : (fcAggI wc.heap.size s.epoch s.expect s.part).p (t 7) wx := FX.pre_of d7 hxi
            rw [ea, eb]
            have k0 := cell_of_row wx _ 0 _ _ _ hbox
            have k1 := cell_of_row wx _ 1 _ _ _ hbox
            have k2 := cell_of_row wx _ 2 _ _ _ hbox
            have k3 := cell_of_row wx _ 3 _ _ _ hbox
            have z0 := frozen_of_row wx _ 0 _ _ hbox
            have z1 := frozen_of_row wx _ 1 _ _ hbox
            have z2 := frozen_of_row wx _ 2 _ _ hbox
            have z3 := frozen_of_row wx _ 3 _ _ hbox
            simp only [List.getElem?_toArray, List.getElem?_cons_zero, List.getElem?_cons_succ] at k0 k1 k2 k3
            have HBX := hid hbox
            have HRW := hid hrow
            clear hbox hrow
            clear h0
            refine wpOp_step rfl (fun K' hK => ?_)
            go_simp
            exact hK _ _ ⟨undef, (by simp [upd, ea, eb]), FX.is_mk trivial, fun h => absurd (by decide) h, fun _ => trivial, set4b hbx lg, fun _ => ⟨gs, ad, cd, (by simp [upd]; exact ea), lg, set4 HBX.out, ownsRow_kept HRW.out (fun x hx => set4o (box_far HBX.out HRW.out (by decide) hx)), fun x hx => box_far HBX.out HRW.out (by decide) hx⟩⟩
        · intro x t wx hx hbx hall hHx
          obtain ⟨gM, aD, cD, eA, lg, hM, hrow, hfar⟩ := hHx (hx 9 (by omega))
          try dsimp only
          rw [eA]
          generalize t 0 = v0
          generalize t 1 = v1
          generalize t 2 = v2
          generalize t 3 = v3
          generalize t 4 = v4
          generalize t 5 = v5
          generalize t 6 = v6
          generalize t 7 = v7
          have HM := hid hM
          have HROW := hid hrow
          have HLG := hid lg
          have HFAR := hid hfar
          have HBX := hid hbx
          clear hall hbx hM hrow eA hHx hx lg hfar c00 c01 c03
          have o0 := ownSl_bytes HROW.out HBY.out
          have n0 : (Value.slice aD s.part.length cD).ownBlock.toList.Nodup := by cases (Value.slice aD s.part.length cD).ownBlock <;> simp
          have l0 : ∀ x ∈ (Value.slice aD s.part.length cD).ownBlock.toList, wc.heap.size ≤ x ∧ x ≠ gM := fun x hx => ⟨(own_in HROW.out (by simpa using hx)).1, HFAR.out x (by simpa using hx)⟩
          have HT0 : Hid (TkSt wc.heap.size gM s.epoch s.expect s.part [] (.slice none 0 0) wx) := hid ⟨aD, cD, _, [], HM.out, o0, .inl ⟨rfl, rfl, rfl⟩, by simpa using n0, fun x hx => l0 x (by simpa using hx)⟩
          clear o0 n0 l0 HROW HFAR HM
          obtain ⟨V3, hV3⟩ : ∃ V, V = wx := ⟨_, rfl⟩
          subst hV3
          have hll := takeAll_len s p
          generalize hl : takeAll s p = l at *
          have HTD : Hid (takeD s p = runT s l l.length 0) := hid (by rw [← hl]; rfl)
          have HLE := hid hl
          have HLL := hid hll
          clear hl hll
          obtain ⟨⟨bsA, oA, nA, lA⟩, -⟩ := HAL.out
          obtain ⟨aL, cL, eL, -⟩ := id oA.rd
          subst eL
          have HOA := hid oA
          have HLA := hid lA
          clear oA nA lA
          go_wp2
          go_loopw [7, 11] (fun v mv wr => ∃ k : Nat, k ≤ l.length ∧ (∃ av cv, v = .slice av (l.length - k : Nat) cv ∧ ∀ W, RdSl cPkt W l (.slice aL l.length cL) → RdSl cPkt W (l.drop k) (.slice av (l.length - k) cv)) ∧ TkSt wc.heap.size gM s.epoch (s.expect + (k : Int)) (ptK s l k).1 (ptK s l k).2 mv wr ∧ Below wc.heap.size wc wr ∧ runT s l (l.length - k) k = takeD s p ∧ (ptK s l k).1.length ≤ 20000) (fun v _ _ => slLen v)
          case atStart => exact ⟨0, Nat.zero_le _, ⟨aL, cL, rfl, fun W h => by simpa using h⟩, by simpa [ptK_zero] using HT0.out, HBX.out, by rw [HTD.out]; rfl, hpt⟩
          case round =>
            obtain ⟨k, hk, ⟨av, cv, rfl, hrv⟩, hst, hbe, hrun, hpb⟩ := hrel
            have HRV := hid hrv
            have HRUN := hid hrun
            have HBR := hid hbe
            have hwr := hbe.size
            have HRW := hid (hrv wr (HOA.out.rd.later hbe))
            obtain ⟨aP, cP, hgot⟩ := hst
            obtain ⟨us, vs, hbx, -⟩ := id hgot
            have HG := hid hgot
            have k2r := hid ((hbe.block _ (show w.heap.size + 1 + 1 < wc.heap.size by omega)).trans k2.out)
            have hgl : wc.heap.size ≤ gM := HLG.out
            have hg3 : gM ≠ w.heap.size + 1 + 1 := by omega
            have hg4 : w.heap.size + 1 + 1 ≠ gM := by omega
            have y0 := cell_of_row _ _ 0 _ _ _ hbx
            have zy0 := frozen_of_row _ _ 0 _ _ hbx
            have y1 := cell_of_row _ _ 1 _ _ _ hbx
            have zy1 := frozen_of_row _ _ 1 _ _ hbx
            have y2 := cell_of_row _ _ 2 _ _ _ hbx
            have zy2 := frozen_of_row _ _ 2 _ _ hbx
            have y3 := cell_of_row _ _ 3 _ _ _ hbx
            have zy3 := frozen_of_row _ _ 3 _ _ hbx
            simp only [List.getElem?_toArray, List.getElem?_cons_zero, List.getElem?_cons_succ] at y0 y1 y2 y3
            have HBG := hid hbx
            clear hrv hbe hrun hgot hbx
            by_cases hlt : k < l.length
            · have HRG := hid (runT_go s l k hlt)
              have HRB := hid (runT_bad s l k hlt)
              have HRS := hid (runT_stop s l k hlt)
              have HPL := hid (ptK_last s l k hlt)
              have HPM := hid (ptK_more s l k hlt)
              have HPMS := hid (ptK_msgs s l k hk)
              have hdx := dataB_of (HDA.out l[k] (List.getElem_mem _))
              obtain ⟨bb, off, es, rfl, hes, hcs⟩ := (HRV.out wc HOA.out.rd).atN (k := 0) (by rw [List.length_drop]; omega)
              rw [show (l.drop k)[0]'(by rw [List.length_drop]; omega) = l[k] from by simp] at hes
              generalize hpt : (ptK s l k).1 = pt at *
              generalize hms : (ptK s l k).2 = ms at *
              generalize hn1 : l.length - k = n1 at *
              generalize l[k] = px at *
              have HPT := hid hpt
              have HMS := hid hms
              have HN1' := hid hn1
              have hpos : 0 < n1 := by omega
              clear hpt hms hn1
              obtain ⟨an, cn, rfl, hnm, hhin⟩ := cPkt_rd hes
              have HNM := hid hnm
              have qw0 : wc.cell? ⟨bb, off, none⟩ = some (.int .i64 px.kind) := by have h := hcs 0 (by decide); rw [show cPkt.n = 6 from rfl] at h; simpa using h
              have QW0 := hid qw0
              have qc0 := (HBR.out.cell (World.block_lt_of_cell? _ _ qw0)).trans qw0
              clear qw0
              have qw1 : wc.cell? ⟨bb, off + 1, none⟩ = some (.int .i64 px.epoch) := by have h := hcs 1 (by decide); rw [show cPkt.n = 6 from rfl] at h; simpa using h
              have QW1 := hid qw1
              have qc1 := (HBR.out.cell (World.block_lt_of_cell? _ _ qw1)).trans qw1
              clear qw1
              have qw2 : wc.cell? ⟨bb, off + 2, none⟩ = some (.int .i64 px.seq) := by have h := hcs 2 (by decide); rw [show cPkt.n = 6 from rfl] at h; simpa using h
              have QW2 := hid qw2
              have qc2 := (HBR.out.cell (World.block_lt_of_cell? _ _ qw2)).trans qw2
              clear qw2
              have qw3 : wc.cell? ⟨bb, off + 3, none⟩ = some (.int .i64 px.count) := by have h := hcs 3 (by decide); rw [show cPkt.n = 6 from rfl] at h; simpa using h
              have QW3 := hid qw3
              have qc3 := (HBR.out.cell (World.block_lt_of_cell? _ _ qw3)).trans qw3
              clear qw3
              have qw4 : wc.cell? ⟨bb, off + 4, none⟩ = some (.bool px.last) := by have h := hcs 4 (by decide); rw [show cPkt.n = 6 from rfl] at h; simpa using h
              have QW4 := hid qw4
              have qc4 := (HBR.out.cell (World.block_lt_of_cell? _ _ qw4)).trans qw4
              clear qw4
              have qw5 : wc.cell? ⟨bb, off + 5, none⟩ = some (.slice an px.data.length cn) := by have h := hcs 5 (by decide); rw [show cPkt.n = 6 from rfl] at h; simpa using h
              have QW5 := hid qw5
              have qc5 := (HBR.out.cell (World.block_lt_of_cell? _ _ qw5)).trans qw5
              clear qw5
              clear hes hcs hnm hhin
              have hp1 := hdx.1
              have hp2 := hdx.2.1
              clear hdx
              have hpd : decide ((0 : Int) < (n1 : Int)) = true := decide_eq_true (by omega)
              by_cases hsq : px.seq = s.expect + (k : Int)
              · have hsqt : (px.seq == s.expect + (k : Int)) = true := by simpa using hsq
                have HSQ := hid hsq
                clear hsq
                obtain ⟨j0, hj0, jz0, jz1, jz2⟩ := info_parts infoByteM
                have hkb : (k : Int) ≤ 1048577 := by have := HLL.out; omega
                go_wp2_with fail
                go_quiet (fail)
                go_upto_region 21 with fail
                clear y0 zy0 y1 zy1 y2 zy2 y3 zy3
                have HBQ : Hid (Below wr.heap.size wr (wr.drewN nq)) := hid (below_drewN (Below.refl _ _) nq)
                generalize wr.drewN nq = Wq at *
                have HBWQ := hid (below_chain HBR.out HBQ.out)
                have HGQ := hid (HG.out.later HBQ.out)
                have HNQ := hid (HNM.out.later HBWQ.out)
                have HDB : Hid (∀ x ∈ px.data, x < 256) := hid (by obtain ⟨_, _, _, _, _, _, _, h⟩ := HNM.out.bytes; exact h)
                have b1 := hid ((HBQ.out.block _ (Array.getElem?_eq_some_iff.1 HBG.out).1).trans HBG.out)
                have HGL : Hid (gM < Wq.heap.size) := hid (Array.getElem?_eq_some_iff.1 b1.out).1
                have y0 := cell_of_row _ _ 0 _ _ _ b1.out
                have y1 := cell_of_row _ _ 1 _ _ _ b1.out
                have y2 := cell_of_row _ _ 2 _ _ _ b1.out
                have y3 := cell_of_row _ _ 3 _ _ _ b1.out
                simp only [List.getElem?_toArray, List.getElem?_cons_zero, List.getElem?_cons_succ] at y0 y1 y2 y3
                have qc0 := (HBQ.out.cell (World.block_lt_of_cell? _ _ qc0)).trans qc0
                have qc1 := (HBQ.out.cell (World.block_lt_of_cell? _ _ qc1)).trans qc1
                have qc2 := (HBQ.out.cell (World.block_lt_of_cell? _ _ qc2)).trans qc2
                have qc3 := (HBQ.out.cell (World.block_lt_of_cell? _ _ qc3)).trans qc3
                have qc4 := (HBQ.out.cell (World.block_lt_of_cell? _ _ qc4)).trans qc4
                have qc5 := (HBQ.out.cell (World.block_lt_of_cell? _ _ qc5)).trans qc5
                refine region_turns (n := 9) (by kernel_rfl) (by kernel_rfl) ?_ (fun t => { tmps := #[.agg #[.int .i64 s.epoch, .int .i64 s.expect, .slice a s.held.length c, .slice b s.part.length d], .agg #[.int .i64 p.kind, .int .i64 p.epoch, .int .i64 p.seq, .int .i64 p.count, .bool p.last, .slice ap p.data.length cp], .pointer (some ⟨w.heap.size, 0, none⟩), .pointer (some ⟨w.heap.size + 1, 0, none⟩), .pointer (some ⟨w.heap.size + 1 + 1, 0, none⟩), u5, u6, .slice (some ⟨bb, off, none⟩) n1 cv, .bool q2, .int .i64 (s.held.length : Int), .pointer (some ⟨gM, 0, none⟩), u11, u12, u13, u14, u15, u16, u17, u18, u19, u20, u21, u22, u23, u24, u25, u26, u27, u28, u29, u30, u31, u32, u33, u34, u35, u36, u37, u38, u39, u40, u41, u42, u43, u44, u45, u46, u47, u48, u49, u50, u51, u52, u53, u54, u55, u56, u57, u58, u59, u60, u61, u62, u63, u64, u65, u66, u67, u68, u69, u70, u71, u72, u73, u74, u75, u76, u77, u78, u79, u80, u81, u82, u83, u84, u85, u86, u87, u88, u89, u90, v0, v1, v2, v3, v4, v5, v6, v7, .slice (some ⟨bb, off, none⟩) n1 cv, .int .i64 (n1 : Int), .bool true, .bool true, .slice (some ⟨bb, off, none⟩) n1 cv, .pointer (some ⟨bb, off, none⟩), .pointer (some ⟨bb, off + 2, none⟩), .int .i64 px.seq, .pointer (some ⟨gM, 1, none⟩), .int .i64 (s.expect + (k : Int)), .bool true, .bool true, t 0, t 1, t 2, t 3, t 4, t 5, t 6, t 7, u119, u120, u121, u122, u123, u124, u125, u126, u127, u128, u129, u130, u131, u132, u133, u134, u135, u136, u137, u138, u139, u140, u141, u142, u143, u144], defers := [] }) (tkT wc.heap.size gM bb off n1 cv (.slice aP pt.length cP) (.slice an px.data.length cn) s.epoch (s.expect + (k : Int)) (pt ++ px.data) ms u11) [6, 8] (fcSameL Wq) wc Wq (fun k => if k = 6 then [8] else []) (fun k => !(k == 6 || k == 8)) (by kernel_rfl) (fun j hj => by rcases (by omega : j = 0 ∨ j = 1 ∨ j = 2 ∨ j = 3 ∨ j = 4 ∨ j = 5 ∨ j = 6 ∨ j = 7 ∨ j = 8) with rfl | rfl | rfl | rfl | rfl | rfl | rfl | rfl | rfl <;> rfl) (fun j hj hp => by rcases (by omega : j = 0 ∨ j = 1 ∨ j = 2 ∨ j = 3 ∨ j = 4 ∨ j = 5 ∨ j = 6 ∨ j = 7 ∨ j = 8) with rfl | rfl | rfl | rfl | rfl | rfl | rfl | rfl | rfl <;> first | rfl | (exact absurd hp (by decide))) (fun j => ([u111, u112, u113, u114, u115, u116, u117, u118, undef] : List Value).getD j undef) HBWQ.out (Below.refl _ _) ?_ ?_
                · rfl
                · intro i hi x t wx hxi hsh h0 hbx hgx hdp hall
                  rcases (by omega : i = 0 ∨ i = 1 ∨ i = 2 ∨ i = 3 ∨ i = 4 ∨ i = 5 ∨ i = 6 ∨ i = 7 ∨ i = 8) with rfl | rfl | rfl | rfl | rfl | rfl | rfl | rfl | rfl
                  · 
                    try dsimp only
                    clear h0
                    refine wpOp_step rfl (fun K' hK => ?_)
                    go_simp
                    exact hK _ _ ⟨.pointer (some ⟨gM, 3, none⟩), (by simp [upd]), FX.eq_mk rfl, fun _ => Below.refl _ _, hbx⟩
                  · 
                    try dsimp only
                    have x0 := depX hdp 0 (by kernel_rfl)
                    have d0 := hall 0 (by omega) x0
                    have e0 : t 0 = .pointer (some ⟨gM, 3, none⟩) := d0.1
                    rw [e0]
                    have y6 := notYet hsh hxi 6 (by kernel_rfl)
                    have y8 := notYet hsh hxi 8 (by kernel_rfl)
                    have hz : Below Wq.heap.size Wq wx := hgx (by simp [y6, y8])
                    have y3 := (hz.cell (World.block_lt_of_cell? _ _ y3)).trans y3
                    clear y6 y8 hz
                    clear h0
                    refine wpOp_step rfl (fun K' hK => ?_)
                    go_simp
                    exact hK _ _ ⟨.slice aP pt.length cP, (by simp [upd, e0]), FX.eq_mk rfl, fun _ => Below.refl _ _, hbx⟩
                  · 
                    try dsimp only
                    clear h0
                    refine wpOp_step rfl (fun K' hK => ?_)
                    go_simp
                    exact hK _ _ ⟨.slice (some ⟨bb, off, none⟩) n1 cv, (by simp [upd]), FX.eq_mk rfl, fun _ => Below.refl _ _, hbx⟩
                  · 
                    try dsimp only
                    have x2 := depX hdp 2 (by kernel_rfl)
                    have d2 := hall 2 (by omega) x2
                    have e2 : t 2 = .slice (some ⟨bb, off, none⟩) n1 cv := d2.1
                    rw [e2]
                    clear h0
                    refine wpOp_step rfl (fun K' hK => ?_)
                    go_simp
                    exact hK _ _ ⟨.pointer (some ⟨bb, off, none⟩), (by simp [upd, e2]), FX.eq_mk rfl, fun _ => Below.refl _ _, hbx⟩
                  · 
                    try dsimp only
                    have x3 := depX hdp 3 (by kernel_rfl)
                    have d3 := hall 3 (by omega) x3
                    have e3 : t 3 = .pointer (some ⟨bb, off, none⟩) := d3.1
                    rw [e3]
                    clear h0
                    refine wpOp_step rfl (fun K' hK => ?_)
                    go_simp
                    exact hK _ _ ⟨.pointer (some ⟨bb, off + 5, none⟩), (by simp [upd, e3]), FX.eq_mk rfl, fun _ => Below.refl _ _, hbx⟩
                  · 
                    try dsimp only
                    have x4 := depX hdp 4 (by kernel_rfl)
                    have d4 := hall 4 (by omega) x4
                    have e4 : t 4 = .pointer (some ⟨bb, off + 5, none⟩) := d4.1
                    rw [e4]
                    have y6 := notYet hsh hxi 6 (by kernel_rfl)
                    have y8 := notYet hsh hxi 8 (by kernel_rfl)
                    have hz : Below Wq.heap.size Wq wx := hgx (by simp [y6, y8])
                    have qc5 := (hz.cell (World.block_lt_of_cell? _ _ qc5)).trans qc5
                    clear y6 y8 hz
                    clear h0
                    refine wpOp_step rfl (fun K' hK => ?_)
                    go_simp
                    exact hK _ _ ⟨.slice an px.data.length cn, (by simp [upd, e4]), FX.eq_mk rfl, fun _ => Below.refl _ _, hbx⟩
                  · 
                    try dsimp only
                    have x1 := depX hdp 1 (by kernel_rfl)
                    have d1 := hall 1 (by omega) x1
                    have e1 : t 1 = .slice aP pt.length cP := d1.1
                    have x5 := depX hdp 5 (by kernel_rfl)
                    have d5 := hall 5 (by omega) x5
                    have e5 : t 5 = .slice an px.data.length cn := d5.1
                    rw [e1, e5]
                    have y8 := notYet hsh hxi 8 (by kernel_rfl)
                    have hz : Below Wq.heap.size Wq wx := hgx (by simp [hxi, y8])
                    have hg := HGQ.out.later hz
                    obtain ⟨hrow, -⟩ := id hg.row
                    obtain ⟨ad, had, hcells⟩ := dat_cells (HNQ.out.later hz) hp1
                    have hgx2 : gM < wx.heap.size := Nat.lt_of_lt_of_le HGL.out hz.size
                    clear h0
                    refine wpOp_step rfl (fun K' hK => ?_)
                    refine step_append_lies _ rfl (.tmp 112) (.tmp 116) 23 rfl wc.heap.size 5 j0 (.int .u8 0) 1 1 Try.underlying23 hj0 jz0 jz1 jz2 rfl (by decide) (.slice aP pt.length cP) pt.length (byt pt) rfl hrow ad px.data.length cn (byt px.data) (by rw [← had]; rfl) (by rw [byt_len, Nat.mul_one]) hcells (byt_one _) (by omega) (by unfold maxLen; omega) (by omega) hbx.size _ rfl ?_
                    intro g' cap' w9 hown hgrow hat hlt9
                    have hap := hg.app HDB.out rfl rfl hgx2 hbx.size hown hgrow hat
                    exact hK _ _ ⟨.slice (some ⟨g', 0, none⟩) (pt.length + px.data.length) cap', (by simp [upd, e1, e5, Act.put]), FX.pre_mk ⟨some ⟨g', 0, none⟩, cap', by simp, hap⟩, fun h => absurd (by simp) h, hbx.grown hgrow hbx.size (fun p hp => (own_in7 hrow hp).1)⟩
                  · 
                    try dsimp only
                    clear h0
                    refine wpOp_step rfl (fun K' hK => ?_)
                    go_simp
                    exact hK _ _ ⟨.pointer (some ⟨gM, 3, none⟩), (by simp [upd]), FX.eq_mk rfl, fun _ => Below.refl _ _, hbx⟩
                  · 
                    try dsimp only
                    have x7 := depX hdp 7 (by kernel_rfl)
                    have d7 := hall 7 (by omega) x7
                    have e7 : t 7 = .pointer (some ⟨gM, 3, none⟩) := d7.1
                    have x6 := depX hdp 6 (by kernel_rfl)
                    have d6 := hall 6 (by omega) x6
                    rw [e7]
                    obtain ⟨a6, c6, e6, hgt⟩ : (fcTkGot wc.heap.size gM s.epoch (s.expect + (k : Int)) (.slice aP pt.length cP) (pt ++ px.data) ms u11).p (t 6) wx := FX.pre_of d6 hxi
                    rw [e6] at hgt ⊢
                    obtain ⟨us6, vs6, hb6, -⟩ := id hgt
                    have k3 := cell_of_row wx _ 3 _ _ _ hb6
                    have z3 := frozen_of_row wx _ 3 _ _ hb6
                    simp only [List.getElem?_toArray, List.getElem?_cons_zero, List.getElem?_cons_succ] at k3
                    have hput := hgt.put rfl
                    rw [List.length_append] at hput
                    have HPUT := hid hput
                    clear hput hgt hb6
                    clear h0
                    refine wpOp_step rfl (fun K' hK => ?_)
                    go_simp
                    exact hK _ _ ⟨undef, (by simp [upd, e7, e6]), FX.is_mk HPUT.out, fun h => absurd (by simp) h, hbx.setCell (p := ⟨gM, 3, none⟩) hgl _⟩
                · intro x t wx hx hbx hall
                  have hP : TkSt wc.heap.size gM s.epoch (s.expect + (k : Int)) (pt ++ px.data) ms u11 wx := FX.is_of (hall 8 (by omega))
                  have HP := hid hP
                  have HBX2 := hid hbx
                  clear hall hbx hP hx y0 y1 y2 y3 qc0 qc1 qc2 qc3 qc4 qc5
                  try dsimp only
                  generalize t 0 = z0
                  generalize t 1 = z1
                  generalize t 2 = z2
                  generalize t 3 = z3
                  generalize t 4 = z4
                  generalize t 5 = z5
                  generalize t 6 = z6
                  generalize t 7 = z7
                  have hlp : (pt ++ px.data).length = pt.length + px.data.length := List.length_append
                  have HLP := hid hlp
                  clear hlp
                  generalize hp2e : pt ++ px.data = p2 at *
                  have HP2 := hid hp2e
                  clear hp2e
                  obtain ⟨W2, hW2⟩ : ∃ V, V = wx := ⟨_, rfl⟩
                  subst hW2
                  obtain ⟨a7, c7, us7, vs7, hb7, -⟩ := id HP.out
                  have HB7 := hid hb7
                  clear hb7
                  have hgw : gM < W2.heap.size := (Array.getElem?_eq_some_iff.1 HB7.out).1
                  have y0 := cell_of_row _ _ 0 _ _ _ HB7.out
                  have zy0 := frozen_of_row _ _ 0 _ _ HB7.out
                  have y1 := cell_of_row _ _ 1 _ _ _ HB7.out
                  have zy1 := frozen_of_row _ _ 1 _ _ HB7.out
                  have y2 := cell_of_row _ _ 2 _ _ _ HB7.out
                  have zy2 := frozen_of_row _ _ 2 _ _ HB7.out
                  have y3 := cell_of_row _ _ 3 _ _ _ HB7.out
                  have zy3 := frozen_of_row _ _ 3 _ _ HB7.out
                  simp only [List.getElem?_toArray, List.getElem?_cons_zero, List.getElem?_cons_succ] at y0 y1 y2 y3
                  
                  have HNX : Hid (TkSt wc.heap.size gM s.epoch (s.expect + (k : Int) + 1) p2 ms u11 (W2.setCell ⟨gM, 1, none⟩ (.int .i64 (s.expect + (k : Int) + 1)))) := hid (HP.out.next _)
                  have HB6' : Hid (Below wc.heap.size wc (W2.setCell ⟨gM, 1, none⟩ (.int .i64 (s.expect + (k : Int) + 1)))) := hid (HBX2.out.setCell (p := ⟨gM, 1, none⟩) hgl _)
                  go_upto_region 23 with fail
                  generalize (W2.setCell ⟨gM, 1, none⟩ (.int .i64 (s.expect + (k : Int) + 1))) = W6 at *
                  clear y0 zy0 y1 zy1 y2 zy2 y3 zy3
                  obtain ⟨a8, c8, hg8⟩ := id HNX.out
                  have HG8 := hid hg8
                  obtain ⟨us8, vs8, hb8, -⟩ := id hg8
                  have HB8 := hid hb8
                  clear hg8 hb8
                  have hw7 := HB6'.out.size
                  have hw6 : w.heap.size + 3 ≤ W6.heap.size := by omega
                  have HGW : Hid (gM < W6.heap.size) := hid (Array.getElem?_eq_some_iff.1 HB8.out).1
                  have HB6 := hid (below_chain HBC.out HB6'.out)
                  have k26 := hid ((HB6'.out.block _ (show w.heap.size + 1 + 1 < wc.heap.size by omega)).trans k2.out)
                  have k06 := hid ((HB6'.out.block _ (show w.heap.size < wc.heap.size by omega)).trans k0.out)
                  have y0 := cell_of_row _ _ 0 _ _ _ HB8.out
                  have zy0 := frozen_of_row _ _ 0 _ _ HB8.out
                  have y1 := cell_of_row _ _ 1 _ _ _ HB8.out
                  have zy1 := frozen_of_row _ _ 1 _ _ HB8.out
                  have y2 := cell_of_row _ _ 2 _ _ _ HB8.out
                  have zy2 := frozen_of_row _ _ 2 _ _ HB8.out
                  have y3 := cell_of_row _ _ 3 _ _ _ HB8.out
                  have zy3 := frozen_of_row _ _ 3 _ _ HB8.out
                  simp only [List.getElem?_toArray, List.getElem?_cons_zero, List.getElem?_cons_succ] at y0 y1 y2 y3
                  by_cases hbig : 20000 < p2.length
                  · have hbt : decide ((20000 : Int) < (p2.length : Int)) = true := decide_eq_true (by omega)
                    have HF := hid (take_bad HTK.out HOB.out (by rw [← HRUN.out]; exact HRB.out HSQ.out (by have := HLP.out; omega)))
                    clear hbig
                    have c00 := cell_of_row _ _ 0 _ _ _ k06.out
                    have c01 := cell_of_row _ _ 1 _ _ _ k06.out
                    have c02 := cell_of_row _ _ 2 _ _ _ k06.out
                    have c03 := cell_of_row _ _ 3 _ _ _ k06.out
                    simp only [List.getElem?_toArray, List.getElem?_cons_zero, List.getElem?_cons_succ] at c00 c01 c02 c03
                    go_wp2_with fail
                    refine (l5in_any s a b c d W6 (HR.out.later HB6.out) ht1.1 ht1.2).mono ?_
                    rintro e w9 ⟨a9, c9, b9, d9, bs9, ds9, rfl, o9, l9, n9, bb9⟩
                    have hsz9 : w.heap.size + 3 ≤ (W6).heap.size := hw6
                    have K29 := hid (box_laterP2 k26.out bb9)
                    have r0 := cell_of_row _ _ 0 _ _ _ K29.out
                    have zr0 := frozen_of_row _ _ 0 _ _ K29.out
                    have r1 := cell_of_row _ _ 1 _ _ _ K29.out
                    have zr1 := frozen_of_row _ _ 1 _ _ K29.out
                    have r2 := cell_of_row _ _ 2 _ _ _ K29.out
                    have zr2 := frozen_of_row _ _ 2 _ _ K29.out
                    have r3 := cell_of_row _ _ 3 _ _ _ K29.out
                    have zr3 := frozen_of_row _ _ 3 _ _ K29.out
                    simp only [List.getElem?_toArray, List.getElem?_cons_zero, List.getElem?_cons_succ] at r0 r1 r2 r3
                  
                    have HO9 := hid o9
                    have HL9 := hid l9
                    have HB9 := hid (below_chain HB6.out bb9)
                    clear o9 l9 n9 bb9
                    try dsimp only
                    repeat go_step
                    change bodyPost Try.prog Try.f6 (SkPost2 w (takeI s p) (takeG s p) (takeC s p)) Exit.ret _ _
                    refine bodyPost_ret (results_cell_row_tmp2 rfl _ _ (w.heap.size + 1 + 1) 32 #[.int .i64 s.epoch, .int .i64 s.expect, .slice a9 s.held.length c9, .slice b9 s.part.length d9] (0, 0) _ rfl (set4 K29.out) Try.underlying32 rfl (by kernel_rfl)) rfl ?_
                    rw [HF.out.1, HF.out.2.1, HF.out.2.2]
                    exact ⟨a9, c9, b9, d9, _, rfl, fun W hW => ⟨⟨(HO9.out.f.kept (fun x hx => (hW x (by have := HL9.out x (List.mem_append_left _ hx); omega) (by rw [set4_size]; exact HO9.out.f.lt x hx)).trans (set4o (by have := HL9.out x (List.mem_append_left _ hx); omega)))).rd, (HO9.out.t.kept (fun x hx => (hW x (by have := HL9.out x (List.mem_append_right _ hx); omega) (by rw [set4_size]; exact HO9.out.t.lt x hx)).trans (set4o (by have := HL9.out x (List.mem_append_right _ hx); omega)))).rd⟩, RdSl.empty none⟩, set4b HB9.out (by omega)⟩
                  · have hbt : decide ((20000 : Int) < (p2.length : Int)) = false := decide_eq_false (by omega)
                    have hp20 : p2.length ≤ 20000 := by omega
                    clear hbig
                    have HGO : Hid (takeD s p = runT s l (l.length - (k + 1)) (k + 1)) := hid (by rw [← HRUN.out]; exact HRG.out HSQ.out (by have := HLP.out; omega))
                    have q4 := (HB6'.out.cell (World.block_lt_of_cell? _ _ QW4.out)).trans QW4.out
                    cases hlast : px.last with
                    | true =>
                      rw [hlast] at q4
                      have HQ := hid (HPL.out hlast)
                      clear hlast
                      obtain ⟨vals, ho, hem⟩ := HG8.out.emit hw7 HGW.out
                      have HO := hid ho
                      have HEM := hid hem
                      have HONE := hid (heap_alloc_new W6 (.cells #[.slice a8 p2.length c8] 23))
                      obtain ⟨m0, hm0, mz0, mz1, mz2⟩ := info_parts infoTs
                      have hml : ms.length ≤ 1048577 := by have := HPMS.out; omega
                      clear ho hem
                      go_wp2_with (first | (at_builtin; refine wpList_append_lies _ rfl (.tmp 133) (.tmp 136) 33 rfl wc.heap.size 23 m0 (.slice none 0 0) 1 24 Try.underlying33 hm0 mz0 mz1 mz2 rfl (by decide) u11 ms.length vals rfl HO.out ⟨W6.heap.size, 0, none⟩ 1 1 [.slice a8 p2.length c8] rfl rfl (World.news_of_block HONE.out) (by simp [Value.oneCell']) (by omega) (by unfold maxLen; omega) (by omega) (by simp; omega) _ rfl ?_))
                      intro g9 cap9 w9 hown hgrow hat hlt9
                      have HT9 := hid (HEM.out g9 cap9 w9 hown hgrow (by simpa using hat))
                      have HB9 : Hid (Below wc.heap.size wc w9) := hid (by
                        have h0 := below_chain HB6'.out (below_new1 W6 (.cells #[.slice a8 p2.length c8] 23))
                        exact h0.grown hgrow h0.size (fun x hx => (own_in7 HO.out hx).1))
                      clear hown hgrow hat hlt9 HEM HO HONE y0 zy0 y1 zy1 y2 zy2 y3 zy3
                      obtain ⟨us9, vs9, hb9, -⟩ := id HT9.out
                      have y0 := cell_of_row _ _ 0 _ _ _ hb9
                      have zy0 := frozen_of_row _ _ 0 _ _ hb9
                      have y1 := cell_of_row _ _ 1 _ _ _ hb9
                      have zy1 := frozen_of_row _ _ 1 _ _ hb9
                      have y2 := cell_of_row _ _ 2 _ _ _ hb9
                      have zy2 := frozen_of_row _ _ 2 _ _ hb9
                      have y3 := cell_of_row _ _ 3 _ _ _ hb9
                      have zy3 := frozen_of_row _ _ 3 _ _ hb9
                      simp only [List.getElem?_toArray, List.getElem?_cons_zero, List.getElem?_cons_succ] at y0 y1 y2 y3
                      clear hb9
                      have HT10 : Hid (TkSt wc.heap.size gM s.epoch (s.expect + (k : Int) + 1) [] (ms ++ [p2]) (.slice (some ⟨g9, 0, none⟩) (ms.length + 1) cap9) (w9.setCell ⟨gM, 3, none⟩ (.slice none 0 0))) := hid (HT9.out.put rfl)
                      have HB10 : Hid (Below wc.heap.size wc (w9.setCell ⟨gM, 3, none⟩ (.slice none 0 0))) := hid (HB9.out.setCell (p := ⟨gM, 3, none⟩) hgl _)
                      go_upto_region 28 with fail
                      generalize (w9.setCell ⟨gM, 3, none⟩ (.slice none 0 0)) = W9 at *
                      by_cases hcv : cv = 1
                      · subst hcv
                        repeat go_step
                        refine ⟨⟨k + 1, by have := HN1'.out; omega, ⟨some ⟨bb, off, none⟩, 0, by rw [show l.length - (k + 1) = n1 - 1 from by have := HN1'.out; omega], fun W h => ?_⟩, ?_, HB10.out, HGO.out.symm, by rw [HQ.out]; first | exact hp20 | simp⟩, ?_⟩
                        · have h2 := (HRV.out W h).rest1 (a' := some ⟨bb, off, none⟩) (by rw [List.length_drop]; have := HN1'.out; omega) (fun hc => absurd rfl hc)
                          rw [List.drop_drop] at h2
                          rw [show l.length - (k + 1) = n1 - 1 from by have := HN1'.out; omega]
                          exact h2
                        · rw [HQ.out, show s.expect + ((k + 1 : Nat) : Int) = s.expect + (k : Int) + 1 from by omega]
                          exact HT10.out
                        · simp [slLen]; omega
                      · repeat go_step
                        refine ⟨⟨k + 1, by have := HN1'.out; omega, ⟨some ⟨bb, off + 6, none⟩, cv - 1, by rw [show l.length - (k + 1) = n1 - 1 from by have := HN1'.out; omega], fun W h => ?_⟩, ?_, HB10.out, HGO.out.symm, by rw [HQ.out]; first | exact hp20 | simp⟩, ?_⟩
                        · have h2 := (HRV.out W h).rest1 (a' := some ⟨bb, off + 6, none⟩) (by rw [List.length_drop]; have := HN1'.out; omega) (fun _ => rfl)
                          rw [List.drop_drop] at h2
                          rw [show l.length - (k + 1) = n1 - 1 from by have := HN1'.out; omega]
                          exact h2
                        · rw [HQ.out, show s.expect + ((k + 1 : Nat) : Int) = s.expect + (k : Int) + 1 from by omega]
                          exact HT10.out
                        · simp [slLen]; omega
                    | false =>
                      rw [hlast] at q4
                      have HQ := hid (HPM.out hlast)
                      clear hlast
                      go_upto_region 28 with fail
                      by_cases hcv : cv = 1
                      · subst hcv
                        repeat go_step
                        refine ⟨⟨k + 1, by have := HN1'.out; omega, ⟨some ⟨bb, off, none⟩, 0, by rw [show l.length - (k + 1) = n1 - 1 from by have := HN1'.out; omega], fun W h => ?_⟩, ?_, HB6'.out, HGO.out.symm, by rw [HQ.out]; first | exact hp20 | simp⟩, ?_⟩
                        · have h2 := (HRV.out W h).rest1 (a' := some ⟨bb, off, none⟩) (by rw [List.length_drop]; have := HN1'.out; omega) (fun hc => absurd rfl hc)
                          rw [List.drop_drop] at h2
                          rw [show l.length - (k + 1) = n1 - 1 from by have := HN1'.out; omega]
                          exact h2
                        · rw [HQ.out, show s.expect + ((k + 1 : Nat) : Int) = s.expect + (k : Int) + 1 from by omega]
                          exact HNX.out
                        · simp [slLen]; omega
                      · repeat go_step
                        refine ⟨⟨k + 1, by have := HN1'.out; omega, ⟨some ⟨bb, off + 6, none⟩, cv - 1, by rw [show l.length - (k + 1) = n1 - 1 from by have := HN1'.out; omega], fun W h => ?_⟩, ?_, HB6'.out, HGO.out.symm, by rw [HQ.out]; first | exact hp20 | simp⟩, ?_⟩
                        · have h2 := (HRV.out W h).rest1 (a' := some ⟨bb, off + 6, none⟩) (by rw [List.length_drop]; have := HN1'.out; omega) (fun _ => rfl)
                          rw [List.drop_drop] at h2
                          rw [show l.length - (k + 1) = n1 - 1 from by have := HN1'.out; omega]
                          exact h2
                        · rw [HQ.out, show s.expect + ((k + 1 : Nat) : Int) = s.expect + (k : Int) + 1 from by omega]
                          exact HNX.out
                        · simp [slLen]; omega
              · have HTE : Hid (takeD s p = some k) := hid (by rw [← HRUN.out]; exact HRS.out hsq)
                have hsqt : (px.seq == s.expect + (k : Int)) = false := by simpa using hsq
                clear hsq
                have HY := hid (take_yes HTK.out HOB.out HTE.out)
                go_wp2_with fail
                go_quiet (fail)
                clear y0 zy0 y1 zy1 y2 zy2 y3 zy3
                have HBQ : Hid (Below wr.heap.size wr (wr.drewN nq)) := hid (below_drewN (Below.refl _ _) nq)
                generalize wr.drewN nq = Wq at *
                have b1 := hid ((HBQ.out.block _ (Array.getElem?_eq_some_iff.1 HBG.out).1).trans HBG.out)
                have b2 := hid ((HBQ.out.block _ (Array.getElem?_eq_some_iff.1 k2r.out).1).trans k2r.out)
                have b3 : Hid ((Wq.setCell ⟨gM, 2, none⟩ (.slice (some ⟨bb, off, none⟩) n1 cv)).heap[gM]? = some (.cells #[.int .i64 s.epoch, .int .i64 (s.expect + (k : Int)), .slice (some ⟨bb, off, none⟩) n1 cv, .slice aP pt.length cP] 32 (0, 0))) := hid (heap_setCell_same _ _ 2 _ _ (.slice (some ⟨bb, off, none⟩) n1 cv) b1.out)
                have b4 := hid ((Below.heap_setCell Wq ⟨gM, 2, none⟩ (.slice (some ⟨bb, off, none⟩) n1 cv) _ hg4).trans b2.out)
                have HOT : Hid (∀ x, x ≠ gM → (Wq.setCell ⟨gM, 2, none⟩ (.slice (some ⟨bb, off, none⟩) n1 cv)).heap[x]? = Wq.heap[x]?) := hid (fun x hx => Below.heap_setCell _ _ _ _ hx)
                have HS56 : Hid ((Wq.setCell ⟨gM, 2, none⟩ (.slice (some ⟨bb, off, none⟩) n1 cv)).heap.size = Wq.heap.size) := hid (by simp)
                have HB5 : Hid (Below wc.heap.size wc (Wq.setCell ⟨gM, 2, none⟩ (.slice (some ⟨bb, off, none⟩) n1 cv))) := hid ((below_chain HBR.out HBQ.out).setCell (p := ⟨gM, 2, none⟩) hgl _)
                have y0 := cell_of_row _ _ 0 _ _ _ b1.out
                have zy0 := frozen_of_row _ _ 0 _ _ b1.out
                have y1 := cell_of_row _ _ 1 _ _ _ b1.out
                have zy1 := frozen_of_row _ _ 1 _ _ b1.out
                have y2 := cell_of_row _ _ 2 _ _ _ b1.out
                have zy2 := frozen_of_row _ _ 2 _ _ b1.out
                have y3 := cell_of_row _ _ 3 _ _ _ b1.out
                have zy3 := frozen_of_row _ _ 3 _ _ b1.out
                simp only [List.getElem?_toArray, List.getElem?_cons_zero, List.getElem?_cons_succ] at y0 y1 y2 y3
          
                go_upto_region 30 with fail
                generalize (Wq.setCell ⟨gM, 2, none⟩ (.slice (some ⟨bb, off, none⟩) n1 cv)) = W5 at *
                clear y0 zy0 y1 zy1 y2 zy2 y3 zy3
                have y0 := cell_of_row _ _ 0 _ _ _ b3.out
                have zy0 := frozen_of_row _ _ 0 _ _ b3.out
                have y1 := cell_of_row _ _ 1 _ _ _ b3.out
                have zy1 := frozen_of_row _ _ 1 _ _ b3.out
                have y2 := cell_of_row _ _ 2 _ _ _ b3.out
                have zy2 := frozen_of_row _ _ 2 _ _ b3.out
                have y3 := cell_of_row _ _ 3 _ _ _ b3.out
                have zy3 := frozen_of_row _ _ 3 _ _ b3.out
                simp only [List.getElem?_toArray, List.getElem?_cons_zero, List.getElem?_cons_succ] at y0 y1 y2 y3
                have r0 := cell_of_row _ _ 0 _ _ _ b4.out
                have zr0 := frozen_of_row _ _ 0 _ _ b4.out
                have r1 := cell_of_row _ _ 1 _ _ _ b4.out
                have zr1 := frozen_of_row _ _ 1 _ _ b4.out
                have r2 := cell_of_row _ _ 2 _ _ _ b4.out
                have zr2 := frozen_of_row _ _ 2 _ _ b4.out
                have r3 := cell_of_row _ _ 3 _ _ _ b4.out
                have zr3 := frozen_of_row _ _ 3 _ _ b4.out
                simp only [List.getElem?_toArray, List.getElem?_cons_zero, List.getElem?_cons_succ] at r0 r1 r2 r3
          
                repeat go_step
                refine bodyPost_ret (results_cell_row_tmp2 rfl _ _ (w.heap.size + 1 + 1) 32 #[.int .i64 s.epoch, .int .i64 (s.expect + (k : Int)), .slice (some ⟨bb, off, none⟩) n1 cv, .slice aP pt.length cP] (0, 0) _ rfl (set4 b4.out) Try.underlying32 rfl (by kernel_rfl)) rfl ?_
                rw [HY.out.1, HY.out.2.1, HY.out.2.2, HLE.out, HPT.out, HMS.out]
                obtain ⟨us, vs, -, hpo, hmo, -, hbd⟩ := HG.out
                obtain rfl : n1 = (l.drop k).length := by rw [List.length_drop]; exact HN1'.out.symm
                have hs5 := HB5.out.size
                have hsq := HBQ.out.size
                refine ⟨(some ⟨bb, off, none⟩), cv, aP, cP, _, rfl, fun W hW => ⟨⟨?_, ?_⟩, ?_⟩, set4b (below_chain HBC.out HB5.out) (by omega)⟩
                · exact HRV.out _ ((HOA.out.kept (fun b hb => (hW b (by have := HLA.out b hb; omega) (by rw [set4_size]; exact Nat.lt_of_lt_of_le (HOA.out.lt b hb) hs5)).trans ((set4o (by have := HLA.out b hb; omega)).trans (HB5.out.block b (HOA.out.lt b hb))))).rd)
                · exact (hpo.kept (fun b hb => (hW b (by have := (hbd b (List.mem_append_left _ hb)).1; omega) (by rw [set4_size, HS56.out]; exact Nat.lt_of_lt_of_le (hpo.lt b hb) hsq)).trans ((set4o (by have := (hbd b (List.mem_append_left _ hb)).1; omega)).trans ((HOT.out b (hbd b (List.mem_append_left _ hb)).2).trans (HBQ.out.block b (hpo.lt b hb)))))).rd
                · exact (hmo.kept (fun b hb => (hW b (by have := (hbd b (List.mem_append_right _ hb)).1; omega) (by rw [set4_size, HS56.out]; exact Nat.lt_of_lt_of_le (hmo.lt b hb) hsq)).trans ((set4o (by have := (hbd b (List.mem_append_right _ hb)).1; omega)).trans ((HOT.out b (hbd b (List.mem_append_right _ hb)).2).trans (HBQ.out.block b (hmo.lt b hb)))))).rd
            · generalize hpt : (ptK s l k).1 = pt at *
              generalize hms : (ptK s l k).2 = ms at *
              generalize hn1 : l.length - k = n1 at *
              have HPT := hid hpt
              have HMS := hid hms
              have HN1' := hid hn1
              clear hpt hms hn1
              have HTE : Hid (takeD s p = some k) := hid (by rw [← HRUN.out, ← HN1'.out]; exact runT_end s l k (by omega))
              have HDN : Hid (l.drop k = []) := hid (List.drop_eq_nil_of_le (by omega))
              rw [HDN.out] at HRV
              obtain rfl : n1 = 0 := by have := HN1'.out; omega
              clear hlt
              have HY := hid (take_yes HTK.out HOB.out HTE.out)
              go_wp2_with fail
              go_quiet (fail)
              clear y0 zy0 y1 zy1 y2 zy2 y3 zy3
              have HBQ : Hid (Below wr.heap.size wr (wr.drewN nq)) := hid (below_drewN (Below.refl _ _) nq)
              generalize wr.drewN nq = Wq at *
              have b1 := hid ((HBQ.out.block _ (Array.getElem?_eq_some_iff.1 HBG.out).1).trans HBG.out)
              have b2 := hid ((HBQ.out.block _ (Array.getElem?_eq_some_iff.1 k2r.out).1).trans k2r.out)
              have b3 : Hid ((Wq.setCell ⟨gM, 2, none⟩ (.slice av 0 cv)).heap[gM]? = some (.cells #[.int .i64 s.epoch, .int .i64 (s.expect + (k : Int)), .slice av 0 cv, .slice aP pt.length cP] 32 (0, 0))) := hid (heap_setCell_same _ _ 2 _ _ (.slice av 0 cv) b1.out)
              have b4 := hid ((Below.heap_setCell Wq ⟨gM, 2, none⟩ (.slice av 0 cv) _ hg4).trans b2.out)
              have HOT : Hid (∀ x, x ≠ gM → (Wq.setCell ⟨gM, 2, none⟩ (.slice av 0 cv)).heap[x]? = Wq.heap[x]?) := hid (fun x hx => Below.heap_setCell _ _ _ _ hx)
              have HS56 : Hid ((Wq.setCell ⟨gM, 2, none⟩ (.slice av 0 cv)).heap.size = Wq.heap.size) := hid (by simp)
              have HB5 : Hid (Below wc.heap.size wc (Wq.setCell ⟨gM, 2, none⟩ (.slice av 0 cv))) := hid ((below_chain HBR.out HBQ.out).setCell (p := ⟨gM, 2, none⟩) hgl _)
              have y0 := cell_of_row _ _ 0 _ _ _ b1.out
              have zy0 := frozen_of_row _ _ 0 _ _ b1.out
              have y1 := cell_of_row _ _ 1 _ _ _ b1.out
              have zy1 := frozen_of_row _ _ 1 _ _ b1.out
              have y2 := cell_of_row _ _ 2 _ _ _ b1.out
              have zy2 := frozen_of_row _ _ 2 _ _ b1.out
              have y3 := cell_of_row _ _ 3 _ _ _ b1.out
              have zy3 := frozen_of_row _ _ 3 _ _ b1.out
              simp only [List.getElem?_toArray, List.getElem?_cons_zero, List.getElem?_cons_succ] at y0 y1 y2 y3
          
              go_upto_region 30 with fail
              generalize (Wq.setCell ⟨gM, 2, none⟩ (.slice av 0 cv)) = W5 at *
              clear y0 zy0 y1 zy1 y2 zy2 y3 zy3
              have y0 := cell_of_row _ _ 0 _ _ _ b3.out
              have zy0 := frozen_of_row _ _ 0 _ _ b3.out
              have y1 := cell_of_row _ _ 1 _ _ _ b3.out
              have zy1 := frozen_of_row _ _ 1 _ _ b3.out
              have y2 := cell_of_row _ _ 2 _ _ _ b3.out
              have zy2 := frozen_of_row _ _ 2 _ _ b3.out
              have y3 := cell_of_row _ _ 3 _ _ _ b3.out
              have zy3 := frozen_of_row _ _ 3 _ _ b3.out
              simp only [List.getElem?_toArray, List.getElem?_cons_zero, List.getElem?_cons_succ] at y0 y1 y2 y3
              have r0 := cell_of_row _ _ 0 _ _ _ b4.out
              have zr0 := frozen_of_row _ _ 0 _ _ b4.out
              have r1 := cell_of_row _ _ 1 _ _ _ b4.out
              have zr1 := frozen_of_row _ _ 1 _ _ b4.out
              have r2 := cell_of_row _ _ 2 _ _ _ b4.out
              have zr2 := frozen_of_row _ _ 2 _ _ b4.out
              have r3 := cell_of_row _ _ 3 _ _ _ b4.out
              have zr3 := frozen_of_row _ _ 3 _ _ b4.out
              simp only [List.getElem?_toArray, List.getElem?_cons_zero, List.getElem?_cons_succ] at r0 r1 r2 r3
          
              repeat go_step
              refine bodyPost_ret (results_cell_row_tmp2 rfl _ _ (w.heap.size + 1 + 1) 32 #[.int .i64 s.epoch, .int .i64 (s.expect + (k : Int)), .slice av 0 cv, .slice aP pt.length cP] (0, 0) _ rfl (set4 b4.out) Try.underlying32 rfl (by kernel_rfl)) rfl ?_
              rw [HY.out.1, HY.out.2.1, HY.out.2.2, HLE.out, HPT.out, HMS.out]
              obtain ⟨us, vs, -, hpo, hmo, -, hbd⟩ := HG.out
              rw [HDN.out]
              have hs5 := HB5.out.size
              have hsq := HBQ.out.size
              refine ⟨av, cv, aP, cP, _, rfl, fun W hW => ⟨⟨?_, ?_⟩, ?_⟩, set4b (below_chain HBC.out HB5.out) (by omega)⟩
              · exact HRV.out _ ((HOA.out.kept (fun b hb => (hW b (by have := HLA.out b hb; omega) (by rw [set4_size]; exact Nat.lt_of_lt_of_le (HOA.out.lt b hb) hs5)).trans ((set4o (by have := HLA.out b hb; omega)).trans (HB5.out.block b (HOA.out.lt b hb))))).rd)
              · exact (hpo.kept (fun b hb => (hW b (by have := (hbd b (List.mem_append_left _ hb)).1; omega) (by rw [set4_size, HS56.out]; exact Nat.lt_of_lt_of_le (hpo.lt b hb) hsq)).trans ((set4o (by have := (hbd b (List.mem_append_left _ hb)).1; omega)).trans ((HOT.out b (hbd b (List.mem_append_left _ hb)).2).trans (HBQ.out.block b (hpo.lt b hb)))))).rd
              · exact (hmo.kept (fun b hb => (hW b (by have := (hbd b (List.mem_append_right _ hb)).1; omega) (by rw [set4_size, HS56.out]; exact Nat.lt_of_lt_of_le (hmo.lt b hb) hsq)).trans ((set4o (by have := (hbd b (List.mem_append_right _ hb)).1; omega)).trans ((HOT.out b (hbd b (List.mem_append_right _ hb)).2).trans (HBQ.out.block b (hmo.lt b hb)))))).rd
end Go.Proofs.Ytfaehioeepolhaa
