import Derived.Test.YtmaccmgmcahopaaJBound1
import Derived.Test.YtmaccmgmcahopaaJBound21
import Derived.Test.YtmaccmgmcahopaaJBound28
import Derived.Test.YtmaccmgmcahopaaJBound30
import Derived.Test.YtmaccmgmcahopaaJBound31
import Derived.Test.YtmaccmgmcahopaaJBound39
import Derived.Lib.SlBytesConst
import Derived.Test.YtmaccmgmcahopaaJBound44
import Derived.Test.YtmaccmgmcahopaaJBound37
import Derived.Test.YtmaccmgmcahopaaJBound45
import Derived.Test.YtmaccmgmcahopaaJBound52
import Derived.Deep.RegionHeld3
namespace Go.Proofs.Ytmaccmgmcahopaa
open Go.RowKit
def fcSameB (W : World) : Fct := ⟨fun _ w => Below W.heap.size W w, fun _ _ _ h hb => below_chain h hb⟩
theorem infoCellB : (Try.prog.info? 122).map (fun i => (i.zero, i.size, i.bytes)) = some (some (.agg #[.bool false, .int .i64 0, .slice none 0 0]), 3, 40) := by kernel_rfl
theorem infoByteB : (Try.prog.info? 5).map (fun i => (i.zero, i.size, i.bytes)) = some (some (.int .u8 0), 1, 1) := by kernel_rfl
set_option maxRecDepth 100000 in
set_option maxHeartbeats 16000000 in
theorem bound_walk (a : Option Addr) (len cap : Nat) (w : World) (h : BytesIn w a len cap) :
    Calls Try.prog 3 #[.slice a len cap] w fun e w' => e = .returned (.bool true) ∧ Below w.heap.size w w' := by
  obtain ⟨hm, -, xs, rfl, hx, hr⟩ := h
  by_cases hbig : 1048576 < xs.length
  · have hb2 : decide ((xs.length : Int) > 1048576) = true := decide_eq_true (by omega)
    have hb3 : decide ((1048576 : Int) < (xs.length : Int)) = true := decide_eq_true (by omega)
    clear hx hr
    go_enter Try.func3, Try.ntmps3
    go_wp2
    go_ret
    exact ⟨rfl, Below.refl _ _⟩
  have HR := hid hr
  have HX := hid hx
  have hsm : xs.length ≤ 1048576 := by omega
  have hb2 : decide ((1048576 : Int) < (xs.length : Int)) = false := decide_eq_false (by omega)
  clear hr hx hbig
  go_enter Try.func3, Try.ntmps3
  go_wp2_with fail
  refine (take0_any a cap xs w HR.out HX.out hsm).mono ?_
  rintro e w1 ⟨⟨q, hq, rfl⟩, B1⟩
  obtain ⟨d, hd⟩ : ∃ d : Nat, d = q % 3 := ⟨_, rfl⟩
  have hd3 : d < 3 := by omega
  have hdm : (q : Int).tmod 3 = (d : Int) := by rw [hd]; rfl
  have hdm2 : (q : Int) % 3 = (d : Int) := by omega
  obtain ⟨f, hf⟩ : ∃ f : Bool, f = decide (d < 2) := ⟨_, rfl⟩
  have hf2 : decide ((d : Int) < 2) = f := by rw [hf]; congr 1; exact propext (by omega)
  have HF := hid hf
  clear hd hf
  obtain ⟨i0, hi, hz0, hz1, hz2⟩ := info_parts infoByteB
  go_wp2_with (first | (at_make; refine wpList_make_full _ rfl (.tmp 29) (.tmp 29) 22 rfl w1.heap.size 5 i0 (.int .u8 0) 1 Try.underlying22 hi hz0 hz1 .i64 .i64 _ _ (19975 + d) rfl rfl rfl rfl (by rw [hz2]; omega) (by unfold maxLen; omega) (Nat.le_refl _) ?_) | fail)
  intro w2 ho2 hg2
  have HB2 : Hid (Below w1.heap.size w1 w2) := hid ((Below.refl _ w1).grown hg2 (Nat.le_refl _) (by intro k h; cases h))
  have HO2 := hid ho2
  clear ho2 hg2
  have HZ2 := hid (zs_rd HO2.out (by omega))
  have HN2 := hid (below_new2 w2 (.cells #[.slice (some ⟨w1.heap.size, 0, none⟩) (19975 + d) (19975 + d)] 22) (.cells #[.int .i64 4, .int .i64 0, .int .i64 0, .slice (some ⟨w2.heap.size, 0, none⟩) 1 1] 26))
  have HS2 := hid (heap2 (w := w2) (.cells #[.slice (some ⟨w1.heap.size, 0, none⟩) (19975 + d) (19975 + d)] 22) (.cells #[.int .i64 4, .int .i64 0, .int .i64 0, .slice (some ⟨w2.heap.size, 0, none⟩) 1 1] 26) (Below.refl _ _)).1
  go_wp2_with fail
  generalize ((w2.alloc (.cells #[.slice (some ⟨w1.heap.size, 0, none⟩) (19975 + d) (19975 + d)] 22)).alloc (.cells #[.int .i64 4, .int .i64 0, .int .i64 0, .slice (some ⟨w2.heap.size, 0, none⟩) 1 1] 26)) = w3 at *
  have B3 := below_chain (below_chain B1 HB2.out) HN2.out
  refine (implEnc_any ⟨4, 0, 0, [Zs (19975 + d)]⟩ (some ⟨w2.heap.size, 0, none⟩) 1 w3 (one_rd (HZ2.out.later HN2.out) HS2.out) (by simp [totL, Zs_len]; omega)).mono ?_
  rintro e w4 ⟨aE, cE, rfl, -, bl4⟩
  have B4 := below_chain B3 bl4
  obtain ⟨L, hL⟩ : ∃ L : Nat, L = (encR ⟨4, 0, 0, [Zs (19975 + d)]⟩).length := ⟨_, rfl⟩
  have hLf : decide ((0 : Int) < (L : Int)) = f := by
    rw [HF.out]
    congr 1
    refine propext ⟨fun h => ?_, fun h => ?_⟩
    · have := (bnd_enc (19975 + d)).1 (by omega); unfold evn at this; omega
    · have := (bnd_enc (19975 + d)).2 (by unfold evn; omega); omega
  rw [← hL]
  clear hL
  have hLf2 : decide (0 < L) = f := by rw [← hLf]; congr 1; exact propext (by omega)
  have hff : (f != f) = false := by simp
  have hff2 : (f == f) = true := by simp
  have HN4 := hid (below_new1 w4 (.cells #[.int .i64 1, .int .i64 0, .int .i64 0, .slice none 0 0] 30))
  have HO4 : Hid ((w4.alloc (.cells #[.int .i64 1, .int .i64 0, .int .i64 0, .slice none 0 0] 30)).heap[w4.heap.size]? = some (.cells #[.int .i64 1, .int .i64 0, .int .i64 0, .slice none 0 0] 30 (0, 0))) := hid (heap_alloc_new w4 _)
  go_wp2_with (first | (at_make; refine wpList_make_full _ rfl (.tmp 42) (.tmp 42) 22 rfl (w4.alloc (.cells #[.int .i64 1, .int .i64 0, .int .i64 0, .slice none 0 0] 30)).heap.size 5 i0 (.int .u8 0) 1 Try.underlying22 hi hz0 hz1 .i64 .i64 _ _ (19999 + d) rfl rfl rfl rfl (by rw [hz2]; omega) (by unfold maxLen; omega) (Nat.le_refl _) ?_) | fail)
  intro w6 ho6 hg6
  have HS5 : Hid ((w4.alloc (.cells #[.int .i64 1, .int .i64 0, .int .i64 0, .slice none 0 0] 30)).heap.size = w4.heap.size + 1) := hid (by simp)
  generalize (w4.alloc (.cells #[.int .i64 1, .int .i64 0, .int .i64 0, .slice none 0 0] 30)) = w5 at *
  have HB6 : Hid (Below w5.heap.size w5 w6) := hid ((Below.refl _ w5).grown hg6 (Nat.le_refl _) (by intro k h; cases h))
  have HZ6 := hid (zs_rd ho6 (by omega))
  have B6 := below_chain (below_chain B4 HN4.out) HB6.out
  have HO6 := hid ((HB6.out.block _ (Array.getElem?_eq_some_iff.1 HO4.out).1).trans HO4.out)
  clear ho6 hg6
  have p0 := cell_of_row _ _ 0 _ _ _ HO6.out
  have p1 := cell_of_row _ _ 1 _ _ _ HO6.out
  have p2 := cell_of_row _ _ 2 _ _ _ HO6.out
  have p3 := cell_of_row _ _ 3 _ _ _ HO6.out
  simp only [List.getElem?_toArray, List.getElem?_cons_zero, List.getElem?_cons_succ] at p0 p1 p2 p3
  have HP6 : Hid (Calls Try.prog 8 #[.agg #[.int .i64 1, .int .i64 0, .int .i64 0, .slice none 0 0], .slice (some ⟨w4.heap.size + 1, 0, none⟩) (19999 + d) (19999 + d)] w6 (IoPost0 w6 (pushO bo0 (Zs (19999 + d))) (pushC bo0 (Zs (19999 + d))))) := hid (by
    have hz := HZ6.out
    have h := implPush0_any bo0 none 0 (Zs (19999 + d)) (some ⟨w4.heap.size + 1, 0, none⟩) (19999 + d) w6 (RdSl.empty none) (by rw [Zs_len]; exact hz) (by rw [Zs_len]; omega) (by decide)
    rw [Zs_len] at h
    exact h)
  obtain ⟨R, hR⟩ : ∃ R : PO, R = pushO bo0 (Zs (19999 + d)) := ⟨_, rfl⟩
  obtain ⟨C, hC⟩ : ∃ C : Int, C = pushC bo0 (Zs (19999 + d)) := ⟨_, rfl⟩
  rw [← hR, ← hC] at HP6
  have hCf : (C == 0) = f := by
    rw [hC, HF.out]
    by_cases h : d < 2
    · rw [(bnd_push (n := 19999 + d) (by omega) (by omega)).2, decide_eq_true h]; rfl
    · obtain rfl : d = 2 := by omega
      rw [bnd_push_no]; rfl
  have HRC : Hid (d < 2 → R = bo1 (19999 + d)) := hid (fun h => hR.trans (bnd_push (n := 19999 + d) (by omega) (by omega)).1)
  clear hR hC
  go_wp2_with fail
  refine HP6.out.mono ?_
  rintro e w7 ⟨aP, cP, bsP, rfl, oP, lP, nP, tP, bl7⟩
  have B7 := below_chain B6 bl7
  have HO7 := hid ((bl7.block _ (Array.getElem?_eq_some_iff.1 HO6.out).1).trans HO6.out)
  clear p0 p1 p2 p3
  have k0 := cell_of_row _ _ 0 _ _ _ HO7.out
  have k1 := cell_of_row _ _ 1 _ _ _ HO7.out
  have k2 := cell_of_row _ _ 2 _ _ _ HO7.out
  have k3 := cell_of_row _ _ 3 _ _ _ HO7.out
  have z0 := frozen_of_row _ _ 0 _ _ HO7.out
  have z1 := frozen_of_row _ _ 1 _ _ HO7.out
  have z2 := frozen_of_row _ _ 2 _ _ HO7.out
  have z3 := frozen_of_row _ _ 3 _ _ HO7.out
  simp only [List.getElem?_toArray, List.getElem?_cons_zero, List.getElem?_cons_succ] at k0 k1 k2 k3
  have HOP := hid oP
  have HLP := hid lP
  clear oP lP
  cases f with
  | true =>
    have hInfo := hi
    have hw4 := B4.size
    have hw46 : w4.heap.size < w6.heap.size := (Array.getElem?_eq_some_iff.1 HO6.out).1
    have HO8 : Hid (BxO ((((w7.setCell ⟨w4.heap.size, 0, none⟩ (.int .i64 R.epoch)).setCell ⟨w4.heap.size, 1, none⟩ (.int .i64 R.next)).setCell ⟨w4.heap.size, 2, none⟩ (.int .i64 R.now)).setCell ⟨w4.heap.size, 3, none⟩ (.slice aP R.wait.length cP)) w4.heap.size (outA R aP cP)) := hid (set4 HO7.out)
    have B8 : Below w.heap.size w ((((w7.setCell ⟨w4.heap.size, 0, none⟩ (.int .i64 R.epoch)).setCell ⟨w4.heap.size, 1, none⟩ (.int .i64 R.next)).setCell ⟨w4.heap.size, 2, none⟩ (.int .i64 R.now)).setCell ⟨w4.heap.size, 3, none⟩ (.slice aP R.wait.length cP)) := set4b B7 hw4
    have HRD8 : Hid (RdSl cSnt ((((w7.setCell ⟨w4.heap.size, 0, none⟩ (.int .i64 R.epoch)).setCell ⟨w4.heap.size, 1, none⟩ (.int .i64 R.next)).setCell ⟨w4.heap.size, 2, none⟩ (.int .i64 R.now)).setCell ⟨w4.heap.size, 3, none⟩ (.slice aP R.wait.length cP)) R.wait (.slice aP R.wait.length cP)) := hid (HOP.out.kept (fun b hb => set4o (by have := HLP.out b hb; omega))).rd
    have hd2 : d < 2 := of_decide_eq_true HF.out.symm
    have HPA : Hid (∃ P2 : PO, ∀ (a : Option Addr) (c g : Nat) (w' : World), RdSl cSnt w' R.wait (.slice a R.wait.length c) → RdSl cByte w' (Zs 10000) (.slice (some ⟨g, 0, none⟩) 10000 10000) → Calls Try.prog 8 #[.agg #[.int .i64 R.epoch, .int .i64 R.next, .int .i64 R.now, .slice a R.wait.length c], .slice (some ⟨g, 0, none⟩) 10000 10000] w' (IoPost0 w' P2 0)) := hid ⟨pushO R (Zs 10000), fun a c g w' h1 h2 => by
      have h := implPush0_any R a c (Zs 10000) (some ⟨g, 0, none⟩) 10000 w' h1 (by rw [Zs_len]; exact h2) (by rw [Zs_len]; omega) tP
      rw [Zs_len] at h
      have e : pushC R (Zs 10000) = 0 := by rw [HRC.out hd2]; exact bnd_more (by omega)
      rwa [e] at h⟩
    have HPB : Hid (∀ (a : Option Addr) (c g : Nat) (w' : World), RdSl cSnt w' R.wait (.slice a R.wait.length c) → RdSl cByte w' (Zs 10001) (.slice (some ⟨g, 0, none⟩) 10001 10001) → Calls Try.prog 8 #[.agg #[.int .i64 R.epoch, .int .i64 R.next, .int .i64 R.now, .slice a R.wait.length c], .slice (some ⟨g, 0, none⟩) 10001 10001] w' (IoPost0 w' R 2)) := hid (fun a c g w' h1 h2 => by
      have h := implPush0_any R a c (Zs 10001) (some ⟨g, 0, none⟩) 10001 w' h1 (by rw [Zs_len]; exact h2) (by rw [Zs_len]; omega) tP
      rw [Zs_len] at h
      have e := bnd_full (n := 19999 + d) (by omega)
      rw [← HRC.out hd2] at e
      rwa [e.1, e.2] at h)
    obtain ⟨P2, HPA⟩ := HPA.out
    have HPA := hid HPA
    go_upto_region 16 with fail
    generalize ((((w7.setCell ⟨w4.heap.size, 0, none⟩ (.int .i64 R.epoch)).setCell ⟨w4.heap.size, 1, none⟩ (.int .i64 R.next)).setCell ⟨w4.heap.size, 2, none⟩ (.int .i64 R.now)).setCell ⟨w4.heap.size, 3, none⟩ (.slice aP R.wait.length cP)) = w8 at *
    clear k0 k1 k2 k3 z0 z1 z2 z3
    refine region_turns3 (n := 11) (by kernel_rfl) (by kernel_rfl) ?_ (fun t => { tmps := #[.slice a xs.length cap, undef, .bool false, .int .i64 ((d : Nat) : Int), .bool true, .slice (some ⟨w1.heap.size, 0, none⟩) (19975 + d) (19975 + d), .pointer (some ⟨w2.heap.size + 1, 0, none⟩), .pointer (some ⟨w4.heap.size, 0, none⟩), .slice (some ⟨w4.heap.size + 1, 0, none⟩) (19999 + d) (19999 + d), .int .i64 C, .int .i64 100, t 8, t 10, undef, undef, undef, undef, undef, undef, undef, .slice a xs.length cap, .int .i64 ((xs.length : Nat) : Int), .bool false, .slice a xs.length cap, .int .i64 ((q : Nat) : Int), .int .i64 ((d : Nat) : Int), .int .i64 ((d : Nat) : Int), .bool true, .int .i64 ((d : Nat) : Int), .int .i64 (19975 + ((d : Nat) : Int)), .slice (some ⟨w1.heap.size, 0, none⟩) (19975 + d) (19975 + d), .slice (some ⟨w1.heap.size, 0, none⟩) (19975 + d) (19975 + d), .slice (some ⟨w2.heap.size, 0, none⟩) 1 1, .agg #[.int .i64 4, .int .i64 0, .int .i64 0, .slice (some ⟨w2.heap.size, 0, none⟩) 1 1], .agg #[.int .i64 4, .int .i64 0, .int .i64 0, .slice (some ⟨w2.heap.size, 0, none⟩) 1 1], .slice aE L cE, .int .i64 ((L : Nat) : Int), .bool true, .bool true, .bool false, .agg #[.int .i64 1, .int .i64 0, .int .i64 0, .slice none 0 0], .int .i64 ((d : Nat) : Int), .int .i64 (19999 + ((d : Nat) : Int)), .slice (some ⟨w4.heap.size + 1, 0, none⟩) (19999 + d) (19999 + d), .tuple #[.agg #[.int .i64 R.epoch, .int .i64 R.next, .int .i64 R.now, .slice aP R.wait.length cP], .int .i64 C], .agg #[.int .i64 1, .int .i64 0, .int .i64 0, .slice none 0 0], .slice (some ⟨w4.heap.size + 1, 0, none⟩) (19999 + d) (19999 + d), .tuple #[.agg #[.int .i64 R.epoch, .int .i64 R.next, .int .i64 R.now, .slice aP R.wait.length cP], .int .i64 C], .agg #[.int .i64 R.epoch, .int .i64 R.next, .int .i64 R.now, .slice aP R.wait.length cP], .int .i64 C, .int .i64 C, .bool true, .bool true, .bool false, .bool true, t 5, t 0, t 1, t 2, t 3, t 4, t 6, t 7, undef, undef, undef, undef, undef, undef, undef, undef, undef, undef, undef, undef, undef, undef, undef, undef, undef, undef, undef, undef, undef, undef, undef, undef, undef, undef, undef, undef, undef, undef, undef, undef, undef, undef, undef, undef, undef, undef, undef, undef, undef, undef, undef, undef, undef, undef, undef, undef, undef, undef, undef, undef, undef, undef, undef, undef, undef, undef, undef, undef, undef], defers := [] }) (pgT (.agg #[.int .i64 R.epoch, .int .i64 R.next, .int .i64 R.now, .slice aP R.wait.length cP]) 10000 0) [9] (fcSameB w8) (pgH w8.heap.size 10000 P2 0) w8 w8 (fun k => []) (fun _ => true) (fun _ _ _ => True) [9] (fun _ _ => false) (by kernel_rfl) (fun _ _ _ _ h => by cases h) (fun i hi hn => absurd hi hn) (fun j hj => by rcases (by omega : j = 0 ∨ j = 1 ∨ j = 2 ∨ j = 3 ∨ j = 4 ∨ j = 5 ∨ j = 6 ∨ j = 7 ∨ j = 8 ∨ j = 9 ∨ j = 10) with rfl | rfl | rfl | rfl | rfl | rfl | rfl | rfl | rfl | rfl | rfl <;> rfl) (fun j hj hp => by rcases (by omega : j = 0 ∨ j = 1 ∨ j = 2 ∨ j = 3 ∨ j = 4 ∨ j = 5 ∨ j = 6 ∨ j = 7 ∨ j = 8 ∨ j = 9 ∨ j = 10) with rfl | rfl | rfl | rfl | rfl | rfl | rfl | rfl | rfl | rfl | rfl <;> first | rfl | (exact absurd hp (by decide))) (fun j => ([undef, undef, undef, undef, undef, undef, undef, undef, undef, undef, undef] : List Value).getD j undef) (pgH_start _ _ _ _ _ _) (Below.refl _ w8) (Below.refl _ _) ?_ ?_
    · rfl
    · intro i hi x t wx hxi hsh h0 hbx hgx hdp hall hHx
      rcases (by omega : i = 0 ∨ i = 1 ∨ i = 2 ∨ i = 3 ∨ i = 4 ∨ i = 5 ∨ i = 6 ∨ i = 7 ∨ i = 8 ∨ i = 9 ∨ i = 10) with rfl | rfl | rfl | rfl | rfl | rfl | rfl | rfl | rfl | rfl | rfl
      · 
        try dsimp only
        have y9 := notYet hsh hxi 9 (by kernel_rfl)
        have hz : Below w8.heap.size w8 wx := hgx (by simp [y9])
        have hxx := BxO.later HO8.out hz
        unfold BxO at hxx
        have g0 := cell_of_row _ _ 0 _ _ _ hxx
        have g1 := cell_of_row _ _ 1 _ _ _ hxx
        have g2 := cell_of_row _ _ 2 _ _ _ hxx
        have g3 := cell_of_row _ _ 3 _ _ _ hxx
        simp only [List.getElem?_toArray, List.getElem?_cons_zero, List.getElem?_cons_succ] at g0 g1 g2 g3
        clear y9 hz hxx
        clear h0
        refine wpOp_step rfl (fun K' hK => ?_)
        go_simp
        exact hK _ _ ⟨.agg #[.int .i64 R.epoch, .int .i64 R.next, .int .i64 R.now, .slice aP R.wait.length cP], (by simp [upd]), FX.eq_mk rfl, fun _ => Below.refl _ _, fun h => absurd h (by decide), hbx, hHx.plain (Below.refl _ _) 0 (by omega) _⟩
      · 
        try dsimp only
        clear h0
        refine wpOp_step rfl (fun K' hK => ?_)
        go_simp
        exact hK _ _ ⟨.int .i64 100, (by simp [upd]), FX.eq_mk rfl, fun _ => Below.refl _ _, fun h => absurd h (by decide), hbx, hHx.plain (Below.refl _ _) 1 (by omega) _⟩
      · 
        try dsimp only
        have x1 := depX hdp 1 (by kernel_rfl)
        have d1 := hall 1 (by omega) x1
        have e1 : t 1 = .int .i64 100 := d1.1
        rw [e1]
        clear h0
        refine wpOp_step rfl (fun K' hK => ?_)
        go_simp
        exact hK _ _ ⟨.int .i64 10000, (by simp [upd, e1] <;> rfl), FX.eq_mk rfl, fun _ => Below.refl _ _, fun h => absurd h (by decide), hbx, hHx.plain (Below.refl _ _) 2 (by omega) _⟩
      · 
        try dsimp only
        have x2 := depX hdp 2 (by kernel_rfl)
        have d2 := hall 2 (by omega) x2
        have e2 : t 2 = .int .i64 10000 := d2.1
        rw [e2]
        clear h0
        refine wpOp_step rfl (fun K' hK => ?_)
        refine step_make_B wx rfl (.tmp 58) (.tmp 58) 22 rfl wx.heap.size 5 i0 (.int .u8 0) 1 Try.underlying22 hInfo hz0 hz1 .i64 .i64 _ _ 10000 rfl rfl rfl rfl (by rw [hz2]; omega) (by unfold maxLen; omega) (Nat.le_refl _) ?_
        intro w2x o2 g2
        have b2 : Below wx.heap.size wx w2x := (Below.refl _ wx).grown g2 (Nat.le_refl _) (by intro k h; cases h)
        exact hK _ _ ⟨.slice (some ⟨wx.heap.size, 0, none⟩) 10000 10000, (by simp [upd, e2, Act.put]), FX.is_mk trivial, fun _ => b2, fun h => absurd h (by decide), below_chain hbx b2, hHx.op3 b2 _ (zs_rd o2 (by omega))⟩
      · 
        try dsimp only
        have x0 := depX hdp 0 (by kernel_rfl)
        have d0 := hall 0 (by omega) x0
        have e0 : t 0 = .agg #[.int .i64 R.epoch, .int .i64 R.next, .int .i64 R.now, .slice aP R.wait.length cP] := d0.1
        have x3 := depX hdp 3 (by kernel_rfl)
        have d3 := hall 3 (by omega) x3
        rw [e0]
        have y5 := notYet hsh hxi 5 (by kernel_rfl)
        have y6 := notYet hsh hxi 6 (by kernel_rfl)
        have y9 := notYet hsh hxi 9 (by kernel_rfl)
        have hz : Below w8.heap.size w8 wx := hgx (by simp [y9])
        obtain ⟨gz, ez, rz⟩ := hHx.1 x3 y9
        rw [ez]
        clear h0
        refine wpOp_step rfl (fun K' hK => ?_)
        go_simp
        refine (HPA.out aP cP gz wx (HRD8.out.later (id hz)) rz).mono ?_
        rintro e w99 ⟨aj, cj, bsj, rfl, oj, lj, -, -, bl⟩
        exact hK _ _ ⟨_, (by simp [upd, e0, ez]), FX.is_mk trivial, fun _ => bl, fun h => absurd h (by decide), below_chain hbx bl, hHx.op4 bl y5 y6 y9 aj cj ⟨Nat.le_refl _, fun W hW => (oj.kept (fun y hy => hW y (lj y hy) (oj.lt y hy))).rd⟩⟩
      · 
        try dsimp only
        have x4 := depX hdp 4 (by kernel_rfl)
        have d4 := hall 4 (by omega) x4
        obtain ⟨m1, m2, ai, ci, e4, -⟩ := hHx.2.2 x4
        have e4 : t 4 = .tuple #[.agg #[.int .i64 P2.epoch, .int .i64 P2.next, .int .i64 P2.now, .slice ai P2.wait.length ci], .int .i64 0] := e4
        have e4' := e4
        rw [e4]
        clear h0
        refine wpOp_step rfl (fun K' hK => ?_)
        go_simp
        exact hK _ _ ⟨.tuple #[.agg #[.int .i64 P2.epoch, .int .i64 P2.next, .int .i64 P2.now, .slice ai P2.wait.length ci], .int .i64 0], (by simp [upd, e4]), FX.is_mk trivial, fun _ => Below.refl _ _, fun h => absurd h (by decide), hbx, hHx.op5 (Below.refl _ _) x4 _ e4'.symm⟩
      · 
        try dsimp only
        have x5 := depX hdp 5 (by kernel_rfl)
        have d5 := hall 5 (by omega) x5
        have x4 := reach_up hsh (i := 4) 10 5 (by kernel_rfl) x5
        obtain ⟨m1, m2, ai, ci, e4, e5, -⟩ := hHx.2.2 x4
        have e4 : t 4 = .tuple #[.agg #[.int .i64 P2.epoch, .int .i64 P2.next, .int .i64 P2.now, .slice ai P2.wait.length ci], .int .i64 0] := e4
        have e5 : t 5 = .tuple #[.agg #[.int .i64 P2.epoch, .int .i64 P2.next, .int .i64 P2.now, .slice ai P2.wait.length ci], .int .i64 0] := e5 x5
        rw [e5]
        clear h0
        refine wpOp_step rfl (fun K' hK => ?_)
        go_simp
        exact hK _ _ ⟨.agg #[.int .i64 P2.epoch, .int .i64 P2.next, .int .i64 P2.now, .slice ai P2.wait.length ci], (by simp [upd, e5, e4]), FX.is_mk trivial, fun _ => Below.refl _ _, fun h => absurd h (by decide), hbx, hHx.op6 (Below.refl _ _) x4 _ (by rw [e4]; rfl)⟩
      · 
        try dsimp only
        have x5 := depX hdp 5 (by kernel_rfl)
        have d5 := hall 5 (by omega) x5
        have x4 := reach_up hsh (i := 4) 10 5 (by kernel_rfl) x5
        obtain ⟨m1, m2, ai, ci, e4, e5, -⟩ := hHx.2.2 x4
        have e4 : t 4 = .tuple #[.agg #[.int .i64 P2.epoch, .int .i64 P2.next, .int .i64 P2.now, .slice ai P2.wait.length ci], .int .i64 0] := e4
        have e5 : t 5 = .tuple #[.agg #[.int .i64 P2.epoch, .int .i64 P2.next, .int .i64 P2.now, .slice ai P2.wait.length ci], .int .i64 0] := e5 x5
        rw [e5]
        clear h0
        refine wpOp_step rfl (fun K' hK => ?_)
        go_simp
        exact hK _ _ ⟨.int .i64 0, (by simp [upd, e5, e4]), FX.eq_mk rfl, fun _ => Below.refl _ _, fun h => absurd h (by decide), hbx, hHx.plain (Below.refl _ _) 7 (by omega) _⟩
      · 
        try dsimp only
        have y9 := notYet hsh hxi 9 (by kernel_rfl)
        clear h0
        refine wpOp_step rfl (fun K' hK => ?_)
        go_simp
        exact hK _ _ ⟨.pointer (some ⟨wx.heap.size, 0, none⟩), (by simp [upd]), FX.is_mk trivial, fun _ => below_new1 _ _, fun h => absurd h (by decide), below_chain hbx (below_new1 _ _), hHx.op8 hbx.size y9⟩
      · 
        try dsimp only
        have x8 := depX hdp 8 (by kernel_rfl)
        have d8 := hall 8 (by omega) x8
        have x6 := depX hdp 6 (by kernel_rfl)
        have d6 := hall 6 (by omega) x6
        have x4 := depX hdp 4 (by kernel_rfl)
        have d4 := hall 4 (by omega) x4
        obtain ⟨g, ai, ci, e8, e6, lg, hbz, hfin⟩ := hHx.at9 x4 x6 x8 hxi
        have e6 : t 6 = .agg #[.int .i64 P2.epoch, .int .i64 P2.next, .int .i64 P2.now, .slice ai P2.wait.length ci] := e6
        rw [e8, e6]
        have hbz2 : wx.heap[g]? = some (.cells #[.int .i64 0, .int .i64 0, .int .i64 0, .slice none 0 0] 30 (0, 0)) := hbz
        have k0 := cell_of_row _ _ 0 _ _ _ hbz2
        have zk0 := frozen_of_row _ _ 0 _ _ hbz2
        have k1 := cell_of_row _ _ 1 _ _ _ hbz2
        have zk1 := frozen_of_row _ _ 1 _ _ hbz2
        have k2 := cell_of_row _ _ 2 _ _ _ hbz2
        have zk2 := frozen_of_row _ _ 2 _ _ hbz2
        have k3 := cell_of_row _ _ 3 _ _ _ hbz2
        have zk3 := frozen_of_row _ _ 3 _ _ hbz2
        simp only [List.getElem?_toArray, List.getElem?_cons_zero, List.getElem?_cons_succ] at k0 k1 k2 k3
        have HBZ := hid hbz
        have HFIN := hid hfin
        clear hbz hbz2 hfin hHx
        clear h0
        refine wpOp_step rfl (fun K' hK => ?_)
        go_simp
        exact hK _ _ ⟨undef, (by simp [upd, e8, e6]), FX.is_mk trivial, fun h => absurd (by decide) h, fun _ => trivial, set4b hbx lg, HFIN.out undef HBZ.out⟩
      · 
        try dsimp only
        have x7 := depX hdp 7 (by kernel_rfl)
        have d7 := hall 7 (by omega) x7
        have e7 : t 7 = .int .i64 0 := d7.1
        rw [e7]
        clear h0
        refine wpOp_step rfl (fun K' hK => ?_)
        go_simp
        exact hK _ _ ⟨.int .i64 0, (by simp [upd, e7]), FX.eq_mk rfl, fun _ => Below.refl _ _, fun h => absurd h (by decide), hbx, hHx.plain (Below.refl _ _) 10 (by omega) _⟩
    · intro x t wx hx hbx hall hHx
      obtain ⟨gS, aS, cS, eg, lg, hbox, hrd⟩ := hHx.done (hx 4 (by omega)) (hx 8 (by omega)) (hx 9 (by omega))
      have e10 : t 10 = .int .i64 0 := (hall 10 (by omega)).1
      try dsimp only
      rw [eg, e10]
      generalize t 0 = zS0
      generalize t 1 = zS1
      generalize t 2 = zS2
      generalize t 3 = zS3
      generalize t 4 = zS4
      generalize t 5 = zS5
      generalize t 6 = zS6
      generalize t 7 = zS7
      have HKS : Hid (wx.heap[gS]? = some (.cells #[.int .i64 P2.epoch, .int .i64 P2.next, .int .i64 P2.now, .slice aS P2.wait.length cS] 30 (0, 0))) := hid hbox
      have HRS : Hid (RdSl cSnt wx P2.wait (.slice aS P2.wait.length cS)) := hid hrd
      have HLGS := hid lg
      have HBS := hid hbx
      obtain ⟨WS, hW⟩ : ∃ V, V = wx := ⟨_, rfl⟩
      subst hW
      clear hall hbx hx hHx eg e10 lg hbox hrd
      have B9 := below_chain B8 HBS.out
      have HO9 := hid (BxO.later HO8.out HBS.out)
      go_upto_region 17 with fail
      refine region_turns3 (n := 12) (by kernel_rfl) (by kernel_rfl) ?_ (fun t => { tmps := #[.slice a xs.length cap, undef, .bool false, .int .i64 ((d : Nat) : Int), .bool true, .slice (some ⟨w1.heap.size, 0, none⟩) (19975 + d) (19975 + d), .pointer (some ⟨w2.heap.size + 1, 0, none⟩), .pointer (some ⟨w4.heap.size, 0, none⟩), .slice (some ⟨w4.heap.size + 1, 0, none⟩) (19999 + d) (19999 + d), .int .i64 C, .int .i64 100, .pointer (some ⟨gS, 0, none⟩), .int .i64 0, t 9, t 11, undef, undef, undef, undef, undef, .slice a xs.length cap, .int .i64 ((xs.length : Nat) : Int), .bool false, .slice a xs.length cap, .int .i64 ((q : Nat) : Int), .int .i64 ((d : Nat) : Int), .int .i64 ((d : Nat) : Int), .bool true, .int .i64 ((d : Nat) : Int), .int .i64 (19975 + ((d : Nat) : Int)), .slice (some ⟨w1.heap.size, 0, none⟩) (19975 + d) (19975 + d), .slice (some ⟨w1.heap.size, 0, none⟩) (19975 + d) (19975 + d), .slice (some ⟨w2.heap.size, 0, none⟩) 1 1, .agg #[.int .i64 4, .int .i64 0, .int .i64 0, .slice (some ⟨w2.heap.size, 0, none⟩) 1 1], .agg #[.int .i64 4, .int .i64 0, .int .i64 0, .slice (some ⟨w2.heap.size, 0, none⟩) 1 1], .slice aE L cE, .int .i64 ((L : Nat) : Int), .bool true, .bool true, .bool false, .agg #[.int .i64 1, .int .i64 0, .int .i64 0, .slice none 0 0], .int .i64 ((d : Nat) : Int), .int .i64 (19999 + ((d : Nat) : Int)), .slice (some ⟨w4.heap.size + 1, 0, none⟩) (19999 + d) (19999 + d), .tuple #[.agg #[.int .i64 R.epoch, .int .i64 R.next, .int .i64 R.now, .slice aP R.wait.length cP], .int .i64 C], .agg #[.int .i64 1, .int .i64 0, .int .i64 0, .slice none 0 0], .slice (some ⟨w4.heap.size + 1, 0, none⟩) (19999 + d) (19999 + d), .tuple #[.agg #[.int .i64 R.epoch, .int .i64 R.next, .int .i64 R.now, .slice aP R.wait.length cP], .int .i64 C], .agg #[.int .i64 R.epoch, .int .i64 R.next, .int .i64 R.now, .slice aP R.wait.length cP], .int .i64 C, .int .i64 C, .bool true, .bool true, .bool false, .bool true, zS5, zS0, zS1, zS2, zS3, zS4, zS6, zS7, t 6, t 0, t 1, t 2, t 3, t 4, t 5, t 7, t 8, undef, undef, undef, undef, undef, undef, undef, undef, undef, undef, undef, undef, undef, undef, undef, undef, undef, undef, undef, undef, undef, undef, undef, undef, undef, undef, undef, undef, undef, undef, undef, undef, undef, undef, undef, undef, undef, undef, undef, undef, undef, undef, undef, undef, undef, undef, undef, undef, undef, undef, undef, undef], defers := [] }) (qgT (.agg #[.int .i64 R.epoch, .int .i64 R.next, .int .i64 R.now, .slice aP R.wait.length cP]) 10001 2) [10] (fcSameB WS) (qgH WS.heap.size 10001 R 2) WS WS (fun k => []) (fun _ => true) (fun _ _ _ => True) [10] (fun _ _ => false) (by kernel_rfl) (fun _ _ _ _ h => by cases h) (fun i hi hn => absurd hi hn) (fun j hj => by rcases (by omega : j = 0 ∨ j = 1 ∨ j = 2 ∨ j = 3 ∨ j = 4 ∨ j = 5 ∨ j = 6 ∨ j = 7 ∨ j = 8 ∨ j = 9 ∨ j = 10 ∨ j = 11) with rfl | rfl | rfl | rfl | rfl | rfl | rfl | rfl | rfl | rfl | rfl | rfl <;> rfl) (fun j hj hp => by rcases (by omega : j = 0 ∨ j = 1 ∨ j = 2 ∨ j = 3 ∨ j = 4 ∨ j = 5 ∨ j = 6 ∨ j = 7 ∨ j = 8 ∨ j = 9 ∨ j = 10 ∨ j = 11) with rfl | rfl | rfl | rfl | rfl | rfl | rfl | rfl | rfl | rfl | rfl | rfl <;> first | rfl | (exact absurd hp (by decide))) (fun j => ([undef, undef, undef, undef, undef, undef, undef, undef, undef, undef, undef, undef] : List Value).getD j undef) (qgH_start _ _ _ _ _ _) (Below.refl _ WS) (Below.refl _ _) ?_ ?_
      · rfl
      · intro i hi x t wx hxi hsh h0 hbx hgx hdp hall hHx
        rcases (by omega : i = 0 ∨ i = 1 ∨ i = 2 ∨ i = 3 ∨ i = 4 ∨ i = 5 ∨ i = 6 ∨ i = 7 ∨ i = 8 ∨ i = 9 ∨ i = 10 ∨ i = 11) with rfl | rfl | rfl | rfl | rfl | rfl | rfl | rfl | rfl | rfl | rfl | rfl
        · 
          try dsimp only
          have y9 := notYet hsh hxi 10 (by kernel_rfl)
          have hz : Below WS.heap.size WS wx := hgx (by simp [y9])
          have hxx := BxO.later HO9.out hz
          unfold BxO at hxx
          have g0 := cell_of_row _ _ 0 _ _ _ hxx
          have g1 := cell_of_row _ _ 1 _ _ _ hxx
          have g2 := cell_of_row _ _ 2 _ _ _ hxx
          have g3 := cell_of_row _ _ 3 _ _ _ hxx
          simp only [List.getElem?_toArray, List.getElem?_cons_zero, List.getElem?_cons_succ] at g0 g1 g2 g3
          clear y9 hz hxx
          clear h0
          refine wpOp_step rfl (fun K' hK => ?_)
          go_simp
          exact hK _ _ ⟨.agg #[.int .i64 R.epoch, .int .i64 R.next, .int .i64 R.now, .slice aP R.wait.length cP], (by simp [upd]), FX.eq_mk rfl, fun _ => Below.refl _ _, fun h => absurd h (by decide), hbx, hHx.plain (Below.refl _ _) 0 (by omega) _⟩
        · 
          try dsimp only
          clear h0
          refine wpOp_step rfl (fun K' hK => ?_)
          go_simp
          exact hK _ _ ⟨.int .i64 100, (by simp [upd]), FX.eq_mk rfl, fun _ => Below.refl _ _, fun h => absurd h (by decide), hbx, hHx.plain (Below.refl _ _) 1 (by omega) _⟩
        · 
          try dsimp only
          have x1 := depX hdp 1 (by kernel_rfl)
          have d1 := hall 1 (by omega) x1
          have e1 : t 1 = .int .i64 100 := d1.1
          rw [e1]
          clear h0
          refine wpOp_step rfl (fun K' hK => ?_)
          go_simp
          exact hK _ _ ⟨.int .i64 10000, (by simp [upd, e1] <;> rfl), FX.eq_mk rfl, fun _ => Below.refl _ _, fun h => absurd h (by decide), hbx, hHx.plain (Below.refl _ _) 2 (by omega) _⟩
        · 
          try dsimp only
          have x2 := depX hdp 2 (by kernel_rfl)
          have d2 := hall 2 (by omega) x2
          have e2 : t 2 = .int .i64 10000 := d2.1
          rw [e2]
          clear h0
          refine wpOp_step rfl (fun K' hK => ?_)
          go_simp
          exact hK _ _ ⟨.int .i64 10001, (by simp [upd, e2] <;> rfl), FX.eq_mk rfl, fun _ => Below.refl _ _, fun h => absurd h (by decide), hbx, hHx.plain (Below.refl _ _) 3 (by omega) _⟩
        · 
          try dsimp only
          have x3 := depX hdp 3 (by kernel_rfl)
          have d3 := hall 3 (by omega) x3
          have e3 : t 3 = .int .i64 10001 := d3.1
          rw [e3]
          clear h0
          refine wpOp_step rfl (fun K' hK => ?_)
          refine step_make_B wx rfl (.tmp 67) (.tmp 67) 22 rfl wx.heap.size 5 i0 (.int .u8 0) 1 Try.underlying22 hInfo hz0 hz1 .i64 .i64 _ _ 10001 rfl rfl rfl rfl (by rw [hz2]; omega) (by unfold maxLen; omega) (Nat.le_refl _) ?_
          intro w2x o2 g2
          have b2 : Below wx.heap.size wx w2x := (Below.refl _ wx).grown g2 (Nat.le_refl _) (by intro k h; cases h)
          exact hK _ _ ⟨.slice (some ⟨wx.heap.size, 0, none⟩) 10001 10001, (by simp [upd, e3, Act.put]), FX.is_mk trivial, fun _ => b2, fun h => absurd h (by decide), below_chain hbx b2, hHx.op3 b2 _ (zs_rd o2 (by omega))⟩
        · 
          try dsimp only
          have x0 := depX hdp 0 (by kernel_rfl)
          have d0 := hall 0 (by omega) x0
          have e0 : t 0 = .agg #[.int .i64 R.epoch, .int .i64 R.next, .int .i64 R.now, .slice aP R.wait.length cP] := d0.1
          have x4 := depX hdp 4 (by kernel_rfl)
          have d4 := hall 4 (by omega) x4
          rw [e0]
          have y5 := notYet hsh hxi 6 (by kernel_rfl)
          have y6 := notYet hsh hxi 7 (by kernel_rfl)
          have y9 := notYet hsh hxi 10 (by kernel_rfl)
          have hz : Below WS.heap.size WS wx := hgx (by simp [y9])
          obtain ⟨gz, ez, rz⟩ := hHx.1 x4 y9
          rw [ez]
          clear h0
          refine wpOp_step rfl (fun K' hK => ?_)
          go_simp
          refine (HPB.out aP cP gz wx (HRD8.out.later (below_chain HBS.out hz)) rz).mono ?_
          rintro e w99 ⟨aj, cj, bsj, rfl, oj, lj, -, -, bl⟩
          exact hK _ _ ⟨_, (by simp [upd, e0, ez]), FX.is_mk trivial, fun _ => bl, fun h => absurd h (by decide), below_chain hbx bl, hHx.op4 bl y5 y6 y9 aj cj ⟨Nat.le_refl _, fun W hW => (oj.kept (fun y hy => hW y (lj y hy) (oj.lt y hy))).rd⟩⟩
        · 
          try dsimp only
          have x5 := depX hdp 5 (by kernel_rfl)
          have d5 := hall 5 (by omega) x5
          obtain ⟨m1, m2, ai, ci, e4, -⟩ := hHx.2.2 x5
          have e4 : t 5 = .tuple #[.agg #[.int .i64 R.epoch, .int .i64 R.next, .int .i64 R.now, .slice ai R.wait.length ci], .int .i64 2] := e4
          have e4' := e4
          rw [e4]
          clear h0
          refine wpOp_step rfl (fun K' hK => ?_)
          go_simp
          exact hK _ _ ⟨.tuple #[.agg #[.int .i64 R.epoch, .int .i64 R.next, .int .i64 R.now, .slice ai R.wait.length ci], .int .i64 2], (by simp [upd, e4]), FX.is_mk trivial, fun _ => Below.refl _ _, fun h => absurd h (by decide), hbx, hHx.op5 (Below.refl _ _) x5 _ e4'.symm⟩
        · 
          try dsimp only
          have x6 := depX hdp 6 (by kernel_rfl)
          have d6 := hall 6 (by omega) x6
          have x5 := reach_up hsh (i := 5) 10 6 (by kernel_rfl) x6
          obtain ⟨m1, m2, ai, ci, e4, e5, -⟩ := hHx.2.2 x5
          have e4 : t 5 = .tuple #[.agg #[.int .i64 R.epoch, .int .i64 R.next, .int .i64 R.now, .slice ai R.wait.length ci], .int .i64 2] := e4
          have e5 : t 6 = .tuple #[.agg #[.int .i64 R.epoch, .int .i64 R.next, .int .i64 R.now, .slice ai R.wait.length ci], .int .i64 2] := e5 x6
          rw [e5]
          clear h0
          refine wpOp_step rfl (fun K' hK => ?_)
          go_simp
          exact hK _ _ ⟨.agg #[.int .i64 R.epoch, .int .i64 R.next, .int .i64 R.now, .slice ai R.wait.length ci], (by simp [upd, e5, e4]), FX.is_mk trivial, fun _ => Below.refl _ _, fun h => absurd h (by decide), hbx, hHx.op6 (Below.refl _ _) x5 _ (by rw [e4]; rfl)⟩
        · 
          try dsimp only
          have x6 := depX hdp 6 (by kernel_rfl)
          have d6 := hall 6 (by omega) x6
          have x5 := reach_up hsh (i := 5) 10 6 (by kernel_rfl) x6
          obtain ⟨m1, m2, ai, ci, e4, e5, -⟩ := hHx.2.2 x5
          have e4 : t 5 = .tuple #[.agg #[.int .i64 R.epoch, .int .i64 R.next, .int .i64 R.now, .slice ai R.wait.length ci], .int .i64 2] := e4
          have e5 : t 6 = .tuple #[.agg #[.int .i64 R.epoch, .int .i64 R.next, .int .i64 R.now, .slice ai R.wait.length ci], .int .i64 2] := e5 x6
          rw [e5]
          clear h0
          refine wpOp_step rfl (fun K' hK => ?_)
          go_simp
          exact hK _ _ ⟨.int .i64 2, (by simp [upd, e5, e4]), FX.eq_mk rfl, fun _ => Below.refl _ _, fun h => absurd h (by decide), hbx, hHx.plain (Below.refl _ _) 8 (by omega) _⟩
        · 
          try dsimp only
          have y9 := notYet hsh hxi 10 (by kernel_rfl)
          clear h0
          refine wpOp_step rfl (fun K' hK => ?_)
          go_simp
          exact hK _ _ ⟨.pointer (some ⟨wx.heap.size, 0, none⟩), (by simp [upd]), FX.is_mk trivial, fun _ => below_new1 _ _, fun h => absurd h (by decide), below_chain hbx (below_new1 _ _), hHx.op8 hbx.size y9⟩
        · 
          try dsimp only
          have x9 := depX hdp 9 (by kernel_rfl)
          have d9 := hall 9 (by omega) x9
          have x7 := depX hdp 7 (by kernel_rfl)
          have d7 := hall 7 (by omega) x7
          have x5 := depX hdp 5 (by kernel_rfl)
          have d5 := hall 5 (by omega) x5
          obtain ⟨g, ai, ci, e8, e6, lg, hbz, hfin⟩ := hHx.at9 x5 x7 x9 hxi
          have e6 : t 7 = .agg #[.int .i64 R.epoch, .int .i64 R.next, .int .i64 R.now, .slice ai R.wait.length ci] := e6
          rw [e8, e6]
          have hbz2 : wx.heap[g]? = some (.cells #[.int .i64 0, .int .i64 0, .int .i64 0, .slice none 0 0] 30 (0, 0)) := hbz
          have k0 := cell_of_row _ _ 0 _ _ _ hbz2
          have zk0 := frozen_of_row _ _ 0 _ _ hbz2
          have k1 := cell_of_row _ _ 1 _ _ _ hbz2
          have zk1 := frozen_of_row _ _ 1 _ _ hbz2
          have k2 := cell_of_row _ _ 2 _ _ _ hbz2
          have zk2 := frozen_of_row _ _ 2 _ _ hbz2
          have k3 := cell_of_row _ _ 3 _ _ _ hbz2
          have zk3 := frozen_of_row _ _ 3 _ _ hbz2
          simp only [List.getElem?_toArray, List.getElem?_cons_zero, List.getElem?_cons_succ] at k0 k1 k2 k3
          have HBZ := hid hbz
          have HFIN := hid hfin
          clear hbz hbz2 hfin hHx
          clear h0
          refine wpOp_step rfl (fun K' hK => ?_)
          go_simp
          exact hK _ _ ⟨undef, (by simp [upd, e8, e6]), FX.is_mk trivial, fun h => absurd (by decide) h, fun _ => trivial, set4b hbx lg, HFIN.out undef HBZ.out⟩
        · 
          try dsimp only
          have x8 := depX hdp 8 (by kernel_rfl)
          have d8 := hall 8 (by omega) x8
          have e8 : t 8 = .int .i64 2 := d8.1
          rw [e8]
          clear h0
          refine wpOp_step rfl (fun K' hK => ?_)
          go_simp
          exact hK _ _ ⟨.int .i64 2, (by simp [upd, e8]), FX.eq_mk rfl, fun _ => Below.refl _ _, fun h => absurd h (by decide), hbx, hHx.plain (Below.refl _ _) 11 (by omega) _⟩
      · intro x t wx hx hbx hall hHx
        obtain ⟨gQ, aQ, cQ, eg, lg, hbox, hrd⟩ := hHx.done (hx 5 (by omega)) (hx 9 (by omega)) (hx 10 (by omega))
        have e10 : t 11 = .int .i64 2 := (hall 11 (by omega)).1
        try dsimp only
        rw [eg, e10]
        generalize t 0 = zQ0
        generalize t 1 = zQ1
        generalize t 2 = zQ2
        generalize t 3 = zQ3
        generalize t 4 = zQ4
        generalize t 5 = zQ5
        generalize t 6 = zQ6
        generalize t 7 = zQ7
        generalize t 8 = zQ8
        have HKQ : Hid (wx.heap[gQ]? = some (.cells #[.int .i64 R.epoch, .int .i64 R.next, .int .i64 R.now, .slice aQ R.wait.length cQ] 30 (0, 0))) := hid hbox
        have HRQ : Hid (RdSl cSnt wx R.wait (.slice aQ R.wait.length cQ)) := hid hrd
        have HLGQ := hid lg
        have HBQ := hid hbx
        obtain ⟨WQ, hW⟩ : ∃ V, V = wx := ⟨_, rfl⟩
        subst hW
        clear hall hbx hx hHx eg e10 lg hbox hrd
        have B10 := below_chain B9 HBQ.out
        have HO10 := hid (BxO.later HO9.out HBQ.out)
        have hoq := HO10.out
        unfold BxO at hoq
        have p0 := cell_of_row _ _ 0 _ _ _ hoq
        have p1 := cell_of_row _ _ 1 _ _ _ hoq
        have p2 := cell_of_row _ _ 2 _ _ _ hoq
        have p3 := cell_of_row _ _ 3 _ _ _ hoq
        simp only [List.getElem?_toArray, List.getElem?_cons_zero, List.getElem?_cons_succ] at p0 p1 p2 p3
        have q0 := cell_of_row _ _ 0 _ _ _ HKQ.out
        have q1 := cell_of_row _ _ 1 _ _ _ HKQ.out
        have q2 := cell_of_row _ _ 2 _ _ _ HKQ.out
        have q3 := cell_of_row _ _ 3 _ _ _ HKQ.out
        simp only [List.getElem?_toArray, List.getElem?_cons_zero, List.getElem?_cons_succ] at q0 q1 q2 q3
        clear hoq
        go_wp2_with fail
        refine (sameOut_any R aQ aP cQ cP WQ HRQ.out (HRD8.out.later (below_chain HBS.out HBQ.out)) tP).mono ?_
        rintro e w11 ⟨rfl, bl11⟩
        have B11 := below_chain B10 bl11
        clear p0 p1 p2 p3 q0 q1 q2 q3
        go_wp2_with (first | (at_make; refine wpList_make_full _ rfl (.tmp 85) (.tmp 85) 22 rfl w11.heap.size 5 i0 (.int .u8 0) 1 Try.underlying22 hi hz0 hz1 .i64 .i64 _ _ (99 + d) rfl rfl rfl rfl (by rw [hz2]; omega) (by unfold maxLen; omega) (Nat.le_refl _) ?_) | fail)
        intro w12 ho12 hg12
        have HB12 : Hid (Below w11.heap.size w11 w12) := hid ((Below.refl _ w11).grown hg12 (Nat.le_refl _) (by intro k h; cases h))
        have HZ12 := hid (zs_rd ho12 (by omega))
        have B12 := below_chain B11 HB12.out
        clear ho12 hg12
        have HN12 := hid (below_new1 w12 (.cells #[.int .i64 1, .int .i64 1, .int .i64 0, .int .i64 0, .bool false, .slice (some ⟨w11.heap.size, 0, none⟩) (99 + d) (99 + d)] 35))
        go_wp2_with fail
        generalize (w12.alloc (.cells #[.int .i64 1, .int .i64 1, .int .i64 0, .int .i64 0, .bool false, .slice (some ⟨w11.heap.size, 0, none⟩) (99 + d) (99 + d)] 35)) = w13 at *
        have B13 := below_chain B12 HN12.out
        have HPK : Hid (Calls Try.prog 10 #[.agg #[.int .i64 1, .int .i64 1, .int .i64 0, .int .i64 0, .bool false, .slice (some ⟨w11.heap.size, 0, none⟩) (99 + d) (99 + d)]] w13 (EncPost w13 (pktR ⟨1, 1, 0, 0, false, Zs (99 + d)⟩))) := hid (by
          have hz := HZ12.out.later HN12.out
          have h := implPkt_any ⟨1, 1, 0, 0, false, Zs (99 + d)⟩ (some ⟨w11.heap.size, 0, none⟩) (99 + d) w13 (by show RdSl cByte w13 (Zs (99 + d)) (.slice _ (Zs (99 + d)).length _); rw [Zs_len]; exact hz)
          dsimp only at h
          rw [Zs_len] at h
          exact h)
        obtain ⟨PL, hPL⟩ : ∃ PL : Nat, PL = (pktR ⟨1, 1, 0, 0, false, Zs (99 + d)⟩).length := ⟨_, rfl⟩
        have hPf : decide (0 < PL) = true := by
          rw [HF.out]
          congr 1
          exact propext ((hPL ▸ bnd_pkt (99 + d) (by omega)).trans (by omega))
        have hPf2 : decide ((0 : Int) < (PL : Int)) = true := by rw [← hPf]; congr 1; exact propext (by omega)
        refine HPK.out.mono ?_
        rintro e w14 ⟨aF, cF, rfl, -, bl14⟩
        rw [← hPL]
        clear hPL
        have B14 := below_chain B13 bl14
        go_wp2
        obtain ⟨j0, hj, hy0, hy1, hy2⟩ := info_parts infoSlT
        go_loopw [16, 17] (fun v i wr => ∃ k : Nat, k ≤ 39 + d ∧ i = .int .i64 k ∧ Txts w14.heap.size wr v (oneT k) ∧ Below w14.heap.size w14 wr) (fun _ i _ => 39 + d - (intOf i).toNat)
        case atStart => exact ⟨0, Nat.zero_le _, rfl, Txts.nil _ w14, Below.refl _ _⟩
        case round =>
          obtain ⟨k, hk, rfl, htx, hbe⟩ := hrel
          have HX := hid htx
          have HB := hid hbe
          clear htx hbe
          by_cases hlt : k < 39 + d
          · have hki : (k : Int) < 39 + (d : Int) := by omega
            have hki2 : decide ((k : Int) < 39 + (d : Int)) = true := decide_eq_true hki
            have hkw : IntKind.u8.wrap (k : Int) = (k : Int) := by simp [IntKind.wrap, IntKind.bits, IntKind.signed]; omega
            obtain ⟨vals, how, hel⟩ := HX.out
            have HO := hid how
            have HEL := hid hel
            rw [oneT_len] at how
            have HW := hid how
            have HU : Hid ((wr.alloc (.cells #[.int .u8 (k : Int)] 5)).ownsRow w14.heap.size 5 1 (.slice (some ⟨wr.heap.size, 0, none⟩) 1 1) 1 (byt [k % 256])) := hid (by
              have h := own_one wr (.int .u8 (k : Int)) 5 HB.out.size
              have e : byt [k % 256] = [.int .u8 (k : Int)] := by rw [Nat.mod_eq_of_lt (by omega)]; rfl
              rw [e]
              exact h)
            clear how hel
            go_wp2_with (first | (at_builtin; refine wpList_append_own _ rfl _ _ 24 rfl w14.heap.size 22 j0 (.slice none 0 0) 1 24 Try.underlying24 hj hy0 hy1 hy2 rfl (by decide) _ k _ rfl ((HW.out.alloc _).alloc _) ⟨wr.heap.size + 1, 0, none⟩ 1 1 [.slice (some ⟨wr.heap.size, 0, none⟩) 1 1] rfl rfl (cell_one_new2 _ _ _ _) (one_cell rfl) (by unfold maxLen; omega) (by omega) (by have := HB.out.size; simp; omega) ?_))
            intro v' w9 hown' hgrow _
            have HX9 : Hid (Txts w14.heap.size w9 v' (oneT (k + 1))) := hid (by
              rw [oneT_succ]
              refine Txts.snoc ((HO.out.alloc _).alloc _) (fun i h => ?_) (HU.out.alloc _) (by simp; omega) (by rw [oneT_len]; exact hown') hgrow
              obtain ⟨u', h1, h2, h3⟩ := HEL.out i h
              exact ⟨u', h1, (h2.alloc _).alloc _, h3⟩)
            have HB9 : Hid (Below w14.heap.size w14 w9) := hid (by
              have hs := HB.out.size
              refine (((HB.out.alloc hs _).alloc (by simp; omega) _).grown hgrow (by simp; omega) (fun p hp => (own_in HO.out hp).1)))
            clear hown' hgrow
            go_wp2
            go_roundw
            case rel => exact ⟨k + 1, by omega, by go_num, HX9.out, HB9.out⟩
            case measure => simp [intOf]; omega
          · have hkd : k = 39 + d := by omega
            have hki2 : decide ((k : Int) < 39 + (d : Int)) = false := decide_eq_false (by omega)
            have hki : ¬ (k : Int) < 39 + (d : Int) := by omega
            have HT : Hid (totL List.length (oneT k) ≤ 1048576) := hid (hkd ▸ oneT_tot hd3)
            have HD : Hid (dictOK (oneT k) = true) := hid ((hkd ▸ bnd_dict hd3).trans HF.out.symm)
            clear hkd hlt hk
            obtain ⟨aV, cV, hv⟩ := HX.out.len
            subst hv
            have B15 := below_chain B14 HB.out
            go_wp2_with fail
            refine (implDict_any aV cV (oneT k) wr HX.out.rd HT.out).mono ?_
            rintro e w16 ⟨rfl, bl16⟩
            rw [HD.out]
            have B16 := below_chain B15 bl16
            have HN16 := hid (below_new2 w16 (.cells #[.int .u8 97] 5 (1, 2)) (.cells #[.slice (some ⟨w16.heap.size, 0, none⟩) 1 1, .int .i64 0, .int .i64 0] 39))
            have HK16 := hid (heap2 (w := w16) (.cells #[.int .u8 97] 5 (1, 2)) (.cells #[.slice (some ⟨w16.heap.size, 0, none⟩) 1 1, .int .i64 0, .int .i64 0] 39) (Below.refl _ _))
            have hs17 : ((w16.alloc (.cells #[.int .u8 97] 5 (1, 2))).alloc (.cells #[.slice (some ⟨w16.heap.size, 0, none⟩) 1 1, .int .i64 0, .int .i64 0] 39)).heap.size = w16.heap.size + 2 := by simp
            obtain ⟨c0, hc, hc0, hc1, hc2⟩ := info_parts infoCellB
            have hs := HB.out.size
            have hcv : (convert 22 22 (.slice (some ⟨w16.heap.size, 0, none⟩) 1 1)).run Try.prog (w16.alloc (.cells #[.int .u8 97] 5)) = .ok (.slice (some ⟨w16.heap.size, 0, none⟩) 1 1) (w16.alloc (.cells #[.int .u8 97] 5 (1, 2))) := Lib.run_convert_bytes_const (P := Try.prog) w16 22 5 #[.int .u8 97] 1 1 Try.underlying22 Try.underlying5
            go_wp2_with (first | (at_make; refine wpList_make_full _ rfl (.tmp 118) (.tmp 118) 42 rfl ((w16.alloc (.cells #[.int .u8 97] 5 (1, 2))).alloc (.cells #[.slice (some ⟨w16.heap.size, 0, none⟩) 1 1, .int .i64 0, .int .i64 0] 39)).heap.size 122 c0 (.agg #[.bool false, .int .i64 0, .slice none 0 0]) 3 Try.underlying42 hc hc0 hc1 .i64 .i64 _ _ (99 + d) rfl rfl rfl rfl (by rw [hc2]; omega) (by unfold maxLen; omega) (Nat.le_refl _) ?_) | fail)
            intro w18 ho18 hg18
            have HB18 : Hid (Below ((w16.alloc (.cells #[.int .u8 97] 5 (1, 2))).alloc (.cells #[.slice (some ⟨w16.heap.size, 0, none⟩) 1 1, .int .i64 0, .int .i64 0] 39)).heap.size ((w16.alloc (.cells #[.int .u8 97] 5 (1, 2))).alloc (.cells #[.slice (some ⟨w16.heap.size, 0, none⟩) 1 1, .int .i64 0, .int .i64 0] 39)) w18) := hid ((Below.refl _ _).grown hg18 (Nat.le_refl _) (by intro k h; cases h))
            have HC18 := hid (zc_rd ho18)
            have HF18 := hid ((field_rd HK16.out.2 HK16.out.1).later HB18.out)
            have B18 := below_chain (below_chain B16 HN16.out) HB18.out
            clear ho18 hg18 hs17 hcv
            have HTB : Hid (Calls Try.prog 12 #[.slice (some ⟨w16.heap.size + 1, 0, none⟩) 1 1, .agg #[.int .i64 (99 + (d : Int)), .slice (some ⟨w16.heap.size + 2, 0, none⟩) (99 + d) (99 + d)]] w18 fun e w' => e = .returned (.bool true) ∧ Below w18.heap.size w18 w') := hid (by
              have h := implTable_any (some ⟨w16.heap.size + 1, 0, none⟩) (some ⟨w16.heap.size + 2, 0, none⟩) 1 (99 + d) [⟨[97], 0, 0⟩] (zTab (99 + d)) w18 HF18.out (by show RdSl cCell w18 (List.replicate (99 + d) _) (.slice _ (List.replicate (99 + d) _).length _); rw [List.length_replicate]; exact HC18.out) (zTab_tot hd3)
              rw [bnd_tab hd3, ← HF.out] at h
              have e : (zTab (99 + d)).cells.length = 99 + d := by simp [zTab]
              have e2 : (zTab (99 + d)).rows = 99 + (d : Int) := by simp [zTab]
              rw [e, e2] at h
              exact h)
            go_wp2_with fail
            refine HTB.out.mono ?_
            rintro e w19 ⟨rfl, bl19⟩
            have B19 := below_chain B18 bl19
            go_wp2
            go_ret
            exact ⟨rfl, B19⟩
  | false =>
    have hInfo := hi
    have hw4 := B4.size
    have hw46 : w4.heap.size < w6.heap.size := (Array.getElem?_eq_some_iff.1 HO6.out).1
    have HO8 : Hid (BxO ((((w7.setCell ⟨w4.heap.size, 0, none⟩ (.int .i64 R.epoch)).setCell ⟨w4.heap.size, 1, none⟩ (.int .i64 R.next)).setCell ⟨w4.heap.size, 2, none⟩ (.int .i64 R.now)).setCell ⟨w4.heap.size, 3, none⟩ (.slice aP R.wait.length cP)) w4.heap.size (outA R aP cP)) := hid (set4 HO7.out)
    have B8 : Below w.heap.size w ((((w7.setCell ⟨w4.heap.size, 0, none⟩ (.int .i64 R.epoch)).setCell ⟨w4.heap.size, 1, none⟩ (.int .i64 R.next)).setCell ⟨w4.heap.size, 2, none⟩ (.int .i64 R.now)).setCell ⟨w4.heap.size, 3, none⟩ (.slice aP R.wait.length cP)) := set4b B7 hw4
    have HRD8 : Hid (RdSl cSnt ((((w7.setCell ⟨w4.heap.size, 0, none⟩ (.int .i64 R.epoch)).setCell ⟨w4.heap.size, 1, none⟩ (.int .i64 R.next)).setCell ⟨w4.heap.size, 2, none⟩ (.int .i64 R.now)).setCell ⟨w4.heap.size, 3, none⟩ (.slice aP R.wait.length cP)) R.wait (.slice aP R.wait.length cP)) := hid (HOP.out.kept (fun b hb => set4o (by have := HLP.out b hb; omega))).rd
    go_upto_region 20 with fail
    generalize ((((w7.setCell ⟨w4.heap.size, 0, none⟩ (.int .i64 R.epoch)).setCell ⟨w4.heap.size, 1, none⟩ (.int .i64 R.next)).setCell ⟨w4.heap.size, 2, none⟩ (.int .i64 R.now)).setCell ⟨w4.heap.size, 3, none⟩ (.slice aP R.wait.length cP)) = w8 at *
    clear k0 k1 k2 k3 z0 z1 z2 z3
    go_wp2_with (first | (at_make; refine wpList_make_full _ rfl (.tmp 85) (.tmp 85) 22 rfl w8.heap.size 5 i0 (.int .u8 0) 1 Try.underlying22 hi hz0 hz1 .i64 .i64 _ _ (99 + d) rfl rfl rfl rfl (by rw [hz2]; omega) (by unfold maxLen; omega) (Nat.le_refl _) ?_) | fail)
    intro w12 ho12 hg12
    have HB12 : Hid (Below w8.heap.size w8 w12) := hid ((Below.refl _ w8).grown hg12 (Nat.le_refl _) (by intro k h; cases h))
    have HZ12 := hid (zs_rd ho12 (by omega))
    have B12 := below_chain B8 HB12.out
    clear ho12 hg12
    have HN12 := hid (below_new1 w12 (.cells #[.int .i64 1, .int .i64 1, .int .i64 0, .int .i64 0, .bool false, .slice (some ⟨w8.heap.size, 0, none⟩) (99 + d) (99 + d)] 35))
    go_wp2_with fail
    generalize (w12.alloc (.cells #[.int .i64 1, .int .i64 1, .int .i64 0, .int .i64 0, .bool false, .slice (some ⟨w8.heap.size, 0, none⟩) (99 + d) (99 + d)] 35)) = w13 at *
    have B13 := below_chain B12 HN12.out
    have HPK : Hid (Calls Try.prog 10 #[.agg #[.int .i64 1, .int .i64 1, .int .i64 0, .int .i64 0, .bool false, .slice (some ⟨w8.heap.size, 0, none⟩) (99 + d) (99 + d)]] w13 (EncPost w13 (pktR ⟨1, 1, 0, 0, false, Zs (99 + d)⟩))) := hid (by
      have hz := HZ12.out.later HN12.out
      have h := implPkt_any ⟨1, 1, 0, 0, false, Zs (99 + d)⟩ (some ⟨w8.heap.size, 0, none⟩) (99 + d) w13 (by show RdSl cByte w13 (Zs (99 + d)) (.slice _ (Zs (99 + d)).length _); rw [Zs_len]; exact hz)
      dsimp only at h
      rw [Zs_len] at h
      exact h)
    obtain ⟨PL, hPL⟩ : ∃ PL : Nat, PL = (pktR ⟨1, 1, 0, 0, false, Zs (99 + d)⟩).length := ⟨_, rfl⟩
    have hPf : decide (0 < PL) = false := by
      rw [HF.out]
      congr 1
      exact propext ((hPL ▸ bnd_pkt (99 + d) (by omega)).trans (by omega))
    have hPf2 : decide ((0 : Int) < (PL : Int)) = false := by rw [← hPf]; congr 1; exact propext (by omega)
    refine HPK.out.mono ?_
    rintro e w14 ⟨aF, cF, rfl, -, bl14⟩
    rw [← hPL]
    clear hPL
    have B14 := below_chain B13 bl14
    go_wp2
    obtain ⟨j0, hj, hy0, hy1, hy2⟩ := info_parts infoSlT
    go_loopw [16, 17] (fun v i wr => ∃ k : Nat, k ≤ 39 + d ∧ i = .int .i64 k ∧ Txts w14.heap.size wr v (oneT k) ∧ Below w14.heap.size w14 wr) (fun _ i _ => 39 + d - (intOf i).toNat)
    case atStart => exact ⟨0, Nat.zero_le _, rfl, Txts.nil _ w14, Below.refl _ _⟩
    case round =>
      obtain ⟨k, hk, rfl, htx, hbe⟩ := hrel
      have HX := hid htx
      have HB := hid hbe
      clear htx hbe
      by_cases hlt : k < 39 + d
      · have hki : (k : Int) < 39 + (d : Int) := by omega
        have hki2 : decide ((k : Int) < 39 + (d : Int)) = true := decide_eq_true hki
        have hkw : IntKind.u8.wrap (k : Int) = (k : Int) := by simp [IntKind.wrap, IntKind.bits, IntKind.signed]; omega
        obtain ⟨vals, how, hel⟩ := HX.out
        have HO := hid how
        have HEL := hid hel
        rw [oneT_len] at how
        have HW := hid how
        have HU : Hid ((wr.alloc (.cells #[.int .u8 (k : Int)] 5)).ownsRow w14.heap.size 5 1 (.slice (some ⟨wr.heap.size, 0, none⟩) 1 1) 1 (byt [k % 256])) := hid (by
          have h := own_one wr (.int .u8 (k : Int)) 5 HB.out.size
          have e : byt [k % 256] = [.int .u8 (k : Int)] := by rw [Nat.mod_eq_of_lt (by omega)]; rfl
          rw [e]
          exact h)
        clear how hel
        go_wp2_with (first | (at_builtin; refine wpList_append_own _ rfl _ _ 24 rfl w14.heap.size 22 j0 (.slice none 0 0) 1 24 Try.underlying24 hj hy0 hy1 hy2 rfl (by decide) _ k _ rfl ((HW.out.alloc _).alloc _) ⟨wr.heap.size + 1, 0, none⟩ 1 1 [.slice (some ⟨wr.heap.size, 0, none⟩) 1 1] rfl rfl (cell_one_new2 _ _ _ _) (one_cell rfl) (by unfold maxLen; omega) (by omega) (by have := HB.out.size; simp; omega) ?_))
        intro v' w9 hown' hgrow _
        have HX9 : Hid (Txts w14.heap.size w9 v' (oneT (k + 1))) := hid (by
          rw [oneT_succ]
          refine Txts.snoc ((HO.out.alloc _).alloc _) (fun i h => ?_) (HU.out.alloc _) (by simp; omega) (by rw [oneT_len]; exact hown') hgrow
          obtain ⟨u', h1, h2, h3⟩ := HEL.out i h
          exact ⟨u', h1, (h2.alloc _).alloc _, h3⟩)
        have HB9 : Hid (Below w14.heap.size w14 w9) := hid (by
          have hs := HB.out.size
          refine (((HB.out.alloc hs _).alloc (by simp; omega) _).grown hgrow (by simp; omega) (fun p hp => (own_in HO.out hp).1)))
        clear hown' hgrow
        go_wp2
        go_roundw
        case rel => exact ⟨k + 1, by omega, by go_num, HX9.out, HB9.out⟩
        case measure => simp [intOf]; omega
      · have hkd : k = 39 + d := by omega
        have hki2 : decide ((k : Int) < 39 + (d : Int)) = false := decide_eq_false (by omega)
        have hki : ¬ (k : Int) < 39 + (d : Int) := by omega
        have HT : Hid (totL List.length (oneT k) ≤ 1048576) := hid (hkd ▸ oneT_tot hd3)
        have HD : Hid (dictOK (oneT k) = false) := hid ((hkd ▸ bnd_dict hd3).trans HF.out.symm)
        clear hkd hlt hk
        obtain ⟨aV, cV, hv⟩ := HX.out.len
        subst hv
        have B15 := below_chain B14 HB.out
        go_wp2_with fail
        refine (implDict_any aV cV (oneT k) wr HX.out.rd HT.out).mono ?_
        rintro e w16 ⟨rfl, bl16⟩
        rw [HD.out]
        have B16 := below_chain B15 bl16
        have HN16 := hid (below_new2 w16 (.cells #[.int .u8 97] 5 (1, 2)) (.cells #[.slice (some ⟨w16.heap.size, 0, none⟩) 1 1, .int .i64 0, .int .i64 0] 39))
        have HK16 := hid (heap2 (w := w16) (.cells #[.int .u8 97] 5 (1, 2)) (.cells #[.slice (some ⟨w16.heap.size, 0, none⟩) 1 1, .int .i64 0, .int .i64 0] 39) (Below.refl _ _))
        have hs17 : ((w16.alloc (.cells #[.int .u8 97] 5 (1, 2))).alloc (.cells #[.slice (some ⟨w16.heap.size, 0, none⟩) 1 1, .int .i64 0, .int .i64 0] 39)).heap.size = w16.heap.size + 2 := by simp
        obtain ⟨c0, hc, hc0, hc1, hc2⟩ := info_parts infoCellB
        have hs := HB.out.size
        have hcv : (convert 22 22 (.slice (some ⟨w16.heap.size, 0, none⟩) 1 1)).run Try.prog (w16.alloc (.cells #[.int .u8 97] 5)) = .ok (.slice (some ⟨w16.heap.size, 0, none⟩) 1 1) (w16.alloc (.cells #[.int .u8 97] 5 (1, 2))) := Lib.run_convert_bytes_const (P := Try.prog) w16 22 5 #[.int .u8 97] 1 1 Try.underlying22 Try.underlying5
        go_wp2_with (first | (at_make; refine wpList_make_full _ rfl (.tmp 118) (.tmp 118) 42 rfl ((w16.alloc (.cells #[.int .u8 97] 5 (1, 2))).alloc (.cells #[.slice (some ⟨w16.heap.size, 0, none⟩) 1 1, .int .i64 0, .int .i64 0] 39)).heap.size 122 c0 (.agg #[.bool false, .int .i64 0, .slice none 0 0]) 3 Try.underlying42 hc hc0 hc1 .i64 .i64 _ _ (99 + d) rfl rfl rfl rfl (by rw [hc2]; omega) (by unfold maxLen; omega) (Nat.le_refl _) ?_) | fail)
        intro w18 ho18 hg18
        have HB18 : Hid (Below ((w16.alloc (.cells #[.int .u8 97] 5 (1, 2))).alloc (.cells #[.slice (some ⟨w16.heap.size, 0, none⟩) 1 1, .int .i64 0, .int .i64 0] 39)).heap.size ((w16.alloc (.cells #[.int .u8 97] 5 (1, 2))).alloc (.cells #[.slice (some ⟨w16.heap.size, 0, none⟩) 1 1, .int .i64 0, .int .i64 0] 39)) w18) := hid ((Below.refl _ _).grown hg18 (Nat.le_refl _) (by intro k h; cases h))
        have HC18 := hid (zc_rd ho18)
        have HF18 := hid ((field_rd HK16.out.2 HK16.out.1).later HB18.out)
        have B18 := below_chain (below_chain B16 HN16.out) HB18.out
        clear ho18 hg18 hs17 hcv
        have HTB : Hid (Calls Try.prog 12 #[.slice (some ⟨w16.heap.size + 1, 0, none⟩) 1 1, .agg #[.int .i64 (99 + (d : Int)), .slice (some ⟨w16.heap.size + 2, 0, none⟩) (99 + d) (99 + d)]] w18 fun e w' => e = .returned (.bool false) ∧ Below w18.heap.size w18 w') := hid (by
          have h := implTable_any (some ⟨w16.heap.size + 1, 0, none⟩) (some ⟨w16.heap.size + 2, 0, none⟩) 1 (99 + d) [⟨[97], 0, 0⟩] (zTab (99 + d)) w18 HF18.out (by show RdSl cCell w18 (List.replicate (99 + d) _) (.slice _ (List.replicate (99 + d) _).length _); rw [List.length_replicate]; exact HC18.out) (zTab_tot hd3)
          rw [bnd_tab hd3, ← HF.out] at h
          have e : (zTab (99 + d)).cells.length = 99 + d := by simp [zTab]
          have e2 : (zTab (99 + d)).rows = 99 + (d : Int) := by simp [zTab]
          rw [e, e2] at h
          exact h)
        go_wp2_with fail
        refine HTB.out.mono ?_
        rintro e w19 ⟨rfl, bl19⟩
        have B19 := below_chain B18 bl19
        go_wp2
        go_ret
        exact ⟨rfl, B19⟩
end Go.Proofs.Ytmaccmgmcahopaa
