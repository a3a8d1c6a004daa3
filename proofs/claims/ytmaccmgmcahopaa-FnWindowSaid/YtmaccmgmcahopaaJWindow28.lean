import Derived.Test.YtmaccmgmcahopaaJWindow16
import Derived.Test.YtmaccmgmcahopaaJWindow17
import Derived.Test.YtmaccmgmcahopaaJWindow20
import Derived.Test.YtmaccmgmcahopaaJWindow23
import Derived.Test.YtmaccmgmcahopaaJWindow25
import Derived.Test.YtmaccmgmcahopaaJWindow27
import Derived.Test.YtmaccmgmcahopaaJWindow8
import Derived.Deep.DeepCutAuto
namespace Go.Proofs.Ytmaccmgmcahopaa
open Go.RowKit
theorem infoByteDo : (Try.prog.info? 5).map (fun i => (i.zero, i.size, i.bytes)) = some (some (.int .u8 0), 1, 1) := by kernel_rfl
set_option maxRecDepth 100000 in
set_option maxHeartbeats 16000000 in
theorem drawOut_any (gR c j : Nat) (a : Option Addr) (xs : List Nat) (w : World) (h : Rdr w gR a c xs j) (hab : ∀ x, a = some x → xs ≠ [] → x.block < w.heap.size) (hl : xs.length ≤ 1048576) (hx : ∀ x ∈ xs, x < 256) :
    Calls Try.prog 73 #[.pointer (some ⟨gR, 0, none⟩)] w (DoPost w gR a c xs (dOut xs j)) := by
  have HR := hid h
  have HAB := hid hab
  have HBY := hid hx
  have hgR : gR < w.heap.size := lt_of_block h.cells
  clear h hab hx
  have HB0 := hid (below_new1 w (.cells #[.int .i64 0, .int .i64 0, .int .i64 0, .slice none 0 0] 30))
  have HK0 : Hid ((w.alloc (.cells #[.int .i64 0, .int .i64 0, .int .i64 0, .slice none 0 0] 30)).heap[w.heap.size]? = some (.cells #[.int .i64 0, .int .i64 0, .int .i64 0, .slice none 0 0] 30 (0, 0))) := hid (heap_alloc_new w _)
  have HS0 : Hid ((w.alloc (.cells #[.int .i64 0, .int .i64 0, .int .i64 0, .slice none 0 0] 30)).heap.size = w.heap.size + 1) := hid (by simp)
  go_enter Try.func73, Try.ntmps73
  go_wp2_with fail
  generalize (w.alloc (.cells #[.int .i64 0, .int .i64 0, .int .i64 0, .slice none 0 0] 30)) = w0 at *
  refine (next_any gR c j a xs w0 (rdr_later HR.out HB0.out) hl HBY.out).mono ?_
  rintro e w1 ⟨rfl, r1, g1⟩
  have HR1 := hid r1
  have HG1 : Hid (w.grownBy w1 (some gR)) := hid (grown_next (grown_later (World.grownBy.refl w (some gR)) HB0.out) g1 (fun p hp => by simp at hp; omega))
  have HK1 : Hid (w1.heap[w.heap.size]? = some (.cells #[.int .i64 0, .int .i64 0, .int .i64 0, .slice none 0 0] 30 (0, 0))) := hid ((g1.block _ (by have := HS0.out; omega) (fun e => by simp at e; omega)).trans HK0.out)
  have HW1 : Hid (w.heap.size < w1.heap.size) := hid (by have := HS0.out; have := g1.size; omega)
  have hk : nxt xs j < 256 := nxt_lt HBY.out j
  obtain ⟨k, hkk⟩ : ∃ k : Nat, k = nxt xs j := ⟨_, rfl⟩
  rw [← hkk] at hk ⊢
  have HKK := hid hkk
  obtain ⟨k3, hk3⟩ : ∃ k3 : Nat, k3 = k % 3 := ⟨_, rfl⟩
  obtain ⟨k7, hk7⟩ : ∃ k7 : Nat, k7 = k % 7 := ⟨_, rfl⟩
  obtain ⟨k20, hk20⟩ : ∃ k20 : Nat, k20 = k % 20 := ⟨_, rfl⟩
  have HK3 := hid hk3
  have HK7 := hid hk7
  have HK20 := hid hk20
  have i3 : (k : Int) % 3 = (k3 : Int) := by omega
  have i7 : (k : Int) % 7 = (k7 : Int) := by omega
  have i20 : (k : Int) % 20 = (k20 : Int) := by omega
  have t3 : (k : Int).tmod 3 = (k3 : Int) := by rw [hk3]; rfl
  have t7 : (k : Int).tmod 7 = (k7 : Int) := by rw [hk7]; rfl
  have t20 : (k : Int).tmod 20 = (k20 : Int) := by rw [hk20]; rfl
  have hb3 : k3 < 3 := by omega
  clear hkk hk3 hk7 hk20 r1 g1 HB0 HK0 HS0 HR
  have HD2 : Hid (DoSt w gR w1.heap.size [w.heap.size] a c xs (j + 1) ⟨1 + (k3 : Int), (k7 : Int), (k20 : Int), []⟩ (w1.alloc (.cells #[.int .i64 (1 + (k3 : Int)), .int .i64 (k7 : Int), .int .i64 (k20 : Int), .slice none 0 0] 30))) := hid (by
    have hb := below_new1 w1 (.cells #[.int .i64 (1 + (k3 : Int)), .int .i64 (k7 : Int), .int .i64 (k20 : Int), .slice none 0 0] 30)
    have hw := HW1.out
    refine ⟨none, 0, [], heap_alloc_new w1 _, .inl ⟨rfl, rfl, rfl⟩, by simp, by simp, rdr_later HR1.out hb, grown_later HG1.out hb, by simp [totL], fun g hg => ?_, by omega, hgR, HAB.out⟩
    simp only [List.mem_singleton] at hg
    subst hg
    have := hb.size
    exact ⟨Nat.le_refl _, by omega, by omega⟩)
  have HK2 : Hid ((w1.alloc (.cells #[.int .i64 (1 + (k3 : Int)), .int .i64 (k7 : Int), .int .i64 (k20 : Int), .slice none 0 0] 30)).heap[w.heap.size]? = some (.cells #[.int .i64 0, .int .i64 0, .int .i64 0, .slice none 0 0] 30 (0, 0))) := hid ((below_new1 w1 _).block _ HW1.out |>.trans HK1.out)
  go_upto_if 23 with fail
  generalize (w1.alloc (.cells #[.int .i64 (1 + (k3 : Int)), .int .i64 (k7 : Int), .int .i64 (k20 : Int), .slice none 0 0] 30)) = w2 at *
  generalize w1.heap.size = go at *
  clear i3 i7 i20 t3 t7 t20
  go_cut [] (fun wx => DoSt w gR go [w.heap.size] a c xs (j + 1) ⟨1 + (k3 : Int), if k = 250 then 999999999995 else (k7 : Int), (k20 : Int), []⟩ wx ∧ wx.heap[w.heap.size]? = some (.cells #[.int .i64 0, .int .i64 0, .int .i64 0, .slice none 0 0] 30 (0, 0)))
  case first =>
    obtain ⟨ao, co, bs, hF⟩ := HD2.out
    have c0 := cell_of_row _ _ 0 _ _ _ hF.bx
    have c1 := cell_of_row _ _ 1 _ _ _ hF.bx
    have c2 := cell_of_row _ _ 2 _ _ _ hF.bx
    have c3 := cell_of_row _ _ 3 _ _ _ hF.bx
    have zc0 := frozen_of_row _ _ 0 _ _ hF.bx
    have zc1 := frozen_of_row _ _ 1 _ _ hF.bx
    have zc2 := frozen_of_row _ _ 2 _ _ hF.bx
    have zc3 := frozen_of_row _ _ 3 _ _ hF.bx
    simp only [List.getElem?_toArray, List.getElem?_cons_zero, List.getElem?_cons_succ] at c0 c1 c2 c3
    clear hF
    by_cases hk2 : k = 250
    · have e1 : ((k : Int) == 250) = true := by rw [hk2]; rfl
      have HIF := hid hk2
      clear hk2
      go_wp2_with fail
      go_meet
      case rel => rw [if_pos HIF.out]; exact ⟨HD2.out.set1 1 _ rfl (fun _ _ => rfl), (Below.heap_setCell w2 ⟨go, 1, none⟩ _ w.heap.size (by have := HW1.out; simp only []; omega)).trans HK2.out⟩
    · have e1 : ((k : Int) == 250) = false := beq_eq_false_iff_ne.2 (by omega)
      have HIF := hid hk2
      clear hk2
      go_wp2_with fail
      go_meet
      case rel => rw [if_neg HIF.out]; exact ⟨HD2.out, HK2.out⟩
  case rest =>
    obtain ⟨hD3, hK3⟩ := hcut
    have HD3 := hid hD3
    have HK3' := hid hK3
    clear hD3 hK3 HD2 HK2
    go_upto_if 26 with fail
    go_cut [] (fun wx => DoSt w gR go [w.heap.size] a c xs (j + 1) (dO0 k) wx ∧ wx.heap[w.heap.size]? = some (.cells #[.int .i64 0, .int .i64 0, .int .i64 0, .slice none 0 0] 30 (0, 0)))
    case first =>
      rename_i w3
      obtain ⟨ao, co, bs, hF⟩ := HD3.out
      have c0 := cell_of_row _ _ 0 _ _ _ hF.bx
      have c1 := cell_of_row _ _ 1 _ _ _ hF.bx
      have c2 := cell_of_row _ _ 2 _ _ _ hF.bx
      have c3 := cell_of_row _ _ 3 _ _ _ hF.bx
      have zc0 := frozen_of_row _ _ 0 _ _ hF.bx
      have zc1 := frozen_of_row _ _ 1 _ _ hF.bx
      have zc2 := frozen_of_row _ _ 2 _ _ hF.bx
      have zc3 := frozen_of_row _ _ 3 _ _ hF.bx
      simp only [List.getElem?_toArray, List.getElem?_cons_zero, List.getElem?_cons_succ] at c0 c1 c2 c3
      clear hF
      have HDO : Hid (dO0 k = ⟨1 + (k3 : Int), if k = 250 then 999999999995 else (k7 : Int), if k = 251 then 999999999 else (k20 : Int), []⟩) := hid (by unfold dO0; rw [HK3.out, HK7.out, HK20.out])
      by_cases hk2 : k = 251
      · have e1 : ((k : Int) == 251) = true := by rw [hk2]; rfl
        have HIF := hid hk2
        clear hk2
        go_wp2_with fail
        go_meet
        case rel => rw [HDO.out, if_pos HIF.out]; exact ⟨HD3.out.set1 2 _ rfl (fun _ _ => rfl), (Below.heap_setCell _ ⟨go, 2, none⟩ _ w.heap.size (by have := HW1.out; simp only []; omega)).trans HK3'.out⟩
      · have e1 : ((k : Int) == 251) = false := beq_eq_false_iff_ne.2 (by omega)
        have HIF := hid hk2
        clear hk2
        go_wp2_with fail
        go_meet
        case rel => rw [HDO.out, if_neg HIF.out]; exact ⟨HD3.out, HK3'.out⟩
    case rest =>
      obtain ⟨hD4, hK4⟩ := hcut
      have HD4 := hid hD4
      have HK4 := hid hK4
      obtain ⟨ao, co, bs, hF⟩ := HD4.out
      have HRR := hid hF.rdr
      clear hD4 hK4 HD3 HK3' HK3 HK7 HK20 hb3 hF
      go_wp2_with fail
      refine (next_any gR c (j + 1) a xs _ HRR.out hl HBY.out).mono ?_
      rintro e w5 ⟨rfl, r5, g5⟩
      have HD5 := hid (HD4.out.next r5 g5)
      have HK5 : Hid (w5.heap[w.heap.size]? = some (.cells #[.int .i64 0, .int .i64 0, .int .i64 0, .slice none 0 0] 30 (0, 0))) := hid ((g5.block _ (Array.getElem?_eq_some_iff.1 HK4.out).1 (fun e => by simp at e; omega)).trans HK4.out)
      obtain ⟨n, hn⟩ : ∃ n : Nat, n = nxt xs (j + 1) % 4 := ⟨_, rfl⟩
      have hn4 : n < 4 := by omega
      have in4 : ((nxt xs (j + 1) : Nat) : Int) % 4 = (n : Int) := by omega
      have tn4 : ((nxt xs (j + 1) : Nat) : Int).tmod 4 = (n : Int) := by rw [hn]; rfl
      have HN := hid hn
      have HDO : Hid (dOut xs j = dIter xs (dO0 k, j + 1 + 1) n) := hid (by unfold dOut; rw [HKK.out, hn])
      clear hn r5 g5 HD4 HK4 HRR
      go_wp2_with fail
      clear in4 tn4
      go_loopw [6, 7, 8, 9, 10, 11] (fun v6 _ _ _ _ _ wr => ∃ i : Nat, i ≤ n ∧ v6 = .int .i64 i ∧ DoSt w gR go [w.heap.size] a c xs (dIter xs (dO0 k, j + 1 + 1) i).2 (dIter xs (dO0 k, j + 1 + 1) i).1 wr ∧ wr.heap[w.heap.size]? = some (.cells #[.int .i64 0, .int .i64 0, .int .i64 0, .slice none 0 0] 30 (0, 0))) (fun v6 _ _ _ _ _ _ => n - (intOf v6).toNat)
      case atStart => exact ⟨0, by omega, rfl, HD5.out, HK5.out⟩
      case round =>
        obtain ⟨i, hi, rfl, hD, hK⟩ := hrel
        have HD := hid hD
        have HK := hid hK
        clear hD hK HD5 HK5
        obtain ⟨ao, co, bs, hF⟩ := HD.out
        have HF := hid hF
        clear hF
        by_cases hin : ¬ i < n
        · obtain rfl : i = n := by omega
          have hid1 : decide ((i : Int) < (i : Int)) = false := decide_eq_false (by omega)
          have c0 := cell_of_row _ _ 0 _ _ _ HF.out.bx
          have c1 := cell_of_row _ _ 1 _ _ _ HF.out.bx
          have c2 := cell_of_row _ _ 2 _ _ _ HF.out.bx
          have c3 := cell_of_row _ _ 3 _ _ _ HF.out.bx
          have zc0 := frozen_of_row _ _ 0 _ _ HF.out.bx
          have zc1 := frozen_of_row _ _ 1 _ _ HF.out.bx
          have zc2 := frozen_of_row _ _ 2 _ _ HF.out.bx
          have zc3 := frozen_of_row _ _ 3 _ _ HF.out.bx
          simp only [List.getElem?_toArray, List.getElem?_cons_zero, List.getElem?_cons_succ] at c0 c1 c2 c3
          have r0 := cell_of_row _ _ 0 _ _ _ HK.out
          have r1 := cell_of_row _ _ 1 _ _ _ HK.out
          have r2 := cell_of_row _ _ 2 _ _ _ HK.out
          have r3 := cell_of_row _ _ 3 _ _ _ HK.out
          have zr0 := frozen_of_row _ _ 0 _ _ HK.out
          have zr1 := frozen_of_row _ _ 1 _ _ HK.out
          have zr2 := frozen_of_row _ _ 2 _ _ HK.out
          have zr3 := frozen_of_row _ _ 3 _ _ HK.out
          simp only [List.getElem?_toArray, List.getElem?_cons_zero, List.getElem?_cons_succ] at r0 r1 r2 r3
          clear hin
          obtain ⟨R, hR⟩ : ∃ R : PO × Nat, R = dIter xs (dO0 k, j + 1 + 1) i := ⟨_, rfl⟩
          rw [← hR] at HF HDO c0 c1 c2 c3
          clear hR
          go_wp2_with fail
          refine bodyPost_ret (results_cell_row rfl _ _ w.heap.size 30 #[.int .i64 R.1.epoch, .int .i64 R.1.next, .int .i64 R.1.now, .slice ao R.1.wait.length co] (0, 0) _ rfl (set4 HK.out) Try.underlying30 rfl (by kernel_rfl)) rfl ?_
          rw [HDO.out]
          have hk4 := DoSt.set4k ⟨ao, co, bs, HF.out⟩ (g := w.heap.size) (Nat.le_refl _) (.int .i64 R.1.epoch) (.int .i64 R.1.next) (.int .i64 R.1.now) (.slice ao R.1.wait.length co)
          exact ⟨ao, co, bs, rfl, HF.out.own.kept (fun b hb => set4o (fun e => (HF.out.far b hb).2.2 (by simp [e]))), HF.out.nd, fun b hb => (HF.out.far b hb).1, hk4.1, hk4.2, HF.out.tot⟩
        have hin' : i < n := by omega
        have hid1 : decide ((i : Int) < (n : Int)) = true := decide_eq_true (by omega)
        clear hin
        obtain ⟨S, hS⟩ : ∃ S : PO × Nat, S = dIter xs (dO0 k, j + 1 + 1) i := ⟨_, rfl⟩
        have HIS : Hid (dIter xs (dO0 k, j + 1 + 1) (i + 1) = dOne xs S) := hid (by rw [hS]; rfl)
        have HNS0 : Hid (NxOK S.1) := hid (by rw [hS]; exact dIter_nx (dO0_nx k) i)
        rw [← hS] at HD HF
        clear hS
        have HBa := hid (below_new1 wr (.cells #[.int .u8 1] 5))
        have HOa : Hid ((wr.alloc (.cells #[.int .u8 1] 5)).ownsRow wr.heap.size 5 1 (.slice (some ⟨wr.heap.size, 0, none⟩) 1 1) 1 (byt [1])) := hid (own_one wr (.int .u8 1) 5 (Nat.le_refl _))
        have HWR : Hid (w.heap.size ≤ wr.heap.size) := hid HF.out.gro.size
        have HRa := hid (rdr_later HF.out.rdr HBa.out)
        have hgw : gR < wr.heap.size := by have := HWR.out; omega
        go_wp2_with fail
        generalize (wr.alloc (.cells #[.int .u8 1] 5)) = wa at *
        refine (drawBytes_any gR c S.2 16 a xs wa HRa.out (fun x h1 h2 => Nat.lt_of_lt_of_le (HAB.out x h1 h2) (Nat.le_trans HWR.out HBa.out.size)) hl HBY.out (by omega) (by omega)).mono ?_
        rintro e w7 ⟨a9, c9, rfl, hnil9, o9, r9, g9⟩
        have HG7 : Hid (wr.grownBy w7 (some gR)) := hid (grown_next (grown_later (World.grownBy.refl wr (some gR)) HBa.out) g9 (fun p hp => by simp at hp; omega))
        have HO7 := hid (own_marked HOa.out g9 (fun q p hq hp => by have := own_in HOa.out hq; simp at hp; omega))
        have HR9 : Hid (Rd w7 a9 (byt (drawn xs S.2 16))) := hid (rd_at o9)
        have HNIL : Hid (a9 = none → (drawn xs S.2 16).length = 0 ∧ c9 = 0) := hid (fun h => ⟨by
          rcases o9.2 with ⟨e1, e2⟩ | ⟨g, cp, cur, e1, _⟩
          · exact e2
          · rw [h] at e1; simp at e1, hnil9 h⟩)
        have hdl : (drawn xs S.2 16).length ≤ 15 := by rw [drawn_len]; omega
        have HR7 := hid r9
        have hs7 : wr.heap.size ≤ w7.heap.size := HG7.out.size
        obtain ⟨D, hD0⟩ : ∃ D : List Nat, D = drawn xs S.2 16 := ⟨_, rfl⟩
        have HDD := hid hD0
        rw [← hD0] at HR9 HNIL hdl ⊢
        obtain ⟨i0, hi0, hz0, hz1, hz2⟩ := info_parts infoByteDo
        clear hD0 o9 r9 g9 hnil9 HOa HRa HBa
        go_wp2_with (first | (at_builtin; refine append_any rfl _ _ 22 rfl wr.heap.size 5 i0 (.int .u8 0) 1 Try.underlying22 hi0 hz0 hz1 hz2 rfl _ 1 (byt [1]) rfl HO7.out a9 D.length c9 (byt D) rfl (byt_len _) HNIL.out HR9.out (byt_one _) (by unfold maxLen; omega) (by omega) hs7 ?_) | fail)
        intro v' w8 hown hgrow
        obtain ⟨am, cm, rfl, -⟩ := rd_own hown
        have HG8 : Hid (wr.grownBy w8 (some gR)) := hid (grown_next HG7.out hgrow (fun p hp => .inr (own_in HO7.out hp).1))
        have HR8 := hid (HR7.out.kept hgrow (fun e => by have := (own_in HO7.out e).1; omega) (fun x h1 h2 e => by have := (own_in HO7.out e).1; have := HAB.out x h1 h2; have := HWR.out; omega))
        have HO8 : Hid (w8.ownsRow wr.heap.size 5 1 (.slice am (1 + D.length) cm) (1 + D.length) (byt (1 :: D))) := hid hown
        clear hown hgrow hi0 hz0 hz1 hz2 i0 HO7 HR9 HNIL HG7 HR7
        go_wp2_with fail
        refine (next_any gR c (S.2 + 1 + nxt xs S.2 % 16) a xs w8 HR8.out hl HBY.out).mono ?_
        rintro e w9 ⟨rfl, r10, g10⟩
        have HD9 := hid (HD.out.next r10 (grown_next HG8.out g10 (fun p hp => by simp at hp; omega)))
        have HO9 := hid (own_marked HO8.out g10 (fun q p hq hp => by have := own_in HO8.out hq; simp at hp; omega))
        have HK9 : Hid (w9.heap[w.heap.size]? = some (.cells #[.int .i64 0, .int .i64 0, .int .i64 0, .slice none 0 0] 30 (0, 0))) := hid (((grown_next HG8.out g10 (fun p hp => by simp at hp; omega)).block _ (Array.getElem?_eq_some_iff.1 HK.out).1 (fun e => by simp at e; omega)).trans HK.out)
        obtain ⟨v, hv⟩ : ∃ v : Nat, v = nxt xs (S.2 + 1 + nxt xs S.2 % 16) := ⟨_, rfl⟩
        have hvb : v < 256 := by rw [hv]; exact nxt_lt HBY.out _
        have HVV : Hid (dV xs S.2 = v) := hid hv.symm
        rw [← hv]
        clear hv r10 g10 HD HK HF HG8 HR8 HO8
        obtain ⟨r3, hr3⟩ : ∃ r3 : Nat, r3 = v % 3 := ⟨_, rfl⟩
        obtain ⟨r4, hr4⟩ : ∃ r4 : Nat, r4 = v % 4 := ⟨_, rfl⟩
        obtain ⟨r5, hr5⟩ : ∃ r5 : Nat, r5 = v % 5 := ⟨_, rfl⟩
        have i3 : (v : Int) % 3 = (r3 : Int) := by omega
        have i4 : (v : Int) % 4 = (r4 : Int) := by omega
        have i5 : (v : Int) % 5 = (r5 : Int) := by omega
        have t3 : (v : Int).tmod 3 = (r3 : Int) := by rw [hr3]; rfl
        have t4 : (v : Int).tmod 4 = (r4 : Int) := by rw [hr4]; rfl
        have t5 : (v : Int).tmod 5 = (r5 : Int) := by rw [hr5]; rfl
        have h4b : r4 < 4 := by omega
        have HR3 := hid hr3
        have HR4 := hid hr4
        have HR5 := hid hr5
        obtain ⟨b3, hb3⟩ : ∃ b3 : Bool, ((r3 : Int) == 0) = b3 := ⟨_, rfl⟩
        have HB3 := hid hb3
        clear hr3 hr4 hr5
        go_upto_if 44 with fail
        clear hb3 i3 t3
        obtain ⟨M, hM⟩ : ∃ M : List Nat, M = dMsg xs S.2 := ⟨_, rfl⟩
        have HMM : Hid (M = if r3 = 0 then List.replicate (1 + v * 3) v else 1 :: D) := hid (by rw [hM]; unfold dMsg; rw [HVV.out, ← HR3.out, ← HDD.out])
        have HML : Hid ((∀ x ∈ M, x < 256) ∧ M.length ≤ 1000) := hid (by rw [hM]; exact dMsg_lt HBY.out S.2)
        have HMD := hid hM
        clear hM
        go_cut [7] from 31 to 92 (fun v7 wx => (∃ am cm, v7 = .slice am M.length cm ∧ RdSl cByte wx M (.slice am M.length cm)) ∧ DoSt w gR go [w.heap.size] a c xs (S.2 + 1 + nxt xs S.2 % 16 + 1) S.1 wx ∧ wx.heap[w.heap.size]? = some (.cells #[.int .i64 0, .int .i64 0, .int .i64 0, .slice none 0 0] 30 (0, 0)))
        case first =>
          cases b3 with
          | true =>
            have HFL : Hid (Calls Try.prog 81 #[.int .u8 (v : Int), .int .i64 (1 + (v : Int) * 3)] w9 fun e w' => ∃ a c, e = .returned (.slice a (1 + v * 3) c) ∧ w'.ownsRow w9.heap.size 5 1 (.slice a (1 + v * 3) c) (1 + v * 3) (byt (List.replicate (1 + v * 3) v)) ∧ Below w9.heap.size w9 w') := hid (by
              have h := fill_any v (1 + v * 3) w9 (by omega)
              rwa [show ((1 + v * 3 : Nat) : Int) = 1 + (v : Int) * 3 from by omega] at h)
            have hv256 : (v : Int) % 256 = (v : Int) := by omega
            go_wp2_with fail
            refine HFL.out.mono ?_
            rintro e w10 ⟨af, cf, rfl, of, b10⟩
            have HX10 : Hid (M = List.replicate (1 + v * 3) v) := hid (by rw [HMM.out, if_pos (by have := beq_iff_eq.1 HB3.out; omega)])
            have HOF := hid of
            have HL : Hid (M.length = 1 + v * 3) := hid (by rw [HX10.out, List.length_replicate])
            clear of
            go_wp2_with fail
            go_meet
            case rel => exact ⟨⟨af, cf, by rw [HL.out], by rw [HL.out]; have h := own_rdSl HOF.out (by rw [← HX10.out]; exact HML.out.1); rw [← HX10.out] at h; exact h⟩, HD9.out.later b10, box_laterP2 HK9.out b10⟩
          | false =>
            have HX10 : Hid (M = 1 :: D) := hid (by rw [HMM.out, if_neg (by have := beq_eq_false_iff_ne.1 HB3.out; omega)])
            have HL : Hid (M.length = 1 + D.length) := hid (by rw [HX10.out, List.length_cons]; omega)
            go_wp2_with fail
            go_meet
            case rel => exact ⟨⟨am, cm, by rw [HL.out], by rw [HL.out]; have h := own_rdSl HO9.out (by rw [← HX10.out]; exact HML.out.1); rw [← HX10.out] at h; exact h⟩, HD9.out, HK9.out⟩
        case rest =>
          obtain ⟨⟨am, cm, rfl, hrm⟩, hD, hK⟩ := hcut
          have HRM := hid hrm
          have HD := hid hD
          have HK := hid hK
          clear hrm hD hK HD9 HK9 HO9 HMM HB3
          have HJJ : Hid ((dOne xs S).2 = S.2 + 1 + nxt xs S.2 % 16 + 1) := hid rfl
          have HOO : Hid ((dOne xs S).1 = dAck v (dTicks r4 (dPush S.1 M))) := hid (by rw [HMD.out, HR4.out, ← HVV.out]; rfl)
          generalize S.2 + 1 + nxt xs S.2 % 16 + 1 = J at *
          have HNS : Hid (NxOK S.1) := hid HNS0.out
          clear HNS0
          generalize hO0 : S.1 = O at *
          clear hO0
          obtain ⟨ao, co, bs, hF⟩ := HD.out
          have HF := hid hF
          clear hF
          have hml : M.length ≤ 1000 := HML.out.2
          have HPC := hid (specPushO_any O ao co M am cm wc HF.out.own.rd HRM.out (by omega) HF.out.tot)
          have c0 := cell_of_row _ _ 0 _ _ _ HF.out.bx
          have c1 := cell_of_row _ _ 1 _ _ _ HF.out.bx
          have c2 := cell_of_row _ _ 2 _ _ _ HF.out.bx
          have c3 := cell_of_row _ _ 3 _ _ _ HF.out.bx
          have zc0 := frozen_of_row _ _ 0 _ _ HF.out.bx
          have zc1 := frozen_of_row _ _ 1 _ _ HF.out.bx
          have zc2 := frozen_of_row _ _ 2 _ _ HF.out.bx
          have zc3 := frozen_of_row _ _ 3 _ _ HF.out.bx
          simp only [List.getElem?_toArray, List.getElem?_cons_zero, List.getElem?_cons_succ] at c0 c1 c2 c3
          go_wp2_with fail
          refine HPC.out.mono ?_
          rintro e w11 ⟨aP, cP, bsP, rfl, oP, nP, lP, bP⟩
          obtain ⟨R, hR⟩ : ∃ R : PO, R = pushO O M := ⟨_, rfl⟩
          obtain ⟨C, hC⟩ : ∃ C : Int, C = pushC O M := ⟨_, rfl⟩
          have HRE := hid hR
          have HCE := hid hC
          rw [← hR, ← hC]
          rw [← hR] at oP
          have HTR : Hid (totL wN R.wait ≤ 1048576) := hid (by rw [hR]; exact pushO_tot HF.out.tot)
          have HLF : Hid (∀ b ∈ bsP, w.heap.size ≤ b ∧ b ≠ go ∧ b ∉ [w.heap.size]) := hid (fun b hb => HD.out.fresh (lP b hb))
          have HD12 := hid (DoSt.addA (o1 := .cells #[.int .i64 R.epoch, .int .i64 R.next, .int .i64 R.now, .slice aP R.wait.length cP] 30) (HD.out.later bP))
          have HBN := hid (below_new1 w11 (.cells #[.int .i64 R.epoch, .int .i64 R.next, .int .i64 R.now, .slice aP R.wait.length cP] 30))
          have HK11 := hid (box_laterP2 HK.out bP)
          have HK12 := hid (box_laterP2 HK11.out HBN.out)
          have HO12 := hid (oP.kept (fun b hm => HBN.out.block b (oP.lt b hm)))
          have HLT := hid oP.lt
          have HNP := hid nP
          have HB12 := hid (heap_alloc_new w11 (.cells #[.int .i64 R.epoch, .int .i64 R.next, .int .i64 R.now, .slice aP R.wait.length cP] 30))
          obtain ⟨bC, hbC⟩ : ∃ bC : Bool, (C == 0) = bC := ⟨_, rfl⟩
          have HBC := hid hbC
          clear hR hC oP nP lP bP HD HK HF HPC HRM HBN
          clear c0 zc0 c1 zc1 c2 zc2 c3 zc3
          go_upto_if 58 with fail
          clear hbC
          generalize (w11.alloc (.cells #[.int .i64 R.epoch, .int .i64 R.next, .int .i64 R.now, .slice aP R.wait.length cP] 30)) = w12 at *
          have H9N0 : Hid (w.heap.size ≠ w11.heap.size) := hid (by have := (Array.getElem?_eq_some_iff.1 HK11.out).1; omega)
          have H9N : Hid (w.heap.size ≠ w11.heap.size) := hid H9N0.out
          clear H9N0 HK11
          generalize hg9 : w11.heap.size = g9 at *
          clear hg9
          go_cut [] from 31 to 92 (fun wx => DoSt w gR go [g9, w.heap.size] a c xs J (dPush O M) wx ∧ wx.heap[w.heap.size]? = some (.cells #[.int .i64 0, .int .i64 0, .int .i64 0, .slice none 0 0] 30 (0, 0)) ∧ ∃ x0 x1 x2 x3, wx.heap[g9]? = some (.cells #[x0, x1, x2, x3] 30 (0, 0)))
          case first =>
            obtain ⟨ao2, co2, bs2, hF⟩ := HD12.out
            have HF := hid hF
            clear hF
            cases bC with
            | true =>
              have c0 := cell_of_row _ _ 0 _ _ _ HF.out.bx
              have c1 := cell_of_row _ _ 1 _ _ _ HF.out.bx
              have c2 := cell_of_row _ _ 2 _ _ _ HF.out.bx
              have c3 := cell_of_row _ _ 3 _ _ _ HF.out.bx
              have zc0 := frozen_of_row _ _ 0 _ _ HF.out.bx
              have zc1 := frozen_of_row _ _ 1 _ _ HF.out.bx
              have zc2 := frozen_of_row _ _ 2 _ _ HF.out.bx
              have zc3 := frozen_of_row _ _ 3 _ _ HF.out.bx
              simp only [List.getElem?_toArray, List.getElem?_cons_zero, List.getElem?_cons_succ] at c0 c1 c2 c3
              have p0 := cell_of_row _ _ 0 _ _ _ HB12.out
              have p1 := cell_of_row _ _ 1 _ _ _ HB12.out
              have p2 := cell_of_row _ _ 2 _ _ _ HB12.out
              have p3 := cell_of_row _ _ 3 _ _ _ HB12.out
              have zp0 := frozen_of_row _ _ 0 _ _ HB12.out
              have zp1 := frozen_of_row _ _ 1 _ _ HB12.out
              have zp2 := frozen_of_row _ _ 2 _ _ HB12.out
              have zp3 := frozen_of_row _ _ 3 _ _ HB12.out
              simp only [List.getElem?_toArray, List.getElem?_cons_zero, List.getElem?_cons_succ] at p0 p1 p2 p3
              have HS13 := hid (HD12.out.setO HO12.out HNP.out (fun b hb => ⟨(HLF.out b hb).1, (HLF.out b hb).2.1, fun hm => by rcases List.mem_cons.1 hm with rfl | hm; exact absurd (HLT.out _ hb) (by omega); exact (HLF.out b hb).2.2 hm⟩) HTR.out)
              go_wp2_with fail
              go_meet
              case rel =>
                have he : dPush O M = R := by unfold dPush; rw [if_pos (by rw [← HCE.out]; exact beq_iff_eq.1 HBC.out), HRE.out]
                have hgo := HF.out.lo
                have h9 := (HF.out.al g9 (by simp)).2.2
                have h2 := (HF.out.al w.heap.size (by simp)).2.2
                exact ⟨by rw [he]; exact HS13.out, (set4o h2).trans HK12.out, _, _, _, _, (set4o h9).trans HB12.out⟩
            | false =>
              go_wp2_with fail
              go_meet
              case rel =>
                have he : dPush O M = O := by unfold dPush; rw [if_neg (by rw [← HCE.out]; exact beq_eq_false_iff_ne.1 HBC.out)]
                exact ⟨by rw [he]; exact HD12.out, HK12.out, _, _, _, _, HB12.out⟩
          case rest =>
            obtain ⟨hD, hK, hX⟩ := hcut
            have HD := hid hD
            have HK := hid hK
            have HX := hid hX
            clear hD hK hX HD12 HK12 HB12 HO12 HLT HNP HLF HTR HBC HRE HCE
            obtain ⟨O1, hO1⟩ : ∃ O1 : PO, O1 = dPush O M := ⟨_, rfl⟩
            have HN1 : Hid (NxOK O1) := hid (by rw [hO1]; exact dPush_nx HNS.out)
            rw [← hO1] at HD HOO
            clear hO1
            go_wp2_with fail
            go_loopw [10, 11] (fun _ v11 wq => ∃ n2 : Nat, n2 ≤ r4 ∧ v11 = .int .i64 n2 ∧ DoSt w gR go [g9, w.heap.size] a c xs J (dTicks n2 O1) wq ∧ wq.heap[w.heap.size]? = some (.cells #[.int .i64 0, .int .i64 0, .int .i64 0, .slice none 0 0] 30 (0, 0)) ∧ ∃ x0 x1 x2 x3, wq.heap[g9]? = some (.cells #[x0, x1, x2, x3] 30 (0, 0))) (fun _ v11 _ => r4 - (intOf v11).toNat)
            case atStart => exact ⟨0, by omega, rfl, HD.out, HK.out, HX.out⟩
            case round =>
              obtain ⟨n2, hn2, rfl, hD, hK, x0, x1, x2, x3, hX⟩ := hrel
              have HDq := hid hD
              have HKq := hid hK
              have HXq := hid hX
              clear hD hK hX HD HK HX
              obtain ⟨ao, co, bs, hF⟩ := HDq.out
              have HF := hid hF
              clear hF
              have h9o : g9 ≠ go := (HF.out.al g9 (by simp)).2.2
              have h2o : w.heap.size ≠ go := (HF.out.al w.heap.size (by simp)).2.2
              have H9W : Hid (w.heap.size ≠ g9) := hid H9N.out
              by_cases hlt : n2 < r4
              · have hlt1 : decide ((n2 : Int) < (r4 : Int)) = true := decide_eq_true (by omega)
                obtain ⟨o2, ho2⟩ : ∃ o2 : PO, o2 = dTicks n2 O1 := ⟨_, rfl⟩
                have HO2 : Hid (dTicks (n2 + 1) O1 = dTick o2) := hid (by rw [ho2]; rfl)
                rw [← ho2] at HF HDq
                clear ho2
                have HTC := hid (specTickO_any o2 ao co wr HF.out.own.rd HF.out.tot)
                have c0 := cell_of_row _ _ 0 _ _ _ HF.out.bx
                have c1 := cell_of_row _ _ 1 _ _ _ HF.out.bx
                have c2 := cell_of_row _ _ 2 _ _ _ HF.out.bx
                have c3 := cell_of_row _ _ 3 _ _ _ HF.out.bx
                have zc0 := frozen_of_row _ _ 0 _ _ HF.out.bx
                have zc1 := frozen_of_row _ _ 1 _ _ HF.out.bx
                have zc2 := frozen_of_row _ _ 2 _ _ HF.out.bx
                have zc3 := frozen_of_row _ _ 3 _ _ HF.out.bx
                simp only [List.getElem?_toArray, List.getElem?_cons_zero, List.getElem?_cons_succ] at c0 c1 c2 c3
                go_wp2_with fail
                refine HTC.out.mono ?_
                rintro e w13 ⟨aT, cT, vT, bsT, rfl, oT, nT, lT, gT, bT⟩
                obtain ⟨R, hR⟩ : ∃ R : PO, R = tickO o2 := ⟨_, rfl⟩
                obtain ⟨C, hC⟩ : ∃ C : Int, C = tickC o2 := ⟨_, rfl⟩
                have HRE := hid hR
                have HCE := hid hC
                rw [← hR, ← hC]
                rw [← hR] at oT
                have HTR : Hid (totL wN R.wait ≤ 1048576) := hid (by rw [hR]; exact tickO_tot HF.out.tot)
                have HLF : Hid (∀ b ∈ bsT, w.heap.size ≤ b ∧ b ≠ go ∧ b ∉ [g9, w.heap.size]) := hid (fun b hb => HDq.out.fresh (lT b hb))
                have HX13 := hid (box_laterP2 HXq.out bT)
                have HK13 := hid (box_laterP2 HKq.out bT)
                have HB13 := hid (box_laterP2 HF.out.bx bT)
                have HD14 := hid ((HDq.out.later bT).setA (g := g9) (by simp) (.int .i64 R.epoch) (.int .i64 R.next) (.int .i64 R.now) (.slice aT R.wait.length cT))
                have HO14 : Hid (OwnSl cSnt 63 ((((w13.setCell ⟨g9, 0, none⟩ (.int .i64 R.epoch)).setCell ⟨g9, 1, none⟩ (.int .i64 R.next)).setCell ⟨g9, 2, none⟩ (.int .i64 R.now)).setCell ⟨g9, 3, none⟩ (.slice aT R.wait.length cT)) R.wait (.slice aT R.wait.length cT) bsT) := hid (oT.kept (fun b hb => set4o (fun e => (HLF.out b hb).2.2 (by simp [e]))))
                have HX14 := hid (set4 (x := .int .i64 R.epoch) (y := .int .i64 R.next) (z := .int .i64 R.now) (u := .slice aT R.wait.length cT) HX13.out)
                have HK14 : Hid (((((w13.setCell ⟨g9, 0, none⟩ (.int .i64 R.epoch)).setCell ⟨g9, 1, none⟩ (.int .i64 R.next)).setCell ⟨g9, 2, none⟩ (.int .i64 R.now)).setCell ⟨g9, 3, none⟩ (.slice aT R.wait.length cT)).heap[w.heap.size]? = some (.cells #[.int .i64 0, .int .i64 0, .int .i64 0, .slice none 0 0] 30 (0, 0))) := hid ((set4o H9W.out).trans HK13.out)
                have HNT := hid nT
                obtain ⟨bC, hbC⟩ : ∃ bC : Bool, (C == 0) = bC := ⟨_, rfl⟩
                have HBC := hid hbC
                clear c0 zc0 c1 zc1 c2 zc2 c3 zc3
                clear hR hC oT nT lT gT bT HF HTC HDq HKq HXq
                have p0 := cell_of_row _ _ 0 _ _ _ HX13.out
                have p1 := cell_of_row _ _ 1 _ _ _ HX13.out
                have p2 := cell_of_row _ _ 2 _ _ _ HX13.out
                have p3 := cell_of_row _ _ 3 _ _ _ HX13.out
                have zp0 := frozen_of_row _ _ 0 _ _ HX13.out
                have zp1 := frozen_of_row _ _ 1 _ _ HX13.out
                have zp2 := frozen_of_row _ _ 2 _ _ HX13.out
                have zp3 := frozen_of_row _ _ 3 _ _ HX13.out
                simp only [List.getElem?_toArray, List.getElem?_cons_zero, List.getElem?_cons_succ] at p0 p1 p2 p3
                go_upto_if 73 with fail
                clear hbC
                generalize ((((w13.setCell ⟨g9, 0, none⟩ (.int .i64 R.epoch)).setCell ⟨g9, 1, none⟩ (.int .i64 R.next)).setCell ⟨g9, 2, none⟩ (.int .i64 R.now)).setCell ⟨g9, 3, none⟩ (.slice aT R.wait.length cT)) = w14 at *
                clear p0 zp0 p1 zp1 p2 zp2 p3 zp3
                obtain ⟨ao, co, bs, hF⟩ := HD14.out
                have HF := hid hF
                clear hF
                cases bC with
                | true =>
                  have c0 := cell_of_row _ _ 0 _ _ _ HF.out.bx
                  have c1 := cell_of_row _ _ 1 _ _ _ HF.out.bx
                  have c2 := cell_of_row _ _ 2 _ _ _ HF.out.bx
                  have c3 := cell_of_row _ _ 3 _ _ _ HF.out.bx
                  have zc0 := frozen_of_row _ _ 0 _ _ HF.out.bx
                  have zc1 := frozen_of_row _ _ 1 _ _ HF.out.bx
                  have zc2 := frozen_of_row _ _ 2 _ _ HF.out.bx
                  have zc3 := frozen_of_row _ _ 3 _ _ HF.out.bx
                  simp only [List.getElem?_toArray, List.getElem?_cons_zero, List.getElem?_cons_succ] at c0 c1 c2 c3
                  have p0 := cell_of_row _ _ 0 _ _ _ HX14.out
                  have p1 := cell_of_row _ _ 1 _ _ _ HX14.out
                  have p2 := cell_of_row _ _ 2 _ _ _ HX14.out
                  have p3 := cell_of_row _ _ 3 _ _ _ HX14.out
                  have zp0 := frozen_of_row _ _ 0 _ _ HX14.out
                  have zp1 := frozen_of_row _ _ 1 _ _ HX14.out
                  have zp2 := frozen_of_row _ _ 2 _ _ HX14.out
                  have zp3 := frozen_of_row _ _ 3 _ _ HX14.out
                  simp only [List.getElem?_toArray, List.getElem?_cons_zero, List.getElem?_cons_succ] at p0 p1 p2 p3
                  have HS15 := hid (HD14.out.setO HO14.out HNT.out HLF.out HTR.out)
                  go_wp2_with fail
                  go_roundw
                  case rel =>
                    have he : dTick o2 = R := by unfold dTick; rw [if_pos (by rw [← HCE.out]; exact beq_iff_eq.1 HBC.out), HRE.out]
                    exact ⟨n2 + 1, by omega, by go_num, by rw [HO2.out, he]; exact HS15.out, (set4o h2o).trans HK14.out, _, _, _, _, (set4o h9o).trans HX14.out⟩
                  case measure => simp [intOf]; omega
                | false =>
                  go_wp2_with fail
                  go_roundw
                  case rel =>
                    have he : dTick o2 = o2 := by unfold dTick; rw [if_neg (by rw [← HCE.out]; exact beq_eq_false_iff_ne.1 HBC.out)]
                    exact ⟨n2 + 1, by omega, by go_num, by rw [HO2.out, he]; exact HD14.out, HK14.out, _, _, _, _, HX14.out⟩
                  case measure => simp [intOf]; omega
              · have hlt1 : decide ((n2 : Int) < (r4 : Int)) = false := decide_eq_false (by omega)
                obtain rfl : n2 = r4 := by omega
                obtain ⟨o2, ho2⟩ : ∃ o2 : PO, o2 = dTicks n2 O1 := ⟨_, rfl⟩
                have HNX : Hid (NxOK o2) := hid (by rw [ho2]; exact dTicks_nx HN1.out n2)
                rw [← ho2] at HF HDq HOO
                clear ho2 hlt
                obtain ⟨b5, hb5⟩ : ∃ b5 : Bool, ((r5 : Int) == 1) = b5 := ⟨_, rfl⟩
                have HB5 := hid hb5
                go_upto_if 77 with fail
                clear hb5 i5 t5
                cases b5 with
                | false =>
                  go_wp2_with fail
                  go_roundw
                  case rel =>
                    have he : dAck v o2 = o2 := by unfold dAck; rw [if_neg (by rw [← HR5.out]; have := beq_eq_false_iff_ne.1 HB5.out; omega)]
                    exact ⟨i + 1, by omega, by go_num, by rw [HIS.out, HJJ.out, HOO.out, he]; exact HDq.out.subA (by simp), HKq.out⟩
                  case measure => simp [intOf]; omega
                | true =>
                  obtain ⟨h2, hh2⟩ : ∃ h2 : Nat, h2 = o2.wait.length / 2 := ⟨_, rfl⟩
                  have hha : (o2.wait.length : Int).tdiv 2 = (h2 : Int) := by rw [hh2]; rfl
                  have hhb : (o2.wait.length : Int) / 2 = (h2 : Int) := by omega
                  have hnx : 0 ≤ o2.next ∧ o2.next ≤ 1000000000000 := ⟨HNX.out.1, HNX.out.2.1⟩
                  have hnx1 := hnx.1
                  have hnx2 := hnx.2
                  have hwl : o2.wait.length ≤ 1048576 := by have := HF.out.tot; unfold totL at this; omega
                  have hh2b : h2 ≤ 1048576 := by omega
                  have HQQ : Hid (dAckQ o2 = o2.next - (h2 : Int)) := hid (by unfold dAckQ; rw [hh2])
                  clear hnx hh2 hwl
                  have HTC := hid (specAckO_any o2 ao co (o2.next - (h2 : Int)) wr HF.out.own.rd HF.out.tot)
                  have c0 := cell_of_row _ _ 0 _ _ _ HF.out.bx
                  have c1 := cell_of_row _ _ 1 _ _ _ HF.out.bx
                  have c2 := cell_of_row _ _ 2 _ _ _ HF.out.bx
                  have c3 := cell_of_row _ _ 3 _ _ _ HF.out.bx
                  have zc0 := frozen_of_row _ _ 0 _ _ HF.out.bx
                  have zc1 := frozen_of_row _ _ 1 _ _ HF.out.bx
                  have zc2 := frozen_of_row _ _ 2 _ _ HF.out.bx
                  have zc3 := frozen_of_row _ _ 3 _ _ HF.out.bx
                  simp only [List.getElem?_toArray, List.getElem?_cons_zero, List.getElem?_cons_succ] at c0 c1 c2 c3
                  go_wp2_with fail
                  refine HTC.out.mono ?_
                  rintro e w13 ⟨aT, cT, bsT, rfl, oT, nT, lT, bT⟩
                  obtain ⟨R, hR⟩ : ∃ R : PO, R = ackO o2 (o2.next - (h2 : Int)) := ⟨_, rfl⟩
                  obtain ⟨C, hC⟩ : ∃ C : Int, C = ackC o2 (o2.next - (h2 : Int)) := ⟨_, rfl⟩
                  have HRE := hid hR
                  have HCE := hid hC
                  rw [← hR, ← hC]
                  rw [← hR] at oT
                  have HTR : Hid (totL wN R.wait ≤ 1048576) := hid (by rw [hR]; exact ackO_tot HF.out.tot)
                  have HLF : Hid (∀ b ∈ bsT, w.heap.size ≤ b ∧ b ≠ go ∧ b ∉ [g9, w.heap.size]) := hid (fun b hb => HDq.out.fresh (lT b hb))
                  have HX13 := hid (box_laterP2 HXq.out bT)
                  have HK13 := hid (box_laterP2 HKq.out bT)
                  have HD14 := hid ((HDq.out.later bT).setA (g := g9) (by simp) (.int .i64 R.epoch) (.int .i64 R.next) (.int .i64 R.now) (.slice aT R.wait.length cT))
                  have HO14 : Hid (OwnSl cSnt 63 ((((w13.setCell ⟨g9, 0, none⟩ (.int .i64 R.epoch)).setCell ⟨g9, 1, none⟩ (.int .i64 R.next)).setCell ⟨g9, 2, none⟩ (.int .i64 R.now)).setCell ⟨g9, 3, none⟩ (.slice aT R.wait.length cT)) R.wait (.slice aT R.wait.length cT) bsT) := hid (oT.kept (fun b hb => set4o (fun e => (HLF.out b hb).2.2 (by simp [e]))))
                  have HX14 := hid (set4 (x := .int .i64 R.epoch) (y := .int .i64 R.next) (z := .int .i64 R.now) (u := .slice aT R.wait.length cT) HX13.out)
                  have HK14 : Hid (((((w13.setCell ⟨g9, 0, none⟩ (.int .i64 R.epoch)).setCell ⟨g9, 1, none⟩ (.int .i64 R.next)).setCell ⟨g9, 2, none⟩ (.int .i64 R.now)).setCell ⟨g9, 3, none⟩ (.slice aT R.wait.length cT)).heap[w.heap.size]? = some (.cells #[.int .i64 0, .int .i64 0, .int .i64 0, .slice none 0 0] 30 (0, 0))) := hid ((set4o H9W.out).trans HK13.out)
                  have HNT := hid nT
                  obtain ⟨bC, hbC⟩ : ∃ bC : Bool, (C == 0) = bC := ⟨_, rfl⟩
                  have HBC := hid hbC
                  clear c0 zc0 c1 zc1 c2 zc2 c3 zc3
                  clear hR hC oT nT lT bT HF HTC HDq HKq HXq
                  have p0 := cell_of_row _ _ 0 _ _ _ HX13.out
                  have p1 := cell_of_row _ _ 1 _ _ _ HX13.out
                  have p2 := cell_of_row _ _ 2 _ _ _ HX13.out
                  have p3 := cell_of_row _ _ 3 _ _ _ HX13.out
                  have zp0 := frozen_of_row _ _ 0 _ _ HX13.out
                  have zp1 := frozen_of_row _ _ 1 _ _ HX13.out
                  have zp2 := frozen_of_row _ _ 2 _ _ HX13.out
                  have zp3 := frozen_of_row _ _ 3 _ _ HX13.out
                  simp only [List.getElem?_toArray, List.getElem?_cons_zero, List.getElem?_cons_succ] at p0 p1 p2 p3
                  go_upto_if 91 with fail
                  clear hbC
                  generalize ((((w13.setCell ⟨g9, 0, none⟩ (.int .i64 R.epoch)).setCell ⟨g9, 1, none⟩ (.int .i64 R.next)).setCell ⟨g9, 2, none⟩ (.int .i64 R.now)).setCell ⟨g9, 3, none⟩ (.slice aT R.wait.length cT)) = w14 at *
                  clear p0 zp0 p1 zp1 p2 zp2 p3 zp3
                  obtain ⟨ao, co, bs, hF⟩ := HD14.out
                  have HF := hid hF
                  clear hF
                  cases bC with
                  | true =>
                    have c0 := cell_of_row _ _ 0 _ _ _ HF.out.bx
                    have c1 := cell_of_row _ _ 1 _ _ _ HF.out.bx
                    have c2 := cell_of_row _ _ 2 _ _ _ HF.out.bx
                    have c3 := cell_of_row _ _ 3 _ _ _ HF.out.bx
                    have zc0 := frozen_of_row _ _ 0 _ _ HF.out.bx
                    have zc1 := frozen_of_row _ _ 1 _ _ HF.out.bx
                    have zc2 := frozen_of_row _ _ 2 _ _ HF.out.bx
                    have zc3 := frozen_of_row _ _ 3 _ _ HF.out.bx
                    simp only [List.getElem?_toArray, List.getElem?_cons_zero, List.getElem?_cons_succ] at c0 c1 c2 c3
                    have p0 := cell_of_row _ _ 0 _ _ _ HX14.out
                    have p1 := cell_of_row _ _ 1 _ _ _ HX14.out
                    have p2 := cell_of_row _ _ 2 _ _ _ HX14.out
                    have p3 := cell_of_row _ _ 3 _ _ _ HX14.out
                    have zp0 := frozen_of_row _ _ 0 _ _ HX14.out
                    have zp1 := frozen_of_row _ _ 1 _ _ HX14.out
                    have zp2 := frozen_of_row _ _ 2 _ _ HX14.out
                    have zp3 := frozen_of_row _ _ 3 _ _ HX14.out
                    simp only [List.getElem?_toArray, List.getElem?_cons_zero, List.getElem?_cons_succ] at p0 p1 p2 p3
                    have HS15 := hid (HD14.out.setO HO14.out HNT.out HLF.out HTR.out)
                    go_wp2_with fail
                    go_roundw
                    case rel =>
                      have he : dAck v o2 = R := by unfold dAck; rw [if_pos (by rw [← HR5.out]; have := beq_iff_eq.1 HB5.out; omega), HQQ.out, if_pos (by rw [← HCE.out]; exact beq_iff_eq.1 HBC.out), HRE.out]
                      exact ⟨i + 1, by omega, by go_num, by rw [HIS.out, HJJ.out, HOO.out, he]; exact HS15.out.subA (by simp), (set4o h2o).trans HK14.out⟩
                    case measure => simp [intOf]; omega
                  | false =>
                    go_wp2_with fail
                    go_roundw
                    case rel =>
                      have he : dAck v o2 = o2 := by unfold dAck; rw [if_pos (by rw [← HR5.out]; have := beq_iff_eq.1 HB5.out; omega), HQQ.out, if_neg (by rw [← HCE.out]; exact beq_eq_false_iff_ne.1 HBC.out)]
                      exact ⟨i + 1, by omega, by go_num, by rw [HIS.out, HJJ.out, HOO.out, he]; exact HD14.out.subA (by simp), HK14.out⟩
                    case measure => simp [intOf]; omega
end Go.Proofs.Ytmaccmgmcahopaa
