import Derived.Test.YtmaccmgmcahopaaJLink36
import Derived.Test.YtmaccmgmcahopaaJLink40
import Derived.Test.YtmaccmgmcahopaaJLink46
import Derived.Test.YtmaccmgmcahopaaJLink47
import Derived.Test.YtmaccmgmcahopaaJLink49
import Derived.Test.YtmaccmgmcahopaaJLink51
import Derived.Test.YtmaccmgmcahopaaJLink52
import Derived.Test.YtmaccmgmcahopaaJLink1
import Derived.Deep.DeepCutAuto
namespace Go.Proofs.Ytmaccmgmcahopaa
open Go.RowKit
def tkN (xs : List Nat) (i : Nat) : Nat := xs[i % xs.length]?.getD 0
theorem tkN_lt {xs : List Nat} (h : ∀ x ∈ xs, x < 256) (i : Nat) : tkN xs i < 256 := by
  unfold tkN
  cases hc : xs[i % xs.length]? with
  | none => simp
  | some x => exact h x (List.mem_of_getElem? hc)
set_option maxHeartbeats 1000000 in
theorem take_ex (a : Option Addr) (cap : Nat) (xs : List Nat) (i : Nat) (w : World) (hr : Rd w a (byt xs)) (hb : ∀ x ∈ xs, x < 256) (hn : xs.length ≤ 1048576) :
    Calls Try.prog 6 #[.slice a xs.length cap, .int .i64 (i : Int)] w fun e w' => e = .returned (.int .i64 (tkN xs i : Int)) ∧ Below w.heap.size w w' := by
  by_cases h0 : xs.length = 0
  · obtain rfl := List.length_eq_zero_iff.1 h0
    go_enter Try.func6, Try.ntmps6
    go_wp2
    go_ret
    exact ⟨rfl, Below.refl _ _⟩
  · have HT : Hid (tkN xs i = xs[i % xs.length]'(Nat.mod_lt _ (by omega))) := hid (by unfold tkN; rw [List.getElem?_eq_getElem (Nat.mod_lt _ (by omega))]; rfl)
    obtain ⟨r, hr2⟩ : ∃ r : Nat, r = i % xs.length := ⟨_, rfl⟩
    have hrl : r < xs.length := by rw [hr2]; exact Nat.mod_lt _ (by omega)
    have HT2 : Hid (tkN xs i = xs[r]) := hid (by have := HT.out; subst hr2; exact this)
    clear HT
    obtain ⟨b, o, rfl, hc⟩ : ∃ b o, a = some ⟨b, o, none⟩ ∧ w.cell? ⟨b, o + r, none⟩ = some (.int .u8 ((xs[r] : Nat) : Int)) := by
      rcases hr with h | ⟨b, o, rfl, h⟩
      · have : (byt xs).length = 0 := by rw [h]; rfl
        rw [byt_len] at this
        omega
      · exact ⟨b, o, rfl, by have := h r (by rw [byt_len]; exact hrl); rw [this]; simp [byt]⟩
    have h1 : ((xs.length : Int) == 0) = false := beq_eq_false_iff_ne.2 (by omega)
    have h2 : (i : Int).tmod (xs.length : Int) = (r : Int) := by rw [hr2]; rfl
    have h3 : (i : Int) % (xs.length : Int) = (r : Int) := by rw [hr2]; rfl
    have hlt : (r : Int) < (xs.length : Int) := by omega
    have hxb := hb _ (List.getElem_mem hrl)
    generalize tkN xs i = T at *
    generalize xs[r] = x at *
    clear hr hr2 hb
    generalize xs.length = n at *
    go_enter Try.func6, Try.ntmps6
    go_wp2
    go_ret
    exact ⟨by rw [HT2.out]; rfl, Below.refl _ _⟩
theorem rd_one (w : World) (x : Value) (t : TypeId) : Rd (w.alloc (.cells #[x] t)) (some ⟨w.heap.size, 0, none⟩) [x] := by
  refine .inr ⟨_, 0, rfl, fun i hi => ?_⟩
  obtain rfl : i = 0 := by simp at hi; omega
  rw [cell_of_row _ _ _ _ _ _ (heap_alloc_new w _)]
  rfl
def LkGood (e : Int) (S : List PP) (want : List (List Nat)) (i : Nat) : Prop := Good e S want ∧ S.length ≤ 7 * i ∧ want.length = i ∧ ∀ m ∈ want, m.length ≤ 700
set_option maxRecDepth 100000 in
set_option maxHeartbeats 16000000 in
theorem link_walk (a0 : Option Addr) (len0 cap0 : Nat) (a1 : Option Addr) (len1 cap1 : Nat) (w : World) (h0 : BytesIn w a0 len0 cap0) (h1 : BytesIn w a1 len1 cap1) :
    Calls Try.prog 4 #[.slice a0 len0 cap0, .slice a1 len1 cap1] w fun e w' => e = .returned (.bool true) ∧ Below w.heap.size w w' := by
  obtain ⟨-, -, xs, rfl, hx, hr⟩ := h0
  obtain ⟨-, -, zs, rfl, hz, hq⟩ := h1
  by_cases hbig : 1048576 < xs.length
  · have e1 : decide ((1048576 : Int) < (xs.length : Int)) = true := decide_eq_true (by omega)
    clear hbig hx hr hz hq
    go_enter Try.func4, Try.ntmps4
    go_wp2
    go_ret
    exact ⟨rfl, Below.refl _ _⟩
  by_cases hbig2 : 1048576 < zs.length
  · have e1 : decide ((1048576 : Int) < (xs.length : Int)) = false := decide_eq_false (by omega)
    have e2 : decide ((1048576 : Int) < (zs.length : Int)) = true := decide_eq_true (by omega)
    clear hbig hbig2 hx hr hz hq
    go_enter Try.func4, Try.ntmps4
    go_wp2
    go_ret
    exact ⟨rfl, Below.refl _ _⟩
  have HX := hid hx
  have HR := hid hr
  have HZ := hid hz
  have HQ := hid hq
  have hxl : xs.length ≤ 1048576 := by omega
  have hzl : zs.length ≤ 1048576 := by omega
  have e1 : decide ((1048576 : Int) < (xs.length : Int)) = false := decide_eq_false (by omega)
  have e2 : decide ((1048576 : Int) < (zs.length : Int)) = false := decide_eq_false (by omega)
  clear hbig hbig2 hx hr hz hq
  go_enter Try.func4, Try.ntmps4
  go_wp2_with fail
  refine (take_ex a0 cap0 xs 0 w HR.out HX.out hxl).mono ?_
  rintro e w1 ⟨rfl, B1⟩
  obtain ⟨q, hq0⟩ : ∃ q : Nat, q = tkN xs 0 := ⟨_, rfl⟩
  have hq1 : q < 256 := by rw [hq0]; exact tkN_lt HX.out 0
  rw [← hq0]
  have HTK : Hid (q = tkN xs 0) := hid hq0
  clear hq0
  have HO1 := hid (heap_alloc_new w1 (.cells #[.int .i64 (1 + (q : Int)), .int .i64 0, .int .i64 0, .slice none 0 0] 30))
  have HN1 := hid (below_new1 w1 (.cells #[.int .i64 (1 + (q : Int)), .int .i64 0, .int .i64 0, .slice none 0 0] 30))
  go_wp2_with fail
  generalize hw2 : w1.alloc (.cells #[.int .i64 (1 + (q : Int)), .int .i64 0, .int .i64 0, .slice none 0 0] 30) = w2 at *
  have HW2 : Hid (w1.heap.size < w2.heap.size) := hid (by rw [← hw2]; simp)
  clear hw2
  refine (take_ex a0 cap0 xs 0 w2 (HR.out.later (below_chain B1 HN1.out)) HX.out hxl).mono ?_
  rintro e w3 ⟨rfl, B3⟩
  rw [← HTK.out]
  have HO3 := hid (box_laterP2 HO1.out B3)
  have B4 := below_chain (below_chain B1 HN1.out) B3
  have HI4 := hid (heap_alloc_new w3 (.cells #[.int .i64 (1 + (q : Int)), .int .i64 0, .slice none 0 0, .slice none 0 0] 48))
  have HN4 := hid (below_new1 w3 (.cells #[.int .i64 (1 + (q : Int)), .int .i64 0, .slice none 0 0, .slice none 0 0] 48))
  have HST0 : Hid (LkSt (w3.alloc (.cells #[.int .i64 (1 + (q : Int)), .int .i64 0, .slice none 0 0, .slice none 0 0] 48)).heap.size w1.heap.size w3.heap.size (lkO (1 + (q : Int)) []) ⟨1 + (q : Int), 0, [], []⟩ [] [] (.slice none 0 0) (.slice none 0 0) (fun _ => True) (w3.alloc (.cells #[.int .i64 (1 + (q : Int)), .int .i64 0, .slice none 0 0, .slice none 0 0] 48))) := hid (by
    have s3 := B3.size
    have s2 := HW2.out
    have s4 : (w3.alloc (.cells #[.int .i64 (1 + (q : Int)), .int .i64 0, .slice none 0 0, .slice none 0 0] 48)).heap.size = w3.heap.size + 1 := by simp
    exact ⟨[], none, 0, none, 0, none, 0, [], box_laterP2 HO3.out HN4.out, HI4.out, by omega, by omega, by omega, Nat.le_refl _, by simp, ⟨by simp, fun _ _ => RdSl.empty none⟩, ⟨by simp, fun _ _ => ⟨RdSl.empty none, RdSl.empty none⟩⟩, World.ownsRow_nil _ _ _ _, ⟨by simp, fun _ _ i hi => by simp at hi⟩, ⟨by simp, fun _ _ => RdSl.empty none⟩, ⟨by simp, fun _ _ => trivial⟩⟩)
  have B5 := below_chain B4 HN4.out
  have HBS1 : Hid (Below w.heap.size w (w3.alloc (.cells #[.int .i64 (1 + (q : Int)), .int .i64 0, .slice none 0 0, .slice none 0 0] 48))) := hid B5
  have HGO0 := hid B1.size
  have HGI0 := hid B4.size
  clear B5 B4 B3 B1 HO1 HN1 HO3 HI4 HN4
  have HGO : Hid (w.heap.size ≤ w1.heap.size) := hid HGO0.out
  have HGI : Hid (w.heap.size ≤ w3.heap.size) := hid HGI0.out
  have HB4 := hid HBS1.out
  clear HGO0 HGI0
  go_wp2_with fail
  generalize w3.alloc (.cells #[.int .i64 (1 + (q : Int)), .int .i64 0, .slice none 0 0, .slice none 0 0] 48) = w4 at *
  generalize w1.heap.size = go at *
  generalize w3.heap.size = gi at *
  clear HW2
  go_loopw [7, 8, 9, 10, 11] (fun v7 _ v9 _ _ wr => ∃ (i : Nat) (S : List PP) (want : List (List Nat)), i ≤ 5 ∧ v9 = .int .i64 i ∧ LkGood (1 + (q : Int)) S want i ∧ LkSt w4.heap.size go gi (lkO (1 + (q : Int)) S) ⟨1 + (q : Int), 0, [], []⟩ want [] v7 (.slice none 0 0) (fun _ => True) wr ∧ Below w.heap.size w wr) (fun _ _ v9 _ _ _ => 6 - (intOf v9).toNat)
  case atStart => exact ⟨0, [], [], by omega, rfl, ⟨Good.empty _, by simp, rfl, by simp⟩, HST0.out, HBS1.out⟩
  case round =>
    obtain ⟨i, S, want, hi5, rfl, hG, hS, hB⟩ := hrel
    have HG := hid hG
    have HS := hid hS
    have HB := hid hB
    clear hG hS hB HST0 HBS1
    go_wp2_with fail
    refine (take_any a0 cap0 xs 1 _ (HR.out.later HB.out) HX.out hxl).mono ?_
    rintro e w5 ⟨⟨q1, hq1', rfl⟩, B5⟩
    obtain ⟨d, hd⟩ : ∃ d : Nat, d = q1 % 5 := ⟨_, rfl⟩
    have hd5 : d < 5 := by omega
    have hdm : (q1 : Int).tmod 5 = (d : Int) := by rw [hd]; rfl
    have hdm2 : (q1 : Int) % 5 = (d : Int) := by omega
    have HS5 := hid (HS.out.later B5)
    have HB5 := hid (below_chain HB.out B5)
    clear hd B5 HS HB
    by_cases hlt : ¬ i < 1 + d
    · have hb1 : decide ((i : Int) < 1 + (d : Int)) = false := decide_eq_false (by omega)
      clear hlt
      have hep : 1 ≤ (1 + (q : Int)) ∧ (1 + (q : Int)) ≤ 1000000000 := ⟨by omega, by omega⟩
      have HEP := hid hep
      obtain ⟨aW, cW, hu7, hu7r⟩ := HS5.out.gotRd.slice
      subst hu7
      have HT0 := hid HS5.out.turn
      have HG1 := hid HG.out.1
      have hwl5 : want.length ≤ 5 := by have := HG.out.2.2.1; omega
      have HWT : Hid (∀ m ∈ want, m.length ≤ 700) := hid HG.out.2.2.2
      have HSP : Hid (w.heap.size ≤ w5.heap.size) := hid HB5.out.size
      generalize he : (1 + (q : Int)) = ep at *
      clear hep hu7r HS5 HG he HTK hq1 hq1'
      go_wp2_with fail
      clear hdm hdm2 hb1 hd5
      go_loopw [8, 12, 13, 14, 15, 16, 17, 18, 19, 20, 21, 22, 23, 24, 25] (fun _ v12 v13 v14 _ _ _ _ _ _ _ _ _ _ _ wr => ∃ (t : Nat) (o : PO) (s : PI) (got : List (List Nat)) (at_ : Nat), t ≤ 200 ∧ v14 = .int .i64 t ∧ v13 = .int .i64 at_ ∧ at_ ≤ 8 * t ∧ LkInv ep S t o s got ∧ LkSt w5.heap.size go gi o s got want v12 (.slice aW want.length cW) (fun _ => True) wr ∧ Below w.heap.size w wr) (fun _ _ _ v14 _ _ _ _ _ _ _ _ _ _ _ _ => 201 - (intOf v14).toNat)
      case atStart => exact ⟨0, lkO ep S, ⟨ep, 0, [], []⟩, [], 0, by omega, rfl, rfl, by omega, lkInv_start HG1.out HEP.out, HT0.out, HB5.out⟩
      case round =>
        obtain ⟨t, o, s, got, at_, ht2, rfl, rfl, hat, hI, hS, hB⟩ := hrel
        have HI := hid hI
        have HS := hid hS
        have HB := hid hB
        clear hI hS hB HT0 HB5 HR HX
        obtain ⟨F, ao, co, ah, ch, ap, cp, vl, hF⟩ := HS.out
        have HF := hid hF
        clear hF
        have c0 := cell_of_row _ _ 0 _ _ _ HF.out.bo
        have c1 := cell_of_row _ _ 1 _ _ _ HF.out.bo
        have c2 := cell_of_row _ _ 2 _ _ _ HF.out.bo
        have c3 := cell_of_row _ _ 3 _ _ _ HF.out.bo
        have zc0 := frozen_of_row _ _ 0 _ _ HF.out.bo
        have zc1 := frozen_of_row _ _ 1 _ _ HF.out.bo
        have zc2 := frozen_of_row _ _ 2 _ _ HF.out.bo
        have zc3 := frozen_of_row _ _ 3 _ _ HF.out.bo
        simp only [List.getElem?_toArray, List.getElem?_cons_zero, List.getElem?_cons_succ] at c0 c1 c2 c3
        by_cases hend : ¬ (t < 200 ∧ 0 < o.wait.length)
        · have HE := hid (lkInv_end HG1.out HI.out (by omega))
          obtain ⟨ag, cg, hv, hvr⟩ := HS.out.gotRd.slice
          have HVR := hid hvr
          have HWR := hid HF.out.rt.now
          have HTO := hid (lk_tot hwl5 HWT.out)
          subst hv
          have hwz : o.wait.length = 0 := HE.out.2
          have hgl : got.length = want.length := by rw [HE.out.1]
          have HCA : Hid (Calls Try.prog 16 #[.slice ag got.length cg, .slice aW want.length cW] wr fun e w' => e = .returned (.bool true) ∧ Below wr.heap.size wr w') := hid (by
            have h1 := HVR.out
            rw [HE.out.1] at h1
            have h := sameL_any ag aW cg cW want wr h1 HWR.out HTO.out
            rwa [← hgl] at h ⊢)
          have HGL := hid hgl
          have HWZ := hid hwz
          have hw0 : ((o.wait.length : Int) == 0) = true := by rw [hwz]; rfl
          have hw1 : decide ((0 : Int) < (o.wait.length : Int)) = false := by rw [hwz]; rfl
          clear hvr hgl hwz
          by_cases hh : t < 200
          · have hh1 : decide ((t : Int) < 200) = true := decide_eq_true (by omega)
            go_wp2_with fail
            refine HCA.out.mono ?_
            rintro e w6 ⟨rfl, b6⟩
            clear c0 c1 c2 c3 zc0 zc1 zc2 zc3
            have HBX := hid (box_laterP2 HF.out.bo b6)
            have c0 := cell_of_row _ _ 0 _ _ _ HBX.out
            have c1 := cell_of_row _ _ 1 _ _ _ HBX.out
            have c2 := cell_of_row _ _ 2 _ _ _ HBX.out
            have c3 := cell_of_row _ _ 3 _ _ _ HBX.out
            have zc0 := frozen_of_row _ _ 0 _ _ HBX.out
            have zc1 := frozen_of_row _ _ 1 _ _ HBX.out
            have zc2 := frozen_of_row _ _ 2 _ _ HBX.out
            have zc3 := frozen_of_row _ _ 3 _ _ HBX.out
            simp only [List.getElem?_toArray, List.getElem?_cons_zero, List.getElem?_cons_succ] at c0 c1 c2 c3
            go_wp2_with fail
            go_ret
            exact ⟨rfl, below_chain HB.out b6⟩
          · have hh1 : decide ((t : Int) < 200) = false := decide_eq_false (by omega)
            go_wp2_with fail
            refine HCA.out.mono ?_
            rintro e w6 ⟨rfl, b6⟩
            clear c0 c1 c2 c3 zc0 zc1 zc2 zc3
            have HBX := hid (box_laterP2 HF.out.bo b6)
            have c0 := cell_of_row _ _ 0 _ _ _ HBX.out
            have c1 := cell_of_row _ _ 1 _ _ _ HBX.out
            have c2 := cell_of_row _ _ 2 _ _ _ HBX.out
            have c3 := cell_of_row _ _ 3 _ _ _ HBX.out
            have zc0 := frozen_of_row _ _ 0 _ _ HBX.out
            have zc1 := frozen_of_row _ _ 1 _ _ HBX.out
            have zc2 := frozen_of_row _ _ 2 _ _ HBX.out
            have zc3 := frozen_of_row _ _ 3 _ _ HBX.out
            simp only [List.getElem?_toArray, List.getElem?_cons_zero, List.getElem?_cons_succ] at c0 c1 c2 c3
            go_wp2_with fail
            go_ret
            exact ⟨rfl, below_chain HB.out b6⟩
        have hq2 : t < 200 ∧ 0 < o.wait.length := by omega
        have ht200 : decide ((t : Int) < 200) = true := decide_eq_true (by omega)
        have hw1 : decide ((0 : Int) < (o.wait.length : Int)) = true := decide_eq_true (by omega)
        clear hend
        obtain ⟨x, hOI, hIn, hx, hlv, htin⟩ := HI.out
        have HOI := hid hOI
        have HIN := hid hIn
        have HXX := hid hx
        have HLV := hid hlv
        have HTI := hid htin
        clear hOI hIn hx hlv htin HI
        have HLT := hid (lk_tick HG1.out HOI.out (by omega))
        have HTC : Hid (Calls Try.prog 13 #[.agg #[.int .i64 o.epoch, .int .i64 o.next, .int .i64 o.now, .slice ao o.wait.length co]] wr (ItPost wr (tickO o) (tickG o) 0)) := hid (by
          have h := implTick_any o ao co wr HF.out.ro.now (outOK_tot HOI.out.ok)
          rw [HLT.out.1] at h
          exact h)
        go_wp2_with fail
        refine HTC.out.mono ?_
        rintro e w6 ⟨aT, cT, vT, bsT, usT, rfl, oT, gT, n1, n2, n3, n4, b6⟩
        obtain ⟨aG, cG, hvG, -⟩ := gT.rd.slice
        subst hvG
        have HS7 := hid (((HS.out.later b6).withX gT.byF (fun b hb => HS.out.fresh (n4 b hb))).setO oT.byF (fun b hb => HS.out.fresh (n3 b hb).1))
        have HBX := hid (box_laterP2 HF.out.bo b6)
        have HB6 := hid (below_chain HB.out b6)
        clear c0 c1 c2 c3 zc0 zc1 zc2 zc3 oT gT n1 n2 n3 n4 b6 HTC
        have c0 := cell_of_row _ _ 0 _ _ _ HBX.out
        have c1 := cell_of_row _ _ 1 _ _ _ HBX.out
        have c2 := cell_of_row _ _ 2 _ _ _ HBX.out
        have c3 := cell_of_row _ _ 3 _ _ _ HBX.out
        have zc0 := frozen_of_row _ _ 0 _ _ HBX.out
        have zc1 := frozen_of_row _ _ 1 _ _ HBX.out
        have zc2 := frozen_of_row _ _ 2 _ _ HBX.out
        have zc3 := frozen_of_row _ _ 3 _ _ HBX.out
        simp only [List.getElem?_toArray, List.getElem?_cons_zero, List.getElem?_cons_succ] at c0 c1 c2 c3
        obtain ⟨o1, ho1⟩ : ∃ o1 : PO, o1 = tickO o := ⟨_, rfl⟩
        have HO1 := hid ho1
        obtain ⟨G, hGe⟩ : ∃ G : List (List Nat), G = (lkDue o).map pktR := ⟨_, rfl⟩
        have HGE := hid hGe
        obtain ⟨ps, hps⟩ : ∃ ps : List PP, ps = lkDue o := ⟨_, rfl⟩
        have HPS := hid hps
        have hG2 : tickG o = G := by rw [hGe]; exact HLT.out.2.2.1
        rw [← ho1, hG2] at HS7
        rw [← ho1, hG2]
        have hgl8 : G.length ≤ 8 := by rw [hGe, List.length_map]; exact HLT.out.2.2.2.1
        have HGP : Hid (G.length = ps.length) := hid (by rw [hGe, hps, List.length_map])
        have HGQ : Hid (G = ps.map pktR) := hid (by rw [hGe, hps])
        have hgd : decide ((8 : Int) < (G.length : Int)) = false := decide_eq_false (by omega)
        have HB7 := hid (set4b (x := .int .i64 o1.epoch) (y := .int .i64 o1.next) (z := .int .i64 o1.now) (u := .slice aT o1.wait.length cT) HB6.out (show w.heap.size ≤ go from HGO.out))
        clear ho1 hG2 hGe hps HF HS HB HB6
        go_wp2_with fail
        generalize ((((w6.setCell ⟨go, 0, none⟩ (.int .i64 o1.epoch)).setCell ⟨go, 1, none⟩ (.int .i64 o1.next)).setCell ⟨go, 2, none⟩ (.int .i64 o1.now)).setCell ⟨go, 3, none⟩ (.slice aT o1.wait.length cT)) = w7 at *
        clear c0 c1 c2 c3 zc0 zc1 zc2 zc3 HBX
        refine (take_any a1 cap1 zs t w7 (HQ.out.later HB7.out) HZ.out hzl).mono ?_
        rintro e w8 ⟨⟨q2, hq2', rfl⟩, b8⟩
        have HS8 := hid (HS7.out.later b8)
        have HB8 := hid (below_chain HB7.out b8)
        obtain ⟨d2, hd2⟩ : ∃ d2 : Nat, d2 = q2 % 2 := ⟨_, rfl⟩
        have hdm : (q2 : Int).tmod 2 = (d2 : Int) := by rw [hd2]; rfl
        have hdm2 : (q2 : Int) % 2 = (d2 : Int) := by omega
        obtain ⟨bk, hbk⟩ : ∃ bk : Bool, ((d2 : Int) == 1) = bk := ⟨_, rfl⟩
        clear HS7 HB7 b8 hd2
        go_wp2_with fail
        have HPD : Hid (∀ {p : PP} {i : Nat}, ps[i]? = some p → p ∈ S ∧ p.seq < (x : Int) + 8 ∧ pkP (pktR p) = p ∧ pkC (pktR p) = 0) := hid (fun h => by rw [HPS.out] at h; exact lkDue_at HG1.out HOI.out (by omega) h)
        clear hdm hdm2 hbk hgd ht200 hw1 hq2' HGE HLT
        go_loopw [12, 13, 17, 18, 19, 20, 21, 22, 23, 24, 25] (fun v12 v13 v17 _ _ _ _ _ _ _ _ wr => ∃ (j : Nat) (s2 : PI) (got2 : List (List Nat)) (at2 : Nat), j ≤ G.length ∧ v17 = .int .i64 j ∧ v13 = .int .i64 at2 ∧ at2 ≤ 8 * t + j ∧ LkMid ep S s t bk ps j s2 got2 ∧ LkSt w5.heap.size go gi o1 s2 got2 want v12 (.slice aW want.length cW) (fun W => True ∧ RdSl cSS W G (.slice aG G.length cG)) wr ∧ Below w.heap.size w wr) (fun _ _ v17 _ _ _ _ _ _ _ _ _ => G.length - (intOf v17).toNat)
        case atStart => exact ⟨0, s, got, at_, Nat.zero_le _, rfl, rfl, by omega, lkMid_start HIN.out HTI.out, HS8.out, HB8.out⟩
        case round =>
          obtain ⟨j, s2, got2, at2, hj, rfl, rfl, hat2, hM, hS, hB⟩ := hrel
          have HM := hid hM
          have HSj := hid hS
          have HBj := hid hB
          clear hM hS hB HS8 HB8 HTI HIN
          by_cases hjl : ¬ j < G.length
          · have hjd : decide ((j : Int) < (G.length : Int)) = false := decide_eq_false (by omega)
            obtain rfl : j = G.length := by omega
            clear hjl hj
            have HRN : Hid (LkInv ep S (t + 1) (ackO o1 s2.expect) s2 got2 ∧ ackC o1 s2.expect = 0 ∧ outOK o1 = true ∧ inOK s2 = true) := hid (by
              have h := HM.out
              rw [HGP.out, HPS.out] at h
              rw [HO1.out]
              exact lkInv_round HG1.out HOI.out (by omega) HLV.out HXX.out h)
            have HPX := hid (lk_prefix HG1.out HM.out.1)
            obtain ⟨ag, cg, hv, hvr⟩ := HSj.out.gotRd.slice
            subst hv
            have HVR := hid hvr
            obtain ⟨F, ao2, co2, ah2, ch2, ap2, cp2, vl2, hF⟩ := HSj.out
            have HF := hid hF
            have hwg : got2.length ≤ want.length := HPX.out.1
            have hwc : want.length ≤ cW := by obtain ⟨_, _, e', h1, _⟩ := hF.rt.now; simp only [Value.slice.injEq] at e'; omega
            have hgw1 : decide ((want.length : Int) < (got2.length : Int)) = false := decide_eq_false (by omega)
            have hgw2 : decide (want.length < got2.length) = false := decide_eq_false (by omega)
            have hwn : ¬ want.length < got2.length := by omega
            have HCA : Hid (Calls Try.prog 16 #[.slice ag got2.length cg, .slice aW got2.length cW] wr fun e w' => e = .returned (.bool true) ∧ Below wr.heap.size wr w') := hid (by
              have h1 := HF.out.rt.now.take (k := got2.length) hwg
              rw [HPX.out.2] at h1
              exact sameL_any ag aW cg cW got2 wr HVR.out h1 (lk_tot (by omega) (fun m hm => HWT.out m (by rw [← HPX.out.2] at hm; exact List.mem_of_mem_take hm))))
            have hcg : got2.length ≤ cW := by omega
            clear hvr hF
            go_wp2_with fail
            refine HCA.out.mono ?_
            rintro e w9 ⟨rfl, b9⟩
            have HS9 := hid (HSj.out.later b9)
            have HB9 := hid (below_chain HBj.out b9)
            clear HCA HSj HBj b9 HF HVR hgw1 hgw2 hwn
            obtain ⟨F, ao2, co2, ah2, ch2, ap2, cp2, vl2, hF⟩ := HS9.out
            have HF := hid hF
            have HCI : Hid (Calls Try.prog 17 #[.agg #[.int .i64 s2.epoch, .int .i64 s2.expect, .slice ah2 s2.held.length ch2, .slice ap2 s2.part.length cp2]] w9 fun e w' => e = .returned (.bool true) ∧ Below w9.heap.size w9 w') := hid (by
              have h := specVI_any s2 ah2 ap2 ch2 cp2 w9 hF.ri.now
              rw [HRN.out.2.2.2] at h
              exact h)
            clear hF
            have c0 := cell_of_row _ _ 0 _ _ _ HF.out.bi
            have c1 := cell_of_row _ _ 1 _ _ _ HF.out.bi
            have c2 := cell_of_row _ _ 2 _ _ _ HF.out.bi
            have c3 := cell_of_row _ _ 3 _ _ _ HF.out.bi
            have zc0 := frozen_of_row _ _ 0 _ _ HF.out.bi
            have zc1 := frozen_of_row _ _ 1 _ _ HF.out.bi
            have zc2 := frozen_of_row _ _ 2 _ _ HF.out.bi
            have zc3 := frozen_of_row _ _ 3 _ _ HF.out.bi
            simp only [List.getElem?_toArray, List.getElem?_cons_zero, List.getElem?_cons_succ] at c0 c1 c2 c3
            go_wp2_with fail
            refine HCI.out.mono ?_
            rintro e w10 ⟨rfl, b10⟩
            clear c0 zc0 c1 zc1 c2 zc2 c3 zc3
            have HS10 := hid (HS9.out.later b10)
            have HB10 := hid (below_chain HB9.out b10)
            clear HCI HS9 HB9 b10 HF
            obtain ⟨F, ao2, co2, ah2, ch2, ap2, cp2, vl2, hF⟩ := HS10.out
            have HF := hid hF
            have HCO : Hid (Calls Try.prog 18 #[.agg #[.int .i64 o1.epoch, .int .i64 o1.next, .int .i64 o1.now, .slice ao2 o1.wait.length co2]] w10 fun e w' => e = .returned (.bool true) ∧ Below w10.heap.size w10 w') := hid (by
              have h := specVO_any o1 ao2 co2 w10 hF.ro.now
              rw [HRN.out.2.2.1] at h
              exact h)
            clear hF
            have c0 := cell_of_row _ _ 0 _ _ _ HF.out.bo
            have c1 := cell_of_row _ _ 1 _ _ _ HF.out.bo
            have c2 := cell_of_row _ _ 2 _ _ _ HF.out.bo
            have c3 := cell_of_row _ _ 3 _ _ _ HF.out.bo
            have zc0 := frozen_of_row _ _ 0 _ _ HF.out.bo
            have zc1 := frozen_of_row _ _ 1 _ _ HF.out.bo
            have zc2 := frozen_of_row _ _ 2 _ _ HF.out.bo
            have zc3 := frozen_of_row _ _ 3 _ _ HF.out.bo
            simp only [List.getElem?_toArray, List.getElem?_cons_zero, List.getElem?_cons_succ] at c0 c1 c2 c3
            go_wp2_with fail
            refine HCO.out.mono ?_
            rintro e w11 ⟨rfl, b11⟩
            clear c0 zc0 c1 zc1 c2 zc2 c3 zc3
            have HS11 := hid (HS10.out.later b11)
            have HB11 := hid (below_chain HB10.out b11)
            clear HCO HS10 HB10 b11 HF
            obtain ⟨F, ao2, co2, ah2, ch2, ap2, cp2, vl2, hF⟩ := HS11.out
            have HF := hid hF
            have HCA : Hid (Calls Try.prog 19 #[.agg #[.int .i64 o1.epoch, .int .i64 o1.next, .int .i64 o1.now, .slice ao2 o1.wait.length co2], .int .i64 s2.expect] w11 (IoPost w11 (ackO o1 s2.expect) 0)) := hid (by
              have h := implAck_any o1 ao2 co2 s2.expect w11 hF.ro.now (outOK_tot HRN.out.2.2.1)
              rw [HRN.out.2.1] at h
              exact h)
            clear hF
            have c0 := cell_of_row _ _ 0 _ _ _ HF.out.bo
            have c1 := cell_of_row _ _ 1 _ _ _ HF.out.bo
            have c2 := cell_of_row _ _ 2 _ _ _ HF.out.bo
            have c3 := cell_of_row _ _ 3 _ _ _ HF.out.bo
            have zc0 := frozen_of_row _ _ 0 _ _ HF.out.bo
            have zc1 := frozen_of_row _ _ 1 _ _ HF.out.bo
            have zc2 := frozen_of_row _ _ 2 _ _ HF.out.bo
            have zc3 := frozen_of_row _ _ 3 _ _ HF.out.bo
            simp only [List.getElem?_toArray, List.getElem?_cons_zero, List.getElem?_cons_succ] at c0 c1 c2 c3
            have p0 := cell_of_row _ _ 0 _ _ _ HF.out.bi
            have p1 := cell_of_row _ _ 1 _ _ _ HF.out.bi
            have p2 := cell_of_row _ _ 2 _ _ _ HF.out.bi
            have p3 := cell_of_row _ _ 3 _ _ _ HF.out.bi
            have zp0 := frozen_of_row _ _ 0 _ _ HF.out.bi
            have zp1 := frozen_of_row _ _ 1 _ _ HF.out.bi
            have zp2 := frozen_of_row _ _ 2 _ _ HF.out.bi
            have zp3 := frozen_of_row _ _ 3 _ _ HF.out.bi
            simp only [List.getElem?_toArray, List.getElem?_cons_zero, List.getElem?_cons_succ] at p0 p1 p2 p3
            go_wp2_with fail
            refine HCA.out.mono ?_
            rintro e w12 ⟨aA, cA, ys, dA, bsA, rfl, hdA, ocut, lA, nA, tA, b12⟩
            obtain ⟨o2, ho2⟩ : ∃ o2 : PO, o2 = ackO o1 s2.expect := ⟨_, rfl⟩
            rw [← ho2] at HRN hdA
            rw [← ho2]
            clear ho2
            have HN2 : Hid (RdBy bsA w12 (fun W => RdSl cSnt W o2.wait (.slice aA o2.wait.length cA))) := hid (by
              have h := ocut.byF
              rw [← List.length_drop, ← hdA] at h
              exact h)
            have HS12 := hid ((HS11.out.later b12).setO HN2.out (fun b hb => HS11.out.fresh (lA b hb)))
            have HBX := hid (box_laterP2 HF.out.bo b12)
            have HB12 := hid (set4b (x := .int .i64 o2.epoch) (y := .int .i64 o2.next) (z := .int .i64 o2.now) (u := .slice aA o2.wait.length cA) (below_chain HB11.out b12) (show w.heap.size ≤ go from HGO.out))
            clear c0 zc0 c1 zc1 c2 zc2 c3 zc3
            clear p0 zp0 p1 zp1 p2 zp2 p3 zp3
            clear HCA HF HS11 HB11 hdA ocut lA nA tA b12 HN2
            have c0 := cell_of_row _ _ 0 _ _ _ HBX.out
            have c1 := cell_of_row _ _ 1 _ _ _ HBX.out
            have c2 := cell_of_row _ _ 2 _ _ _ HBX.out
            have c3 := cell_of_row _ _ 3 _ _ _ HBX.out
            have zc0 := frozen_of_row _ _ 0 _ _ HBX.out
            have zc1 := frozen_of_row _ _ 1 _ _ HBX.out
            have zc2 := frozen_of_row _ _ 2 _ _ HBX.out
            have zc3 := frozen_of_row _ _ 3 _ _ HBX.out
            simp only [List.getElem?_toArray, List.getElem?_cons_zero, List.getElem?_cons_succ] at c0 c1 c2 c3
            go_wp2_with fail
            go_roundw
            case rel => exact ⟨t + 1, o2, s2, got2, at2, by omega, by go_num, rfl, by omega, HRN.out.1, HS12.out.monoX (fun _ _ => trivial), HB12.out⟩
            case measure => simp [intOf]; omega
          have hjl : j < G.length := by omega
          have hjd : decide ((j : Int) < (G.length : Int)) = true := decide_eq_true (by omega)
          have HTA : Hid (Calls Try.prog 6 #[.slice a1 zs.length cap1, .int .i64 ((at2 : Int) + 1)] wr fun e w' => (∃ q : Nat, q < 256 ∧ e = .returned (.int .i64 (q : Int))) ∧ Below wr.heap.size wr w') := hid (by
            have h := take_any a1 cap1 zs (at2 + 1) wr (HQ.out.later HBj.out) HZ.out hzl
            rwa [show ((at2 + 1 : Nat) : Int) = (at2 : Int) + 1 from by omega] at h)
          go_wp2_with fail
          refine HTA.out.mono ?_
          rintro e w9 ⟨⟨q4, hq4, rfl⟩, b9⟩
          have HS9 := hid (HSj.out.later b9)
          have HB9 := hid (below_chain HBj.out b9)
          clear HTA HSj HBj b9
          obtain ⟨F, ao2, co2, ah2, ch2, ap2, cp2, vl2, hF⟩ := HS9.out
          obtain ⟨b, off, a', c', hab, hc1, hr1⟩ := hF.rx.now.2.row hjl
          subst hab
          obtain ⟨n', hn'⟩ : ∃ n' : Nat, n' = G.length - 1 - j := ⟨_, rfl⟩
          have hnl : n' < G.length := by omega
          have hni : (G.length : Int) - 1 - (j : Int) = (n' : Int) := by omega
          obtain ⟨b2, off2, a2', c2', hab2, hc2, hr2⟩ := hF.rx.now.2.row hnl
          simp only [Option.some.injEq, Addr.mk.injEq, and_true] at hab2
          obtain ⟨rfl, rfl⟩ := hab2
          have hgl : G.length = ps.length := HGP.out
          have HP1 : Hid (ps[j]? = some (ps[j]'(by omega)) ∧ G[j] = pktR (ps[j]'(by omega))) := hid ⟨List.getElem?_eq_getElem _, by simp only [HGQ.out, List.getElem_map]⟩
          have HP2 : Hid (ps[n']? = some (ps[n']'(by omega)) ∧ G[n'] = pktR (ps[n']'(by omega))) := hid ⟨List.getElem?_eq_getElem _, by simp only [HGQ.out, List.getElem_map]⟩
          have HN' : Hid (n' = ps.length - 1 - j) := hid (by omega)
          generalize ps[j]'(by omega) = p1 at *
          generalize ps[n']'(by omega) = p2 at *
          rw [HP1.out.2] at hc1 hr1
          rw [HP2.out.2] at hc2 hr2
          have HR1 := hid hr1
          have HR2 := hid hr2
          have hj2 : (j : Int) < (G.length : Int) := by omega
          have hn2 : (n' : Int) < (G.length : Int) := by omega
          clear hr1 hr2 hF hn' hgl
          go_upto_if 128 with fail
          go_cut [19] from 113 to 174 (fun v wx => (∃ p a' c', ps[idxB bk ps.length j]? = some p ∧ v = .slice a' (pktR p).length c' ∧ RdSl cByte w9 (pktR p) (.slice a' (pktR p).length c')) ∧ w9 = wx)
          case first =>
            cases bk with
            | true =>
              go_wp2_with fail
              go_meet
              case rel => exact ⟨⟨p2, a2', c2', by show ps[ps.length - 1 - j]? = _; rw [← HN'.out]; exact HP2.out.1, rfl, HR2.out⟩, rfl⟩
            | false =>
              go_wp2_with fail
              go_meet
              case rel => exact ⟨⟨p1, a', c', HP1.out.1, rfl, HR1.out⟩, rfl⟩
          case rest =>
            obtain ⟨⟨p, a5, c5, hp, rfl, hr5⟩, rfl⟩ := hcut
            have HPI := hid hp
            have HR5 := hid hr5
            have HPP := hid (HPD.out hp)
            obtain ⟨d5, hd5⟩ : ∃ d5 : Nat, d5 = q4 % 5 := ⟨_, rfl⟩
            have hd5m : (q4 : Int).tmod 5 = (d5 : Int) := by rw [hd5]; rfl
            have hd5n : (q4 : Int) % 5 = (d5 : Int) := by omega
            obtain ⟨t10, ht10⟩ : ∃ t10 : Nat, t10 = q4 / 10 := ⟨_, rfl⟩
            obtain ⟨m2, hm2⟩ : ∃ m2 : Nat, m2 = t10 % 2 := ⟨_, rfl⟩
            have hm2b : m2 < 2 := by omega
            have hta : (q4 : Int).tdiv 10 = (t10 : Int) := by rw [ht10]; rfl
            have htb : (q4 : Int) / 10 = (t10 : Int) := by omega
            have htc : (t10 : Int).tmod 2 = (m2 : Int) := by rw [hm2]; rfl
            have htd : (t10 : Int) % 2 = (m2 : Int) := by omega
            clear hp hr5 hd5 ht10 hm2 hc1 hc2 HP1 HP2 HN' HR1 HR2 hni hj2 hn2 hnl
            by_cases hdrop : t < 100 ∧ d5 < 2
            · have k1 : decide ((t : Int) < 100) = true := decide_eq_true (by omega)
              have k2 : decide ((d5 : Int) < 2) = true := decide_eq_true (by omega)
              go_wp2_with fail
              go_roundw
              case rel => exact ⟨j + 1, s2, got2, at2 + 1, by omega, by go_num, by go_num, by omega, lkMid_skip HM.out hdrop.1, HS9.out, HB9.out⟩
              case measure => simp [intOf]; omega
            have hdr : decide ((t : Int) < 100) = false ∨ (decide ((t : Int) < 100) = true ∧ decide ((d5 : Int) < 2) = false) := by
              by_cases k : t < 100
              · exact .inr ⟨decide_eq_true (by omega), decide_eq_false (by omega)⟩
              · exact .inl (decide_eq_false (by omega))
            clear hdrop
            go_upto_region 36 with fail
            go_cut [137, 138, 139, 140, 141, 142, 143] from 113 to 174 (fun _ _ _ _ _ _ vt wx => vt = .bool false ∧ w9 = wx)
            case first =>
              rcases hdr with k1 | ⟨k1, k2⟩
              · go_wp2_with fail
                go_meet
                case rel => exact ⟨rfl, rfl⟩
              · go_wp2_with fail
                go_meet
                case rel => exact ⟨rfl, rfl⟩
            case rest =>
              obtain ⟨rfl, rfl⟩ := hcut
              have HDC : Hid (Calls Try.prog 14 #[.slice a5 (pktR p).length c5] w9 (PdPost w9 p 0)) := hid (by
                have h := implPd_any a5 c5 (pktR p) w9 HR5.out (by have := pktR_len p; omega)
                rw [HPP.out.2.2.1, HPP.out.2.2.2] at h
                exact h)
              have HDB : Hid (∀ x ∈ p.data, x < 256) := hid (by have h := pkP_lt HR5.out.rdB.2; rw [HPP.out.2.2.1] at h; exact h)
              clear hdr hd5m hd5n HR5
              go_wp2_with fail
              refine HDC.out.mono ?_
              rintro e w10 ⟨aD, cD, rfl, oD, b10⟩
              have HN11 := hid (below_new1 w10 (.cells #[.int .i64 p.kind, .int .i64 p.epoch, .int .i64 p.seq, .int .i64 p.count, .bool p.last, .slice aD p.data.length cD] 35))
              have HS10 := hid ((HS9.out.later b10).withX (row_byF oD HDB.out) (fun b hb => HS9.out.fresh (World.ownsRow.lt oD b (by simpa using hb)).1))
              have HS11 := hid ((HS10.out.later HN11.out).withX (box_byF (heap_alloc_new w10 (.cells #[.int .i64 p.kind, .int .i64 p.epoch, .int .i64 p.seq, .int .i64 p.count, .bool p.last, .slice aD p.data.length cD] 35))) (fun b hb => by simp only [List.mem_singleton] at hb; subst hb; exact HS10.out.fresh (Nat.le_refl _)))
              have HB11 := hid (below_chain (below_chain HB9.out b10) HN11.out)
              clear HDC HDB oD b10 HN11 HS10 HS9 HB9
              go_wp2_with fail
              generalize (w10.alloc (.cells #[.int .i64 p.kind, .int .i64 p.epoch, .int .i64 p.seq, .int .i64 p.count, .bool p.last, .slice aD p.data.length cD] 35)) = w11 at *
              generalize w10.heap.size = gp at *
              go_loopw [12, 22, 23, 24, 25] (fun v12 v22 _ _ _ wr => ∃ (n : Nat) (s3 : PI) (got3 : List (List Nat)), n ≤ 2 ∧ v22 = .int .i64 n ∧ LkFive ep S s2 p n s3 got3 ∧ LkSt w5.heap.size go gi o1 s3 got3 want v12 (.slice aW want.length cW) (fun W => ((True ∧ RdSl cSS W G (.slice (some ⟨b, off, none⟩) G.length cG)) ∧ RdSl cByte W p.data (.slice aD p.data.length cD)) ∧ W.heap[gp]? = some (.cells #[.int .i64 p.kind, .int .i64 p.epoch, .int .i64 p.seq, .int .i64 p.count, .bool p.last, .slice aD p.data.length cD] 35 (0, 0))) wr ∧ Below w.heap.size w wr) (fun _ v22 _ _ _ _ => 3 - (intOf v22).toNat)
              case atStart => exact ⟨0, s2, got2, by omega, rfl, lkFive_start HM.out, HS11.out, HB11.out⟩
              case round =>
                obtain ⟨n, s3, got3, hn, rfl, hV, hS, hB⟩ := hrel
                have HV := hid hV
                have HS3 := hid hS
                have HB3 := hid hB
                clear hV hS hB HS11 HB11
                by_cases hnm : ¬ n ≤ m2
                · have k1 : decide ((n : Int) ≤ (m2 : Int)) = false := decide_eq_false (by omega)
                  go_wp2_with fail
                  go_roundw
                  case rel => exact ⟨j + 1, s3, got3, at2 + 1, by omega, by go_num, by go_num, by omega, lkMid_five HM.out HPI.out HV.out (by omega), HS3.out.monoX (fun _ h => h.1.1), HB3.out⟩
                  case measure => simp [intOf]; omega
                have k1 : decide ((n : Int) ≤ (m2 : Int)) = true := decide_eq_true (by omega)
                have hn1 : n ≤ 1 := by omega
                have hnm' : n ≤ m2 := by omega
                clear hnm
                have HST := hid (lkFive_step HG1.out HV.out HPP.out.1 (by have := HPP.out.2.1; have := HXX.out; have := HM.out.2.2.1; omega))
                obtain ⟨F3, ao3, co3, ah3, ch3, ap3, cp3, vl3, hF⟩ := HS3.out
                have HF := hid hF
                have HKC : Hid (Calls Try.prog 15 #[.agg #[.int .i64 s3.epoch, .int .i64 s3.expect, .slice ah3 s3.held.length ch3, .slice ap3 s3.part.length cp3], .agg #[.int .i64 p.kind, .int .i64 p.epoch, .int .i64 p.seq, .int .i64 p.count, .bool p.last, .slice aD p.data.length cD]] wr (IkPost wr (takeI s3 p) (takeG s3 p) (takeC s3 p))) := hid (implTake_any s3 ah3 ap3 ch3 cp3 p aD cD wr hF.ri.now hF.rx.now.1.2 (dataB_in (HG1.out.dat p HPP.out.1)) HV.out.2.1)
                clear hF
                have c0 := cell_of_row _ _ 0 _ _ _ HF.out.bi
                have c1 := cell_of_row _ _ 1 _ _ _ HF.out.bi
                have c2 := cell_of_row _ _ 2 _ _ _ HF.out.bi
                have c3 := cell_of_row _ _ 3 _ _ _ HF.out.bi
                have zc0 := frozen_of_row _ _ 0 _ _ HF.out.bi
                have zc1 := frozen_of_row _ _ 1 _ _ HF.out.bi
                have zc2 := frozen_of_row _ _ 2 _ _ HF.out.bi
                have zc3 := frozen_of_row _ _ 3 _ _ HF.out.bi
                simp only [List.getElem?_toArray, List.getElem?_cons_zero, List.getElem?_cons_succ] at c0 c1 c2 c3
                have p0 := cell_of_row _ _ 0 _ _ _ HF.out.rx.now.2
                have p1 := cell_of_row _ _ 1 _ _ _ HF.out.rx.now.2
                have p2 := cell_of_row _ _ 2 _ _ _ HF.out.rx.now.2
                have p3 := cell_of_row _ _ 3 _ _ _ HF.out.rx.now.2
                have p4 := cell_of_row _ _ 4 _ _ _ HF.out.rx.now.2
                have p5 := cell_of_row _ _ 5 _ _ _ HF.out.rx.now.2
                have zp0 := frozen_of_row _ _ 0 _ _ HF.out.rx.now.2
                have zp1 := frozen_of_row _ _ 1 _ _ HF.out.rx.now.2
                have zp2 := frozen_of_row _ _ 2 _ _ HF.out.rx.now.2
                have zp3 := frozen_of_row _ _ 3 _ _ HF.out.rx.now.2
                have zp4 := frozen_of_row _ _ 4 _ _ HF.out.rx.now.2
                have zp5 := frozen_of_row _ _ 5 _ _ HF.out.rx.now.2
                simp only [List.getElem?_toArray, List.getElem?_cons_zero, List.getElem?_cons_succ] at p0 p1 p2 p3 p4 p5
                go_wp2_with fail
                refine HKC.out.mono ?_
                rintro e w12 ⟨aK, cK, bK, dK, vK, bs, ds, us, rfl, h1, h2, h3, h4, h5⟩
                obtain ⟨am, cm, news, hvm, hnl, hnn, hno, hby⟩ := h2.texts
                subst hvm
                obtain ⟨s4, hs4⟩ : ∃ s4 : PI, s4 = takeI s3 p := ⟨_, rfl⟩
                obtain ⟨M, hM4⟩ : ∃ M : List (List Nat), M = takeG s3 p := ⟨_, rfl⟩
                obtain ⟨C, hC4⟩ : ∃ C : Int, C = takeC s3 p := ⟨_, rfl⟩
                have HMT : Hid (M.length ≤ 1000) := hid (by rw [hM4]; exact (take_tot HV.out.2.1).2.1)
                rw [← hs4] at h1 HST
                rw [← hM4] at h2 hnl hnn hby HST
                rw [← hC4] at HST
                rw [← hs4, ← hM4, ← hC4]
                clear hs4 hM4 hC4
                clear c0 zc0 c1 zc1 c2 zc2 c3 zc3
                clear p0 zp0 p1 zp1 p2 zp2 p3 zp3 p4 zp4 p5 zp5
                have HN13 := hid (below_new1 w12 (.cells #[.int .i64 s4.epoch, .int .i64 s4.expect, .slice aK s4.held.length cK, .slice bK s4.part.length dK] 48))
                have HS12 := hid ((HS3.out.later h5).withX hby (fun b hb => HS3.out.fresh (h4 b (List.mem_append_right _ (List.mem_append_right _ hb)))))
                have HFI : Hid (∀ b ∈ bs ++ ds, b ≠ go ∧ b ≠ gi ∧ _ ≠ some b) := hid (fun b hb => HS3.out.fresh (h4 b (by rcases List.mem_append.1 hb with hb | hb; exact List.mem_append_left _ hb; exact List.mem_append_right _ (List.mem_append_left _ hb))))
                have HI13 := hid (h1.byF.later HN13.out)
                have HS13 := hid ((HS12.out.later HN13.out).withX (box_byF (heap_alloc_new w12 (.cells #[.int .i64 s4.epoch, .int .i64 s4.expect, .slice aK s4.held.length cK, .slice bK s4.part.length dK] 48))) (fun b hb => by simp only [List.mem_singleton] at hb; subst hb; exact HS12.out.fresh (Nat.le_refl _)))
                have HB13 := hid (below_chain (below_chain HB3.out h5) HN13.out)
                clear h1 h2 h3 h4 h5 hby HN13 HS12 HKC HF HS3 HB3
                go_upto_region 44 with fail
                generalize (w12.alloc (.cells #[.int .i64 s4.epoch, .int .i64 s4.expect, .slice aK s4.held.length cK, .slice bK s4.part.length dK] 48)) = w13 at *
                generalize w12.heap.size = gn at *
                go_cut [165, 166, 167, 168, 169, 170] from 151 to 174 (fun _ _ _ _ _ vt wx => vt = .bool false ∧ w13 = wx)
                case first =>
                  rcases HST.out.2 with hC | hC
                  · subst hC
                    go_wp2_with fail
                    go_meet
                    case rel => exact ⟨rfl, rfl⟩
                  · subst hC
                    go_wp2_with fail
                    go_meet
                    case rel => exact ⟨rfl, rfl⟩
                case rest =>
                  obtain ⟨rfl, rfl⟩ := hcut
                  obtain ⟨F4, ao4, co4, ah4, ch4, ap4, cp4, vl4, hF⟩ := HS13.out
                  have HF := hid hF
                  clear hF
                  have c0 := cell_of_row _ _ 0 _ _ _ HF.out.bi
                  have c1 := cell_of_row _ _ 1 _ _ _ HF.out.bi
                  have c2 := cell_of_row _ _ 2 _ _ _ HF.out.bi
                  have c3 := cell_of_row _ _ 3 _ _ _ HF.out.bi
                  have zc0 := frozen_of_row _ _ 0 _ _ HF.out.bi
                  have zc1 := frozen_of_row _ _ 1 _ _ HF.out.bi
                  have zc2 := frozen_of_row _ _ 2 _ _ HF.out.bi
                  have zc3 := frozen_of_row _ _ 3 _ _ HF.out.bi
                  simp only [List.getElem?_toArray, List.getElem?_cons_zero, List.getElem?_cons_succ] at c0 c1 c2 c3
                  have p0 := cell_of_row _ _ 0 _ _ _ HF.out.rx.now.2
                  have p1 := cell_of_row _ _ 1 _ _ _ HF.out.rx.now.2
                  have p2 := cell_of_row _ _ 2 _ _ _ HF.out.rx.now.2
                  have p3 := cell_of_row _ _ 3 _ _ _ HF.out.rx.now.2
                  have zp0 := frozen_of_row _ _ 0 _ _ HF.out.rx.now.2
                  have zp1 := frozen_of_row _ _ 1 _ _ HF.out.rx.now.2
                  have zp2 := frozen_of_row _ _ 2 _ _ HF.out.rx.now.2
                  have zp3 := frozen_of_row _ _ 3 _ _ HF.out.rx.now.2
                  simp only [List.getElem?_toArray, List.getElem?_cons_zero, List.getElem?_cons_succ] at p0 p1 p2 p3
                  have HS14 := hid (HS13.out.setI HI13.out HFI.out)
                  have HB14 := hid (set4b (x := .int .i64 s4.epoch) (y := .int .i64 s4.expect) (z := .slice aK s4.held.length cK) (u := .slice bK s4.part.length dK) HB13.out (show w.heap.size ≤ gi from HGI.out))
                  go_upto_region 47 with fail
                  generalize ((((w13.setCell ⟨gi, 0, none⟩ (.int .i64 s4.epoch)).setCell ⟨gi, 1, none⟩ (.int .i64 s4.expect)).setCell ⟨gi, 2, none⟩ (.slice aK s4.held.length cK)).setCell ⟨gi, 3, none⟩ (.slice bK s4.part.length dK)) = w14 at *
                  clear c0 zc0 c1 zc1 c2 zc2 c3 zc3
                  clear p0 zp0 p1 zp1 p2 zp2 p3 zp3
                  clear HS13 HB13 HI13 HFI HF
                  obtain ⟨F5, ao5, co5, ah5, ch5, ap5, cp5, vl5, hF⟩ := HS14.out
                  have HRD := hid hF.rx.now.1.2.1
                  obtain ⟨vals, hvo, happ⟩ := HS14.out.app (G := M) (news := news) (fun W hX => hX.1.2.2)
                  have HVO := hid hvo
                  have HAP := hid happ
                  have HSZ := hid HS14.out.size
                  have hgw : got3.length ≤ 5 := by have := (lk_prefix HG1.out HV.out.1).1; omega
                  have hml : M.length ≤ 1000 := HMT.out
                  have HNN := hid hnn
                  have HNO := hid hno
                  obtain ⟨i0, hi0, hz0, hz1, hz2⟩ := info_parts infoSlT
                  clear hvo happ hF hnn hno
                  go_wp2_with (first | (at_builtin; refine append_at rfl _ _ 24 rfl w5.heap.size 22 i0 (.slice none 0 0) 24 Try.underlying24 hi0 hz0 hz1 hz2 rfl _ got3.length vals rfl HVO.out am M.length cm news rfl hnl HNN.out HRD.out HNO.out (by unfold maxLen; omega) (by omega) HSZ.out.2.2.1 ?_) | fail)
                  intro v15 w15 hown hgrow hat
                  have HS15 := hid (HAP.out v15 w15 hown hgrow (by simpa using hat))
                  have HB15 : Hid (Below w.heap.size w w15) := hid (HB14.out.grown hgrow HB14.out.size (fun p hp => by have h1 := (World.ownsRow.lt HVO.out p hp).1; have h2 := HSP.out; omega))
                  clear hown hgrow hat HAP HVO HSZ HS14 HB14 hi0 hz0 hz1 hz2 i0 HRD HNN HNO
                  go_wp2_with fail
                  go_roundw
                  case rel => exact ⟨n + 1, s4, got3 ++ M, by omega, by go_num, HST.out.1, HS15.out.monoX (fun _ h => h.1.1), HB15.out⟩
                  case measure => simp [intOf]; omega
    have hb1 : decide ((i : Int) < 1 + (d : Int)) = true := decide_eq_true (by omega)
    have hi4 : i ≤ 4 := by omega
    clear hlt
    have HTA : Hid (Calls Try.prog 6 #[.slice a0 xs.length cap0, .int .i64 (2 + (i : Int))] w5 fun e w' => (∃ q : Nat, q < 256 ∧ e = .returned (.int .i64 (q : Int))) ∧ Below w5.heap.size w5 w') := hid (by
      have h := take_any a0 cap0 xs (2 + i) w5 (HR.out.later HB5.out) HX.out hxl
      rwa [show ((2 + i : Nat) : Int) = 2 + (i : Int) from by omega] at h)
    go_wp2_with fail
    refine HTA.out.mono ?_
    rintro e w6 ⟨⟨q2, hq2, rfl⟩, B6⟩
    obtain ⟨r2, hr2⟩ : ∃ r2 : Nat, r2 = q2 * 3 % 700 := ⟨_, rfl⟩
    have hr7 : r2 < 700 := by omega
    have hrm : ((q2 : Int) * 3).tmod 700 = (r2 : Int) := by rw [hr2]; rfl
    have hrm2 : ((q2 : Int) * 3) % 700 = (r2 : Int) := by omega
    have HS6 := hid (HS5.out.later B6)
    have HB6 := hid (below_chain HB5.out B6)
    clear hr2 B6 HS5 HB5 HTA hdm hdm2 hb1
    go_wp2_with fail
    go_loopw [11] (fun v wq => ∃ ms : List Nat, ms.length ≤ 1 + r2 ∧ (∀ x ∈ ms, x < 256) ∧ wq.ownsRow w6.heap.size 5 1 v ms.length (byt ms) ∧ Below w6.heap.size w6 wq) (fun v _ => 1 + r2 - slLen v)
    case atStart => exact ⟨[], by simp, by simp, World.ownsRow_nil _ _ _ _, Below.refl _ _⟩
    case round =>
      obtain ⟨ms, hml, hmb, hmo, hmB⟩ := hrel
      obtain ⟨am, cm, rfl, hmr⟩ := rd_own hmo
      have HMO := hid hmo
      have HMB := hid hmb
      have HMBE := hid hmB
      clear hmo hmb hmB hmr
      by_cases hmlt : ms.length < 1 + r2
      · have hb2 : decide ((ms.length : Int) < 1 + (r2 : Int)) = true := decide_eq_true (by omega)
        go_wp2_with fail
        refine (take_any a0 cap0 xs ms.length _ (HR.out.later (below_chain HB6.out HMBE.out)) HX.out hxl).mono ?_
        rintro e w7 ⟨⟨q3, hq3, rfl⟩, B7⟩
        obtain ⟨y, hy⟩ : ∃ y : Nat, y = (q3 + i) % 256 := ⟨_, rfl⟩
        have hyb : y < 256 := by omega
        have hym : ((q3 : Int) + (i : Int)) % 256 = (y : Int) := by omega
        have HRO := hid (rd_one w7 (.int .u8 (y : Int)) 5)
        have HBO := hid (below_new1 w7 (.cells #[.int .u8 (y : Int)] 5))
        have HMO7 := hid (ownsRow_kept (ownsRow_kept HMO.out (fun b hb => B7.block b (World.ownsRow.lt HMO.out b hb).2)) (fun b hb => HBO.out.block b (World.ownsRow.lt (ownsRow_kept HMO.out (fun b hb => B7.block b (World.ownsRow.lt HMO.out b hb).2)) b hb).2))
        have HSZ : Hid (w6.heap.size ≤ (w7.alloc (.cells #[.int .u8 (y : Int)] 5)).heap.size) := hid (by have h1 := HMBE.out.size; have h2 := B7.size; have h3 := HBO.out.size; omega)
        have HB9 := hid (below_chain (below_chain HMBE.out B7) HBO.out)
        obtain ⟨i0, hi0, hz0, hz1, hz2⟩ := info_parts infoByteT
        clear hy B7
        go_wp2_with (first | (at_builtin; refine append_any rfl _ _ 22 rfl w6.heap.size 5 i0 (.int .u8 0) 1 Try.underlying22 hi0 hz0 hz1 hz2 rfl _ ms.length (byt ms) rfl HMO7.out (some ⟨w7.heap.size, 0, none⟩) 1 1 [.int .u8 (y : Int)] rfl rfl (by simp) HRO.out (by simp [Value.oneCell']) (by unfold maxLen; omega) (by omega) HSZ.out ?_) | fail)
        intro v' w8 hown hgrow
        have HB8 := hid (HB9.out.grown hgrow HSZ.out (fun p hp => (World.ownsRow.lt HMO7.out p hp).1))
        have HO8 : Hid (w8.ownsRow w6.heap.size 5 1 v' (ms ++ [y]).length (byt (ms ++ [y]))) := hid (by rw [List.length_append]; simpa [byt] using hown)
        clear hown hgrow hi0 hz0 hz1 hz2 i0
        go_wp2_with fail
        go_roundw
        case rel => exact ⟨ms ++ [y], by rw [List.length_append]; simp; omega, fun x hx => by rcases List.mem_append.1 hx with hx | hx; exact HMB.out x hx; simp at hx; omega, HO8.out, HB8.out⟩
        case measure =>
          obtain ⟨a', c', rfl, -⟩ := rd_own HO8.out
          simp [slLen]; omega
      · have hb2 : decide ((ms.length : Int) < 1 + (r2 : Int)) = false := decide_eq_false (by omega)
        have hme : ms.length = 1 + r2 := by omega
        have HME := hid hme
        have hml2 : ms.length ≤ 700 := by omega
        clear hme hmlt hml
        have HMS := hid (own_rdSl HMO.out HMB.out)
        have HS7 := hid ((HS6.out.later HMBE.out).withX (row_byF HMO.out HMB.out) (fun b hb => HS6.out.fresh (World.ownsRow.lt HMO.out b (by simpa using hb)).1))
        have HB7 := hid (below_chain HB6.out HMBE.out)
        clear HS6 HB6 HMBE HMO
        have hNw8 := hid HMS.out.nil0
        have hRw8 := hid HMS.out.rdB
        have hOw8 : Hid ((wr.alloc (.cells #[] 5)).ownsRow wr.heap.size 5 1 (.slice (some ⟨wr.heap.size, 0, none⟩) 0 0) 0 []) := hid ⟨rfl, .inr ⟨wr.heap.size, 0, #[], rfl, Nat.le_refl _, heap_alloc_new wr _, Nat.le_refl _, Nat.zero_le _, rfl, rfl⟩⟩
        have hSw8 : Hid (wr.heap.size ≤ (wr.alloc (.cells #[] 5)).heap.size) := hid (below_new1 wr (.cells #[] 5)).size
        have hBw8 := hid (below_new1 wr (.cells #[] 5))
        have hRRw8 := hid (hRw8.out.1.later hBw8.out)
        obtain ⟨i0, hi, hz0, hz1, hz2⟩ := info_parts infoByteT
        go_wp2_with (first | (at_builtin; refine append_any rfl _ _ 22 rfl wr.heap.size 5 i0 (.int .u8 0) 1 Try.underlying22 hi hz0 hz1 hz2 rfl _ 0 [] rfl hOw8.out am ms.length cm (byt ms) rfl (byt_len _) hNw8.out hRRw8.out (byt_one _) (by unfold maxLen; omega) (by omega) hSw8.out ?_) | fail)
        intro v' w8 hown hgrow
        clear hi hz0 hz1 hz2 i0
        try rw [Nat.zero_add] at hown
        obtain ⟨aw8, cw8, rfl, -⟩ := rd_own hown
        have hbw8 : Below wr.heap.size wr w8 := hBw8.out.grown hgrow hSw8.out (fun p hp => by simp [Value.ownBlock] at hp; omega)
        have HOw8 : Hid (w8.ownsRow wr.heap.size 5 1 (.slice aw8 ms.length cw8) ms.length (byt ms)) := hid (by simpa using hown)
        have HRaw8 := hid (own_rdSl HOw8.out hRw8.out.2)
        have HBw8 := hid (below_chain HB7.out hbw8)
        have HRrw8 := hid (HMS.out.later hbw8)
        clear hown hgrow hOw8 hBw8 hSw8 hNw8 hRRw8
        have HS8 := hid ((HS7.out.later hbw8).withX (row_byF HOw8.out hRw8.out.2) (fun b hb => HS7.out.fresh (World.ownsRow.lt HOw8.out b (by simpa using hb)).1))
        have HRO := hid (rd_one w8 (.slice aw8 ms.length cw8) 22)
        have HBO := hid (below_new1 w8 (.cells #[.slice aw8 ms.length cw8] 22))
        have HS9 := hid (HS8.out.later HBO.out)
        have HB9 := hid (below_chain HBw8.out HBO.out)
        obtain ⟨vals, hvo, happ⟩ := HS9.out.app (G := [ms]) (news := [.slice aw8 ms.length cw8]) (fun W hX k hk => by
          obtain rfl : k = 0 := by simp at hk; omega
          exact ⟨_, rfl, hX.2⟩)
        have HVO := hid hvo
        have HAP := hid happ
        have HSZ := hid HS9.out.size
        have hwl : want.length ≤ 5 := by have := HG.out.2.2.1; omega
        obtain ⟨i0, hi0, hz0, hz1, hz2⟩ := info_parts infoSlT
        clear hvo happ hbw8 hRw8 HOw8 HRaw8 HRrw8 HBw8 HS7 HS8 HB7
        go_wp2_with (first | (at_builtin; refine append_at rfl _ _ 24 rfl w4.heap.size 22 i0 (.slice none 0 0) 24 Try.underlying24 hi0 hz0 hz1 hz2 rfl _ want.length vals rfl HVO.out (some ⟨w8.heap.size, 0, none⟩) 1 1 [.slice aw8 ms.length cw8] rfl rfl (by simp) HRO.out (by simp [Value.oneCell']) (by unfold maxLen; omega) (by omega) HSZ.out.2.2.1 ?_) | fail)
        intro v10 w10 hown hgrow hat
        have HS10 := hid (HAP.out v10 w10 hown hgrow (by simpa using hat))
        have HB10 : Hid (Below w.heap.size w w10) := hid (HB9.out.grown hgrow HB9.out.size (fun p hp => by have h1 := (World.ownsRow.lt HVO.out p hp).1; have h2 := HB4.out.size; omega))
        clear hown hgrow hat HAP HVO HRO HBO HS9 HB9 HSZ hi0 hz0 hz1 hz2 i0 HMS
        obtain ⟨O, hO⟩ : ∃ O : PO, O = lkO (1 + (q : Int)) S := ⟨_, rfl⟩
        have HO := hid hO
        rw [← hO] at HS10
        clear hO
        obtain ⟨F, ao, co, ah, ch, ap, cp, vl, hF⟩ := HS10.out
        have HF := hid hF
        have hep : 1 ≤ (1 + (q : Int)) ∧ (1 + (q : Int)) ≤ 1000000000 := ⟨by omega, by omega⟩
        have HPU : Hid (pushO O ms = lkO (1 + (q : Int)) (lkS (1 + (q : Int)) S ms) ∧ pushC O ms = 0) := hid (by rw [HO.out]; exact lk_push HG.out.1 hep (by have := HME.out; omega) hml2)
        have HPC : Hid (Calls Try.prog 8 #[.agg #[.int .i64 O.epoch, .int .i64 O.next, .int .i64 O.now, .slice ao O.wait.length co], .slice am ms.length cm] w10 (IoPost0 w10 (pushO O ms) 0)) := hid (by
          have h := implPush0_any O ao co ms am cm w10 hF.ro.now hF.rx.now.1.2 (by omega) (by rw [HO.out]; exact outOK_tot (lkO_ok HG.out.1 hep))
          rw [HPU.out.2] at h
          exact h)
        clear hF hep
        have c0 := cell_of_row _ _ 0 _ _ _ HF.out.bo
        have c1 := cell_of_row _ _ 1 _ _ _ HF.out.bo
        have c2 := cell_of_row _ _ 2 _ _ _ HF.out.bo
        have c3 := cell_of_row _ _ 3 _ _ _ HF.out.bo
        have zc0 := frozen_of_row _ _ 0 _ _ HF.out.bo
        have zc1 := frozen_of_row _ _ 1 _ _ HF.out.bo
        have zc2 := frozen_of_row _ _ 2 _ _ HF.out.bo
        have zc3 := frozen_of_row _ _ 3 _ _ HF.out.bo
        simp only [List.getElem?_toArray, List.getElem?_cons_zero, List.getElem?_cons_succ] at c0 c1 c2 c3
        go_wp2_with fail
        refine HPC.out.mono ?_
        rintro e w11 ⟨aP, cP, bsP, rfl, oP, lP, nP, tP, bl⟩
        have HS11 := hid ((HS10.out.later bl).setO oP.byF (fun b hb => HS10.out.fresh (lP b hb)))
        have HBB := hid (below_chain HB10.out bl)
        have HGG := hid HS10.out.size
        clear c0 zc0 c1 zc1 c2 zc2 c3 zc3
        have HF2 := hid (HS10.out.later bl)
        obtain ⟨F2, ao2, co2, ah2, ch2, ap2, cp2, vl2, hF2⟩ := HF2.out
        have c0 := cell_of_row _ _ 0 _ _ _ hF2.bo
        have c1 := cell_of_row _ _ 1 _ _ _ hF2.bo
        have c2 := cell_of_row _ _ 2 _ _ _ hF2.bo
        have c3 := cell_of_row _ _ 3 _ _ _ hF2.bo
        have zc0 := frozen_of_row _ _ 0 _ _ hF2.bo
        have zc1 := frozen_of_row _ _ 1 _ _ hF2.bo
        have zc2 := frozen_of_row _ _ 2 _ _ hF2.bo
        have zc3 := frozen_of_row _ _ 3 _ _ hF2.bo
        simp only [List.getElem?_toArray, List.getElem?_cons_zero, List.getElem?_cons_succ] at c0 c1 c2 c3
        clear hF2
        obtain ⟨R, hR⟩ : ∃ R : PO, R = pushO O ms := ⟨_, rfl⟩
        rw [← hR] at HS11
        have HRR := hid (hR.trans HPU.out.1)
        rw [← hR]
        have HB11 := hid (set4b (x := .int .i64 R.epoch) (y := .int .i64 R.next) (z := .int .i64 R.now) (u := .slice aP R.wait.length cP) HBB.out (show w.heap.size ≤ go from HGO.out))
        clear hR oP lP nP tP bl HPU HPC HF HF2 HS10 HB10 HGG HO HBB
        go_wp2_with fail
        go_roundw
        case rel =>
          have hep : 1 ≤ (1 + (q : Int)) ∧ (1 + (q : Int)) ≤ 1000000000 := ⟨by omega, by omega⟩
          obtain ⟨g1, g2, g3, g4⟩ := HG.out
          have hp := good_push g1 hep (by have := HME.out; omega) hml2 (by omega)
          refine ⟨i + 1, lkS (1 + (q : Int)) S ms, want ++ [ms], by omega, by go_num, ⟨hp.1, by have := hp.2; omega, by simp [g3], fun m hm => ?_⟩, ?_, HB11.out⟩
          · rcases List.mem_append.1 hm with hm | hm
            · exact g4 m hm
            · simp at hm; subst hm; exact hml2
          · rw [← HRR.out]; exact HS11.out.monoX (fun _ _ => trivial)
        case measure => simp [intOf]; omega
end Go.Proofs.Ytmaccmgmcahopaa
