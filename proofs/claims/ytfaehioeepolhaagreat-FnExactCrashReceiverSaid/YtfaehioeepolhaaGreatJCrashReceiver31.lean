import Derived.Test.YtfaehioeepolhaaGreatJCrashReceiver30
import Derived.Test.YtfaehioeepolhaaGreatJCrashReceiver22
import Derived.Test.YtfaehioeepolhaaGreatJCrashReceiver5
import Derived.Test.YtfaehioeepolhaaGreatJCrashReceiver21
namespace Go.Proofs.YtfaehioeepolhaaGreat
open Go.RowKit
set_option maxHeartbeats 2000000 in
theorem validName_any (a : Option Addr) (cap : Nat) (xs : List Nat) (w : World) (hr : Rd w a (byt xs)) :
    Calls Tryz.prog 150 #[.slice a xs.length cap] w fun e w' => e = .returned (.bool (nameOK xs)) ∧ w' = w := by
  by_cases h1 : xs.length < 1
  · have HD : Hid (nameOK xs = false) := hid (by simp [nameOK]; omega)
    rw [HD.out]
    go_enter Tryz.func150, Tryz.ntmps150
    go_wp2
    go_ret
    exact ⟨rfl, rfl⟩
  by_cases h2 : 20 < xs.length
  · have HD : Hid (nameOK xs = false) := hid (by simp [nameOK]; omega)
    rw [HD.out]
    go_enter Tryz.func150, Tryz.ntmps150
    go_wp2
    go_ret
    exact ⟨rfl, rfl⟩
  have HD : Hid (nameOK xs = xs.all nameB) := hid (by
    have e1 : decide (1 ≤ xs.length) = true := decide_eq_true (by omega)
    have e2 : decide (xs.length ≤ 20) = true := decide_eq_true (by omega)
    unfold nameOK; rw [e1, e2]; rfl)
  rw [HD.out]
  have HC : Hid (∀ i, (h : i < xs.length) → ∃ b off, a = some ⟨b, off, none⟩ ∧ w.cell? ⟨b, off + i, none⟩ = some (.int .u8 ((xs[i] : Nat) : Int))) := hid (by
    rcases hr with h | ⟨b, off, rfl, hc⟩
    · have : xs = [] := by simpa [byt] using h
      subst this; simp at h1
    · exact fun i h => ⟨b, off, rfl, rdByte hc i h⟩)
  clear hr
  go_enter Tryz.func150, Tryz.ntmps150
  go_wp2
  go_loop [4, 15] (fun c i => ∃ k : Nat, k ≤ xs.length ∧ i = .int .i64 k ∧ ∀ j, (h : j < xs.length) → j < k → nameB xs[j] = true) (fun _ i => xs.length - (intOf i).toNat)
  case atStart => exact ⟨0, Nat.zero_le _, rfl, fun j _ h => by omega⟩
  case round =>
    obtain ⟨k, hk, rfl, hall⟩ := hrel
    have HA := hid hall
    clear hall
    by_cases hlt : k < xs.length
    · obtain ⟨b, off, rfl, hcell⟩ := HC.out k hlt
      have hki : (k : Int) < (xs.length : Int) := by omega
      go_wp2_with fail
      refine (nameByte_any xs[k] w).mono ?_
      rintro e w ⟨rfl, rfl⟩
      cases hn : nameB xs[k]
      · have HX := hid (all_bad hlt hn)
        go_wp2
        go_ret
        exact ⟨by rw [HX.out]; rfl, rfl⟩
      · have HX : Hid (∀ j, (h : j < xs.length) → j < k + 1 → nameB xs[j] = true) := hid (fun j hj hjk => by
          by_cases e : j = k
          · subst e; exact hn
          · exact HA.out j hj (by omega))
        go_wp2
        go_round
        case rel => exact ⟨k + 1, by omega, by go_num, HX.out⟩
        case measure => simp [intOf]; omega
    · obtain rfl : k = xs.length := by omega
      have HF := hid (all_ok (fun j hj => HA.out j hj hj))
      go_wp2
      go_ret
      exact ⟨by rw [HF.out]; rfl, rfl⟩
set_option maxHeartbeats 1000000 in
theorem fitsWidth_any (n width : Int) (w : World) (hn : IntIn n) (hw : IntIn width) :
    Calls Tryz.prog 183 #[.int .i64 n, .int .i64 width] w fun e w' => e = .returned (.bool (fitsW n width)) ∧ Below w.heap.size w w' := by
  have HQ : Hid (Calls Tryz.prog 194 #[.slice (some ⟨w.heap.size, 0, none⟩) 1 1, .int .i64 width] (w.alloc (.cells #[.int .i64 n] 3)) (PkiPost (w.alloc (.cells #[.int .i64 n] 3)) (pki [n] width))) := hid (implPki_any (some ⟨w.heap.size, 0, none⟩) 1 [n] width _ (.inr ⟨w.heap.size, 0, rfl, fun i hi => by
      have : i = 0 := by simpa [ints] using hi
      subst this
      simp [ints]⟩) (by simp; exact hn) (by simp) (by simp) hw)
  have HD : Hid (fitsW n width = ((pki [n] width).2 == 0)) := hid rfl
  generalize pki [n] width = R at *
  go_enter Tryz.func183, Tryz.ntmps183
  go_wp2_with fail
  refine HQ.out.mono ?_
  rintro e w1 ⟨a1, c1, rfl, o1, b1⟩
  have HB : Hid (Below w.heap.size w w1) := hid ((below_new1 w _).trans (b1.mono (by simp)))
  clear o1 b1
  go_wp2
  go_ret
  exact ⟨by rw [HD.out]; rfl, HB.out⟩
set_option maxHeartbeats 400000 in
theorem validWidth_any (width : Int) (w : World) (hw : IntIn width) :
    Calls Tryz.prog 151 #[.int .i64 width] w fun e w' => e = .returned (.bool (widthOK width)) ∧ Below w.heap.size w w' := by
  go_enter Tryz.func151, Tryz.ntmps151
  go_wp2_with fail
  refine (fitsWidth_any 0 width w (by unfold IntIn; omega) hw).mono ?_
  rintro e w1 ⟨rfl, b1⟩
  have HB := hid b1
  clear b1
  rw [fitsW_zero]
  generalize hq : widthOK width = q
  go_wp2
  go_ret
  exact ⟨by rw [hq]; rfl, HB.out⟩
set_option maxHeartbeats 1000000 in
theorem validField_any (f : PF) (cs : List Value) (w : World) (hr : cField.rd w f cs) :
    Calls Tryz.prog 105 #[val cs] w fun e w' => e = .returned (.bool (fieldOK f)) ∧ Below w.heap.size w w' := by
  obtain ⟨v, rfl, hv, hik, hiw⟩ := cField_rd hr
  obtain ⟨a, cap, rfl, _, _, _, hrd, hby⟩ := hv.bytes
  simp only [val]
  have HK : Hid (Calls Tryz.prog 150 #[.slice a f.name.length cap] (w.alloc (.cells #[.slice a f.name.length cap, .int .i64 f.kind, .int .i64 f.width] 98)) fun e w' => e = .returned (.bool (nameOK f.name)) ∧ w' = w.alloc (.cells #[.slice a f.name.length cap, .int .i64 f.kind, .int .i64 f.width] 98)) := hid (validName_any a cap f.name _ (hrd.later (below_new1 _ _)))
  have HF : Hid (fieldOK f = (nameOK f.name && kindOK f)) := hid rfl
  have HKK : Hid (kindOK f = if f.kind = 1 then widthOK f.width else decide (0 ≤ f.kind) && decide (f.kind ≤ 3) && decide (f.width = 0)) := hid rfl
  have HIW := hid hiw
  clear hr hrd hv hik hiw
  cases hn : nameOK f.name
  · have HX : Hid (fieldOK f = false) := hid (by rw [HF.out, hn]; rfl)
    go_enter Tryz.func105, Tryz.ntmps105
    go_wp2_with fail
    refine HK.out.mono ?_
    rintro e w2 ⟨rfl, rfl⟩
    rw [hn]
    go_wp2
    go_ret
    exact ⟨by rw [HX.out]; rfl, below_new1 _ _⟩
  · by_cases h1 : f.kind = 1
    · have HX : Hid (fieldOK f = widthOK f.width) := hid (by rw [HF.out, hn, HKK.out, if_pos h1]; rfl)
      have H1 := hid h1
      clear h1
      go_enter Tryz.func105, Tryz.ntmps105
      go_wp2_with fail
      refine HK.out.mono ?_
      rintro e w2 ⟨rfl, rfl⟩
      rw [hn]
      have h1 := H1.out
      go_wp2_with fail
      refine (validWidth_any f.width _ HIW.out).mono ?_
      rintro e w2 ⟨rfl, b2⟩
      have HB : Hid (Below w.heap.size w w2) := hid ((below_new1 w _).trans (b2.mono (by simp)))
      clear b2
      generalize widthOK f.width = q at *
      go_wp2
      go_ret
      exact ⟨by rw [HX.out]; rfl, HB.out⟩
    · have HX : Hid (fieldOK f = (decide (0 ≤ f.kind) && decide (f.kind ≤ 3) && decide (f.width = 0))) := hid (by rw [HF.out, hn, HKK.out, if_neg h1]; rfl)
      by_cases h2 : f.kind = 0 ∨ f.kind = 2 ∨ f.kind = 3
      · have HY : Hid (fieldOK f = decide (f.width = 0)) := hid (by rw [HX.out, decide_eq_true (show 0 ≤ f.kind by omega), decide_eq_true (show f.kind ≤ 3 by omega)]; rfl)
        rcases h2 with h2 | h2 | h2
        all_goals
          have H2 := hid h2
          clear h2 h1
          go_enter Tryz.func105, Tryz.ntmps105
          go_wp2_with fail
          refine HK.out.mono ?_
          rintro e w2 ⟨rfl, rfl⟩
          rw [hn]
          have h2 := H2.out
          go_wp2
          go_ret
          exact ⟨by rw [HY.out]; rfl, below_new1 _ _⟩
      · have HY : Hid (fieldOK f = false) := hid (by
          rw [HX.out]
          by_cases e : 0 ≤ f.kind
          · rw [decide_eq_false (show ¬ f.kind ≤ 3 by omega)]; simp
          · rw [decide_eq_false e]; rfl)
        have e0 : (f.kind == 0) = false := by simp; omega
        have e1 : (f.kind == 1) = false := by simp; omega
        have e2 : (f.kind == 2) = false := by simp; omega
        have e3 : (f.kind == 3) = false := by simp; omega
        clear h1 h2
        go_enter Tryz.func105, Tryz.ntmps105
        go_wp2_with fail
        refine HK.out.mono ?_
        rintro e w2 ⟨rfl, rfl⟩
        rw [hn]
        go_wp2
        go_ret
        exact ⟨by rw [HY.out]; rfl, below_new1 _ _⟩
end Go.Proofs.YtfaehioeepolhaaGreat
namespace Go.Proofs.YtfaehioeepolhaaGreat
open Go.RowKit
set_option maxHeartbeats 2000000 in
theorem validCell_any (f : PF) (c : PC) (cs cs' : List Value) (w : World) (h1 : cField.rd w f cs) (h2 : cCell.rd w c cs') :
    Calls Tryz.prog 184 #[val cs, val cs'] w fun e w' => e = .returned (.bool (cellOK f c)) ∧ Below w.heap.size w w' := by
  obtain ⟨a1, c1, rfl⟩ := cField_shape h1
  obtain ⟨a2, c2, rfl⟩ := cCell_shape h2
  have hin : IntIn c.num ∧ IntIn f.width := by
    obtain ⟨v, e, _, h⟩ := cCell_rd h2
    obtain ⟨v, e, _, _, h'⟩ := cField_rd h1
    exact ⟨h, h'⟩
  have HIN := hid hin
  simp only [val]
  clear h1 h2 hin
  cases hn : c.null
  · by_cases k0 : f.kind = 0
    · have HX := hid (cellOK_bool hn k0)
      by_cases e0 : c.num = 0
      · rw [show (c.num == 0) = true from by simpa using e0] at HX
        go_enter Tryz.func184, Tryz.ntmps184
        go_wp2
        go_ret
        exact ⟨by rw [HX.out]; first | rfl | simp, below_new2 _ _ _⟩
      · by_cases e1 : c.num = 1
        · rw [show (c.num == 0) = false from by simpa using e0, show (c.num == 1) = true from by simpa using e1] at HX
          go_enter Tryz.func184, Tryz.ntmps184
          go_wp2
          go_ret
          exact ⟨by rw [HX.out]; first | rfl | simp, below_new2 _ _ _⟩
        · rw [show (c.num == 0) = false from by simpa using e0, show (c.num == 1) = false from by simpa using e1] at HX
          have b0 : (c.num == 0) = false := by simpa using e0
          have b1 : (c.num == 1) = false := by simpa using e1
          clear e0 e1
          go_enter Tryz.func184, Tryz.ntmps184
          go_wp2
          go_ret
          exact ⟨by rw [HX.out]; first | rfl | simp, below_new2 _ _ _⟩
    · have b0 : (f.kind == 0) = false := by simpa using k0
      by_cases k1 : f.kind = 1
      · have HX := hid (cellOK_int hn k1)
        have K1 := hid k1
        clear k1 k0
        have b1 : (f.kind == 1) = true := by simpa using K1.out
        have HQ : Hid (∀ w', Calls Tryz.prog 183 #[.int .i64 c.num, .int .i64 f.width] w' fun e w2 => e = .returned (.bool (fitsW c.num f.width)) ∧ Below w'.heap.size w' w2) := hid (fun w' => fitsWidth_any _ _ w' HIN.out.1 HIN.out.2)
        go_enter Tryz.func184, Tryz.ntmps184
        go_wp2_with fail
        refine (HQ.out _).mono ?_
        rintro e w2 ⟨rfl, b2⟩
        rw [size2] at b2
        obtain ⟨q0, q1⟩ := heap2 _ _ b2
        have p2 := cell_of_row w2 _ 2 _ _ _ q1
        simp at p2
        have HB : Hid (Below w.heap.size w w2) := hid ((below_new2 w _ _).trans (b2.mono (by omega)))
        clear b2 q0 q1
        cases hf : fitsW c.num f.width
        · rw [hf] at HX
          go_wp2
          go_ret
          exact ⟨by rw [HX.out]; first | rfl | simp, HB.out⟩
        · rw [hf] at HX
          go_wp2
          go_ret
          exact ⟨by rw [HX.out]; first | rfl | simp, HB.out⟩
      · have HX := hid (cellOK_text hn k0 k1)
        have b1 : (f.kind == 1) = false := by simpa using k1
        clear k0 k1
        go_enter Tryz.func184, Tryz.ntmps184
        go_wp2
        go_ret
        exact ⟨by rw [HX.out]; first | rfl | simp, below_new2 _ _ _⟩
  · have HX := hid (cellOK_null (f := f) hn)
    by_cases e0 : c.num = 0
    · rw [show (c.num == 0) = true from by simpa using e0] at HX
      go_enter Tryz.func184, Tryz.ntmps184
      go_wp2
      go_ret
      exact ⟨by rw [HX.out]; first | rfl | simp, below_new2 _ _ _⟩
    · rw [show (c.num == 0) = false from by simpa using e0] at HX
      have b0 : (c.num == 0) = false := by simpa using e0
      clear e0
      go_enter Tryz.func184, Tryz.ntmps184
      go_wp2
      go_ret
      exact ⟨by rw [HX.out]; first | rfl | simp, below_new2 _ _ _⟩
theorem cells_bad {f : PF} {cs : List PC} {k : Nat} (hk : k < cs.length) (h : cellOK f cs[k] = false) : cs.all (cellOK f) = false := by
  simp only [List.all_eq_false]
  exact ⟨cs[k], List.getElem_mem hk, by simp [h]⟩
theorem cells_ok {f : PF} {cs : List PC} (h : ∀ k, (hk : k < cs.length) → cellOK f cs[k] = true) : cs.all (cellOK f) = true := by
  simp only [List.all_eq_true]
  intro x hx
  obtain ⟨k, hk, rfl⟩ := List.getElem_of_mem hx
  exact h k hk
set_option maxHeartbeats 2000000 in
theorem validCells_any (f : PF) (fcs : List Value) (a : Option Addr) (cap : Nat) (xs : List PC) (w : World) (h1 : cField.rd w f fcs) (hr : RdSl cCell w xs (.slice a xs.length cap)) (hl : xs.length ≤ 1048576) :
    Calls Tryz.prog 157 #[val fcs, .slice a xs.length cap] w fun e w' => e = .returned (.bool (xs.all (cellOK f))) ∧ Below w.heap.size w w' := by
  have HF := hid h1
  obtain ⟨a1, c1, rfl⟩ := cField_shape h1
  have HR := hid hr
  simp only [val]
  clear h1 hr
  go_enter Tryz.func157, Tryz.ntmps157
  go_wp2
  go_loopw [6, 9] (fun _ i wr => ∃ k : Nat, k ≤ xs.length ∧ i = .int .i64 k ∧ (∀ j, (h : j < xs.length) → j < k → cellOK f xs[j] = true) ∧ wr.heap[w.heap.size]? = some (.cells #[.slice a1 f.name.length c1, .int .i64 f.kind, .int .i64 f.width] 98 (0, 0)) ∧ Below w.heap.size w wr) (fun _ i _ => xs.length - (intOf i).toNat)
  case atStart => exact ⟨0, Nat.zero_le _, rfl, fun j _ h => by omega, heap_alloc_new w _, below_new1 _ _⟩
  case round =>
    obtain ⟨k, hk, rfl, hall, hblk, hbe⟩ := hrel
    have HA := hid hall
    have HK := hid hblk
    have HB := hid hbe
    clear hall hblk hbe
    have p0 := cell_of_row wr _ 0 _ _ _ HK.out
    have p1 := cell_of_row wr _ 1 _ _ _ HK.out
    have p2 := cell_of_row wr _ 2 _ _ _ HK.out
    simp at p0 p1 p2
    have hB : w.heap.size < wr.heap.size := (Array.getElem?_eq_some_iff.1 HK.out).1
    by_cases hlt : k < xs.length
    · obtain ⟨b, off, v0, v1, v2, rfl, hes, d0, d1, d2⟩ := (HR.out.later HB.out).at3 rfl hlt
      obtain ⟨ax, cx, e⟩ := cCell_shape hes
      simp only [List.cons.injEq, and_true] at e
      obtain ⟨rfl, rfl, rfl⟩ := e
      have HE := hid hes
      have hki : (k : Int) < (xs.length : Int) := by omega
      have HQ : Hid (Calls Tryz.prog 184 #[.agg #[.slice a1 f.name.length c1, .int .i64 f.kind, .int .i64 f.width], .agg #[.bool xs[k].null, .int .i64 xs[k].num, .slice ax xs[k].text.length cx]] (wr.alloc (.cells #[.bool xs[k].null, .int .i64 xs[k].num, .slice ax xs[k].text.length cx] 157)) fun e w' => e = .returned (.bool (cellOK f xs[k])) ∧ Below wr.heap.size wr w') := hid (by
        have hb1 := below_new1 wr (.cells #[.bool xs[k].null, .int .i64 xs[k].num, .slice ax xs[k].text.length cx] 157)
        refine (validCell_any f xs[k] _ _ _ (cField.later (cField.later HF.out HB.out) hb1) (cCell.later HE.out hb1)).mono ?_
        rintro e w' ⟨rfl, b⟩
        exact ⟨rfl, hb1.trans (b.mono hb1.size)⟩)
      clear hes
      go_wp2_with fail
      refine HQ.out.mono ?_
      rintro e w2 ⟨rfl, b2⟩
      have HB2 := hid (HB.out.trans (b2.mono HB.out.size))
      have HK2 := hid ((b2.block _ hB).trans HK.out)
      clear b2
      cases hc : cellOK f xs[k]
      · have HX := hid (cells_bad hlt hc)
        go_wp2
        go_ret
        exact ⟨by rw [HX.out]; rfl, HB2.out⟩
      · have HX : Hid (∀ j, (h : j < xs.length) → j < k + 1 → cellOK f xs[j] = true) := hid (fun j hj hjk => by
          by_cases e : j = k
          · subst e; exact hc
          · exact HA.out j hj (by omega))
        go_wp2
        go_roundw
        case rel => exact ⟨k + 1, by omega, by go_num, HX.out, HK2.out, HB2.out⟩
        case measure => simp [intOf]; omega
    · obtain rfl : k = xs.length := by omega
      have HX := hid (cells_ok (fun j hj => HA.out j hj hj))
      go_wp2
      go_ret
      exact ⟨by rw [HX.out]; rfl, HB.out⟩
end Go.Proofs.YtfaehioeepolhaaGreat
namespace Go.Proofs.YtfaehioeepolhaaGreat
open Go.RowKit
set_option maxHeartbeats 2000000 in
theorem cellsOfField_any (t : PT) (R c : Nat) (a : Option Addr) (cap : Nat) (w : World) (hR : t.rows = (R : Int)) (hr : RdSl cCell w t.cells (.slice a t.cells.length cap)) (hRl : R ≤ 100) (hc : c < 12) (hlen : (c + 1) * R ≤ t.cells.length) :
    Calls Tryz.prog 156 #[.agg #[.int .i64 t.rows, .slice a t.cells.length cap], .int .i64 (c : Int)] w fun e w' => ∃ a' cap', e = .returned (.slice a' R cap') ∧ RdSl cCell w (col t.cells R c) (.slice a' R cap') ∧ Below w.heap.size w w' := by
  have hcap : t.cells.length ≤ cap ∧ cap ≤ maxLen := by
    obtain ⟨a', cap', e', g1, g2, _⟩ := hr
    simp at e'
    omega
  have HR := hid hr
  obtain ⟨lo, hlo⟩ : ∃ lo, lo = c * R := ⟨_, rfl⟩
  obtain ⟨hi, hhi⟩ : ∃ hi, hi = (c + 1) * R := ⟨_, rfl⟩
  have hsum : hi = lo + R := by rw [hlo, hhi, Nat.add_mul, Nat.one_mul]
  have hlo2 : lo ≤ 1200 := by rw [hlo]; exact Nat.le_trans (Nat.mul_le_mul (show c ≤ 12 by omega) hRl) (by omega)
  have m1 : (c : Int) * (R : Int) = (lo : Int) := by rw [hlo]; simp
  have m2 : ((c : Int) + 1) * (R : Int) = (hi : Int) := by rw [hhi]; simp
  rw [← hhi] at hlen
  have HL := hid hlo
  rw [hR]
  clear hr hlo hhi hR
  have H1 : Hid (RdSl cCell w (col t.cells R c) (.slice (a.map fun x => x.add (lo * 3)) R (cap - lo))) := hid (by
    have h := HR.out.cut (lo := lo) (R := R) (by omega)
    rw [HL.out] at h ⊢
    exact h)
  have H2 : Hid (R = 0 → col t.cells R c = []) := hid (fun h => by subst h; simp [col])
  unfold maxLen at hcap
  go_enter Tryz.func156, Tryz.ntmps156
  by_cases hz : cap = lo
  · subst hz
    have h0 : R = 0 := by omega
    have H0 := hid h0
    clear h0
    go_wp2
    go_ret
    refine ⟨a, 0, by simp, ?_, below_new1 _ _⟩
    rw [H2.out H0.out, H0.out]
    exact RdSl.empty a
  · go_wp2
    all_goals first
      | (exfalso; omega)
      | (go_ret; exact ⟨a.map fun x => x.add (lo * 3), cap - lo, by simp, H1.out, below_new1 _ _⟩)
end Go.Proofs.YtfaehioeepolhaaGreat
namespace Go.Proofs.YtfaehioeepolhaaGreat
open Go.RowKit
set_option maxHeartbeats 400000 in
theorem bytesEqual_any (a1 a2 : Option Addr) (c1 c2 : Nat) (xs ys : List Nat) (w : World) (h1 : Rd w a1 (byt xs)) (h2 : Rd w a2 (byt ys)) (hx : ∀ x ∈ xs, x < 256) (hy : ∀ x ∈ ys, x < 256) :
    Calls Tryz.prog 152 #[.slice a1 xs.length c1, .slice a2 ys.length c2] w fun e w' => e = .returned (.bool (decide (xs = ys))) ∧ w' = w := by
  have e1 := run_bstr (P := Tryz.prog) (c := c1) Tryz.underlying23 Tryz.underlying5 Tryz.underlying9 h1
  have e2 := run_bstr (P := Tryz.prog) (c := c2) Tryz.underlying23 Tryz.underlying5 Tryz.underlying9 h2
  have HD : Hid (decide (xs = ys) = ((bstr xs).toList == (bstr ys).toList)) := hid (bstr_beq hx hy)
  rw [HD.out]
  clear h1 h2
  generalize bstr xs = s at *
  generalize bstr ys = t at *
  go_enter Tryz.func152, Tryz.ntmps152
  go_wp2
  go_ret
  exact ⟨rfl, rfl⟩
end Go.Proofs.YtfaehioeepolhaaGreat
