import Derived.Test.YtfaehioeepolhabGreatJCrashSender30
import Derived.Test.YtfaehioeepolhabGreatJCrashSender27
import Derived.Test.YtfaehioeepolhabGreatJCrashSender3
import Derived.Test.YtfaehioeepolhabGreatJCrashSender23
import Derived.Deep.RegionWith
import Derived.Test.YtfaehioeepolhabGreatJCrashSender29
namespace Go.Proofs.YtfaehioeepolhabGreat
open Go.RowKit
set_option maxHeartbeats 2000000 in
theorem validName_any (a : Option Addr) (cap : Nat) (xs : List Nat) (w : World) (hr : Rd w a (byt xs)) :
  Calls Tryz.prog 143 #[.slice a xs.length cap] w fun e w' => e = .returned (.bool (nameOK xs)) ∧ w' = w := by
 by_cases h1 : xs.length < 1
 ·have HD : Hid (nameOK xs = false) := hid (by simp [nameOK]; omega)
  rw [HD.out]
  go_enter Tryz.func143, Tryz.ntmps143
  go_wp2
  go_ret
  exact ⟨rfl, rfl⟩
 by_cases h2 : 20 < xs.length
 ·have HD : Hid (nameOK xs = false) := hid (by simp [nameOK]; omega)
  rw [HD.out]
  go_enter Tryz.func143, Tryz.ntmps143
  go_wp2
  go_ret
  exact ⟨rfl, rfl⟩
 have HD : Hid (nameOK xs = xs.all nameB) := hid (by
  have e1 : decide (1 ≤ xs.length) = true := decide_eq_true (by omega)
  have e2 : decide (xs.length ≤ 20) = true := decide_eq_true (by omega)
  unfold nameOK; rw [e1, e2]; rfl)
 rw [HD.out]
 have HC : Hid (∀ i, (h : i < xs.length) → ∃ b off, a = some ⟨b, off, none⟩ ∧ w.cell? ⟨b, off + i, none⟩ = some (.int .u8 ((xs[i] : Nat) : Int))) := hid (by
  rcases hr with h | ⟨b, off, rfl, hc⟩
  ·have : xs = [] := by simpa [byt] using h
   subst this; simp at h1
  ·exact fun i h => ⟨b, off, rfl, rdByte hc i h⟩)
 clear hr
 go_enter Tryz.func143, Tryz.ntmps143
 go_wp2
 go_loop [4, 15] (fun c i => ∃ k : Nat, k ≤ xs.length ∧ i = .int .i64 k ∧ ∀ j, (h : j < xs.length) → j < k → nameB xs[j] = true) (fun _ i => xs.length - (intOf i).toNat)
 case atStart => exact ⟨0, Nat.zero_le _, rfl, fun j _ h => by omega⟩
 case round =>
  obtain ⟨k, hk, rfl, hall⟩ := hrel
  have HA := hid hall
  clear hall
  by_cases hlt : k < xs.length
  ·obtain ⟨b, off, rfl, hcell⟩ := HC.out k hlt
   have hki : (k : Int) < (xs.length : Int) := by omega
   go_wp2_with fail
   refine (nameByte_any xs[k] w).mono ?_
   rintro e w ⟨rfl, rfl⟩
   cases hn : nameB xs[k]
   ·have HX := hid (all_bad hlt hn)
    go_wp2
    go_ret
    exact ⟨by rw [HX.out]; rfl, rfl⟩
   ·have HX : Hid (∀ j, (h : j < xs.length) → j < k + 1 → nameB xs[j] = true) := hid (fun j hj hjk => by
     by_cases e : j = k
     ·subst e; exact hn
     ·exact HA.out j hj (by omega))
    go_wp2
    go_round
    case rel => exact ⟨k + 1, by omega, by go_num, HX.out⟩
    case measure => simp [intOf]; omega
  ·obtain rfl : k = xs.length := by omega
   have HF := hid (all_ok (fun j hj => HA.out j hj hj))
   go_wp2
   go_ret
   exact ⟨by rw [HF.out]; rfl, rfl⟩
set_option maxHeartbeats 1000000 in
theorem fitsWidth_any (n width : Int) (w : World) (hn : IntIn n) (hw : IntIn width) :
  Calls Tryz.prog 149 #[.int .i64 n, .int .i64 width] w fun e w' => e = .returned (.bool (fitsW n width)) ∧ Below w.heap.size w w' := by
 have HQ : Hid (Calls Tryz.prog 159 #[.slice (some ⟨w.heap.size, 0, none⟩) 1 1, .int .i64 width] (w.alloc (.cells #[.int .i64 n] 3)) (PkiPost (w.alloc (.cells #[.int .i64 n] 3)) (pki [n] width))) := hid (implPki_any (some ⟨w.heap.size, 0, none⟩) 1 [n] width _ (.inr ⟨w.heap.size, 0, rfl, fun i hi => by
   have : i = 0 := by simpa [ints] using hi
   subst this
   simp [ints]⟩) (by simp; exact hn) (by simp) (by simp) hw)
 have HD : Hid (fitsW n width = ((pki [n] width).2 == 0)) := hid rfl
 generalize pki [n] width = R at *
 go_enter Tryz.func149, Tryz.ntmps149
 go_wp2_with fail
 refine HQ.out.mono ?_
 rintro e w1 ⟨a1, c1, rfl, o1, b1⟩
 have HB : Hid (Below w.heap.size w w1) := hid ((bN w _).trans (b1.mono (by simp)))
 clear o1 b1
 go_wp2
 go_ret
 exact ⟨by rw [HD.out]; rfl, HB.out⟩
set_option maxHeartbeats 400000 in
theorem validWidth_any (width : Int) (w : World) (hw : IntIn width) :
  Calls Tryz.prog 144 #[.int .i64 width] w fun e w' => e = .returned (.bool (widthOK width)) ∧ Below w.heap.size w w' := by
 go_enter Tryz.func144, Tryz.ntmps144
 go_wp2_with fail
 refine (fitsWidth_any 0 width w (by unfold IntIn; omega) hw).mono ?_
 rintro e w1 ⟨rfl, b1⟩
 have HB := hid b1
 clear b1
 rw [fitsW_zero]
 generalize hq : widthOK width = q
 go_wp2
 go_ret
 exact ⟨by rw [hq]; rfl, HB.out⟩
set_option maxHeartbeats 1000000 in
theorem validField_any (f : PF) (cs : List Value) (w : World) (hr : cField.rd w f cs) :
  Calls Tryz.prog 118 #[val cs] w fun e w' => e = .returned (.bool (fieldOK f)) ∧ Below w.heap.size w w' := by
 obtain ⟨v, rfl, hv, hik, hiw⟩ := cField_rd hr
 obtain ⟨a, cap, rfl, _, _, _, hrd, hby⟩ := hv.bytes
 simp only [val]
 have HK : Hid (Calls Tryz.prog 143 #[.slice a f.name.length cap] (w.alloc (.cells #[.slice a f.name.length cap, .int .i64 f.kind, .int .i64 f.width] 101)) fun e w' => e = .returned (.bool (nameOK f.name)) ∧ w' = w.alloc (.cells #[.slice a f.name.length cap, .int .i64 f.kind, .int .i64 f.width] 101)) := hid (validName_any a cap f.name _ (hrd.later (bN _ _)))
 have HF : Hid (fieldOK f = (nameOK f.name && kindOK f)) := hid rfl
 have HKK : Hid (kindOK f = if f.kind = 1 then widthOK f.width else decide (0 ≤ f.kind) && decide (f.kind ≤ 3) && decide (f.width = 0)) := hid rfl
 have HIW := hid hiw
 clear hr hrd hv hik hiw
 cases hn : nameOK f.name
 ·have HX : Hid (fieldOK f = false) := hid (by rw [HF.out, hn]; rfl)
  go_enter Tryz.func118, Tryz.ntmps118
  go_wp2_with fail
  refine HK.out.mono ?_
  rintro e w2 ⟨rfl, rfl⟩
  rw [hn]
  go_wp2
  go_ret
  exact ⟨by rw [HX.out]; rfl, bN _ _⟩
 ·by_cases h1 : f.kind = 1
  ·have HX : Hid (fieldOK f = widthOK f.width) := hid (by rw [HF.out, hn, HKK.out, if_pos h1]; rfl)
   have H1 := hid h1
   clear h1
   go_enter Tryz.func118, Tryz.ntmps118
   go_wp2_with fail
   refine HK.out.mono ?_
   rintro e w2 ⟨rfl, rfl⟩
   rw [hn]
   have h1 := H1.out
   go_wp2_with fail
   refine (validWidth_any f.width _ HIW.out).mono ?_
   rintro e w2 ⟨rfl, b2⟩
   have HB : Hid (Below w.heap.size w w2) := hid ((bN w _).trans (b2.mono (by simp)))
   clear b2
   generalize widthOK f.width = q at *
   go_wp2
   go_ret
   exact ⟨by rw [HX.out]; rfl, HB.out⟩
  ·have HX : Hid (fieldOK f = (decide (0 ≤ f.kind) && decide (f.kind ≤ 3) && decide (f.width = 0))) := hid (by rw [HF.out, hn, HKK.out, if_neg h1]; rfl)
   by_cases h2 : f.kind = 0 ∨ f.kind = 2 ∨ f.kind = 3
   ·have HY : Hid (fieldOK f = decide (f.width = 0)) := hid (by rw [HX.out, decide_eq_true (show 0 ≤ f.kind by omega), decide_eq_true (show f.kind ≤ 3 by omega)]; rfl)
    rcases h2 with h2 | h2 | h2
    all_goals
     have H2 := hid h2
     clear h2 h1
     go_enter Tryz.func118, Tryz.ntmps118
     go_wp2_with fail
     refine HK.out.mono ?_
     rintro e w2 ⟨rfl, rfl⟩
     rw [hn]
     have h2 := H2.out
     go_wp2
     go_ret
     exact ⟨by rw [HY.out]; rfl, bN _ _⟩
   ·have HY : Hid (fieldOK f = false) := hid (by
     rw [HX.out]
     by_cases e : 0 ≤ f.kind
     ·rw [decide_eq_false (show ¬ f.kind ≤ 3 by omega)]; simp
     ·rw [decide_eq_false e]; rfl)
    have e0 : (f.kind == 0) = false := by simp; omega
    have e1 : (f.kind == 1) = false := by simp; omega
    have e2 : (f.kind == 2) = false := by simp; omega
    have e3 : (f.kind == 3) = false := by simp; omega
    clear h1 h2
    go_enter Tryz.func118, Tryz.ntmps118
    go_wp2_with fail
    refine HK.out.mono ?_
    rintro e w2 ⟨rfl, rfl⟩
    rw [hn]
    go_wp2
    go_ret
    exact ⟨by rw [HY.out]; rfl, bN _ _⟩
set_option maxHeartbeats 2000000 in
theorem validCell_any (f : PF) (c : PC) (cs cs' : List Value) (w : World) (h1 : cField.rd w f cs) (h2 : cCell.rd w c cs') :
  Calls Tryz.prog 125 #[val cs, val cs'] w fun e w' => e = .returned (.bool (cellOK f c)) ∧ Below w.heap.size w w' := by
 obtain ⟨a1, c1, rfl⟩ := cField_shape h1
 obtain ⟨a2, c2, rfl⟩ := cCell_shape h2
 have hin : IntIn c.num ∧ IntIn f.width := by
  obtain ⟨v, e, _, h⟩ := cCell_rd h2
  obtain ⟨v, e, _, _, h'⟩ := cField_rd h1
  exact ⟨h, h'⟩
 have HIN := hid hin
 simp only [val]
 clear h1 h2 hin
 cases hn : c.null
 ·by_cases k0 : f.kind = 0
  ·have HX := hid (cellOK_bool hn k0)
   by_cases e0 : c.num = 0
   ·rw [show (c.num == 0) = true from by simpa using e0] at HX
    go_enter Tryz.func125, Tryz.ntmps125
    go_wp2
    go_ret
    exact ⟨by rw [HX.out]; first | rfl | simp, below_new2 _ _ _⟩
   ·by_cases e1 : c.num = 1
    ·rw [show (c.num == 0) = false from by simpa using e0, show (c.num == 1) = true from by simpa using e1] at HX
     go_enter Tryz.func125, Tryz.ntmps125
     go_wp2
     go_ret
     exact ⟨by rw [HX.out]; first | rfl | simp, below_new2 _ _ _⟩
    ·rw [show (c.num == 0) = false from by simpa using e0, show (c.num == 1) = false from by simpa using e1] at HX
     have b0 : (c.num == 0) = false := by simpa using e0
     have b1 : (c.num == 1) = false := by simpa using e1
     clear e0 e1
     go_enter Tryz.func125, Tryz.ntmps125
     go_wp2
     go_ret
     exact ⟨by rw [HX.out]; first | rfl | simp, below_new2 _ _ _⟩
  ·have b0 : (f.kind == 0) = false := by simpa using k0
   by_cases k1 : f.kind = 1
   ·have HX := hid (cellOK_int hn k1)
    have K1 := hid k1
    clear k1 k0
    have b1 : (f.kind == 1) = true := by simpa using K1.out
    have HQ : Hid (∀ w', Calls Tryz.prog 149 #[.int .i64 c.num, .int .i64 f.width] w' fun e w2 => e = .returned (.bool (fitsW c.num f.width)) ∧ Below w'.heap.size w' w2) := hid (fun w' => fitsWidth_any _ _ w' HIN.out.1 HIN.out.2)
    go_enter Tryz.func125, Tryz.ntmps125
    go_wp2_with fail
    refine (HQ.out _).mono ?_
    rintro e w2 ⟨rfl, b2⟩
    rw [size2] at b2
    obtain ⟨q0, q1⟩ := heap2 _ _ b2
    have p2 := cR w2 _ 2 _ _ _ q1
    simp at p2
    have HB : Hid (Below w.heap.size w w2) := hid ((below_new2 w _ _).trans (b2.mono (by omega)))
    clear b2 q0 q1
    cases hf : fitsW c.num f.width
    ·rw [hf] at HX
     go_wp2
     go_ret
     exact ⟨by rw [HX.out]; first | rfl | simp, HB.out⟩
    ·rw [hf] at HX
     go_wp2
     go_ret
     exact ⟨by rw [HX.out]; first | rfl | simp, HB.out⟩
   ·have HX := hid (cellOK_text hn k0 k1)
    have b1 : (f.kind == 1) = false := by simpa using k1
    clear k0 k1
    go_enter Tryz.func125, Tryz.ntmps125
    go_wp2
    go_ret
    exact ⟨by rw [HX.out]; first | rfl | simp, below_new2 _ _ _⟩
 ·have HX := hid (cellOK_null (f := f) hn)
  by_cases e0 : c.num = 0
  ·rw [show (c.num == 0) = true from by simpa using e0] at HX
   go_enter Tryz.func125, Tryz.ntmps125
   go_wp2
   go_ret
   exact ⟨by rw [HX.out]; first | rfl | simp, below_new2 _ _ _⟩
  ·rw [show (c.num == 0) = false from by simpa using e0] at HX
   have b0 : (c.num == 0) = false := by simpa using e0
   clear e0
   go_enter Tryz.func125, Tryz.ntmps125
   go_wp2
   go_ret
   exact ⟨by rw [HX.out]; first | rfl | simp, below_new2 _ _ _⟩
theorem cells_bad {f : PF} {cs : List PC} {k : Nat} (hk : k < cs.length) (h : cellOK f cs[k] = false) : cs.all (cellOK f) = false := by
 simp only [List.all_eq_false]
 exact ⟨cs[k], List.getElem_mem hk, by simp [h]⟩
theorem cells_ok {f : PF} {cs : List PC} (h : ∀ k, (hk : k < cs.length) → cellOK f cs[k] = true) : cs.all (cellOK f) = true := by
 simp only [List.all_eq_true]
 intro x hx
 obtain ⟨k, hk, rfl⟩ := List.getElem_of_mem hx
 exact h k hk
set_option maxHeartbeats 2000000 in
theorem validCells_any (f : PF) (fcs : List Value) (a : Option Addr) (cap : Nat) (xs : List PC) (w : World) (h1 : cField.rd w f fcs) (hr : RdSl cCell w xs (.slice a xs.length cap)) (hl : xs.length ≤ 1048576) :
  Calls Tryz.prog 83 #[val fcs, .slice a xs.length cap] w fun e w' => e = .returned (.bool (xs.all (cellOK f))) ∧ Below w.heap.size w w' := by
 have HF := hid h1
 obtain ⟨a1, c1, rfl⟩ := cField_shape h1
 have HR := hid hr
 simp only [val]
 clear h1 hr
 go_enter Tryz.func83, Tryz.ntmps83
 go_wp2
 go_loopw [6, 9] (fun _ i wr => ∃ k : Nat, k ≤ xs.length ∧ i = .int .i64 k ∧ (∀ j, (h : j < xs.length) → j < k → cellOK f xs[j] = true) ∧ wr.heap[w.heap.size]? = some (.cells #[.slice a1 f.name.length c1, .int .i64 f.kind, .int .i64 f.width] 101 (0, 0)) ∧ Below w.heap.size w wr) (fun _ i _ => xs.length - (intOf i).toNat)
 case atStart => exact ⟨0, Nat.zero_le _, rfl, fun j _ h => by omega, heap_alloc_new w _, bN _ _⟩
 case round =>
  obtain ⟨k, hk, rfl, hall, hblk, hbe⟩ := hrel
  have HA := hid hall
  have HK := hid hblk
  have HB := hid hbe
  clear hall hblk hbe
  have p0 := cR wr _ 0 _ _ _ HK.out
  have p1 := cR wr _ 1 _ _ _ HK.out
  have p2 := cR wr _ 2 _ _ _ HK.out
  simp at p0 p1 p2
  have hB : w.heap.size < wr.heap.size := (Array.getElem?_eq_some_iff.1 HK.out).1
  by_cases hlt : k < xs.length
  ·obtain ⟨b, off, v0, v1, v2, rfl, hes, d0, d1, d2⟩ := (HR.out.later HB.out).at3 rfl hlt
   obtain ⟨ax, cx, e⟩ := cCell_shape hes
   simp only [List.cons.injEq, and_true] at e
   obtain ⟨rfl, rfl, rfl⟩ := e
   have HE := hid hes
   have hki : (k : Int) < (xs.length : Int) := by omega
   have HQ : Hid (Calls Tryz.prog 125 #[.agg #[.slice a1 f.name.length c1, .int .i64 f.kind, .int .i64 f.width], .agg #[.bool xs[k].null, .int .i64 xs[k].num, .slice ax xs[k].text.length cx]] (wr.alloc (.cells #[.bool xs[k].null, .int .i64 xs[k].num, .slice ax xs[k].text.length cx] 102)) fun e w' => e = .returned (.bool (cellOK f xs[k])) ∧ Below wr.heap.size wr w') := hid (by
    have hb1 := bN wr (.cells #[.bool xs[k].null, .int .i64 xs[k].num, .slice ax xs[k].text.length cx] 102)
    refine (validCell_any f xs[k] _ _ _ (cField.later (cField.later HF.out HB.out) hb1) (cCell.later HE.out hb1)).mono ?_
    rintro e w' ⟨rfl, b⟩
    exact ⟨rfl, hb1.trans (b.mono hb1.size)⟩)
   clear hes
   go_wp2_with fail
   refine HQ.out.mono ?_
   rintro e w2 ⟨rfl, b2⟩
   have HB2 := hid (HB.out.trans (b2.mono HB.out.size))
   have HK2 := hid ((b2.block _ hB).trans HK.out)
   clear b2
   cases hc : cellOK f xs[k]
   ·have HX := hid (cells_bad hlt hc)
    go_wp2
    go_ret
    exact ⟨by rw [HX.out]; rfl, HB2.out⟩
   ·have HX : Hid (∀ j, (h : j < xs.length) → j < k + 1 → cellOK f xs[j] = true) := hid (fun j hj hjk => by
     by_cases e : j = k
     ·subst e; exact hc
     ·exact HA.out j hj (by omega))
    go_wp2
    go_roundw
    case rel => exact ⟨k + 1, by omega, by go_num, HX.out, HK2.out, HB2.out⟩
    case measure => simp [intOf]; omega
  ·obtain rfl : k = xs.length := by omega
   have HX := hid (cells_ok (fun j hj => HA.out j hj hj))
   go_wp2
   go_ret
   exact ⟨by rw [HX.out]; rfl, HB.out⟩
set_option maxHeartbeats 2000000 in
theorem cellsOfField_any (t : PT) (R c : Nat) (a : Option Addr) (cap : Nat) (w : World) (hR : t.rows = (R : Int)) (hr : RdSl cCell w t.cells (.slice a t.cells.length cap)) (hRl : R ≤ 100) (hc : c < 12) (hlen : (c + 1) * R ≤ t.cells.length) :
  Calls Tryz.prog 82 #[.agg #[.int .i64 t.rows, .slice a t.cells.length cap], .int .i64 (c : Int)] w fun e w' => ∃ a' cap', e = .returned (.slice a' R cap') ∧ RdSl cCell w (col t.cells R c) (.slice a' R cap') ∧ Below w.heap.size w w' := by
 have hcap : t.cells.length ≤ cap ∧ cap ≤ maxLen := by
  obtain ⟨a', cap', e', g1, g2, _⟩ := hr
  simp at e'
  omega
 have HR := hid hr
 obtain ⟨lo, hlo⟩ : ∃ lo, lo = c * R := ⟨_, rfl⟩
 obtain ⟨hi, hhi⟩ : ∃ hi, hi = (c + 1) * R := ⟨_, rfl⟩
 have hsum : hi = lo + R := by rw [hlo, hhi, Nat.add_mul, Nat.one_mul]
 have hlo2 : lo ≤ 1200 := by rw [hlo]; exact Nat.le_trans (Nat.mul_le_mul (show c ≤ 12 by omega) hRl) (by omega)
 have m1 : (c : Int) * (R : Int) = (lo : Int) := by rw [hlo]; simp
 have m2 : ((c : Int) + 1) * (R : Int) = (hi : Int) := by rw [hhi]; simp
 rw [← hhi] at hlen
 have HL := hid hlo
 rw [hR]
 clear hr hlo hhi hR
 have H1 : Hid (RdSl cCell w (col t.cells R c) (.slice (a.map fun x => x.add (lo * 3)) R (cap - lo))) := hid (by
  have h := HR.out.cut (lo := lo) (R := R) (by omega)
  rw [HL.out] at h ⊢
  exact h)
 have H2 : Hid (R = 0 → col t.cells R c = []) := hid (fun h => by subst h; simp [col])
 unfold maxLen at hcap
 go_enter Tryz.func82, Tryz.ntmps82
 by_cases hz : cap = lo
 ·subst hz
  have h0 : R = 0 := by omega
  have H0 := hid h0
  clear h0
  go_wp2
  go_ret
  refine ⟨a, 0, by simp, ?_, bN _ _⟩
  rw [H2.out H0.out, H0.out]
  exact RdSl.empty a
 ·go_wp2
  all_goals first
   | (exfalso; omega)
   | (go_ret; exact ⟨a.map fun x => x.add (lo * 3), cap - lo, by simp, H1.out, bN _ _⟩)
set_option maxHeartbeats 400000 in
theorem bytesEqual_any (a1 a2 : Option Addr) (c1 c2 : Nat) (xs ys : List Nat) (w : World) (h1 : Rd w a1 (byt xs)) (h2 : Rd w a2 (byt ys)) (hx : ∀ x ∈ xs, x < 256) (hy : ∀ x ∈ ys, x < 256) :
  Calls Tryz.prog 145 #[.slice a1 xs.length c1, .slice a2 ys.length c2] w fun e w' => e = .returned (.bool (decide (xs = ys))) ∧ w' = w := by
 have e1 := run_bstr (P := Tryz.prog) (c := c1) Tryz.underlying87 Tryz.underlying5 Tryz.underlying9 h1
 have e2 := run_bstr (P := Tryz.prog) (c := c2) Tryz.underlying87 Tryz.underlying5 Tryz.underlying9 h2
 have HD : Hid (decide (xs = ys) = ((bstr xs).toList == (bstr ys).toList)) := hid (bstr_beq hx hy)
 rw [HD.out]
 clear h1 h2
 generalize bstr xs = s at *
 generalize bstr ys = t at *
 go_enter Tryz.func145, Tryz.ntmps145
 go_wp2
 go_ret
 exact ⟨rfl, rfl⟩
set_option maxHeartbeats 2000000 in
theorem nameTaken_any (a a2 : Option Addr) (cap c2 : Nat) (fs : List PF) (nm : List Nat) (w : World) (hr : RdSl cField w fs (.slice a fs.length cap)) (hr2 : Rd w a2 (byt nm)) (hb2 : ∀ x ∈ nm, x < 256) (hl : fs.length ≤ 1048576) :
  Calls Tryz.prog 119 #[.slice a fs.length cap, .slice a2 nm.length c2] w fun e w' => e = .returned (.bool (taken fs nm)) ∧ Below w.heap.size w w' := by
 have HR := hid hr
 have HR2 := hid hr2
 have HB2 := hid hb2
 clear hr hr2 hb2
 go_enter Tryz.func119, Tryz.ntmps119
 go_wp2
 go_loopw [6, 9] (fun _ i wr => ∃ k : Nat, k ≤ fs.length ∧ i = .int .i64 k ∧ (∀ j, (h : j < fs.length) → j < k → fs[j].name ≠ nm) ∧ Below w.heap.size w wr) (fun _ i _ => fs.length - (intOf i).toNat)
 case atStart => exact ⟨0, Nat.zero_le _, rfl, fun j _ h => by omega, Below.refl _ _⟩
 case round =>
  obtain ⟨k, hk, rfl, hall, hbe⟩ := hrel
  have HA := hid hall
  have HB := hid hbe
  clear hall hbe
  by_cases hlt : k < fs.length
  ·obtain ⟨b, off, v0, v1, v2, rfl, hes, d0, d1, d2⟩ := (HR.out.later HB.out).at3 rfl hlt
   obtain ⟨v, e, hv, -⟩ := cField_rd hes
   obtain ⟨ax, cx, rfl, -, -, -, rx, bx⟩ := hv.bytes
   simp only [List.cons.injEq, and_true] at e
   obtain ⟨rfl, rfl, rfl⟩ := e
   have HQ : Hid (∀ o, Calls Tryz.prog 145 #[.slice ax fs[k].name.length cx, .slice a2 nm.length c2] (wr.alloc o) fun e w' => e = .returned (.bool (decide (fs[k].name = nm))) ∧ w' = wr.alloc o) := hid (fun o => bytesEqual_any ax a2 cx c2 _ _ _ (rx.later (bN _ _)) ((HR2.out.later HB.out).later (bN _ _)) bx HB2.out)
   have hki : (k : Int) < (fs.length : Int) := by omega
   clear hes hv rx bx
   go_wp2_with fail
   refine (HQ.out _).mono ?_
   rintro e w2 ⟨rfl, rfl⟩
   by_cases hs : fs[k].name = nm
   ·have HX := hid (taken_at hlt hs)
    rw [decide_eq_true hs]
    go_wp2
    go_ret
    exact ⟨by rw [HX.out]; rfl, HB.out.alloc HB.out.size _⟩
   ·rw [decide_eq_false hs]
    have HX : Hid (∀ j, (h : j < fs.length) → j < k + 1 → fs[j].name ≠ nm) := hid (fun j hj hjk => by
     by_cases e : j = k
     ·subst e; exact hs
     ·exact HA.out j hj (by omega))
    go_wp2
    go_roundw
    case rel => exact ⟨k + 1, by omega, by go_num, HX.out, HB.out.alloc HB.out.size _⟩
    case measure => simp [intOf]; omega
  ·obtain rfl : k = fs.length := by omega
   have HF := hid (not_taken (fun j hj => HA.out j hj hj))
   go_wp2
   go_ret
   exact ⟨by rw [HF.out]; rfl, HB.out⟩
set_option maxHeartbeats 4000000 in
theorem implFields_any (a : Option Addr) (cap : Nat) (fs : List PF) (w : World) (hr : RdSl cField w fs (.slice a fs.length cap)) :
  Calls Tryz.prog 74 #[.slice a fs.length cap] w fun e w' => e = .returned (.bool (fieldsOK fs)) ∧ Below w.heap.size w w' := by
 have HR := hid hr
 clear hr
 by_cases h1 : fs.length < 1
 ·have HD : Hid (fieldsOK fs = false) := hid (by simp [fieldsOK]; omega)
  go_enter Tryz.func74, Tryz.ntmps74
  go_wp2
  go_ret
  exact ⟨by rw [HD.out]; rfl, Below.refl _ _⟩
 by_cases h2 : 12 < fs.length
 ·have HD : Hid (fieldsOK fs = false) := hid (by simp [fieldsOK]; omega)
  go_enter Tryz.func74, Tryz.ntmps74
  go_wp2
  go_ret
  exact ⟨by rw [HD.out]; rfl, Below.refl _ _⟩
 have HD : Hid (fieldsOK fs = okTo fs fs.length) := hid (by
  have e1 : decide (1 ≤ fs.length) = true := decide_eq_true (by omega)
  have e2 : decide (fs.length ≤ 12) = true := decide_eq_true (by omega)
  unfold fieldsOK; rw [e1, e2]; rfl)
 go_enter Tryz.func74, Tryz.ntmps74
 go_wp2
 go_loopw [3, 4, 15] (fun _ _ i wr => ∃ k : Nat, k ≤ fs.length ∧ i = .int .i64 k ∧ okTo fs k = true ∧ Below w.heap.size w wr) (fun _ _ i _ => fs.length - (intOf i).toNat)
 case atStart => exact ⟨0, Nat.zero_le _, rfl, rfl, Below.refl _ _⟩
 case round =>
  obtain ⟨i, hk, rfl, hok, hbe⟩ := hrel
  have HB := hid hbe
  have HO := hid hok
  clear hbe hok
  by_cases hlt : i < fs.length
  ·obtain ⟨b, off, v0, v1, v2, rfl, hes, d0, d1, d2⟩ := (HR.out.later HB.out).at3 rfl hlt
   have HE := hid hes
   obtain ⟨v, e, hv, -⟩ := cField_rd hes
   obtain ⟨ax, cx, rfl, -, -, -, rx, bx⟩ := hv.bytes
   simp only [List.cons.injEq, and_true] at e
   obtain ⟨rfl, rfl, rfl⟩ := e
   have hki : (i : Int) < (fs.length : Int) := by omega
   have hki2 : (i : Int) ≤ (cap : Int) := by
    obtain ⟨_, cap', e', hc, _⟩ := HR.out
    simp at e'
    omega
   have HW : Hid (Below w.heap.size w (wr.alloc (.cells #[.slice ax fs[i].name.length cx, .int .i64 fs[i].kind, .int .i64 fs[i].width] 101))) := hid (HB.out.alloc HB.out.size _)
   have HQ1 : Hid (Calls Tryz.prog 118 #[.agg #[.slice ax fs[i].name.length cx, .int .i64 fs[i].kind, .int .i64 fs[i].width]] (wr.alloc (.cells #[.slice ax fs[i].name.length cx, .int .i64 fs[i].kind, .int .i64 fs[i].width] 101)).drew fun e w' => e = .returned (.bool (fieldOK fs[i])) ∧ Hid (Below w.heap.size w w' ∧ Below wr.heap.size wr w') ∧ w'.cell? ⟨wr.heap.size, 0, none⟩ = some (.slice ax fs[i].name.length cx) ∧ w'.cell? ⟨wr.heap.size, 1, none⟩ = some (.int .i64 fs[i].kind) ∧ w'.cell? ⟨wr.heap.size, 2, none⟩ = some (.int .i64 fs[i].width)) := hid (by
    have hbw := bN wr (.cells #[.slice ax fs[i].name.length cx, .int .i64 fs[i].kind, .int .i64 fs[i].width] 101)
    refine (validField_any fs[i] _ _ (cField.later HE.out hbw.drew)).mono ?_
    rintro e w' ⟨rfl, b⟩
    have kp : ∀ p v, (wr.alloc (.cells #[.slice ax fs[i].name.length cx, .int .i64 fs[i].kind, .int .i64 fs[i].width] 101)).cell? p = some v → w'.cell? p = some v := fun p v h => (b.cell (World.block_lt_of_cell? _ _ h)).trans h
    have b' : Below wr.heap.size wr w' := hbw.drew.trans (b.mono hbw.size)
    exact ⟨rfl, hid ⟨HB.out.trans (b'.mono HB.out.size), b'⟩, kp _ _ (by simp), kp _ _ (by simp), kp _ _ (by simp)⟩)
   have HQ2 : Hid (∀ w', Hid (Below w.heap.size w w' ∧ Below wr.heap.size wr w') → Calls Tryz.prog 119 #[.slice (some ⟨b, off, none⟩) i cap, .slice ax fs[i].name.length cx] w' fun e w2 => e = .returned (.bool (taken (fs.take i) fs[i].name)) ∧ Hid (Below w.heap.size w w2) ∧ (w'.cell? ⟨wr.heap.size, 0, none⟩ = some (.slice ax fs[i].name.length cx) → w2.cell? ⟨wr.heap.size, 0, none⟩ = some (.slice ax fs[i].name.length cx))) := hid (fun w' hw' => by
    have hlen : (fs.take i).length = i := by simp; omega
    have h := nameTaken_any (some ⟨b, off, none⟩) ax cap cx (fs.take i) fs[i].name w' (by rw [hlen]; exact (HR.out.later hw'.out.1).take (by omega)) (rx.later hw'.out.2) bx (by omega)
    rw [hlen] at h
    refine h.mono ?_
    rintro e w2 ⟨rfl, b2⟩
    exact ⟨rfl, hid (hw'.out.1.trans (b2.mono hw'.out.1.size)), fun h => (b2.cell (World.block_lt_of_cell? _ _ h)).trans h⟩)
   have HRX := hid rx
   clear hes hv rx bx
   cases hf : fieldOK fs[i]
   ·have HX := hid (fieldsOK_bad hlt (.inl hf))
    rw [hf] at HQ1
    clear hf
    go_wp2
    first | (go_region_with (first | (go_at_call 118; refine HQ1.out.mono ?_; rintro e w' ⟨rfl, hw', hc0, hc1, hc2⟩))) | fail
    all_goals (go_wp2; go_ret; exact ⟨by rw [HX.out]; rfl, hw'.out.1⟩)
   ·rw [hf] at HQ1
    have HF := hid hf
    clear hf
    cases htk : taken (fs.take i) fs[i].name
    ·have HX : Hid (okTo fs (i + 1) = true) := hid (by rw [okTo_succ hlt, HO.out, HF.out, htk]; rfl)
     rw [htk] at HQ2
     clear htk
     go_wp2
     first | (go_region_with (first | (go_at_call 118; refine HQ1.out.mono ?_; rintro e w' ⟨rfl, hw', hc0, hc1, hc2⟩) | (go_at_call 119; refine (HQ2.out _ hw').mono ?_; rintro e w2 ⟨rfl, hw2, hc3⟩))) | fail
     all_goals (go_wp2; go_roundw)
     all_goals first | exact ⟨i + 1, by omega, by go_num, HX.out, hw2.out⟩ | (simp [intOf]; omega)
    ·have HX := hid (fieldsOK_bad hlt (.inr htk))
     rw [htk] at HQ2
     clear htk
     go_wp2
     first | (go_region_with (first | (go_at_call 118; refine HQ1.out.mono ?_; rintro e w' ⟨rfl, hw', hc0, hc1, hc2⟩) | (go_at_call 119; refine (HQ2.out _ hw').mono ?_; rintro e w2 ⟨rfl, hw2, hc3⟩))) | fail
     all_goals (go_wp2; go_ret; exact ⟨by rw [HX.out]; rfl, hw2.out⟩)
  ·obtain rfl : i = fs.length := by omega
   have HX : Hid (fieldsOK fs = true) := hid (by rw [HD.out]; exact HO.out)
   go_wp2
   go_ret
   exact ⟨by rw [HX.out]; rfl, HB.out⟩
end Go.Proofs.YtfaehioeepolhabGreat
namespace Go.Proofs.YtfaehioeepolhabGreat
open Go.RowKit Go.Maps
set_option maxHeartbeats 8000000 in
theorem implTable_main (a a2 : Option Addr) (cap c2 : Nat) (fs : List PF) (t : PT) (R pr : Nat) (w : World) (HR : Hid (RdSl cField w fs (.slice a fs.length cap))) (HR2 : Hid (RdSl cCell w t.cells (.slice a2 t.cells.length c2))) (hcl : t.cells.length ≤ 1048576)
  (HQ : Hid (Calls Tryz.prog 74 #[.slice a fs.length cap] (w.alloc (.cells #[.int .i64 (R : Int), .slice a2 t.cells.length c2] 51)) fun e w' => e = .returned (.bool true) ∧ w'.heap[w.heap.size]? = some (.cells #[.int .i64 (R : Int), .slice a2 t.cells.length c2] 51 (0, 0)) ∧ Below w.heap.size w w'))
  (HF : Hid (fieldsOK fs = true)) (hfl : fs.length ≤ 12) (hR2 : R ≤ 100) (hm : (R : Int) * (fs.length : Int) = (pr : Int)) (hprl : pr ≤ 1200) (HRR : Hid (t.rows = (R : Int))) (hlen : t.cells.length = pr) (HLEN : Hid (t.cells.length = fs.length * R)) (htot : txt t.cells + t.cells.length ≤ 1048576) :
  Calls Tryz.prog 33 #[.slice a fs.length cap, .agg #[.int .i64 (R : Int), .slice a2 t.cells.length c2]] w fun e w' => e = .returned (.bool (tableOK fs t)) ∧ Below w.heap.size w w' := by
 have hnt := nn_tot t.cells
 have hnl := nn_len t.cells
 have hne : ((t.cells.length : Int) != (pr : Int)) = false := by simp; omega
 clear hlen
 have HEND : Hid (tot (nn t.cells) ≤ 4000 → colsTo fs t.cells R fs.length = true → tableOK fs t = true) := hid (fun h1 h2 => by
  rw [tableOK_end HF.out HRR.out hR2 HLEN.out h2, ← cols_txt HLEN.out h2]
  exact decide_eq_true h1)
 have HBIG : Hid (4000 < tot (nn t.cells) → tableOK fs t = false) := hid (fun h => tableOK_txt (by omega))
 have HTT : Hid ((nn t.cells).length + tot (nn t.cells) ≤ 1048576) := hid (by omega)
 have HNC : Hid (∀ k, k < fs.length → R + tot (nn (col t.cells R k)) ≤ 1048576 ∧ (k + 1) * R ≤ t.cells.length) := hid (fun k hk => by
  have h0 : (k + 1) * R ≤ t.cells.length := by rw [HLEN.out]; exact Nat.mul_le_mul_right _ hk
  refine ⟨?_, h0⟩
  rw [Nat.add_mul, Nat.one_mul] at h0
  have h1 := nn_tot (col t.cells R k)
  have h2 : txt (col t.cells R k) ≤ txt t.cells := by
   unfold col txt
   refine Nat.le_trans (sum_take (fun c : PC => c.text.length) _ R) ?_
   conv => rhs; rw [← List.take_append_drop (k * R) t.cells]
   rw [List.map_append, List.sum_append]; omega
  omega)
 go_enter Tryz.func33, Tryz.ntmps33
 go_wp2_with fail
 refine HQ.out.mono ?_
 rintro e w2 ⟨rfl, k2, b2⟩
 have HB := hid b2
 have HK2 := hid k2
 have p0 := cR w2 _ 0 _ _ _ k2
 have p1 := cR w2 _ 1 _ _ _ k2
 simp at p0 p1
 clear b2 k2
 go_wp2_with fail
 refine (validRows_any _ _).mono ?_
 rintro e w2 ⟨rfl, rfl⟩
 rw [decide_eq_true (show (0 : Int) ≤ (R : Int) ∧ (R : Int) ≤ 100 by omega)]
 go_wp2_with fail
 refine (textsOfCells_any a2 c2 t.cells w2 (HR2.out.later HB.out) (by omega)).mono ?_
 rintro e w3 ⟨v, rfl, hv, b3⟩
 obtain ⟨a3, c3, rfl, -⟩ := id hv
 have HQ3 := hid (bytesOfTexts_any a3 c3 (nn t.cells) w3 hv (by rw [totL_tot]; exact HTT.out))
 have HB3 := hid (bC HB.out b3)
 have HK3 := hid ((b3.block w.heap.size (Array.getElem?_eq_some_iff.1 HK2.out).1).trans HK2.out)
 clear hv b3
 go_wp2_with fail
 refine HQ3.out.mono ?_
 rintro e w3 ⟨rfl, rfl⟩
 generalize tot (nn t.cells) = tt at *
 by_cases hbig : 4000 < tt
 ·have HX := hid (HBIG.out hbig)
  go_wp2
  go_ret
  exact ⟨by rw [HX.out]; rfl, HB3.out⟩
 clear p0 p1
 go_wp2
 go_loopw [5, 6, 7, 35] (fun _ _ _ i wr => ∃ k : Nat, k ≤ fs.length ∧ i = .int .i64 k ∧ colsTo fs t.cells R k = true ∧ wr.heap[w.heap.size]? = some (.cells #[.int .i64 (R : Int), .slice a2 t.cells.length c2] 51 (0, 0)) ∧ Below w.heap.size w wr) (fun _ _ _ i _ => fs.length - (intOf i).toNat)
 case atStart => exact ⟨0, Nat.zero_le _, rfl, rfl, HK3.out, HB3.out⟩
 case round =>
  obtain ⟨k, hk, rfl, hcols, hblk, hbe⟩ := hrel
  have HC := hid hcols
  have HK := hid hblk
  have HBR := hid hbe
  clear hcols hblk hbe
  have p0 := cR wr _ 0 _ _ _ HK.out
  have p1 := cR wr _ 1 _ _ _ HK.out
  simp at p0 p1
  have hB : w.heap.size < wr.heap.size := (Array.getElem?_eq_some_iff.1 HK.out).1
  by_cases hlt : k < fs.length
  ·obtain ⟨b, off, v0, v1, v2, rfl, hes, d0, d1, d2⟩ := (HR.out.later HBR.out).at3 rfl hlt
   obtain ⟨ax, cx, e⟩ := cField_shape hes
   simp only [List.cons.injEq, and_true] at e
   obtain ⟨rfl, rfl, rfl⟩ := e
   have HE := hid hes
   have hki : (k : Int) < (fs.length : Int) := by omega
   clear hes
   have hbA := bN wr (.cells #[.slice ax fs[k].name.length cx, .int .i64 fs[k].kind, .int .i64 fs[k].width] 101)
   have HQ1 : Hid (Calls Tryz.prog 82 #[.agg #[.int .i64 (R : Int), .slice a2 t.cells.length c2], .int .i64 (k : Int)] (wr.alloc (.cells #[.slice ax fs[k].name.length cx, .int .i64 fs[k].kind, .int .i64 fs[k].width] 101)) fun e w' => ∃ a' cap', e = .returned (.slice a' R cap') ∧ RdSl cCell w' (col t.cells R k) (.slice a' R cap') ∧ w'.heap[wr.heap.size]? = some (.cells #[.slice ax fs[k].name.length cx, .int .i64 fs[k].kind, .int .i64 fs[k].width] 101 (0, 0)) ∧ Below wr.heap.size wr w') := hid (by
    have h := cellsOfField_any t R k a2 c2 (wr.alloc (.cells #[.slice ax fs[k].name.length cx, .int .i64 fs[k].kind, .int .i64 fs[k].width] 101)) HRR.out ((HR2.out.later HBR.out).later hbA) hR2 (by omega) (HNC.out k hlt).2
    rw [HRR.out] at h
    refine h.mono ?_
    rintro e w' ⟨a', cap', rfl, h1, h2⟩
    exact ⟨a', cap', rfl, h1.later h2, heap1 _ (h2.mono (by simp)), hbA.trans (h2.mono hbA.size)⟩)
   clear hbA
   go_wp2_with fail
   refine HQ1.out.mono ?_
   rintro e w4 ⟨a', cap', rfl, hcol, hfb, b4⟩
   have HCOL := hid hcol
   have HFB := hid hfb
   have HB4 := hid b4
   have r0 := cR w4 _ 0 _ _ _ hfb
   have r1 := cR w4 _ 1 _ _ _ hfb
   have r2 := cR w4 _ 2 _ _ _ hfb
   simp at r0 r1 r2
   have hfs : wr.heap.size < w4.heap.size := (Array.getElem?_eq_some_iff.1 hfb).1
   clear hcol hfb b4
   have HQ2 : Hid (Calls Tryz.prog 83 #[.agg #[.slice ax fs[k].name.length cx, .int .i64 fs[k].kind, .int .i64 fs[k].width], .slice a' R cap'] w4 fun e w' => e = .returned (.bool ((col t.cells R k).all (cellOK fs[k]))) ∧ Below w4.heap.size w4 w') := hid (by
    have hl := col_len (HNC.out k hlt).2
    have h := validCells_any fs[k] _ a' cap' (col t.cells R k) w4 (cField.later HE.out HB4.out) (by rw [hl]; exact HCOL.out) (by omega)
    rw [hl] at h
    exact h)
   go_wp2_with fail
   refine HQ2.out.mono ?_
   rintro e w5 ⟨rfl, b5⟩
   have HB5 := hid b5
   have HW5 : Hid (Below w.heap.size w w5) := hid (HBR.out.trans ((HB4.out.trans (b5.mono HB4.out.size)).mono HBR.out.size))
   have HK5 := hid ((b5.block w.heap.size (by omega)).trans ((HB4.out.block w.heap.size hB).trans HK.out))
   have s1 := (b5.cell (p := ⟨wr.heap.size, 1, none⟩) hfs).trans r1
   clear b5
   cases hall : (col t.cells R k).all (cellOK fs[k])
   ·have HX := hid (tableOK_col HRR.out hlt (colOK_cells hall))
    go_wp2
    go_ret
    exact ⟨by rw [HX.out]; rfl, HW5.out⟩
   ·have HALL := hid hall
    clear hall
    by_cases k3 : fs[k].kind = 3
    ·have K3 := hid k3
     have b3 : (fs[k].kind == 3) = true := by simpa using k3
     clear k3
     have HQ4 : Hid (Calls Tryz.prog 84 #[.slice a' R cap'] w5 fun e w' => e = .returned (.int .i64 ((diff (col t.cells R k) : Nat) : Int)) ∧ Below w5.heap.size w5 w') := hid (by
      have hl := col_len (HNC.out k hlt).2
      have h := differentTexts_any a' cap' (col t.cells R k) w5 (by rw [hl]; exact HCOL.out.later HB5.out) (by rw [hl]; exact (HNC.out k hlt).1)
      rw [hl] at h
      exact h)
     go_wp2_with fail
     refine HQ4.out.mono ?_
     rintro e w6 ⟨rfl, b6⟩
     have HW6 := hid (HW5.out.trans (b6.mono HW5.out.size))
     have HK6 := hid ((b6.block w.heap.size (Array.getElem?_eq_some_iff.1 HK5.out).1).trans HK5.out)
     clear b6
     by_cases hdf : 40 < diff (col t.cells R k)
     ·have HX := hid (tableOK_col HRR.out hlt (colOK_dict K3.out hdf))
      generalize diff (col t.cells R k) = df at *
      go_wp2
      go_ret
      exact ⟨by rw [HX.out]; rfl, HW6.out⟩
     ·have HX : Hid (colsTo fs t.cells R (k + 1) = true) := hid (by rw [colsTo_succ hlt, HC.out, colOK_ok HALL.out (fun h => hdf h.2)]; rfl)
      have hdl : diff (col t.cells R k) ≤ 40 := by omega
      generalize diff (col t.cells R k) = df at *
      go_wp2
      go_roundw
      case rel => exact ⟨k + 1, by omega, by go_num, HX.out, HK6.out, HW6.out⟩
      case measure => simp [intOf]; omega
    ·have HX : Hid (colsTo fs t.cells R (k + 1) = true) := hid (by rw [colsTo_succ hlt, HC.out, colOK_ok HALL.out (fun h => k3 h.1)]; rfl)
     have b3 : (fs[k].kind == 3) = false := by simpa using k3
     clear k3
     go_wp2
     go_roundw
     case rel => exact ⟨k + 1, by omega, by go_num, HX.out, HK5.out, HW5.out⟩
     case measure => simp [intOf]; omega
  ·obtain rfl : k = fs.length := by omega
   have HX := hid (HEND.out (by omega) HC.out)
   go_wp2
   go_ret
   exact ⟨by rw [HX.out]; rfl, HBR.out⟩
end Go.Proofs.YtfaehioeepolhabGreat
