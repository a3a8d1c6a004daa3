import Derived.Test.YtfaehioeepolhabGreatJCrashSender5
import Derived.Test.YtfaehioeepolhabGreatJCrashSender0
import Derived.Test.YtfaehioeepolhabGreatJCrashSender27
import Derived.Handy
import Derived.Test.YtfaehioeepolhabGreatJCrashSender3
import Derived.Test.YtfaehioeepolhabGreatJCrashSender4
import Derived.Test.YtfaehioeepolhabGreatJCrashSender23
namespace Go.Proofs.YtfaehioeepolhabGreat
open Go.RowKit
set_option maxHeartbeats 400000 in
theorem l1fits_i8 (v : Int) (w : World) (hv : IntIn v) :
  Calls Tryz.prog 111 #[.int .i64 v, .int .i64 1] w fun e w' => e = .returned (.bool (decide (IntKind.i8.wrap v = v))) ∧ w' = w := by
 obtain ⟨h1, h2⟩ := hv
 have HI := hid (fit_i8 v)
 by_cases hlo : -128 ≤ v
 ·by_cases hhi : v < 128
  ·have HD : Hid (decide (IntKind.i8.wrap v = v) = true) := hid (decide_eq_true (HI.out.2 ⟨hlo, hhi⟩))
   rw [HD.out]
   go_enter Tryz.func111, Tryz.ntmps111
   go_wp2
   go_ret
   exact ⟨rfl, rfl⟩
  ·have HD : Hid (decide (IntKind.i8.wrap v = v) = false) := hid (decide_eq_false (fun h => hhi (HI.out.1 h).2))
   rw [HD.out]
   go_enter Tryz.func111, Tryz.ntmps111
   go_wp2
   go_ret
   exact ⟨rfl, rfl⟩
 ·have HD : Hid (decide (IntKind.i8.wrap v = v) = false) := hid (decide_eq_false (fun h => hlo (HI.out.1 h).1))
  rw [HD.out]
  go_enter Tryz.func111, Tryz.ntmps111
  go_wp2
  go_ret
  exact ⟨rfl, rfl⟩
set_option maxHeartbeats 400000 in
theorem l1fits_i16 (v : Int) (w : World) (hv : IntIn v) :
  Calls Tryz.prog 111 #[.int .i64 v, .int .i64 2] w fun e w' => e = .returned (.bool (decide (IntKind.i16.wrap v = v))) ∧ w' = w := by
 obtain ⟨h1, h2⟩ := hv
 have HI := hid (fit_i16 v)
 by_cases hlo : -32768 ≤ v
 ·by_cases hhi : v < 32768
  ·have HD : Hid (decide (IntKind.i16.wrap v = v) = true) := hid (decide_eq_true (HI.out.2 ⟨hlo, hhi⟩))
   rw [HD.out]
   go_enter Tryz.func111, Tryz.ntmps111
   go_wp2
   go_ret
   exact ⟨rfl, rfl⟩
  ·have HD : Hid (decide (IntKind.i16.wrap v = v) = false) := hid (decide_eq_false (fun h => hhi (HI.out.1 h).2))
   rw [HD.out]
   go_enter Tryz.func111, Tryz.ntmps111
   go_wp2
   go_ret
   exact ⟨rfl, rfl⟩
 ·have HD : Hid (decide (IntKind.i16.wrap v = v) = false) := hid (decide_eq_false (fun h => hlo (HI.out.1 h).1))
  rw [HD.out]
  go_enter Tryz.func111, Tryz.ntmps111
  go_wp2
  go_ret
  exact ⟨rfl, rfl⟩
set_option maxHeartbeats 400000 in
theorem l1fits_i32 (v : Int) (w : World) (hv : IntIn v) :
  Calls Tryz.prog 111 #[.int .i64 v, .int .i64 4] w fun e w' => e = .returned (.bool (decide (IntKind.i32.wrap v = v))) ∧ w' = w := by
 obtain ⟨h1, h2⟩ := hv
 have HI := hid (fit_i32 v)
 by_cases hlo : -2147483648 ≤ v
 ·by_cases hhi : v < 2147483648
  ·have HD : Hid (decide (IntKind.i32.wrap v = v) = true) := hid (decide_eq_true (HI.out.2 ⟨hlo, hhi⟩))
   rw [HD.out]
   go_enter Tryz.func111, Tryz.ntmps111
   go_wp2
   go_ret
   exact ⟨rfl, rfl⟩
  ·have HD : Hid (decide (IntKind.i32.wrap v = v) = false) := hid (decide_eq_false (fun h => hhi (HI.out.1 h).2))
   rw [HD.out]
   go_enter Tryz.func111, Tryz.ntmps111
   go_wp2
   go_ret
   exact ⟨rfl, rfl⟩
 ·have HD : Hid (decide (IntKind.i32.wrap v = v) = false) := hid (decide_eq_false (fun h => hlo (HI.out.1 h).1))
  rw [HD.out]
  go_enter Tryz.func111, Tryz.ntmps111
  go_wp2
  go_ret
  exact ⟨rfl, rfl⟩
set_option maxHeartbeats 400000 in
theorem l1fits_i64 (v : Int) (w : World) (hv : IntIn v) :
  Calls Tryz.prog 111 #[.int .i64 v, .int .i64 8] w fun e w' => e = .returned (.bool (decide (IntKind.i64.wrap v = v))) ∧ w' = w := by
 obtain ⟨h1, h2⟩ := hv
 have HD : Hid (decide (IntKind.i64.wrap v = v) = true) := hid (decide_eq_true ((fit_i64 v).2 ⟨h1, by omega⟩))
 rw [HD.out]
 go_enter Tryz.func111, Tryz.ntmps111
 go_wp2
 go_ret
 exact ⟨rfl, rfl⟩
theorem l1fits_any (n width : Int) (w : World) (hn : IntIn n) (hw : widthOK width = true) :
  Calls Tryz.prog 111 #[.int .i64 n, .int .i64 width] w fun e w' => e = .returned (.bool (fitsW n width)) ∧ w' = w := by
 simp only [widthOK, decide_eq_true_eq] at hw
 rcases hw with rfl | rfl | rfl | rfl
 ·have h := l1fits_i8 n w hn
  rw [← fitsR 1 .i8 n] at h; exact h
 ·have h := l1fits_i16 n w hn
  rw [← fitsR 2 .i16 n] at h; exact h
 ·have h := l1fits_i32 n w hn
  rw [← fitsR 4 .i32 n] at h; exact h
 ·have h := l1fits_i64 n w hn
  rw [← fitsR 8 .i64 n] at h; exact h
set_option maxHeartbeats 2000000 in
theorem l2cellOK_any (f : PF) (c : PC) (cs cs' : List Value) (w : World) (h1 : cField.rd w f cs) (h2 : cCell.rd w c cs') (hk : f.kind = 1 → widthOK f.width = true) :
  Calls Tryz.prog 63 #[val cs, val cs'] w fun e w' => e = .returned (.bool (cellOK f c)) ∧ Below w.heap.size w w' := by
 obtain ⟨a1, c1, rfl⟩ := cField_shape h1
 obtain ⟨a2, c2, rfl⟩ := cCell_shape h2
 have hin : IntIn c.num := by
  obtain ⟨v, e, _, h⟩ := cCell_rd h2
  exact h
 have HIN := hid hin
 have HK := hid hk
 simp only [val]
 clear h1 h2 hin hk
 cases hn : c.null
 ·by_cases k0 : f.kind = 0
  ·have HX := hid (cellOK_bool hn k0)
   by_cases e0 : c.num = 0
   ·rw [show (c.num == 0) = true from by simpa using e0] at HX
    go_enter Tryz.func63, Tryz.ntmps63
    go_wp2
    go_ret
    exact ⟨by rw [HX.out]; first | rfl | simp, below_new2 _ _ _⟩
   ·by_cases e1 : c.num = 1
    ·rw [show (c.num == 0) = false from by simpa using e0, show (c.num == 1) = true from by simpa using e1] at HX
     go_enter Tryz.func63, Tryz.ntmps63
     go_wp2
     go_ret
     exact ⟨by rw [HX.out]; first | rfl | simp, below_new2 _ _ _⟩
    ·rw [show (c.num == 0) = false from by simpa using e0, show (c.num == 1) = false from by simpa using e1] at HX
     have b0 : (c.num == 0) = false := by simpa using e0
     have b1 : (c.num == 1) = false := by simpa using e1
     clear e0 e1
     go_enter Tryz.func63, Tryz.ntmps63
     go_wp2
     go_ret
     exact ⟨by rw [HX.out]; first | rfl | simp, below_new2 _ _ _⟩
  ·have b0 : (f.kind == 0) = false := by simpa using k0
   by_cases k1 : f.kind = 1
   ·have HX := hid (cellOK_int hn k1)
    have HW := hid (HK.out k1)
    have K1 := hid k1
    clear k1 k0
    have HQ : Hid (∀ w', Calls Tryz.prog 111 #[.int .i64 c.num, .int .i64 f.width] w' fun e w2 => e = .returned (.bool (fitsW c.num f.width)) ∧ w2 = w') := hid (fun w' => l1fits_any _ _ w' HIN.out HW.out)
    have k1 := K1.out
    go_enter Tryz.func63, Tryz.ntmps63
    go_wp2_with fail
    refine (HQ.out _).mono ?_
    rintro e w2 ⟨rfl, rfl⟩
    cases hf : fitsW c.num f.width
    ·rw [hf] at HX
     go_wp2
     go_ret
     exact ⟨by rw [HX.out]; first | rfl | simp, below_new2 _ _ _⟩
    ·rw [hf] at HX
     go_wp2
     go_ret
     exact ⟨by rw [HX.out]; first | rfl | simp, below_new2 _ _ _⟩
   ·have HX := hid (cellOK_text hn k0 k1)
    have b1 : (f.kind == 1) = false := by simpa using k1
    clear k0 k1
    go_enter Tryz.func63, Tryz.ntmps63
    go_wp2
    go_ret
    exact ⟨by rw [HX.out]; first | rfl | simp, below_new2 _ _ _⟩
 ·have HX := hid (cellOK_null (f := f) hn)
  by_cases e0 : c.num = 0
  ·rw [show (c.num == 0) = true from by simpa using e0] at HX
   go_enter Tryz.func63, Tryz.ntmps63
   go_wp2
   go_ret
   exact ⟨by rw [HX.out]; first | rfl | simp, below_new2 _ _ _⟩
  ·rw [show (c.num == 0) = false from by simpa using e0] at HX
   have b0 : (c.num == 0) = false := by simpa using e0
   clear e0
   go_enter Tryz.func63, Tryz.ntmps63
   go_wp2
   go_ret
   exact ⟨by rw [HX.out]; first | rfl | simp, below_new2 _ _ _⟩
set_option maxHeartbeats 2000000 in
theorem l2column_any (t : PT) (R c : Nat) (a : Option Addr) (cap : Nat) (w : World) (hR : t.rows = (R : Int)) (hr : RdSl cCell w t.cells (.slice a t.cells.length cap)) (hRl : R ≤ 100) (hc : c < 12) (hlen : (c + 1) * R ≤ t.cells.length) :
  Calls Tryz.prog 62 #[.agg #[.int .i64 t.rows, .slice a t.cells.length cap], .int .i64 (c : Int)] w fun e w' => ∃ a' cap', e = .returned (.slice a' R cap') ∧ RdSl cCell w (col t.cells R c) (.slice a' R cap') ∧ Below w.heap.size w w' := by
 have hcap : t.cells.length ≤ cap ∧ cap ≤ maxLen := by
  obtain ⟨a', cap', e', g1, g2, _⟩ := hr
  simp at e'
  omega
 have HR := hid hr
 obtain ⟨lo, hlo⟩ : ∃ lo, lo = c * R := ⟨_, rfl⟩
 obtain ⟨hi, hhi⟩ : ∃ hi, hi = (c + 1) * R := ⟨_, rfl⟩
 have hsum : hi = lo + R := by rw [hlo, hhi, Nat.add_mul, Nat.one_mul]
 have hlo2 : lo ≤ 1200 := by rw [hlo]; exact Nat.le_trans (Nat.mul_le_mul (show c ≤ 12 by omega) hRl) (by omega)
 have m1 : (c : Int) * (R : Int) = (lo : Int) := by rw [hlo]; simp
 have m2 : ((c : Int) + 1) * (R : Int) = (hi : Int) := by rw [hhi]; simp
 rw [← hhi] at hlen
 have HL := hid hlo
 rw [hR]
 clear hr hlo hhi hR
 have H1 : Hid (RdSl cCell w (col t.cells R c) (.slice (a.map fun x => x.add (lo * 3)) R (cap - lo))) := hid (by
  have h := HR.out.cut (lo := lo) (R := R) (by omega)
  rw [HL.out] at h ⊢
  exact h)
 have H2 : Hid (R = 0 → col t.cells R c = []) := hid (fun h => by subst h; simp [col])
 unfold maxLen at hcap
 go_enter Tryz.func62, Tryz.ntmps62
 by_cases hz : cap = lo
 ·subst hz
  have h0 : R = 0 := by omega
  have H0 := hid h0
  clear h0
  go_wp2
  go_ret
  refine ⟨a, 0, by simp, ?_, bN _ _⟩
  rw [H2.out H0.out, H0.out]
  exact RdSl.empty a
 ·go_wp2
  all_goals first
   | (exfalso; omega)
   | (go_ret; exact ⟨a.map fun x => x.add (lo * 3), cap - lo, by simp, H1.out, bN _ _⟩)
def Gath (w wr : World) (v : Value) (xss : List (List Nat)) : Prop :=
 ∃ vals : List Value, wr.ownsRow w.heap.size 87 1 v xss.length vals ∧ ∀ i, (h : i < xss.length) → ∃ u, vals[i]? = some u ∧ RdSl cByte w xss[i] u
theorem Gath.nil (w : World) : Gath w w (.slice none 0 0) [] := ⟨[], World.ownsRow_nil _ _ _ _, fun i h => by simp at h⟩
theorem Gath.kept {w wr w' : World} {v : Value} {xss : List (List Nat)} (h : Gath w wr v xss) (hb : Below wr.heap.size wr w') : Gath w w' v xss := by
 obtain ⟨vals, ho, hi⟩ := h
 exact ⟨vals, own_later ho hb, hi⟩
theorem Gath.rd {w wr : World} {v : Value} {xss : List (List Nat)} (h : Gath w wr v xss) (hb : Below w.heap.size w wr) : RdSl cSS wr xss v := by
 obtain ⟨vals, ho, hi⟩ := h
 have hvl : vals.length = xss.length := by have := ho.1; omega
 rcases ho.2 with ⟨rfl, h0⟩ | ⟨g, cap, cur, rfl, hg, hh, hn, hm, r⟩
 ·obtain rfl := List.length_eq_zero_iff.1 h0
  exact RdSl.empty none
 ·refine ⟨_, cap, rfl, hn, hm, (fun h => by cases h), .inr ⟨g, 0, rfl, fun i h => ?_⟩⟩
  obtain ⟨u, hu, hr⟩ := hi i h
  refine ⟨[u], ⟨u, rfl, hr.later hb⟩, fun j hj => ?_⟩
  have hj0 : j = 0 := by simpa using hj
  subst hj0
  have := World.ownsRow.cellAt ho i (by omega)
  rw [show 0 + (i * cSS.n + 0) = i from by simp [cSl], this, hu]; rfl
theorem Gath.snoc {w w1 : World} {v' u : Value} {xss : List (List Nat)} {t : List Nat} {vals : List Value} (hl : vals.length = xss.length) (hi : ∀ i, (h : i < xss.length) → ∃ u, vals[i]? = some u ∧ RdSl cByte w xss[i] u)
  (ho : w1.ownsRow w.heap.size 87 1 v' (xss.length + 1) (vals ++ [u])) (hu : RdSl cByte w t u) : Gath w w1 v' (xss ++ [t]) := by
 refine ⟨vals ++ [u], by simpa using ho, fun i h => ?_⟩
 by_cases e : i < xss.length
 ·obtain ⟨u', h1, h2⟩ := hi i e
  exact ⟨u', by rw [List.getElem?_append_left (by omega)]; exact h1, by rw [List.getElem_append_left e]; exact h2⟩
 ·have hie : i = xss.length := by simp at h; omega
  subst hie
  exact ⟨u, by simp [← hl], by simpa using hu⟩
theorem infoSlG : (Tryz.prog.info? 87).map (fun i => (i.zero, i.size, i.bytes)) = some (some (.slice none 0 0), 1, 24) := by kernel_rfl
theorem nn_len (cs : List PC) : (nn cs).length ≤ cs.length := by unfold nn; rw [List.length_map]; exact List.length_filter_le _ _
end Go.Proofs.YtfaehioeepolhabGreat
namespace Go.Proofs.YtfaehioeepolhabGreat
open Go.RowKit Go.Maps
set_option maxHeartbeats 1000000 in
theorem l2place_any (a a2 : Option Addr) (cap c2 : Nat) (vs : List (List Nat)) (t : List Nat) (w : World) (hr : RdSl cSS w vs (.slice a vs.length cap)) (hr2 : Rd w a2 (byt t)) (hb2 : ∀ x ∈ t, x < 256) (hl : vs.length ≤ 1048576) :
  Calls Tryz.prog 112 #[.slice a vs.length cap, .slice a2 t.length c2] w fun e w' => e = .returned (.int .i64 (place vs t)) ∧ w' = w := by
 have HR := hid hr
 have HR2 := hid hr2
 have HB2 := hid hb2
 clear hr hr2 hb2
 go_enter Tryz.func112, Tryz.ntmps112
 go_wp2
 go_loop [5] (fun i => ∃ k : Nat, k ≤ vs.length ∧ i = .int .i64 k ∧ ∀ q, (h : q < vs.length) → q < k → vs[q] ≠ t) (fun i => vs.length - (intOf i).toNat)
 case atStart => exact ⟨0, Nat.zero_le _, rfl, fun q _ h => by omega⟩
 case round =>
  obtain ⟨k, hk, rfl, hall⟩ := hrel
  have HA := hid hall
  clear hall
  by_cases hlt : k < vs.length
  ·obtain ⟨b, off, a', c', rfl, hcb, hrr⟩ := HR.out.row hlt
   obtain ⟨_, _, e', -, -, -, hrd, hby⟩ := hrr.bytes
   simp only [Value.slice.injEq] at e'
   obtain ⟨rfl, -, rfl⟩ := e'
   have HRD := hid hrd
   have HBY := hid hby
   have hki : (k : Int) < (vs.length : Int) := by omega
   clear hrr hrd hby
   go_wp2_with fail
   refine (l1same_any a' a2 c' c2 _ _ w HRD.out HR2.out HBY.out HB2.out).mono ?_
   rintro e w ⟨rfl, rfl⟩
   by_cases hs : vs[k] = t
   ·have HX := hid (place_at hlt hs (fun q hq h => HA.out q hq h))
    rw [decide_eq_true hs]
    go_wp2
    go_ret
    exact ⟨by rw [HX.out]; rfl, rfl⟩
   ·rw [decide_eq_false hs]
    have HX : Hid (∀ q, (h : q < vs.length) → q < k + 1 → vs[q] ≠ t) := hid (fun q hq hqk => by
     by_cases e : q = k
     ·subst e; exact hs
     ·exact HA.out q hq (by omega))
    go_wp2
    go_round
    case rel => exact ⟨k + 1, by omega, by go_num, HX.out⟩
    case measure => simp [intOf]; omega
  ·obtain rfl : k = vs.length := by omega
   have HX := hid (place_none (fun q hq => HA.out q hq hq))
   go_wp2
   go_ret
   exact ⟨by rw [HX.out]; rfl, rfl⟩
end Go.Proofs.YtfaehioeepolhabGreat
namespace Go.Proofs.YtfaehioeepolhabGreat
open Go.RowKit
set_option maxRecDepth 100000 in
set_option maxHeartbeats 4000000 in
theorem l2texts_any (a : Option Addr) (cap : Nat) (xs : List PC) (w : World) (hr : RdSl cCell w xs (.slice a xs.length cap)) (hl : xs.length ≤ 1048576) :
  Calls Tryz.prog 64 #[.slice a xs.length cap, .int .i64 40] w fun e w' => ∃ a' n c', e = .returned (.slice a' n c') ∧ (40 < n ↔ 40 < diff xs) ∧ n ≤ 1048576 ∧ Below w.heap.size w w' := by
 obtain ⟨i0, hi, hz0, hz1, hz2⟩ := info_parts infoSlG
 have HR := hid hr
 have HD : Hid (∀ k, (ddv (nn (xs.take k))).length ≤ diff xs) := hid (fun k => by
  unfold diff
  rw [← ddv_len]
  have : nn xs = nn (xs.take k) ++ nn (xs.drop k) := by
   unfold nn
   rw [← List.map_append, ← List.filter_append, List.take_append_drop]
  rw [this]
  exact ddv_mono _ _)
 have HE : Hid (diff xs = (ddv (nn (xs.take xs.length))).length) := hid (by rw [List.take_length, ddv_len]; rfl)
 have HLE : Hid (∀ k, (ddv (nn (xs.take k))).length ≤ k) := hid (fun k => by
  rw [ddv_len]
  have h1 := cnt_le (nn (xs.take k)) (nn (xs.take k)).length
  have h2 := nn_len (xs.take k)
  simp at h2; omega)
 clear hr
 go_enter Tryz.func64, Tryz.ntmps64
 go_wp2
 go_loopw [5, 6] (fun v i wr => ∃ (k : Nat) (a' : Option Addr) (c' : Nat), k ≤ xs.length ∧ i = .int .i64 k ∧ v = .slice a' (ddv (nn (xs.take k))).length c' ∧ Gath w wr v (ddv (nn (xs.take k))) ∧ Below w.heap.size w wr) (fun _ i _ => xs.length - (intOf i).toNat)
 case atStart => exact ⟨0, none, 0, Nat.zero_le _, rfl, by simp [nn, ddv], by simpa [nn, ddv] using Gath.nil w, Below.refl _ _⟩
 case round =>
  obtain ⟨k, a', c', hk, rfl, rfl, hga, hbe⟩ := hrel
  have HG := hid hga
  have HB := hid hbe
  have hdk := HD.out k
  have hle := HLE.out k
  clear hga hbe
  by_cases hlt : k < xs.length
  ·have hki : (k : Int) < (xs.length : Int) := by omega
   by_cases hfull : 40 < (ddv (nn (xs.take k))).length
   ·have HX : Hid (40 < (ddv (nn (xs.take k))).length ↔ 40 < diff xs) := hid ⟨fun _ => by omega, fun _ => hfull⟩
    generalize (ddv (nn (xs.take k))).length = n at *
    have hd : decide ((n : Int) ≤ 40) = false := decide_eq_false (by omega)
    go_wp2
    go_ret
    exact ⟨a', n, c', rfl, HX.out, by omega, HB.out⟩
   ·obtain ⟨b, off, v0, v1, v2, rfl, hes, d0, d1, d2⟩ := (HR.out.later HB.out).at3 rfl hlt
    obtain ⟨ax, cx, e⟩ := cCell_shape hes
    simp only [List.cons.injEq, and_true] at e
    obtain ⟨rfl, rfl, rfl⟩ := e
    have hT : RdSl cByte w xs[k].text (.slice ax xs[k].text.length cx) := by
     obtain ⟨b', off', y0, y1, y2, e', hy, q0, q1, q2⟩ := HR.out.at3 (k := k) rfl hlt
     simp only [Option.some.injEq, Addr.mk.injEq, and_true] at e'
     obtain ⟨rfl, rfl⟩ := e'
     have hlt2 := World.block_lt_of_cell? _ _ q2
     have e2 := (HB.out.cell (p := ⟨b, off + k * 3 + 2, none⟩) hlt2).symm.trans d2
     rw [q2] at e2
     obtain ⟨v, e3, hv, _⟩ := cCell_rd hy
     simp only [List.cons.injEq, and_true] at e3
     simp only [Option.some.injEq] at e2
     rw [← e2, e3.2.2]; exact hv
    have HT := hid hT
    have HS := hid (nn_snoc xs k hlt)
    have HQ : Hid (Calls Tryz.prog 112 #[.slice a' (ddv (nn (xs.take k))).length c', .slice ax xs[k].text.length cx] wr fun e w' => e = .returned (.int .i64 (place (ddv (nn (xs.take k))) xs[k].text)) ∧ w' = wr) := hid (by
     obtain ⟨_, _, e', -, -, -, hrd, hby⟩ := (HT.out.later HB.out).bytes
     simp only [Value.slice.injEq] at e'
     obtain ⟨rfl, -, rfl⟩ := e'
     exact l2place_any a' ax c' cx _ _ wr (HG.out.rd HB.out) hrd hby (by omega))
    have HP := hid (place_neg (vs := ddv (nn (xs.take k))) (t := xs[k].text))
    have HPL := hid (place_lt (ddv (nn (xs.take k))) xs[k].text)
    clear hes hT
    cases hnul : xs[k].null
    ·rw [hnul] at d0
     have HSN : Hid (nn (xs.take (k + 1)) = nn (xs.take k) ++ [xs[k].text]) := hid (by rw [HS.out, hnul]; rfl)
     by_cases hp : place (ddv (nn (xs.take k))) xs[k].text < 0
     ·have HS2 : Hid (ddv (nn (xs.take (k + 1))) = ddv (nn (xs.take k)) ++ [xs[k].text]) := hid (by rw [HSN.out, ddv_snoc, if_neg (HP.out.1 hp)])
      obtain ⟨vals, how, hel⟩ := HG.out
      have hvl : vals.length = (ddv (nn (xs.take k))).length := by have := how.1; omega
      have HO := hid how
      have HEL := hid hel
      have HVL := hid hvl
      clear how hel hvl
      generalize ddv (nn (xs.take k)) = L at *
      generalize place L xs[k].text = p at *
      have hd : decide ((L.length : Int) ≤ 40) = true := decide_eq_true (by omega)
      go_wp2_with fail
      refine HQ.out.mono ?_
      rintro e w2 ⟨rfl, rfl⟩
      go_wp2_with (first | (at_builtin; refine wpList_append_own _ rfl _ _ 103 rfl w.heap.size 87 i0 (.slice none 0 0) 1 24 Tryz.underlying103 hi hz0 hz1 hz2 rfl (by decide) _ L.length _ rfl (HO.out.alloc _) ⟨w2.heap.size, 0, none⟩ 1 1 [.slice ax xs[k].text.length cx] rfl rfl (cell_one_new _ _ _) (one_cell rfl) (by unfold maxLen; omega) (by omega) (by have := HB.out.size; simp; omega) ?_))
      intro v' w1 hown' hgrow _
      have HB1 : Hid (Below w.heap.size w w1) := hid ((HB.out.alloc HB.out.size _).grown hgrow (by have := HB.out.size; simp; omega) (fun k h => (World.ownsRow.lt HO.out k h).1))
      obtain ⟨a3, c3, hv3⟩ : ∃ a3 c3, v' = .slice a3 (L.length + 1) c3 := by
       rcases hown'.2 with ⟨_, h0⟩ | ⟨g, cc, _, h, _⟩
       ·omega
       ·exact ⟨_, cc, h⟩
      subst hv3
      have HG1 : Hid (Gath w w1 (.slice a3 (L.length + 1) c3) (ddv (nn (xs.take (k + 1))))) := hid (by rw [HS2.out]; exact Gath.snoc HVL.out HEL.out hown' HT.out)
      have HLN : Hid ((ddv (nn (xs.take (k + 1)))).length = L.length + 1) := hid (by rw [HS2.out]; simp)
      clear hown' hgrow
      go_wp2
      go_roundw
      case rel => exact ⟨k + 1, a3, c3, by omega, by go_num, by rw [HLN.out], HG1.out, HB1.out⟩
      case measure => simp [intOf]; omega
     ·have HS2 : Hid (ddv (nn (xs.take (k + 1))) = ddv (nn (xs.take k))) := hid (by rw [HSN.out, ddv_snoc, if_pos (Classical.not_not.1 (fun h => hp (HP.out.2 h)))])
      generalize ddv (nn (xs.take k)) = L at *
      generalize place L xs[k].text = p at *
      have hd : decide ((L.length : Int) ≤ 40) = true := decide_eq_true (by omega)
      have hpl := HPL.out
      go_wp2_with fail
      refine HQ.out.mono ?_
      rintro e w2 ⟨rfl, rfl⟩
      go_wp2
      go_roundw
      case rel => exact ⟨k + 1, a', c', by omega, by go_num, by rw [HS2.out], by rw [HS2.out]; exact HG.out, HB.out⟩
      case measure => simp [intOf]; omega
    ·rw [hnul] at d0
     have HS2 : Hid (ddv (nn (xs.take (k + 1))) = ddv (nn (xs.take k))) := hid (by rw [HS.out, hnul]; simp)
     generalize ddv (nn (xs.take k)) = L at *
     have hd : decide ((L.length : Int) ≤ 40) = true := decide_eq_true (by omega)
     go_wp2
     go_roundw
     case rel => exact ⟨k + 1, a', c', by omega, by go_num, by rw [HS2.out], by rw [HS2.out]; exact HG.out, HB.out⟩
     case measure => simp [intOf]; omega
  ·obtain rfl : k = xs.length := by omega
   have HX : Hid (40 < (ddv (nn (xs.take xs.length))).length ↔ 40 < diff xs) := hid (by rw [HE.out])
   generalize (ddv (nn (xs.take xs.length))).length = n at *
   go_wp2
   go_ret
   exact ⟨a', n, c', rfl, HX.out, by omega, HB.out⟩
end Go.Proofs.YtfaehioeepolhabGreat
