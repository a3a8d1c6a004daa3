import Derived.Test.YtfaehioeepolhaaGreatJPoll6
import Derived.Test.YtfaehioeepolhaaGreatJPoll0
import Derived.Test.YtfaehioeepolhaaGreatJPoll24
import Derived.Handy
import Derived.Test.YtfaehioeepolhaaGreatJPoll3
import Derived.Deep.RegionHeld
namespace Go.Proofs.YtfaehioeepolhaaGreat
open Go.RowKit
set_option maxHeartbeats 400000 in
theorem l1fits_i8 (v : Int) (w : World) (hv : IntIn v) :
    Calls Tryz.prog 181 #[.int .i64 v, .int .i64 1] w fun e w' => e = .returned (.bool (decide (IntKind.i8.wrap v = v))) ∧ w' = w := by
  obtain ⟨h1, h2⟩ := hv
  have HI := hid (fit_i8 v)
  by_cases hlo : -128 ≤ v
  · by_cases hhi : v < 128
    · have HD : Hid (decide (IntKind.i8.wrap v = v) = true) := hid (decide_eq_true (HI.out.2 ⟨hlo, hhi⟩))
      rw [HD.out]
      go_enter Tryz.func181, Tryz.ntmps181
      go_wp2
      go_ret
      exact ⟨rfl, rfl⟩
    · have HD : Hid (decide (IntKind.i8.wrap v = v) = false) := hid (decide_eq_false (fun h => hhi (HI.out.1 h).2))
      rw [HD.out]
      go_enter Tryz.func181, Tryz.ntmps181
      go_wp2
      go_ret
      exact ⟨rfl, rfl⟩
  · have HD : Hid (decide (IntKind.i8.wrap v = v) = false) := hid (decide_eq_false (fun h => hlo (HI.out.1 h).1))
    rw [HD.out]
    go_enter Tryz.func181, Tryz.ntmps181
    go_wp2
    go_ret
    exact ⟨rfl, rfl⟩
end Go.Proofs.YtfaehioeepolhaaGreat
namespace Go.Proofs.YtfaehioeepolhaaGreat
open Go.RowKit
set_option maxHeartbeats 400000 in
theorem l1fits_i16 (v : Int) (w : World) (hv : IntIn v) :
    Calls Tryz.prog 181 #[.int .i64 v, .int .i64 2] w fun e w' => e = .returned (.bool (decide (IntKind.i16.wrap v = v))) ∧ w' = w := by
  obtain ⟨h1, h2⟩ := hv
  have HI := hid (fit_i16 v)
  by_cases hlo : -32768 ≤ v
  · by_cases hhi : v < 32768
    · have HD : Hid (decide (IntKind.i16.wrap v = v) = true) := hid (decide_eq_true (HI.out.2 ⟨hlo, hhi⟩))
      rw [HD.out]
      go_enter Tryz.func181, Tryz.ntmps181
      go_wp2
      go_ret
      exact ⟨rfl, rfl⟩
    · have HD : Hid (decide (IntKind.i16.wrap v = v) = false) := hid (decide_eq_false (fun h => hhi (HI.out.1 h).2))
      rw [HD.out]
      go_enter Tryz.func181, Tryz.ntmps181
      go_wp2
      go_ret
      exact ⟨rfl, rfl⟩
  · have HD : Hid (decide (IntKind.i16.wrap v = v) = false) := hid (decide_eq_false (fun h => hlo (HI.out.1 h).1))
    rw [HD.out]
    go_enter Tryz.func181, Tryz.ntmps181
    go_wp2
    go_ret
    exact ⟨rfl, rfl⟩
end Go.Proofs.YtfaehioeepolhaaGreat
namespace Go.Proofs.YtfaehioeepolhaaGreat
open Go.RowKit
set_option maxHeartbeats 400000 in
theorem l1fits_i32 (v : Int) (w : World) (hv : IntIn v) :
    Calls Tryz.prog 181 #[.int .i64 v, .int .i64 4] w fun e w' => e = .returned (.bool (decide (IntKind.i32.wrap v = v))) ∧ w' = w := by
  obtain ⟨h1, h2⟩ := hv
  have HI := hid (fit_i32 v)
  by_cases hlo : -2147483648 ≤ v
  · by_cases hhi : v < 2147483648
    · have HD : Hid (decide (IntKind.i32.wrap v = v) = true) := hid (decide_eq_true (HI.out.2 ⟨hlo, hhi⟩))
      rw [HD.out]
      go_enter Tryz.func181, Tryz.ntmps181
      go_wp2
      go_ret
      exact ⟨rfl, rfl⟩
    · have HD : Hid (decide (IntKind.i32.wrap v = v) = false) := hid (decide_eq_false (fun h => hhi (HI.out.1 h).2))
      rw [HD.out]
      go_enter Tryz.func181, Tryz.ntmps181
      go_wp2
      go_ret
      exact ⟨rfl, rfl⟩
  · have HD : Hid (decide (IntKind.i32.wrap v = v) = false) := hid (decide_eq_false (fun h => hlo (HI.out.1 h).1))
    rw [HD.out]
    go_enter Tryz.func181, Tryz.ntmps181
    go_wp2
    go_ret
    exact ⟨rfl, rfl⟩
end Go.Proofs.YtfaehioeepolhaaGreat
namespace Go.Proofs.YtfaehioeepolhaaGreat
open Go.RowKit
set_option maxHeartbeats 400000 in
theorem l1fits_i64 (v : Int) (w : World) (hv : IntIn v) :
    Calls Tryz.prog 181 #[.int .i64 v, .int .i64 8] w fun e w' => e = .returned (.bool (decide (IntKind.i64.wrap v = v))) ∧ w' = w := by
  obtain ⟨h1, h2⟩ := hv
  have HD : Hid (decide (IntKind.i64.wrap v = v) = true) := hid (decide_eq_true ((fit_i64 v).2 ⟨h1, by omega⟩))
  rw [HD.out]
  go_enter Tryz.func181, Tryz.ntmps181
  go_wp2
  go_ret
  exact ⟨rfl, rfl⟩
end Go.Proofs.YtfaehioeepolhaaGreat
namespace Go.Proofs.YtfaehioeepolhaaGreat
open Go.RowKit
theorem l1fits_any (n width : Int) (w : World) (hn : IntIn n) (hw : widthOK width = true) :
    Calls Tryz.prog 181 #[.int .i64 n, .int .i64 width] w fun e w' => e = .returned (.bool (fitsW n width)) ∧ w' = w := by
  simp only [widthOK, decide_eq_true_eq] at hw
  rcases hw with rfl | rfl | rfl | rfl
  · have h := l1fits_i8 n w hn
    rw [← fitsR 1 .i8 n] at h; exact h
  · have h := l1fits_i16 n w hn
    rw [← fitsR 2 .i16 n] at h; exact h
  · have h := l1fits_i32 n w hn
    rw [← fitsR 4 .i32 n] at h; exact h
  · have h := l1fits_i64 n w hn
    rw [← fitsR 8 .i64 n] at h; exact h
set_option maxHeartbeats 2000000 in
theorem l2cellOK_any (f : PF) (c : PC) (cs cs' : List Value) (w : World) (h1 : cField.rd w f cs) (h2 : cCell.rd w c cs') (hk : f.kind = 1 → widthOK f.width = true) :
    Calls Tryz.prog 147 #[val cs, val cs'] w fun e w' => e = .returned (.bool (cellOK f c)) ∧ Below w.heap.size w w' := by
  obtain ⟨a1, c1, rfl⟩ := cField_shape h1
  obtain ⟨a2, c2, rfl⟩ := cCell_shape h2
  have hin : IntIn c.num := by
    obtain ⟨v, e, _, h⟩ := cCell_rd h2
    exact h
  have HIN := hid hin
  have HK := hid hk
  simp only [val]
  clear h1 h2 hin hk
  cases hn : c.null
  · by_cases k0 : f.kind = 0
    · have HX := hid (cellOK_bool hn k0)
      by_cases e0 : c.num = 0
      · rw [show (c.num == 0) = true from by simpa using e0] at HX
        go_enter Tryz.func147, Tryz.ntmps147
        go_wp2
        go_ret
        exact ⟨by rw [HX.out]; first | rfl | simp, below_new2 _ _ _⟩
      · by_cases e1 : c.num = 1
        · rw [show (c.num == 0) = false from by simpa using e0, show (c.num == 1) = true from by simpa using e1] at HX
          go_enter Tryz.func147, Tryz.ntmps147
          go_wp2
          go_ret
          exact ⟨by rw [HX.out]; first | rfl | simp, below_new2 _ _ _⟩
        · rw [show (c.num == 0) = false from by simpa using e0, show (c.num == 1) = false from by simpa using e1] at HX
          have b0 : (c.num == 0) = false := by simpa using e0
          have b1 : (c.num == 1) = false := by simpa using e1
          clear e0 e1
          go_enter Tryz.func147, Tryz.ntmps147
          go_wp2
          go_ret
          exact ⟨by rw [HX.out]; first | rfl | simp, below_new2 _ _ _⟩
    · have b0 : (f.kind == 0) = false := by simpa using k0
      by_cases k1 : f.kind = 1
      · have HX := hid (cellOK_int hn k1)
        have HW := hid (HK.out k1)
        have K1 := hid k1
        clear k1 k0
        have HQ : Hid (∀ w', Calls Tryz.prog 181 #[.int .i64 c.num, .int .i64 f.width] w' fun e w2 => e = .returned (.bool (fitsW c.num f.width)) ∧ w2 = w') := hid (fun w' => l1fits_any _ _ w' HIN.out HW.out)
        have k1 := K1.out
        go_enter Tryz.func147, Tryz.ntmps147
        go_wp2_with fail
        refine (HQ.out _).mono ?_
        rintro e w2 ⟨rfl, rfl⟩
        cases hf : fitsW c.num f.width
        · rw [hf] at HX
          go_wp2
          go_ret
          exact ⟨by rw [HX.out]; first | rfl | simp, below_new2 _ _ _⟩
        · rw [hf] at HX
          go_wp2
          go_ret
          exact ⟨by rw [HX.out]; first | rfl | simp, below_new2 _ _ _⟩
      · have HX := hid (cellOK_text hn k0 k1)
        have b1 : (f.kind == 1) = false := by simpa using k1
        clear k0 k1
        go_enter Tryz.func147, Tryz.ntmps147
        go_wp2
        go_ret
        exact ⟨by rw [HX.out]; first | rfl | simp, below_new2 _ _ _⟩
  · have HX := hid (cellOK_null (f := f) hn)
    by_cases e0 : c.num = 0
    · rw [show (c.num == 0) = true from by simpa using e0] at HX
      go_enter Tryz.func147, Tryz.ntmps147
      go_wp2
      go_ret
      exact ⟨by rw [HX.out]; first | rfl | simp, below_new2 _ _ _⟩
    · rw [show (c.num == 0) = false from by simpa using e0] at HX
      have b0 : (c.num == 0) = false := by simpa using e0
      clear e0
      go_enter Tryz.func147, Tryz.ntmps147
      go_wp2
      go_ret
      exact ⟨by rw [HX.out]; first | rfl | simp, below_new2 _ _ _⟩
end Go.Proofs.YtfaehioeepolhaaGreat
namespace Go.Proofs.YtfaehioeepolhaaGreat
open Go.RowKit
set_option maxHeartbeats 2000000 in
theorem l2column_any (t : PT) (R c : Nat) (a : Option Addr) (cap : Nat) (w : World) (hR : t.rows = (R : Int)) (hr : RdSl cCell w t.cells (.slice a t.cells.length cap)) (hRl : R ≤ 100) (hc : c < 12) (hlen : (c + 1) * R ≤ t.cells.length) :
    Calls Tryz.prog 146 #[.agg #[.int .i64 t.rows, .slice a t.cells.length cap], .int .i64 (c : Int)] w fun e w' => ∃ a' cap', e = .returned (.slice a' R cap') ∧ RdSl cCell w (col t.cells R c) (.slice a' R cap') ∧ Below w.heap.size w w' := by
  have hcap : t.cells.length ≤ cap ∧ cap ≤ maxLen := by
    obtain ⟨a', cap', e', g1, g2, _⟩ := hr
    simp at e'
    omega
  have HR := hid hr
  obtain ⟨lo, hlo⟩ : ∃ lo, lo = c * R := ⟨_, rfl⟩
  obtain ⟨hi, hhi⟩ : ∃ hi, hi = (c + 1) * R := ⟨_, rfl⟩
  have hsum : hi = lo + R := by rw [hlo, hhi, Nat.add_mul, Nat.one_mul]
  have hlo2 : lo ≤ 1200 := by rw [hlo]; exact Nat.le_trans (Nat.mul_le_mul (show c ≤ 12 by omega) hRl) (by omega)
  have m1 : (c : Int) * (R : Int) = (lo : Int) := by rw [hlo]; simp
  have m2 : ((c : Int) + 1) * (R : Int) = (hi : Int) := by rw [hhi]; simp
  rw [← hhi] at hlen
  have HL := hid hlo
  rw [hR]
  clear hr hlo hhi hR
  have H1 : Hid (RdSl cCell w (col t.cells R c) (.slice (a.map fun x => x.add (lo * 3)) R (cap - lo))) := hid (by
    have h := HR.out.cut (lo := lo) (R := R) (by omega)
    rw [HL.out] at h ⊢
    exact h)
  have H2 : Hid (R = 0 → col t.cells R c = []) := hid (fun h => by subst h; simp [col])
  unfold maxLen at hcap
  go_enter Tryz.func146, Tryz.ntmps146
  by_cases hz : cap = lo
  · subst hz
    have h0 : R = 0 := by omega
    have H0 := hid h0
    clear h0
    go_wp2
    go_ret
    refine ⟨a, 0, by simp, ?_, below_new1 _ _⟩
    rw [H2.out H0.out, H0.out]
    exact RdSl.empty a
  · go_wp2
    all_goals first
      | (exfalso; omega)
      | (go_ret; exact ⟨a.map fun x => x.add (lo * 3), cap - lo, by simp, H1.out, below_new1 _ _⟩)
end Go.Proofs.YtfaehioeepolhaaGreat
namespace Go.Proofs.YtfaehioeepolhaaGreat
open Go.RowKit
set_option maxHeartbeats 400000 in
theorem l1width_any (n : Int) (w : World) :
    Calls Tryz.prog 145 #[.int .i64 n] w fun e w' => e = .returned (.bool (decide (n = 1 ∨ n = 2 ∨ n = 4 ∨ n = 8))) ∧ w' = w := by
  by_cases h1 : n = 1
  · subst h1
    go_enter Tryz.func145, Tryz.ntmps145
    go_wp2
    go_ret
    exact ⟨rfl, rfl⟩
  by_cases h2 : n = 2
  · subst h2
    go_enter Tryz.func145, Tryz.ntmps145
    go_wp2
    go_ret
    exact ⟨rfl, rfl⟩
  by_cases h4 : n = 4
  · subst h4
    go_enter Tryz.func145, Tryz.ntmps145
    go_wp2
    go_ret
    exact ⟨rfl, rfl⟩
  by_cases h8 : n = 8
  · subst h8
    go_enter Tryz.func145, Tryz.ntmps145
    go_wp2
    go_ret
    exact ⟨rfl, rfl⟩
  have e1 : (n == 1) = false := by simpa using h1
  have e2 : (n == 2) = false := by simpa using h2
  have e4 : (n == 4) = false := by simpa using h4
  have e8 : (n == 8) = false := by simpa using h8
  have HF : Hid (decide (n = 1 ∨ n = 2 ∨ n = 4 ∨ n = 8) = false) := hid (by simp [h1, h2, h4, h8])
  rw [HF.out]
  clear h1 h2 h4 h8 HF
  go_enter Tryz.func145, Tryz.ntmps145
  go_wp2
  go_ret
  exact ⟨rfl, rfl⟩
end Go.Proofs.YtfaehioeepolhaaGreat
namespace Go.Proofs.YtfaehioeepolhaaGreat
open Go.RowKit
set_option maxHeartbeats 400000 in
theorem l1same_any (a1 a2 : Option Addr) (c1 c2 : Nat) (xs ys : List Nat) (w : World) (h1 : Rd w a1 (byt xs)) (h2 : Rd w a2 (byt ys)) (hx : ∀ x ∈ xs, x < 256) (hy : ∀ x ∈ ys, x < 256) :
    Calls Tryz.prog 101 #[.slice a1 xs.length c1, .slice a2 ys.length c2] w fun e w' => e = .returned (.bool (decide (xs = ys))) ∧ w' = w := by
  have e1 := run_bstr (P := Tryz.prog) (c := c1) Tryz.underlying23 Tryz.underlying5 Tryz.underlying9 h1
  have e2 := run_bstr (P := Tryz.prog) (c := c2) Tryz.underlying23 Tryz.underlying5 Tryz.underlying9 h2
  have HD : Hid (decide (xs = ys) = ((bstr xs).toList == (bstr ys).toList)) := hid (bstr_beq hx hy)
  rw [HD.out]
  clear h1 h2
  generalize bstr xs = s at *
  generalize bstr ys = t at *
  go_enter Tryz.func101, Tryz.ntmps101
  go_wp2
  go_ret
  exact ⟨rfl, rfl⟩
end Go.Proofs.YtfaehioeepolhaaGreat
namespace Go.Proofs.YtfaehioeepolhaaGreat
open Go.RowKit
set_option maxHeartbeats 2000000 in
theorem l2nameOK_any (a : Option Addr) (cap : Nat) (xs : List Nat) (w : World) (hr : Rd w a (byt xs)) (hb : ∀ x ∈ xs, x < 256) :
    Calls Tryz.prog 144 #[.slice a xs.length cap] w fun e w' => e = .returned (.bool (nameOK xs)) ∧ w' = w := by
  by_cases h1 : xs.length < 1
  · have HD : Hid (nameOK xs = false) := hid (by simp [nameOK]; omega)
    rw [HD.out]
    go_enter Tryz.func144, Tryz.ntmps144
    go_wp2
    go_ret
    exact ⟨rfl, rfl⟩
  by_cases h2 : 20 < xs.length
  · have HD : Hid (nameOK xs = false) := hid (by simp [nameOK]; omega)
    rw [HD.out]
    go_enter Tryz.func144, Tryz.ntmps144
    go_wp2
    go_ret
    exact ⟨rfl, rfl⟩
  have HD : Hid (nameOK xs = xs.all nameB) := hid (by
    have e1 : decide (1 ≤ xs.length) = true := decide_eq_true (by omega)
    have e2 : decide (xs.length ≤ 20) = true := decide_eq_true (by omega)
    unfold nameOK; rw [e1, e2]; rfl)
  rw [HD.out]
  have HC : Hid (∀ i, (h : i < xs.length) → ∃ b off, a = some ⟨b, off, none⟩ ∧ w.cell? ⟨b, off + i, none⟩ = some (.int .u8 ((xs[i] : Nat) : Int))) := hid (by
    rcases hr with h | ⟨b, off, rfl, hc⟩
    · have : xs = [] := by simpa [byt] using h
      subst this; simp at h1
    · exact fun i h => ⟨b, off, rfl, rdByte hc i h⟩)
  clear hr
  go_enter Tryz.func144, Tryz.ntmps144
  go_wp2
  go_loop [3, 4] (fun i c => ∃ k : Nat, k ≤ xs.length ∧ i = .int .i64 k ∧ ∀ j, (h : j < xs.length) → j < k → nameB xs[j] = true) (fun i _ => xs.length - (intOf i).toNat)
  case atStart => exact ⟨0, Nat.zero_le _, rfl, fun j _ h => by omega⟩
  case round =>
    obtain ⟨k, hk, rfl, hall⟩ := hrel
    have HA := hid hall
    clear hall
    by_cases hlt : k < xs.length
    · obtain ⟨b, off, rfl, hcell⟩ := HC.out k hlt
      have hx := hb _ (List.getElem_mem hlt)
      have hki : (k : Int) < (xs.length : Int) := by omega
      have HBAD : Hid (nameB xs[k] = false → xs.all nameB = false) := hid (fun h => all_bad hlt h)
      have HGOOD : Hid (nameB xs[k] = true → ∀ j, (h : j < xs.length) → j < k + 1 → nameB xs[j] = true) := hid (fun h j hj hjk => by
        by_cases e : j = k
        · subst e; exact h
        · exact HA.out j hj (by omega))
      generalize hc : xs[k] = c at *
      rcases nameB_split c with ⟨hs, hn⟩ | ⟨hs, hn⟩
      · have HX := hid (HBAD.out hn)
        clear hn
        rcases hs with h | h | h | h | h <;> (go_wp2 <;> first | (go_ret; exact ⟨by rw [HX.out]; rfl, rfl⟩) | (exfalso; omega) | (exfalso; simp_all; omega))
      · have HX := hid (HGOOD.out hn)
        clear hn
        rcases hs with h | h | h | h <;> (go_wp2 <;> first | (exfalso; omega) | (go_round <;> first | exact ⟨k + 1, by omega, by go_num, HX.out⟩ | (simp [intOf]; omega)) | (exfalso; simp_all; omega))
    · obtain rfl : k = xs.length := by omega
      have HF := hid (all_ok (fun j hj => HA.out j hj hj))
      go_wp2
      go_ret
      exact ⟨by rw [HF.out]; rfl, rfl⟩
set_option maxHeartbeats 1000000 in
theorem l2fieldOK_any (f : PF) (cs : List Value) (w : World) (hr : cField.rd w f cs) :
    Calls Tryz.prog 100 #[val cs] w fun e w' => e = .returned (.bool (fieldOK f)) ∧ Below w.heap.size w w' := by
  obtain ⟨v, rfl, hv, _⟩ := cField_rd hr
  obtain ⟨a, cap, rfl, _, _, _, hrd, hby⟩ := hv.bytes
  simp only [val]
  have HK : Hid (Calls Tryz.prog 144 #[.slice a f.name.length cap] (w.alloc (.cells #[.slice a f.name.length cap, .int .i64 f.kind, .int .i64 f.width] 98)) fun e w' => e = .returned (.bool (nameOK f.name)) ∧ w' = w.alloc (.cells #[.slice a f.name.length cap, .int .i64 f.kind, .int .i64 f.width] 98)) := hid (l2nameOK_any a cap f.name _ (hrd.later (below_new1 _ _)) hby)
  have HF : Hid (fieldOK f = (nameOK f.name && kindOK f)) := hid rfl
  have HKK : Hid (kindOK f = if f.kind = 1 then widthOK f.width else decide (0 ≤ f.kind) && decide (f.kind ≤ 3) && decide (f.width = 0)) := hid rfl
  clear hr hrd hv
  cases hn : nameOK f.name
  · have HX : Hid (fieldOK f = false) := hid (by rw [HF.out, hn]; rfl)
    go_enter Tryz.func100, Tryz.ntmps100
    go_wp2_with fail
    refine HK.out.mono ?_
    rintro e w2 ⟨rfl, rfl⟩
    rw [hn]
    go_wp2
    go_ret
    exact ⟨by rw [HX.out]; rfl, below_new1 _ _⟩
  · by_cases h1 : f.kind = 1
    · have HX : Hid (fieldOK f = widthOK f.width) := hid (by rw [HF.out, hn, HKK.out, if_pos h1]; rfl)
      have H1 := hid h1
      clear h1
      go_enter Tryz.func100, Tryz.ntmps100
      go_wp2_with fail
      refine HK.out.mono ?_
      rintro e w2 ⟨rfl, rfl⟩
      rw [hn]
      have h1 := H1.out
      go_wp2_with fail
      refine (l1width_any f.width _).mono ?_
      rintro e w2 ⟨rfl, rfl⟩
      generalize hwd : decide (f.width = 1 ∨ f.width = 2 ∨ f.width = 4 ∨ f.width = 8) = wd
      go_wp2
      go_ret
      exact ⟨by rw [HX.out, show widthOK f.width = wd from hwd]; rfl, below_new1 _ _⟩
    · by_cases h2 : f.kind < 0
      · have HX : Hid (fieldOK f = false) := hid (by rw [HF.out, hn, HKK.out, if_neg h1, decide_eq_false (show ¬ 0 ≤ f.kind by omega)]; rfl)
        go_enter Tryz.func100, Tryz.ntmps100
        go_wp2_with fail
        refine HK.out.mono ?_
        rintro e w2 ⟨rfl, rfl⟩
        rw [hn]
        go_wp2
        go_ret
        exact ⟨by rw [HX.out]; rfl, below_new1 _ _⟩
      · by_cases h3 : 3 < f.kind
        · have HX : Hid (fieldOK f = false) := hid (by rw [HF.out, hn, HKK.out, if_neg h1, decide_eq_false (show ¬ f.kind ≤ 3 by omega)]; simp)
          go_enter Tryz.func100, Tryz.ntmps100
          go_wp2_with fail
          refine HK.out.mono ?_
          rintro e w2 ⟨rfl, rfl⟩
          rw [hn]
          go_wp2
          go_ret
          exact ⟨by rw [HX.out]; rfl, below_new1 _ _⟩
        · have HX : Hid (fieldOK f = decide (f.width = 0)) := hid (by rw [HF.out, hn, HKK.out, if_neg h1, decide_eq_true (show 0 ≤ f.kind by omega), decide_eq_true (show f.kind ≤ 3 by omega)]; rfl)
          go_enter Tryz.func100, Tryz.ntmps100
          go_wp2_with fail
          refine HK.out.mono ?_
          rintro e w2 ⟨rfl, rfl⟩
          rw [hn]
          go_wp2
          go_ret
          exact ⟨by rw [HX.out]; rfl, below_new1 _ _⟩
end Go.Proofs.YtfaehioeepolhaaGreat
