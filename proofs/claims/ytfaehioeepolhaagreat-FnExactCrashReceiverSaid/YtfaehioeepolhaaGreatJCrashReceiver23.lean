import Derived.Test.YtfaehioeepolhaaGreatJCrashReceiver8
import Derived.Test.YtfaehioeepolhaaGreatJCrashReceiver0
import Derived.Test.YtfaehioeepolhaaGreatJCrashReceiver22
import Derived.Handy
namespace Go.Proofs.YtfaehioeepolhaaGreat
open Go.RowKit
set_option maxHeartbeats 400000 in
theorem l1fits_i8 (v : Int) (w : World) (hv : IntIn v) :
    Calls Tryz.prog 181 #[.int .i64 v, .int .i64 1] w fun e w' => e = .returned (.bool (decide (IntKind.i8.wrap v = v))) ∧ w' = w := by
  obtain ⟨h1, h2⟩ := hv
  have HI := hid (fit_i8 v)
  by_cases hlo : -128 ≤ v
  · by_cases hhi : v < 128
    · have HD : Hid (decide (IntKind.i8.wrap v = v) = true) := hid (decide_eq_true (HI.out.2 ⟨hlo, hhi⟩))
      rw [HD.out]
      go_enter Tryz.func181, Tryz.ntmps181
      go_wp2
      go_ret
      exact ⟨rfl, rfl⟩
    · have HD : Hid (decide (IntKind.i8.wrap v = v) = false) := hid (decide_eq_false (fun h => hhi (HI.out.1 h).2))
      rw [HD.out]
      go_enter Tryz.func181, Tryz.ntmps181
      go_wp2
      go_ret
      exact ⟨rfl, rfl⟩
  · have HD : Hid (decide (IntKind.i8.wrap v = v) = false) := hid (decide_eq_false (fun h => hlo (HI.out.1 h).1))
    rw [HD.out]
    go_enter Tryz.func181, Tryz.ntmps181
    go_wp2
    go_ret
    exact ⟨rfl, rfl⟩
end Go.Proofs.YtfaehioeepolhaaGreat
namespace Go.Proofs.YtfaehioeepolhaaGreat
open Go.RowKit
set_option maxHeartbeats 400000 in
theorem l1fits_i16 (v : Int) (w : World) (hv : IntIn v) :
    Calls Tryz.prog 181 #[.int .i64 v, .int .i64 2] w fun e w' => e = .returned (.bool (decide (IntKind.i16.wrap v = v))) ∧ w' = w := by
  obtain ⟨h1, h2⟩ := hv
  have HI := hid (fit_i16 v)
  by_cases hlo : -32768 ≤ v
  · by_cases hhi : v < 32768
    · have HD : Hid (decide (IntKind.i16.wrap v = v) = true) := hid (decide_eq_true (HI.out.2 ⟨hlo, hhi⟩))
      rw [HD.out]
      go_enter Tryz.func181, Tryz.ntmps181
      go_wp2
      go_ret
      exact ⟨rfl, rfl⟩
    · have HD : Hid (decide (IntKind.i16.wrap v = v) = false) := hid (decide_eq_false (fun h => hhi (HI.out.1 h).2))
      rw [HD.out]
      go_enter Tryz.func181, Tryz.ntmps181
      go_wp2
      go_ret
      exact ⟨rfl, rfl⟩
  · have HD : Hid (decide (IntKind.i16.wrap v = v) = false) := hid (decide_eq_false (fun h => hlo (HI.out.1 h).1))
    rw [HD.out]
    go_enter Tryz.func181, Tryz.ntmps181
    go_wp2
    go_ret
    exact ⟨rfl, rfl⟩
end Go.Proofs.YtfaehioeepolhaaGreat
namespace Go.Proofs.YtfaehioeepolhaaGreat
open Go.RowKit
set_option maxHeartbeats 400000 in
theorem l1fits_i32 (v : Int) (w : World) (hv : IntIn v) :
    Calls Tryz.prog 181 #[.int .i64 v, .int .i64 4] w fun e w' => e = .returned (.bool (decide (IntKind.i32.wrap v = v))) ∧ w' = w := by
  obtain ⟨h1, h2⟩ := hv
  have HI := hid (fit_i32 v)
  by_cases hlo : -2147483648 ≤ v
  · by_cases hhi : v < 2147483648
    · have HD : Hid (decide (IntKind.i32.wrap v = v) = true) := hid (decide_eq_true (HI.out.2 ⟨hlo, hhi⟩))
      rw [HD.out]
      go_enter Tryz.func181, Tryz.ntmps181
      go_wp2
      go_ret
      exact ⟨rfl, rfl⟩
    · have HD : Hid (decide (IntKind.i32.wrap v = v) = false) := hid (decide_eq_false (fun h => hhi (HI.out.1 h).2))
      rw [HD.out]
      go_enter Tryz.func181, Tryz.ntmps181
      go_wp2
      go_ret
      exact ⟨rfl, rfl⟩
  · have HD : Hid (decide (IntKind.i32.wrap v = v) = false) := hid (decide_eq_false (fun h => hlo (HI.out.1 h).1))
    rw [HD.out]
    go_enter Tryz.func181, Tryz.ntmps181
    go_wp2
    go_ret
    exact ⟨rfl, rfl⟩
end Go.Proofs.YtfaehioeepolhaaGreat
namespace Go.Proofs.YtfaehioeepolhaaGreat
open Go.RowKit
set_option maxHeartbeats 400000 in
theorem l1fits_i64 (v : Int) (w : World) (hv : IntIn v) :
    Calls Tryz.prog 181 #[.int .i64 v, .int .i64 8] w fun e w' => e = .returned (.bool (decide (IntKind.i64.wrap v = v))) ∧ w' = w := by
  obtain ⟨h1, h2⟩ := hv
  have HD : Hid (decide (IntKind.i64.wrap v = v) = true) := hid (decide_eq_true ((fit_i64 v).2 ⟨h1, by omega⟩))
  rw [HD.out]
  go_enter Tryz.func181, Tryz.ntmps181
  go_wp2
  go_ret
  exact ⟨rfl, rfl⟩
end Go.Proofs.YtfaehioeepolhaaGreat
namespace Go.Proofs.YtfaehioeepolhaaGreat
open Go.RowKit
theorem l1fits_any (n width : Int) (w : World) (hn : IntIn n) (hw : widthOK width = true) :
    Calls Tryz.prog 181 #[.int .i64 n, .int .i64 width] w fun e w' => e = .returned (.bool (fitsW n width)) ∧ w' = w := by
  simp only [widthOK, decide_eq_true_eq] at hw
  rcases hw with rfl | rfl | rfl | rfl
  · have h := l1fits_i8 n w hn
    rw [← fitsR 1 .i8 n] at h; exact h
  · have h := l1fits_i16 n w hn
    rw [← fitsR 2 .i16 n] at h; exact h
  · have h := l1fits_i32 n w hn
    rw [← fitsR 4 .i32 n] at h; exact h
  · have h := l1fits_i64 n w hn
    rw [← fitsR 8 .i64 n] at h; exact h
set_option maxHeartbeats 2000000 in
theorem l2cellOK_any (f : PF) (c : PC) (cs cs' : List Value) (w : World) (h1 : cField.rd w f cs) (h2 : cCell.rd w c cs') (hk : f.kind = 1 → widthOK f.width = true) :
    Calls Tryz.prog 147 #[val cs, val cs'] w fun e w' => e = .returned (.bool (cellOK f c)) ∧ Below w.heap.size w w' := by
  obtain ⟨a1, c1, rfl⟩ := cField_shape h1
  obtain ⟨a2, c2, rfl⟩ := cCell_shape h2
  have hin : IntIn c.num := by
    obtain ⟨v, e, _, h⟩ := cCell_rd h2
    exact h
  have HIN := hid hin
  have HK := hid hk
  simp only [val]
  clear h1 h2 hin hk
  cases hn : c.null
  · by_cases k0 : f.kind = 0
    · have HX := hid (cellOK_bool hn k0)
      by_cases e0 : c.num = 0
      · rw [show (c.num == 0) = true from by simpa using e0] at HX
        go_enter Tryz.func147, Tryz.ntmps147
        go_wp2
        go_ret
        exact ⟨by rw [HX.out]; first | rfl | simp, below_new2 _ _ _⟩
      · by_cases e1 : c.num = 1
        · rw [show (c.num == 0) = false from by simpa using e0, show (c.num == 1) = true from by simpa using e1] at HX
          go_enter Tryz.func147, Tryz.ntmps147
          go_wp2
          go_ret
          exact ⟨by rw [HX.out]; first | rfl | simp, below_new2 _ _ _⟩
        · rw [show (c.num == 0) = false from by simpa using e0, show (c.num == 1) = false from by simpa using e1] at HX
          have b0 : (c.num == 0) = false := by simpa using e0
          have b1 : (c.num == 1) = false := by simpa using e1
          clear e0 e1
          go_enter Tryz.func147, Tryz.ntmps147
          go_wp2
          go_ret
          exact ⟨by rw [HX.out]; first | rfl | simp, below_new2 _ _ _⟩
    · have b0 : (f.kind == 0) = false := by simpa using k0
      by_cases k1 : f.kind = 1
      · have HX := hid (cellOK_int hn k1)
        have HW := hid (HK.out k1)
        have K1 := hid k1
        clear k1 k0
        have HQ : Hid (∀ w', Calls Tryz.prog 181 #[.int .i64 c.num, .int .i64 f.width] w' fun e w2 => e = .returned (.bool (fitsW c.num f.width)) ∧ w2 = w') := hid (fun w' => l1fits_any _ _ w' HIN.out HW.out)
        have k1 := K1.out
        go_enter Tryz.func147, Tryz.ntmps147
        go_wp2_with fail
        refine (HQ.out _).mono ?_
        rintro e w2 ⟨rfl, rfl⟩
        cases hf : fitsW c.num f.width
        · rw [hf] at HX
          go_wp2
          go_ret
          exact ⟨by rw [HX.out]; first | rfl | simp, below_new2 _ _ _⟩
        · rw [hf] at HX
          go_wp2
          go_ret
          exact ⟨by rw [HX.out]; first | rfl | simp, below_new2 _ _ _⟩
      · have HX := hid (cellOK_text hn k0 k1)
        have b1 : (f.kind == 1) = false := by simpa using k1
        clear k0 k1
        go_enter Tryz.func147, Tryz.ntmps147
        go_wp2
        go_ret
        exact ⟨by rw [HX.out]; first | rfl | simp, below_new2 _ _ _⟩
  · have HX := hid (cellOK_null (f := f) hn)
    by_cases e0 : c.num = 0
    · rw [show (c.num == 0) = true from by simpa using e0] at HX
      go_enter Tryz.func147, Tryz.ntmps147
      go_wp2
      go_ret
      exact ⟨by rw [HX.out]; first | rfl | simp, below_new2 _ _ _⟩
    · rw [show (c.num == 0) = false from by simpa using e0] at HX
      have b0 : (c.num == 0) = false := by simpa using e0
      clear e0
      go_enter Tryz.func147, Tryz.ntmps147
      go_wp2
      go_ret
      exact ⟨by rw [HX.out]; first | rfl | simp, below_new2 _ _ _⟩
end Go.Proofs.YtfaehioeepolhaaGreat
