import Derived.Test.YtfaehioeepolhaaGreatJValidReceiver27
import Derived.Test.YtfaehioeepolhaaGreatJValidReceiver38
import Derived.Test.YtfaehioeepolhaaGreatJValidReceiver6
import Derived.Test.YtfaehioeepolhaaGreatJValidReceiver26
namespace Go.Proofs.YtfaehioeepolhaaGreat
open Go.RowKit
set_option maxHeartbeats 2000000 in
theorem validCell_any (f : PF) (c : PC) (cs cs' : List Value) (w : World) (h1 : cField.rd w f cs) (h2 : cCell.rd w c cs') :
    Calls Tryz.prog 184 #[val cs, val cs'] w fun e w' => e = .returned (.bool (cellOK f c)) ∧ Below w.heap.size w w' := by
  obtain ⟨a1, c1, rfl⟩ := cField_shape h1
  obtain ⟨a2, c2, rfl⟩ := cCell_shape h2
  have hin : IntIn c.num ∧ IntIn f.width := by
    obtain ⟨v, e, _, h⟩ := cCell_rd h2
    obtain ⟨v, e, _, _, h'⟩ := cField_rd h1
    exact ⟨h, h'⟩
  have HIN := hid hin
  simp only [val]
  clear h1 h2 hin
  cases hn : c.null
  · by_cases k0 : f.kind = 0
    · have HX := hid (cellOK_bool hn k0)
      by_cases e0 : c.num = 0
      · rw [show (c.num == 0) = true from by simpa using e0] at HX
        go_enter Tryz.func184, Tryz.ntmps184
        go_wp2
        go_ret
        exact ⟨by rw [HX.out]; first | rfl | simp, below_new2 _ _ _⟩
      · by_cases e1 : c.num = 1
        · rw [show (c.num == 0) = false from by simpa using e0, show (c.num == 1) = true from by simpa using e1] at HX
          go_enter Tryz.func184, Tryz.ntmps184
          go_wp2
          go_ret
          exact ⟨by rw [HX.out]; first | rfl | simp, below_new2 _ _ _⟩
        · rw [show (c.num == 0) = false from by simpa using e0, show (c.num == 1) = false from by simpa using e1] at HX
          have b0 : (c.num == 0) = false := by simpa using e0
          have b1 : (c.num == 1) = false := by simpa using e1
          clear e0 e1
          go_enter Tryz.func184, Tryz.ntmps184
          go_wp2
          go_ret
          exact ⟨by rw [HX.out]; first | rfl | simp, below_new2 _ _ _⟩
    · have b0 : (f.kind == 0) = false := by simpa using k0
      by_cases k1 : f.kind = 1
      · have HX := hid (cellOK_int hn k1)
        have K1 := hid k1
        clear k1 k0
        have b1 : (f.kind == 1) = true := by simpa using K1.out
        have HQ : Hid (∀ w', Calls Tryz.prog 183 #[.int .i64 c.num, .int .i64 f.width] w' fun e w2 => e = .returned (.bool (fitsW c.num f.width)) ∧ Below w'.heap.size w' w2) := hid (fun w' => fitsWidth_any _ _ w' HIN.out.1 HIN.out.2)
        go_enter Tryz.func184, Tryz.ntmps184
        go_wp2_with fail
        refine (HQ.out _).mono ?_
        rintro e w2 ⟨rfl, b2⟩
        rw [size2] at b2
        obtain ⟨q0, q1⟩ := heap2 _ _ b2
        have p2 := cell_of_row w2 _ 2 _ _ _ q1
        simp at p2
        have HB : Hid (Below w.heap.size w w2) := hid ((below_new2 w _ _).trans (b2.mono (by omega)))
        clear b2 q0 q1
        cases hf : fitsW c.num f.width
        · rw [hf] at HX
          go_wp2
          go_ret
          exact ⟨by rw [HX.out]; first | rfl | simp, HB.out⟩
        · rw [hf] at HX
          go_wp2
          go_ret
          exact ⟨by rw [HX.out]; first | rfl | simp, HB.out⟩
      · have HX := hid (cellOK_text hn k0 k1)
        have b1 : (f.kind == 1) = false := by simpa using k1
        clear k0 k1
        go_enter Tryz.func184, Tryz.ntmps184
        go_wp2
        go_ret
        exact ⟨by rw [HX.out]; first | rfl | simp, below_new2 _ _ _⟩
  · have HX := hid (cellOK_null (f := f) hn)
    by_cases e0 : c.num = 0
    · rw [show (c.num == 0) = true from by simpa using e0] at HX
      go_enter Tryz.func184, Tryz.ntmps184
      go_wp2
      go_ret
      exact ⟨by rw [HX.out]; first | rfl | simp, below_new2 _ _ _⟩
    · rw [show (c.num == 0) = false from by simpa using e0] at HX
      have b0 : (c.num == 0) = false := by simpa using e0
      clear e0
      go_enter Tryz.func184, Tryz.ntmps184
      go_wp2
      go_ret
      exact ⟨by rw [HX.out]; first | rfl | simp, below_new2 _ _ _⟩
theorem cells_bad {f : PF} {cs : List PC} {k : Nat} (hk : k < cs.length) (h : cellOK f cs[k] = false) : cs.all (cellOK f) = false := by
  simp only [List.all_eq_false]
  exact ⟨cs[k], List.getElem_mem hk, by simp [h]⟩
theorem cells_ok {f : PF} {cs : List PC} (h : ∀ k, (hk : k < cs.length) → cellOK f cs[k] = true) : cs.all (cellOK f) = true := by
  simp only [List.all_eq_true]
  intro x hx
  obtain ⟨k, hk, rfl⟩ := List.getElem_of_mem hx
  exact h k hk
set_option maxHeartbeats 2000000 in
theorem validCells_any (f : PF) (fcs : List Value) (a : Option Addr) (cap : Nat) (xs : List PC) (w : World) (h1 : cField.rd w f fcs) (hr : RdSl cCell w xs (.slice a xs.length cap)) (hl : xs.length ≤ 1048576) :
    Calls Tryz.prog 157 #[val fcs, .slice a xs.length cap] w fun e w' => e = .returned (.bool (xs.all (cellOK f))) ∧ Below w.heap.size w w' := by
  have HF := hid h1
  obtain ⟨a1, c1, rfl⟩ := cField_shape h1
  have HR := hid hr
  simp only [val]
  clear h1 hr
  go_enter Tryz.func157, Tryz.ntmps157
  go_wp2
  go_loopw [6, 9] (fun _ i wr => ∃ k : Nat, k ≤ xs.length ∧ i = .int .i64 k ∧ (∀ j, (h : j < xs.length) → j < k → cellOK f xs[j] = true) ∧ wr.heap[w.heap.size]? = some (.cells #[.slice a1 f.name.length c1, .int .i64 f.kind, .int .i64 f.width] 98 (0, 0)) ∧ Below w.heap.size w wr) (fun _ i _ => xs.length - (intOf i).toNat)
  case atStart => exact ⟨0, Nat.zero_le _, rfl, fun j _ h => by omega, heap_alloc_new w _, below_new1 _ _⟩
  case round =>
    obtain ⟨k, hk, rfl, hall, hblk, hbe⟩ := hrel
    have HA := hid hall
    have HK := hid hblk
    have HB := hid hbe
    clear hall hblk hbe
    have p0 := cell_of_row wr _ 0 _ _ _ HK.out
    have p1 := cell_of_row wr _ 1 _ _ _ HK.out
    have p2 := cell_of_row wr _ 2 _ _ _ HK.out
    simp at p0 p1 p2
    have hB : w.heap.size < wr.heap.size := (Array.getElem?_eq_some_iff.1 HK.out).1
    by_cases hlt : k < xs.length
    · obtain ⟨b, off, v0, v1, v2, rfl, hes, d0, d1, d2⟩ := (HR.out.later HB.out).at3 rfl hlt
      obtain ⟨ax, cx, e⟩ := cCell_shape hes
      simp only [List.cons.injEq, and_true] at e
      obtain ⟨rfl, rfl, rfl⟩ := e
      have HE := hid hes
      have hki : (k : Int) < (xs.length : Int) := by omega
      have HQ : Hid (Calls Tryz.prog 184 #[.agg #[.slice a1 f.name.length c1, .int .i64 f.kind, .int .i64 f.width], .agg #[.bool xs[k].null, .int .i64 xs[k].num, .slice ax xs[k].text.length cx]] (wr.alloc (.cells #[.bool xs[k].null, .int .i64 xs[k].num, .slice ax xs[k].text.length cx] 157)) fun e w' => e = .returned (.bool (cellOK f xs[k])) ∧ Below wr.heap.size wr w') := hid (by
        have hb1 := below_new1 wr (.cells #[.bool xs[k].null, .int .i64 xs[k].num, .slice ax xs[k].text.length cx] 157)
        refine (validCell_any f xs[k] _ _ _ (cField.later (cField.later HF.out HB.out) hb1) (cCell.later HE.out hb1)).mono ?_
        rintro e w' ⟨rfl, b⟩
        exact ⟨rfl, hb1.trans (b.mono hb1.size)⟩)
      clear hes
      go_wp2_with fail
      refine HQ.out.mono ?_
      rintro e w2 ⟨rfl, b2⟩
      have HB2 := hid (HB.out.trans (b2.mono HB.out.size))
      have HK2 := hid ((b2.block _ hB).trans HK.out)
      clear b2
      cases hc : cellOK f xs[k]
      · have HX := hid (cells_bad hlt hc)
        go_wp2
        go_ret
        exact ⟨by rw [HX.out]; rfl, HB2.out⟩
      · have HX : Hid (∀ j, (h : j < xs.length) → j < k + 1 → cellOK f xs[j] = true) := hid (fun j hj hjk => by
          by_cases e : j = k
          · subst e; exact hc
          · exact HA.out j hj (by omega))
        go_wp2
        go_roundw
        case rel => exact ⟨k + 1, by omega, by go_num, HX.out, HK2.out, HB2.out⟩
        case measure => simp [intOf]; omega
    · obtain rfl : k = xs.length := by omega
      have HX := hid (cells_ok (fun j hj => HA.out j hj hj))
      go_wp2
      go_ret
      exact ⟨by rw [HX.out]; rfl, HB.out⟩
end Go.Proofs.YtfaehioeepolhaaGreat
namespace Go.Proofs.YtfaehioeepolhaaGreat
open Go.RowKit
set_option maxHeartbeats 2000000 in
theorem cellsOfField_any (t : PT) (R c : Nat) (a : Option Addr) (cap : Nat) (w : World) (hR : t.rows = (R : Int)) (hr : RdSl cCell w t.cells (.slice a t.cells.length cap)) (hRl : R ≤ 100) (hc : c < 12) (hlen : (c + 1) * R ≤ t.cells.length) :
    Calls Tryz.prog 156 #[.agg #[.int .i64 t.rows, .slice a t.cells.length cap], .int .i64 (c : Int)] w fun e w' => ∃ a' cap', e = .returned (.slice a' R cap') ∧ RdSl cCell w (col t.cells R c) (.slice a' R cap') ∧ Below w.heap.size w w' := by
  have hcap : t.cells.length ≤ cap ∧ cap ≤ maxLen := by
    obtain ⟨a', cap', e', g1, g2, _⟩ := hr
    simp at e'
    omega
  have HR := hid hr
  obtain ⟨lo, hlo⟩ : ∃ lo, lo = c * R := ⟨_, rfl⟩
  obtain ⟨hi, hhi⟩ : ∃ hi, hi = (c + 1) * R := ⟨_, rfl⟩
  have hsum : hi = lo + R := by rw [hlo, hhi, Nat.add_mul, Nat.one_mul]
  have hlo2 : lo ≤ 1200 := by rw [hlo]; exact Nat.le_trans (Nat.mul_le_mul (show c ≤ 12 by omega) hRl) (by omega)
  have m1 : (c : Int) * (R : Int) = (lo : Int) := by rw [hlo]; simp
  have m2 : ((c : Int) + 1) * (R : Int) = (hi : Int) := by rw [hhi]; simp
  rw [← hhi] at hlen
  have HL := hid hlo
  rw [hR]
  clear hr hlo hhi hR
  have H1 : Hid (RdSl cCell w (col t.cells R c) (.slice (a.map fun x => x.add (lo * 3)) R (cap - lo))) := hid (by
    have h := HR.out.cut (lo := lo) (R := R) (by omega)
    rw [HL.out] at h ⊢
    exact h)
  have H2 : Hid (R = 0 → col t.cells R c = []) := hid (fun h => by subst h; simp [col])
  unfold maxLen at hcap
  go_enter Tryz.func156, Tryz.ntmps156
  by_cases hz : cap = lo
  · subst hz
    have h0 : R = 0 := by omega
    have H0 := hid h0
    clear h0
    go_wp2
    go_ret
    refine ⟨a, 0, by simp, ?_, below_new1 _ _⟩
    rw [H2.out H0.out, H0.out]
    exact RdSl.empty a
  · go_wp2
    all_goals first
      | (exfalso; omega)
      | (go_ret; exact ⟨a.map fun x => x.add (lo * 3), cap - lo, by simp, H1.out, below_new1 _ _⟩)
end Go.Proofs.YtfaehioeepolhaaGreat
namespace Go.Proofs.YtfaehioeepolhaaGreat
open Go.RowKit
set_option maxHeartbeats 400000 in
theorem bytesEqual_any (a1 a2 : Option Addr) (c1 c2 : Nat) (xs ys : List Nat) (w : World) (h1 : Rd w a1 (byt xs)) (h2 : Rd w a2 (byt ys)) (hx : ∀ x ∈ xs, x < 256) (hy : ∀ x ∈ ys, x < 256) :
    Calls Tryz.prog 152 #[.slice a1 xs.length c1, .slice a2 ys.length c2] w fun e w' => e = .returned (.bool (decide (xs = ys))) ∧ w' = w := by
  have e1 := run_bstr (P := Tryz.prog) (c := c1) Tryz.underlying23 Tryz.underlying5 Tryz.underlying9 h1
  have e2 := run_bstr (P := Tryz.prog) (c := c2) Tryz.underlying23 Tryz.underlying5 Tryz.underlying9 h2
  have HD : Hid (decide (xs = ys) = ((bstr xs).toList == (bstr ys).toList)) := hid (bstr_beq hx hy)
  rw [HD.out]
  clear h1 h2
  generalize bstr xs = s at *
  generalize bstr ys = t at *
  go_enter Tryz.func152, Tryz.ntmps152
  go_wp2
  go_ret
  exact ⟨rfl, rfl⟩
end Go.Proofs.YtfaehioeepolhaaGreat
