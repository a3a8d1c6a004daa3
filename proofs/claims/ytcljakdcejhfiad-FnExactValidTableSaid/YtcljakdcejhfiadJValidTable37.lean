import Derived.Test.YtcljakdcejhfiadJValidTable36
namespace Go.Proofs.Ytcljakdcejhfiad
open Go.RowKit Go.Maps
set_option maxHeartbeats 8000000 in
theorem specTable_any (a a2 : Option Addr) (cap c2 : Nat) (fs : List PF) (t : PT) (w : World) (hr : RdSl cField w fs (.slice a fs.length cap)) (hr2 : RdSl cCell w t.cells (.slice a2 t.cells.length c2)) (ht : totT t ≤ 1048576) :
    Calls Try.prog 9 #[.slice a fs.length cap, .agg #[.int .i64 t.rows, .slice a2 t.cells.length c2]] w fun e w' => e = .returned (.bool (tableOK fs t)) ∧ Below w.heap.size w w' := by
  have HR := hid hr
  have HR2 := hid hr2
  have hcl : t.cells.length ≤ 1048576 := by unfold totT totL at ht; omega
  have HQ : Hid (Calls Try.prog 46 #[.slice a fs.length cap] (w.alloc (.cells #[.int .i64 t.rows, .slice a2 t.cells.length c2] 33)) fun e w' => e = .returned (.bool (fieldsOK fs)) ∧ w'.heap[w.heap.size]? = some (.cells #[.int .i64 t.rows, .slice a2 t.cells.length c2] 33 (0, 0)) ∧ Below w.heap.size w w') := hid (by
    have hb1 := below_new1 w (.cells #[.int .i64 t.rows, .slice a2 t.cells.length c2] 33)
    refine (specFields_any a cap fs _ (hr.later hb1)).mono ?_
    rintro e w' ⟨rfl, b⟩
    exact ⟨rfl, heap1 _ (b.mono (by simp)), hb1.trans (b.mono hb1.size)⟩)
  clear hr hr2
  cases hf : fieldsOK fs
  · have HX := hid (tableOK_fields (t := t) hf)
    rw [hf] at HQ
    go_enter Try.func9, Try.ntmps9
    go_wp2_with fail
    refine HQ.out.mono ?_
    rintro e w2 ⟨rfl, -, b2⟩
    have HB := hid b2
    clear b2
    go_wp2
    go_ret
    exact ⟨by rw [HX.out]; rfl, HB.out⟩
  rw [hf] at HQ
  have HF := hid hf
  have hfl := fields_len hf
  clear hf
  by_cases hrows : 0 ≤ t.rows ∧ t.rows ≤ 100
  · obtain ⟨R, hR⟩ : ∃ R : Nat, t.rows = (R : Int) := ⟨t.rows.toNat, by omega⟩
    have hR2 : R ≤ 100 := by omega
    obtain ⟨pr, hpr⟩ : ∃ pr : Nat, pr = fs.length * R := ⟨_, rfl⟩
    have hm : (fs.length : Int) * (R : Int) = (pr : Int) := by rw [hpr]; simp
    have hprl : pr ≤ 1200 := by rw [hpr]; exact Nat.le_trans (Nat.mul_le_mul hfl hR2) (by omega)
    have HPR := hid hpr
    have HRR := hid hR
    by_cases hlen : t.cells.length = pr
    · have HLEN : Hid (t.cells.length = fs.length * R) := hid (by rw [hlen, hpr])
      have htot : txt t.cells + t.cells.length ≤ 1048576 := by unfold totT totL at ht; unfold txt; omega
      rw [hR] at HQ ⊢
      exact specTable_main a a2 cap c2 fs t R pr w HR HR2 hcl HQ HF hfl hR2 hm hprl HRR hlen HLEN htot
    · have HX : Hid (tableOK fs t = false) := hid (tableOK_len (by rw [hR]; intro h; apply hlen; omega))
      have hne : ((t.cells.length : Int) != (pr : Int)) = true := by simp; omega
      rw [hR] at HQ ⊢
      clear hrows hR hpr
      go_enter Try.func9, Try.ntmps9
      go_wp2_with fail
      refine HQ.out.mono ?_
      rintro e w2 ⟨rfl, k2, b2⟩
      have HB := hid b2
      have p0 := cell_of_row w2 _ 0 _ _ _ k2
      have p1 := cell_of_row w2 _ 1 _ _ _ k2
      simp at p0 p1
      clear b2 k2
      have hRd : decide ((R : Int) < 0) = false := decide_eq_false (by omega)
      have hRd2 : decide ((100 : Int) < (R : Int)) = false := decide_eq_false (by omega)
      go_wp2
      go_ret
      exact ⟨by rw [HX.out]; rfl, HB.out⟩
  · by_cases h0 : t.rows < 0
    · have HX := hid (tableOK_low (fs := fs) h0)
      have hd : decide (t.rows < 0) = true := decide_eq_true h0
      clear hrows
      go_enter Try.func9, Try.ntmps9
      go_wp2_with fail
      refine HQ.out.mono ?_
      rintro e w2 ⟨rfl, k2, b2⟩
      have HB := hid b2
      have p0 := cell_of_row w2 _ 0 _ _ _ k2
      have p1 := cell_of_row w2 _ 1 _ _ _ k2
      simp at p0 p1
      clear b2 k2
      go_wp2
      go_ret
      exact ⟨by rw [HX.out]; rfl, HB.out⟩
    · have HX := hid (tableOK_high (fs := fs) (t := t) (by omega))
      have hd : decide (t.rows < 0) = false := decide_eq_false h0
      have hd2 : decide (100 < t.rows) = true := decide_eq_true (by omega)
      clear hrows
      go_enter Try.func9, Try.ntmps9
      go_wp2_with fail
      refine HQ.out.mono ?_
      rintro e w2 ⟨rfl, k2, b2⟩
      have HB := hid b2
      have p0 := cell_of_row w2 _ 0 _ _ _ k2
      have p1 := cell_of_row w2 _ 1 _ _ _ k2
      simp at p0 p1
      clear b2 k2
      go_wp2
      go_ret
      exact ⟨by rw [HX.out]; rfl, HB.out⟩
end Go.Proofs.Ytcljakdcejhfiad
