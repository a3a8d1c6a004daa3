import Derived.Test.YtfaehioeepolhaaGreatJCrashReceiver0
import Derived.Test.YtfaehioeepolhaaGreatJCrashReceiver9
import Derived.Test.YtfaehioeepolhaaGreatJCrashReceiver6
import Derived.Test.YtfaehioeepolhaaGreatJCrashReceiver10
import Derived.Test.YtfaehioeepolhaaGreatJCrashReceiver2
import Derived.Test.YtfaehioeepolhaaGreatJCrashReceiver3
import Derived.Test.YtfaehioeepolhaaGreatJCrashReceiver4
import Derived.Handy
namespace Go.Proofs.YtfaehioeepolhaaGreat
open Go.RowKit
theorem set4 {w : World} {g : Nat} {e : TypeId} {a b c d x y z u : Value} (h : w.heap[g]? = some (.cells #[a, b, c, d] e (0, 0))) :
    ((((w.setCell ⟨g, 0, none⟩ x).setCell ⟨g, 1, none⟩ y).setCell ⟨g, 2, none⟩ z).setCell ⟨g, 3, none⟩ u).heap[g]? = some (.cells #[x, y, z, u] e (0, 0)) := by
  have h1 := heap_setCell_same w g 0 _ e x h
  have h2 := heap_setCell_same _ g 1 _ e y h1
  have h3 := heap_setCell_same _ g 2 _ e z h2
  have h4 := heap_setCell_same _ g 3 _ e u h3
  rw [h4]; rfl
theorem set4o {w : World} {g k : Nat} {x y z u : Value} (h : k ≠ g) : ((((w.setCell ⟨g, 0, none⟩ x).setCell ⟨g, 1, none⟩ y).setCell ⟨g, 2, none⟩ z).setCell ⟨g, 3, none⟩ u).heap[k]? = w.heap[k]? := by
  rw [Below.heap_setCell _ _ _ _ h, Below.heap_setCell _ _ _ _ h, Below.heap_setCell _ _ _ _ h, Below.heap_setCell _ _ _ _ h]
theorem set4b {B : Nat} {a w : World} {g : Nat} {x y z u : Value} (h : Below B a w) (hg : B ≤ g) : Below B a ((((w.setCell ⟨g, 0, none⟩ x).setCell ⟨g, 1, none⟩ y).setCell ⟨g, 2, none⟩ z).setCell ⟨g, 3, none⟩ u) :=
  (((h.setCell (p := ⟨g, 0, none⟩) hg _).setCell (p := ⟨g, 1, none⟩) hg _).setCell (p := ⟨g, 2, none⟩) hg _).setCell (p := ⟨g, 3, none⟩) hg _
end Go.Proofs.YtfaehioeepolhaaGreat
namespace Go.Proofs.YtfaehioeepolhaaGreat
open Go.RowKit
structure PMIn (m : PM) : Prop where
  kind : IntIn m.kind
  field : IntIn m.field
  count : IntIn m.count
end Go.Proofs.YtfaehioeepolhaaGreat
namespace Go.Proofs.YtfaehioeepolhaaGreat
open Go.RowKit
set_option maxHeartbeats 400000 in
theorem toField_any (f : PF) (v0 : Value) (w : World) (hv : RdSl cByte w f.name v0) (hn : f.name.length ≤ 1048576) :
    Calls Tryz.prog 64 #[.agg #[v0, .int .i64 f.kind, .int .i64 f.width]] w fun e w' => ∃ v bs, e = .returned (.agg #[v, .int .i64 f.kind, .int .i64 f.width]) ∧ OwnSl cByte 5 w' f.name v bs ∧ (∀ b ∈ bs, w.heap.size ≤ b) ∧ bs.Nodup ∧ Below w.heap.size w w' := by
  obtain ⟨a, cap, rfl, hcap, hml, hnone, hrd, hby⟩ := hv.bytes
  go_enter Tryz.func64, Tryz.ntmps64
  go_wp2_with fail
  refine (toByteS_any a cap f.name _ (hrd.later (below_new3 _ _ _ _)) (by omega)).mono ?_
  rintro e w2 ⟨g2, rfl, o2, b2⟩
  have hg := own_in o2 (g := g2) rfl
  rw [size3] at hg b2
  obtain ⟨k0, k1, k2⟩ := heap3 _ _ _ b2
  have c01 := cell_of_row w2 _ 1 _ _ _ k0
  have c02 := cell_of_row w2 _ 2 _ _ _ k0
  have c10 := cell_of_row w2 _ 0 _ _ _ k1
  have c11 := cell_of_row w2 _ 1 _ _ _ k1
  have c12 := cell_of_row w2 _ 2 _ _ _ k1
  have f10 := frozen_of_row w2 _ 0 _ _ k1
  have f11 := frozen_of_row w2 _ 1 _ _ k1
  have f12 := frozen_of_row w2 _ 2 _ _ k1
  have c20 := cell_of_row w2 _ 0 _ _ _ k2
  have c21 := cell_of_row w2 _ 1 _ _ _ k2
  have c22 := cell_of_row w2 _ 2 _ _ _ k2
  have f20 := frozen_of_row w2 _ 0 _ _ k2
  have f21 := frozen_of_row w2 _ 1 _ _ k2
  have f22 := frozen_of_row w2 _ 2 _ _ k2
  simp at c01 c02 c10 c11 c12 c20 c21 c22
  have K1 := hid k1
  clear k0 k1 k2
  go_wp2
  have hb : Below w.heap.size w w2 := (below_new3 w _ _ _).trans (b2.mono (by omega))
  have hby2 := hby
  refine bodyPost_ret (results_cell_row rfl _ _ (w.heap.size + 1) 98 #[.slice (some ⟨g2, 0, none⟩) f.name.length f.name.length, .int .i64 f.kind, .int .i64 f.width] (0, 0) _ rfl (set3 ((set3o (by omega)).trans K1.out)) Tryz.underlying98 rfl (by kernel_rfl)) rfl ?_
  refine ⟨_, [g2], rfl, ?_, by simp; omega, by simp, ?_⟩
  · refine OwnSl.kept (ownSl_bytes o2 hby2) (fun b hb => ?_)
    simp at hb
    subst hb
    exact (set3o (by omega)).trans (set3o (by omega))
  · exact set3b (set3b hb (by omega)) (by omega)
theorem toField_law : ToLaw Tryz.prog 64 cField (fun f => f.name.length) := by
  intro w f cs h ht
  obtain ⟨v, rfl, hv, h1, h2⟩ := cField_rd h
  refine (toField_any f v w hv ht).mono ?_
  rintro e w' ⟨v', bs, rfl, ho, hb, hn, hbe⟩
  exact ⟨_, bs, rfl, cField_own ho h1 h2, hb, hn, hbe⟩
end Go.Proofs.YtfaehioeepolhaaGreat
namespace Go.Proofs.YtfaehioeepolhaaGreat
open Go.RowKit
theorem infoImField : (Tryz.prog.info? 98).map (fun i => (i.zero, i.size, i.bytes)) = some (some (.agg #[.slice none 0 0, .int .i64 0, .int .i64 0]), 3, 40) := by kernel_rfl
set_option maxHeartbeats 1000000 in
theorem toFieldS_any (a : Option Addr) (cap : Nat) (xs : List PF) (w : World) (hr : RdSl cField w xs (.slice a xs.length cap)) (ht : totL (fun f : PF => f.name.length) xs ≤ 1048576) :
    Calls Tryz.prog 20 #[.slice a xs.length cap] w fun e w' => ∃ v bs, e = .returned v ∧ OwnSl cField 98 w' xs v bs ∧ (∀ b ∈ bs, w.heap.size ≤ b) ∧ bs.Nodup ∧ Below w.heap.size w w' := by
  obtain ⟨i0, hi, hz0, hz1, hz2⟩ := info_parts infoImField
  have HR := hid hr
  clear hr
  have hlen : xs.length ≤ 1048576 := by unfold totL at ht; omega
  go_enter Tryz.func20, Tryz.ntmps20
  go_wp2_with (first | (at_make; refine wpList_make_full _ rfl (.tmp 6) (.tmp 6) 38 rfl w.heap.size 98 i0 (.agg #[.slice none 0 0, .int .i64 0, .int .i64 0]) 3 Tryz.underlying38 hi hz0 hz1 .i64 .i64 _ _ xs.length rfl rfl rfl rfl (by rw [hz2]; omega) (by unfold maxLen; omega) (by simp) ?_))
  intro w1 ho hg1
  have HB1 : Hid (Below w.heap.size w w1) := hid ((Below.refl _ w).grown hg1 (Nat.le_refl _) (by intro k h; cases h))
  have HM : Hid (Made3 cField 98 w w1 xs 0) := hid ⟨_, [], ho, rfl, fun i h h2 => by simp at h2, by simp, by simp⟩
  clear hg1 hi hz0 hz1 hz2 ho
  go_wp2
  go_loopw [4] (fun i wr => ∃ k : Nat, k ≤ xs.length ∧ i = .int .i64 k ∧ Made3 cField 98 w wr xs k ∧ Below w.heap.size w wr) (fun i _ => xs.length - (intOf i).toNat)
  case atStart => exact ⟨0, Nat.zero_le _, rfl, HM.out, HB1.out⟩
  case round =>
    obtain ⟨k, hk, rfl, hm, hbe⟩ := hrel
    have HV := hid hm
    have HB := hid hbe
    clear hm hbe
    by_cases hlt : k < xs.length
    · obtain ⟨b, off, v0, v1, v2, rfl, hes, d0, d1, d2⟩ := (HR.out.later HB.out).at3 rfl hlt
      have HE := hid hes
      have hki : (k : Int) < (xs.length : Int) := by omega
      clear hes
      go_wp2_with fail
      refine (toField_law wr xs[k] _ HE.out (by have := tot_at (fun f : PF => f.name.length) xs k hlt; unfold totL at ht; simp only [] at this ⊢; omega)).mono ?_
      rintro e w2 ⟨cs', bs, rfl, o2, hbs, hnd, b2⟩
      obtain ⟨ax, cx, rfl⟩ := cField_shape (cField.ownRd o2)
      simp only [val]
      have HN : Hid (Made3 cField 98 w (((w2.setCell ⟨w.heap.size, k * 3, none⟩ (.slice ax xs[k].name.length cx)).setCell ⟨w.heap.size, k * 3 + 1, none⟩ (.int .i64 xs[k].kind)).setCell ⟨w.heap.size, k * 3 + 2, none⟩ (.int .i64 xs[k].width)) xs (k + 1)) := hid (HV.out.step hlt b2 o2 hbs hnd)
      have HBB : Hid (Below w.heap.size w (((w2.setCell ⟨w.heap.size, k * 3, none⟩ (.slice ax xs[k].name.length cx)).setCell ⟨w.heap.size, k * 3 + 1, none⟩ (.int .i64 xs[k].kind)).setCell ⟨w.heap.size, k * 3 + 2, none⟩ (.int .i64 xs[k].width))) := hid ((((HB.out.trans (b2.mono HB.out.size)).setCell (p := ⟨w.heap.size, k * 3, none⟩) (Nat.le_refl _) _).setCell (p := ⟨w.heap.size, k * 3 + 1, none⟩) (Nat.le_refl _) _).setCell (p := ⟨w.heap.size, k * 3 + 2, none⟩) (Nat.le_refl _) _)
      obtain ⟨vs, hvl, how2⟩ := HV.out.row b2
      have f0 := how2.frozenAt (k * 3)
      have f1 := how2.frozenAt (k * 3 + 1)
      have f2 := how2.frozenAt (k * 3 + 2)
      have q0 := how2.cellAt (k * 3) (by omega)
      have q1 := how2.cellAt (k * 3 + 1) (by omega)
      have q2 := how2.cellAt (k * 3 + 2) (by omega)
      rw [List.getElem?_eq_getElem (by omega)] at q0 q1 q2
      generalize vs[k * 3] = y0 at q0
      generalize vs[k * 3 + 1] = y1 at q1
      generalize vs[k * 3 + 2] = y2 at q2
      clear o2 hbs hnd b2 how2 hvl
      go_wp2
      go_roundw
      case rel => exact ⟨k + 1, by omega, by go_num, HN.out, HBB.out⟩
      case measure => simp [intOf]; omega
    · obtain rfl : k = xs.length := by omega
      obtain ⟨bs, h1, h2, h3⟩ := HV.out.done rfl
      have HF := hid h1
      clear h1
      go_wp2
      go_ret
      exact ⟨_, bs, rfl, HF.out, h2, h3, HB.out⟩
end Go.Proofs.YtfaehioeepolhaaGreat
