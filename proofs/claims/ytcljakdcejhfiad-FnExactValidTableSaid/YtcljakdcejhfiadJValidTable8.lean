import Derived.Test.YtcljakdcejhfiadJValidTable6
import Derived.Test.YtcljakdcejhfiadJValidTable7
import Derived.Handy
namespace Go.Proofs.Ytcljakdcejhfiad
open Go.RowKit
set_option maxHeartbeats 400000 in
theorem toCell_any (f : PC) (v0 : Value) (w : World) (hv : RdSl cByte w f.text v0) (hn : f.text.length ≤ 1048576) :
    Calls Try.prog 79 #[.agg #[.bool f.null, .int .i64 f.num, v0]] w fun e w' => ∃ v bs, e = .returned (.agg #[.bool f.null, .int .i64 f.num, v]) ∧ OwnSl cByte 5 w' f.text v bs ∧ (∀ b ∈ bs, w.heap.size ≤ b) ∧ bs.Nodup ∧ Below w.heap.size w w' := by
  obtain ⟨a, cap, rfl, hcap, hml, hnone, hrd, hby⟩ := hv.bytes
  have HRD := hid hrd
  clear hrd hv
  go_enter Try.func79, Try.ntmps79
  go_wp2_with fail
  refine (toByteS_any a cap f.text _ (HRD.out.later (below_new3 _ _ _ _)) (by omega)).mono ?_
  rintro e w2 ⟨g2, rfl, o2, b2⟩
  have hg := own_in o2 (g := g2) rfl
  rw [size3] at hg b2
  obtain ⟨k0, k1, k2⟩ := heap3 _ _ _ b2
  have c10 := cell_of_row w2 _ 0 _ _ _ k1
  have c11 := cell_of_row w2 _ 1 _ _ _ k1
  have c12 := cell_of_row w2 _ 2 _ _ _ k1
  have f10 := frozen_of_row w2 _ 0 _ _ k1
  have f11 := frozen_of_row w2 _ 1 _ _ k1
  have f12 := frozen_of_row w2 _ 2 _ _ k1
  have c20 := cell_of_row w2 _ 0 _ _ _ k2
  have c21 := cell_of_row w2 _ 1 _ _ _ k2
  have c22 := cell_of_row w2 _ 2 _ _ _ k2
  have f22 := frozen_of_row w2 _ 2 _ _ k2
  simp at c10 c11 c12 c20 c21 c22
  have K1 := hid k1
  clear k0 k1 k2
  go_wp2
  have hb : Below w.heap.size w w2 := (below_new3 w _ _ _).trans (b2.mono (by omega))
  have h12 : w.heap.size + 1 ≠ w.heap.size + 1 + 1 := by omega
  refine bodyPost_ret (results_cell_row rfl _ _ (w.heap.size + 1) 86 #[.bool f.null, .int .i64 f.num, .slice (some ⟨g2, 0, none⟩) f.text.length f.text.length] (0, 0) _ rfl (set3 ((Below.heap_setCell _ ⟨w.heap.size + 1 + 1, 2, none⟩ _ _ h12).trans K1.out)) Try.underlying86 rfl (by kernel_rfl)) rfl ?_
  refine ⟨_, [g2], rfl, ?_, by simp; omega, by simp, ?_⟩
  · refine OwnSl.kept (ownSl_bytes o2 hby) (fun b hb => ?_)
    simp at hb
    subst hb
    have hb2 : b ≠ w.heap.size + 1 + 1 := by omega
    exact (set3o (by omega)).trans (Below.heap_setCell _ ⟨w.heap.size + 1 + 1, 2, none⟩ _ _ hb2)
  · exact set3b (hb.setCell (p := ⟨w.heap.size + 1 + 1, 2, none⟩) (by simp only []; omega) _) (by omega)
theorem toCell_law : ToLaw Try.prog 79 cCell (fun f => f.text.length) := by
  intro w f cs h ht
  obtain ⟨v, rfl, hv, h1⟩ := cCell_rd h
  refine (toCell_any f v w hv ht).mono ?_
  rintro e w' ⟨v', bs, rfl, ho, hb, hn, hbe⟩
  exact ⟨_, bs, rfl, cCell_own ho h1, hb, hn, hbe⟩
end Go.Proofs.Ytcljakdcejhfiad
