import Derived.Test.YtcljakdcejhfiabJValidFields5
import Derived.Test.YtcljakdcejhfiabJValidFields7
import Derived.Test.YtcljakdcejhfiabJValidFields8
import Derived.Test.YtcljakdcejhfiabJValidFields2
import Derived.Handy
namespace Go.Proofs.Ytcljakdcejhfiab
open Go.RowKit
set_option maxHeartbeats 400000 in
theorem toField_any (f : PF) (v0 : Value) (w : World) (hv : RdSl cByte w f.name v0) (hn : f.name.length ≤ 1048576) :
    Calls Try.prog 54 #[.agg #[v0, .int .i64 f.kind, .int .i64 f.width]] w fun e w' => ∃ v bs, e = .returned (.agg #[v, .int .i64 f.kind, .int .i64 f.width]) ∧ OwnSl cByte 5 w' f.name v bs ∧ (∀ b ∈ bs, w.heap.size ≤ b) ∧ bs.Nodup ∧ Below w.heap.size w w' := by
  obtain ⟨a, cap, rfl, hcap, hml, hnone, hrd, hby⟩ := hv.bytes
  go_enter Try.func54, Try.ntmps54
  go_wp2_with fail
  refine (toByteS_any a cap f.name _ (hrd.later (below_new3 _ _ _ _)) (by omega)).mono ?_
  rintro e w2 ⟨g2, rfl, o2, b2⟩
  have hg := own_in o2 (g := g2) rfl
  rw [size3] at hg b2
  obtain ⟨k0, k1, k2⟩ := heap3 _ _ _ b2
  have c01 := cell_of_row w2 _ 1 _ _ _ k0
  have c02 := cell_of_row w2 _ 2 _ _ _ k0
  have c10 := cell_of_row w2 _ 0 _ _ _ k1
  have c11 := cell_of_row w2 _ 1 _ _ _ k1
  have c12 := cell_of_row w2 _ 2 _ _ _ k1
  have f10 := frozen_of_row w2 _ 0 _ _ k1
  have f11 := frozen_of_row w2 _ 1 _ _ k1
  have f12 := frozen_of_row w2 _ 2 _ _ k1
  have c20 := cell_of_row w2 _ 0 _ _ _ k2
  have c21 := cell_of_row w2 _ 1 _ _ _ k2
  have c22 := cell_of_row w2 _ 2 _ _ _ k2
  have f20 := frozen_of_row w2 _ 0 _ _ k2
  have f21 := frozen_of_row w2 _ 1 _ _ k2
  have f22 := frozen_of_row w2 _ 2 _ _ k2
  simp at c01 c02 c10 c11 c12 c20 c21 c22
  have K1 := hid k1
  clear k0 k1 k2
  go_wp2
  have hb : Below w.heap.size w w2 := (below_new3 w _ _ _).trans (b2.mono (by omega))
  have hby2 := hby
  refine bodyPost_ret (results_cell_row rfl _ _ (w.heap.size + 1) 81 #[.slice (some ⟨g2, 0, none⟩) f.name.length f.name.length, .int .i64 f.kind, .int .i64 f.width] (0, 0) _ rfl (set3 ((set3o (by omega)).trans K1.out)) Try.underlying81 rfl (by kernel_rfl)) rfl ?_
  refine ⟨_, [g2], rfl, ?_, by simp; omega, by simp, ?_⟩
  · refine OwnSl.kept (ownSl_bytes o2 hby2) (fun b hb => ?_)
    simp at hb
    subst hb
    exact (set3o (by omega)).trans (set3o (by omega))
  · exact set3b (set3b hb (by omega)) (by omega)
theorem toField_law : ToLaw Try.prog 54 cField (fun f => f.name.length) := by
  intro w f cs h ht
  obtain ⟨v, rfl, hv, h1, h2⟩ := cField_rd h
  refine (toField_any f v w hv ht).mono ?_
  rintro e w' ⟨v', bs, rfl, ho, hb, hn, hbe⟩
  exact ⟨_, bs, rfl, cField_own ho h1 h2, hb, hn, hbe⟩
end Go.Proofs.Ytcljakdcejhfiab
