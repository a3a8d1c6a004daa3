import Derived.Test.YtcljakdcejhfiadJPlanDict49
namespace Go.Proofs.Ytcljakdcejhfiad
open Go.RowKit
set_option maxHeartbeats 1000000 in
theorem fitsWidth_any (n width : Int) (w : World) (hn : IntIn n) (hw : IntIn width) :
    Calls Try.prog 134 #[.int .i64 n, .int .i64 width] w fun e w' => e = .returned (.bool (fitsW n width)) ∧ Below w.heap.size w w' := by
  have HQ : Hid (Calls Try.prog 146 #[.slice (some ⟨w.heap.size, 0, none⟩) 1 1, .int .i64 width] (w.alloc (.cells #[.int .i64 n] 3)) (PkiPost (w.alloc (.cells #[.int .i64 n] 3)) (pki [n] width))) := hid (implPki_any (some ⟨w.heap.size, 0, none⟩) 1 [n] width _ (.inr ⟨w.heap.size, 0, rfl, fun i hi => by
      have : i = 0 := by simpa [ints] using hi
      subst this
      simp [ints]⟩) (by simp; exact hn) (by simp) (by simp) hw)
  have HD : Hid (fitsW n width = ((pki [n] width).2 == 0)) := hid rfl
  generalize pki [n] width = R at *
  go_enter Try.func134, Try.ntmps134
  go_wp2_with fail
  refine HQ.out.mono ?_
  rintro e w1 ⟨a1, c1, rfl, o1, b1⟩
  have HB : Hid (Below w.heap.size w w1) := hid ((below_new1 w _).trans (b1.mono (by simp)))
  clear o1 b1
  go_wp2
  go_ret
  exact ⟨by rw [HD.out]; rfl, HB.out⟩
end Go.Proofs.Ytcljakdcejhfiad
