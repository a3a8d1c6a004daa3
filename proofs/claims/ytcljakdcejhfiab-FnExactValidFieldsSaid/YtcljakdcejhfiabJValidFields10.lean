import Derived.Test.YtcljakdcejhfiabJValidFields9
namespace Go.Proofs.Ytcljakdcejhfiab
open Go.RowKit
theorem infoImField : (Try.prog.info? 81).map (fun i => (i.zero, i.size, i.bytes)) = some (some (.agg #[.slice none 0 0, .int .i64 0, .int .i64 0]), 3, 40) := by kernel_rfl
set_option maxHeartbeats 1000000 in
theorem toFieldS_any (a : Option Addr) (cap : Nat) (xs : List PF) (w : World) (hr : RdSl cField w xs (.slice a xs.length cap)) (ht : totL (fun f : PF => f.name.length) xs ≤ 1048576) :
    Calls Try.prog 26 #[.slice a xs.length cap] w fun e w' => ∃ v bs, e = .returned v ∧ OwnSl cField 81 w' xs v bs ∧ (∀ b ∈ bs, w.heap.size ≤ b) ∧ bs.Nodup ∧ Below w.heap.size w w' := by
  obtain ⟨i0, hi, hz0, hz1, hz2⟩ := info_parts infoImField
  have HR := hid hr
  clear hr
  have hlen : xs.length ≤ 1048576 := by unfold totL at ht; omega
  go_enter Try.func26, Try.ntmps26
  go_wp2_with (first | (at_make; refine wpList_make_full _ rfl (.tmp 6) (.tmp 6) 43 rfl w.heap.size 81 i0 (.agg #[.slice none 0 0, .int .i64 0, .int .i64 0]) 3 Try.underlying43 hi hz0 hz1 .i64 .i64 _ _ xs.length rfl rfl rfl rfl (by rw [hz2]; omega) (by unfold maxLen; omega) (by simp) ?_))
  intro w1 ho hg1
  have HB1 : Hid (Below w.heap.size w w1) := hid ((Below.refl _ w).grown hg1 (Nat.le_refl _) (by intro k h; cases h))
  have HM : Hid (Made3 cField 81 w w1 xs 0) := hid ⟨_, [], ho, rfl, fun i h h2 => by simp at h2, by simp, by simp⟩
  clear hg1 hi hz0 hz1 hz2 ho
  go_wp2
  go_loopw [4] (fun i wr => ∃ k : Nat, k ≤ xs.length ∧ i = .int .i64 k ∧ Made3 cField 81 w wr xs k ∧ Below w.heap.size w wr) (fun i _ => xs.length - (intOf i).toNat)
  case atStart => exact ⟨0, Nat.zero_le _, rfl, HM.out, HB1.out⟩
  case round =>
    obtain ⟨k, hk, rfl, hm, hbe⟩ := hrel
    have HV := hid hm
    have HB := hid hbe
    clear hm hbe
    by_cases hlt : k < xs.length
    · obtain ⟨b, off, v0, v1, v2, rfl, hes, d0, d1, d2⟩ := (HR.out.later HB.out).at3 rfl hlt
      have HE := hid hes
      have hki : (k : Int) < (xs.length : Int) := by omega
      clear hes
      go_wp2_with fail
      refine (toField_law wr xs[k] _ HE.out (by have := tot_at (fun f : PF => f.name.length) xs k hlt; unfold totL at ht; simp only [] at this ⊢; omega)).mono ?_
      rintro e w2 ⟨cs', bs, rfl, o2, hbs, hnd, b2⟩
      obtain ⟨ax, cx, rfl⟩ := cField_shape (cField.ownRd o2)
      simp only [val]
      have HN : Hid (Made3 cField 81 w (((w2.setCell ⟨w.heap.size, k * 3, none⟩ (.slice ax xs[k].name.length cx)).setCell ⟨w.heap.size, k * 3 + 1, none⟩ (.int .i64 xs[k].kind)).setCell ⟨w.heap.size, k * 3 + 2, none⟩ (.int .i64 xs[k].width)) xs (k + 1)) := hid (HV.out.step hlt b2 o2 hbs hnd)
      have HBB : Hid (Below w.heap.size w (((w2.setCell ⟨w.heap.size, k * 3, none⟩ (.slice ax xs[k].name.length cx)).setCell ⟨w.heap.size, k * 3 + 1, none⟩ (.int .i64 xs[k].kind)).setCell ⟨w.heap.size, k * 3 + 2, none⟩ (.int .i64 xs[k].width))) := hid ((((HB.out.trans (b2.mono HB.out.size)).setCell (p := ⟨w.heap.size, k * 3, none⟩) (Nat.le_refl _) _).setCell (p := ⟨w.heap.size, k * 3 + 1, none⟩) (Nat.le_refl _) _).setCell (p := ⟨w.heap.size, k * 3 + 2, none⟩) (Nat.le_refl _) _)
      obtain ⟨vs, hvl, how2⟩ := HV.out.row b2
      have f0 := how2.frozenAt (k * 3)
      have f1 := how2.frozenAt (k * 3 + 1)
      have f2 := how2.frozenAt (k * 3 + 2)
      have q0 := how2.cellAt (k * 3) (by omega)
      have q1 := how2.cellAt (k * 3 + 1) (by omega)
      have q2 := how2.cellAt (k * 3 + 2) (by omega)
      rw [List.getElem?_eq_getElem (by omega)] at q0 q1 q2
      generalize vs[k * 3] = y0 at q0
      generalize vs[k * 3 + 1] = y1 at q1
      generalize vs[k * 3 + 2] = y2 at q2
      clear o2 hbs hnd b2 how2 hvl
      go_wp2
      go_roundw
      case rel => exact ⟨k + 1, by omega, by go_num, HN.out, HBB.out⟩
      case measure => simp [intOf]; omega
    · obtain rfl : k = xs.length := by omega
      obtain ⟨bs, h1, h2, h3⟩ := HV.out.done rfl
      have HF := hid h1
      clear h1
      go_wp2
      go_ret
      exact ⟨_, bs, rfl, HF.out, h2, h3, HB.out⟩
end Go.Proofs.Ytcljakdcejhfiab
