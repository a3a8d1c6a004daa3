import Derived.Test.YtcljakdcejhfiadJStartStream27
import Derived.Test.YtcljakdcejhfiadJStartStream29
namespace Go.Proofs.Ytcljakdcejhfiad
open Go.RowKit
theorem u64_wrap (n : Nat) (h : n < 18446744073709551616) : IntKind.u64.wrap (n : Int) = n := by
  simp [IntKind.wrap, IntKind.bits, IntKind.signed]; omega
set_option maxRecDepth 1000000 in
set_option maxHeartbeats 4000000 in
theorem headerOf_any (a b : Option Addr) (c d nd : Nat) (fs : List PF) (N : Nat) (w : World) (hr : RdSl cField w fs (.slice a fs.length c)) (hf : fieldsOK fs = true) (hN : N ≤ 1000000000) :
    Calls Try.prog 90 #[.agg #[.bool true, .slice a fs.length c, .int .i64 (N : Int), .slice b nd d]] w fun e w' => ∃ v, e = .returned (.agg #[.int .i64 1, .int .i64 0, .int .i64 (fs.length : Int), v]) ∧ Txts w.heap.size w' v (hdrB fs N) ∧ Below w.heap.size w w' := by
  obtain ⟨i0, hi0, hz0, hz1, hz2⟩ := info_parts infoByteM
  obtain ⟨j0, hj0, hy0, hy1, hy2⟩ := info_parts infoSlM
  have HR := hid hr
  have HBD := hid (fieldsOK_bounds hf)
  have hfl : fs.length ≤ 12 := HBD.out.1
  have hu := u64_wrap N (by omega)
  have HB0 := hid (below_new2 w (.cells #[.bool true, .slice a fs.length c, .int .i64 (N : Int), .slice b nd d] 68) (.cells #[.int .i64 0, .int .i64 0, .int .i64 0, .slice none 0 0] 121))
  have hsz0 : ((w.alloc (.cells #[.bool true, .slice a fs.length c, .int .i64 (N : Int), .slice b nd d] 68)).alloc (.cells #[.int .i64 0, .int .i64 0, .int .i64 0, .slice none 0 0] 121)).heap.size = w.heap.size + 2 := by simp
  have HK0 : Hid (((w.alloc (.cells #[.bool true, .slice a fs.length c, .int .i64 (N : Int), .slice b nd d] 68)).alloc (.cells #[.int .i64 0, .int .i64 0, .int .i64 0, .slice none 0 0] 121)).heap[w.heap.size]? = some (.cells #[.bool true, .slice a fs.length c, .int .i64 (N : Int), .slice b nd d] 68 (0, 0)) ∧ ((w.alloc (.cells #[.bool true, .slice a fs.length c, .int .i64 (N : Int), .slice b nd d] 68)).alloc (.cells #[.int .i64 0, .int .i64 0, .int .i64 0, .slice none 0 0] 121)).heap[w.heap.size + 1]? = some (.cells #[.int .i64 0, .int .i64 0, .int .i64 0, .slice none 0 0] 121 (0, 0))) := hid (heap2 _ _ (by rw [← hsz0]; exact Below.refl _ _))
  clear hr hf
  go_enter Try.func90, Try.ntmps90
  go_wp2_with fail
  generalize ((w.alloc (.cells #[.bool true, .slice a fs.length c, .int .i64 (N : Int), .slice b nd d] 68)).alloc (.cells #[.int .i64 0, .int .i64 0, .int .i64 0, .slice none 0 0] 121)) = W0 at *
  have hsz1 : w.heap.size + 2 ≤ W0.heap.size := by omega
  clear hsz0
  refine (app_u64 W0.heap.size (.slice none 0 0) 0 [] N W0 (World.ownsRow_nil _ _ _ _) (Nat.le_refl _) (by omega) (by omega)).mono ?_
  rintro e w1 ⟨v1, rfl, o1, b1⟩
  rw [List.nil_append] at o1
  obtain ⟨a1, c1, rfl, -⟩ := rd_own o1
  have HO1 := hid o1
  have HB1 := hid b1
  have k0 := (b1.block w.heap.size (by omega)).trans HK0.out.1
  have p1 := cell_of_row w1 _ 1 _ _ _ k0
  simp only [List.getElem?_toArray, List.getElem?_cons_zero, List.getElem?_cons_succ] at p1
  have hs1 : W0.heap.size ≤ w1.heap.size := b1.size
  have p1' : (w1.alloc (.cells #[.slice a1 (0 + 8) c1] 69)).cell? ⟨w.heap.size, 1, none⟩ = some (.slice a fs.length c) := ((below_new1 w1 _).cell (World.block_lt_of_cell? _ _ p1)).trans p1
  have HTX : Hid (Txts W0.heap.size (w1.alloc (.cells #[.slice a1 (0 + 8) c1] 69)) (.slice (some ⟨w1.heap.size, 0, none⟩) 1 1) ((hdrB fs N).take (0 + 1))) := hid (by
    have h := own_built (w := w1) (B := W0.heap.size) (e := 69) (cs := #[.slice a1 (0 + 8) c1]) hs1 (by unfold maxLen; simp)
    refine ⟨[.slice a1 (0 + 8) c1], h, fun i hi => ?_⟩
    obtain rfl : i = 0 := by simp [hdrB] at hi; omega
    have e : ((hdrB fs N).take (0 + 1))[0]'hi = digs N 8 := by simp [hdrB]
    rw [e]
    refine ⟨_, rfl, ?_, digs_lt _ _⟩
    rw [digs_len]
    exact own_later HO1.out (below_new1 _ _))
  have HBL : Hid (Below W0.heap.size W0 (w1.alloc (.cells #[.slice a1 (0 + 8) c1] 69))) := hid (below_chain b1 (below_new1 _ _))
  clear o1 b1 k0 p1
  go_wp2
  go_loopw [3, 14] (fun v i wr => ∃ k : Nat, k ≤ fs.length ∧ i = .int .i64 k ∧ Txts W0.heap.size wr v ((hdrB fs N).take (k + 1)) ∧ Below W0.heap.size W0 wr) (fun _ i _ => fs.length - (intOf i).toNat)
  case atStart => exact ⟨0, Nat.zero_le _, rfl, HTX.out, HBL.out⟩
  case round =>
    obtain ⟨k, hk, rfl, htx, hbe⟩ := hrel
    have HX := hid htx
    have HBW := hid hbe
    clear htx hbe HTX HBL p1'
    by_cases hlt : k < fs.length
    · obtain ⟨b2, off, x0, x1, x2, rfl, hes, d0, d1, d2⟩ := (HR.out.later (below_chain HB0.out HBW.out)).at3 rfl hlt
      obtain ⟨an, cn, e3⟩ := cField_shape hes
      simp only [List.cons.injEq, and_true] at e3
      obtain ⟨rfl, rfl, rfl⟩ := e3
      obtain ⟨vn, en, hnm, hik, hiw⟩ := cField_rd hes
      simp only [List.cons.injEq, and_true] at en
      obtain ⟨rfl, -⟩ := en
      have hki : (k : Int) < (fs.length : Int) := by omega
      obtain ⟨hp1, hp2, hk0, hk3, hw0, hw8⟩ := HBD.out.2 k hlt
      have hwk : IntKind.u8.wrap fs[k].kind = fs[k].kind := by simp [IntKind.wrap, IntKind.bits, IntKind.signed]; omega
      have hww : IntKind.u8.wrap fs[k].width = fs[k].width := by simp [IntKind.wrap, IntKind.bits, IntKind.signed]; omega
      have HNM := hid hnm
      have HBT : Hid (∀ x ∈ hdrF fs[k], x < 256) := hid (by
        intro x hx
        simp only [hdrF, List.mem_cons] at hx
        rcases hx with rfl | rfl | hx
        · omega
        · omega
        · exact rdSl_ok HNM.out x hx)
      have hs := HBW.out.size
      have HW2 := hid (below_new2 wr (.cells #[.slice an fs[k].name.length cn, .int .i64 fs[k].kind, .int .i64 fs[k].width] 84) (.cells #[.int .u8 fs[k].kind, .int .u8 fs[k].width] 5))
      have H8 : Hid ((fcTwo W0.heap.size wr.heap.size fs[k]).p (.slice (some ⟨wr.heap.size + 1, 0, none⟩) 2 2) ((wr.alloc (.cells #[.slice an fs[k].name.length cn, .int .i64 fs[k].kind, .int .i64 fs[k].width] 84)).alloc (.cells #[.int .u8 fs[k].kind, .int .u8 fs[k].width] 5))) := hid (by
        have h := two_new8 (B := W0.heap.size) (lo := wr.heap.size) (w := wr.alloc (.cells #[.slice an fs[k].name.length cn, .int .i64 fs[k].kind, .int .i64 fs[k].width] 84)) (f := fs[k]) ⟨hk0, hk3⟩ ⟨hw0, hw8⟩ (by simp) (by simp; omega)
        rw [show (wr.alloc (.cells #[.slice an fs[k].name.length cn, .int .i64 fs[k].kind, .int .i64 fs[k].width] 84)).heap.size = wr.heap.size + 1 from by simp] at h
        exact h)
      obtain ⟨g8, e8, -, o8⟩ := H8.out
      simp only [Value.slice.injEq, Option.some.injEq, Addr.mk.injEq, and_true] at e8
      have HG8 := hid e8
      rw [← e8] at o8
      have HO8 := hid o8
      have HRD := hid (HNM.out.later HW2.out).rdB.1
      have HNI := hid (HNM.out.later HW2.out).nil0
      clear hes hnm hik hiw e8 o8
      go_wp2_with (first | (at_builtin; refine append_any rfl _ _ 69 rfl W0.heap.size 5 i0 (.int .u8 0) 1 Try.underlying69 hi0 hz0 hz1 hz2 rfl _ 2 _ rfl HO8.out an fs[k].name.length cn (byt fs[k].name) rfl (byt_len _) HNI.out HRD.out (byt_one _) (by unfold maxLen; omega) (by omega) (by simp; omega) ?_))
      intro v9 w9 hown hgrow
      have hl : 2 + fs[k].name.length = (hdrF fs[k]).length := by simp [hdrF]; omega
      rw [hl, ← byt_append, show [fs[k].kind.toNat, fs[k].width.toNat] ++ fs[k].name = hdrF fs[k] from rfl] at hown
      obtain ⟨a9, c9, rfl, -⟩ := rd_own hown
      have HB9 : Hid (Below wr.heap.size wr w9) := hid (HW2.out.grown hgrow (by simp; omega) (fun p hp => by simp [Value.ownBlock] at hp; omega))
      have HO9 := hid hown
      have hs9 : W0.heap.size ≤ w9.heap.size := Nat.le_trans hs HB9.out.size
      have HX9 := hid ((HX.out.later HB9.out).later (below_new1 w9 (.cells #[.slice a9 (hdrF fs[k]).length c9] 69)))
      obtain ⟨vals, ho, hi'⟩ := HX9.out
      have htl : ((hdrB fs N).take (k + 1)).length = k + 1 := by simp [hdrB_len]; omega
      rw [htl] at ho
      have HOA := hid ho
      have HI' := hid hi'
      have HTL := hid htl
      clear hown hgrow ho hi' hl htl H8 HO8 HW2 HRD HNI
      generalize hln : (hdrF fs[k]).length = ln at *
      have HLN := hid hln
      clear hln
      go_wp2_with (first | (at_builtin; refine append_any rfl _ _ 45 rfl W0.heap.size 69 j0 (.slice none 0 0) 24 Try.underlying45 hj0 hy0 hy1 hy2 rfl _ (k + 1) _ rfl HOA.out (some ⟨w9.heap.size, 0, none⟩) 1 1 [.slice a9 ln c9] rfl rfl (by simp) (.inr ⟨w9.heap.size, 0, rfl, fun j hj => (by obtain rfl : j = 0 := (by simpa using hj); exact cell_one_new _ _ _ 0 _ rfl)⟩) (one_cell rfl) (by unfold maxLen; omega) (by omega) (by simp; omega) ?_))
      intro v10 w10 hown hgrow
      have HN : Hid (Txts W0.heap.size w10 v10 ((hdrB fs N).take (k + 1 + 1))) := hid (by
        rw [show k + 1 + 1 = k + 2 from rfl, hdrB_take fs N k hlt]
        exact Txts.snoc (by rw [HTL.out]; exact HOA.out) HI'.out (own_later (by rw [HLN.out]; exact HO9.out) (below_new1 _ _)) HBT.out (by rw [HTL.out]; exact hown) hgrow)
      have HB10 : Hid (Below W0.heap.size W0 w10) := hid ((below_chain (below_chain HBW.out HB9.out) (below_new1 _ _)).grown hgrow (by simp; omega) (fun p hp => (own_in HOA.out hp).1))
      clear hown hgrow
      go_wp2
      go_roundw
      case rel => exact ⟨k + 1, by omega, by go_num, HN.out, HB10.out⟩
      case measure => simp [intOf]; omega
    · obtain rfl : k = fs.length := by omega
      have hX := HX.out
      rw [List.take_of_length_le (by rw [hdrB_len]; exact Nat.le_refl _)] at hX
      obtain ⟨aX, cX, eX⟩ := hX.len
      subst eX
      have k0 := (HBW.out.block w.heap.size (by omega)).trans HK0.out.1
      have k1 := (HBW.out.block (w.heap.size + 1) (by omega)).trans HK0.out.2
      have p1 := cell_of_row wr _ 1 _ _ _ k0
      have c0 := cell_of_row wr _ 0 _ _ _ k1
      have c1' := cell_of_row wr _ 1 _ _ _ k1
      have c2 := cell_of_row wr _ 2 _ _ _ k1
      have c3 := cell_of_row wr _ 3 _ _ _ k1
      have f0 := frozen_of_row wr _ 0 _ _ k1
      have f1 := frozen_of_row wr _ 1 _ _ k1
      have f2 := frozen_of_row wr _ 2 _ _ k1
      have f3 := frozen_of_row wr _ 3 _ _ k1
      simp only [List.getElem?_toArray, List.getElem?_cons_zero, List.getElem?_cons_succ] at p1 c0 c1' c2 c3
      have HX2 := hid hX
      have K1 := hid k1
      have HBA := hid (below_chain HB0.out HBW.out)
      clear hX k0 k1
      go_wp2
      refine bodyPost_ret (results_cell_row rfl _ _ (w.heap.size + 1) 121 #[.int .i64 1, .int .i64 0, .int .i64 (fs.length : Int), .slice aX (hdrB fs N).length cX] (0, 0) _ rfl (set4 K1.out) Try.underlying121 rfl (by kernel_rfl)) rfl ?_
      refine ⟨_, rfl, (HX2.out.kept (fun p e n vs u ho he hp => set4o (fun e' => ?_))).mono (by omega), set4b HBA.out (by omega)⟩
      subst e'
      exact box_farH K1.out ho (by rcases he with rfl | rfl <;> decide) hp
end Go.Proofs.Ytcljakdcejhfiad
