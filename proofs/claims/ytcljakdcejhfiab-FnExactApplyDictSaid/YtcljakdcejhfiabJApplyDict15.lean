import Derived.Test.YtcljakdcejhfiabJApplyDict14
namespace Go.Proofs.Ytcljakdcejhfiab
open Go.RowKit
set_option maxRecDepth 100000 in
set_option maxHeartbeats 2000000 in
theorem l3texts_any (a : Option Addr) (cap : Nat) (xs : List (List Nat)) (w : World) (hr : RdSl cSS w xs (.slice a xs.length cap)) (ht : totL List.length xs ≤ 1048576) :
    Calls Try.prog 72 #[.slice a xs.length cap] w fun e w' => ∃ v, e = .returned v ∧ Txts w.heap.size w' v xs ∧ Below w.heap.size w w' := by
  obtain ⟨i0, hi, hz0, hz1, hz2⟩ := info_parts infoSlT
  have HR := hid hr
  clear hr
  rw [totL_tot] at ht
  go_enter Try.func72, Try.ntmps72
  go_wp2
  go_loopw [3, 4] (fun v i wr => ∃ k : Nat, k ≤ xs.length ∧ i = .int .i64 k ∧ Txts w.heap.size wr v (xs.take k) ∧ Below w.heap.size w wr) (fun _ i _ => xs.length - (intOf i).toNat)
  case atStart => exact ⟨0, Nat.zero_le _, rfl, by simpa using Txts.nil _ w, Below.refl _ _⟩
  case round =>
    obtain ⟨k, hk, rfl, htx, hbe⟩ := hrel
    have HX := hid htx
    have HB := hid hbe
    clear htx hbe
    by_cases hlt : k < xs.length
    · obtain ⟨b, off, a', c', rfl, hcb, hrr⟩ := (HR.out.later HB.out).row hlt
      have HRR := hid hrr
      have hlk := len_le_tot xs k hlt
      have hki : (k : Int) < (xs.length : Int) := by omega
      have HTK : Hid (xs.take (k + 1) = xs.take k ++ [xs[k]]) := hid (List.take_succ_eq_append_getElem hlt)
      have HTL : Hid ((xs.take k).length = k) := hid (by simp; omega)
      clear hrr
      go_wp2_with fail
      refine (l1copy_any a' c' xs[k] wr HRR.out (by omega)).mono ?_
      rintro e w2 ⟨u, rfl, o2, b2⟩
      obtain ⟨vals, how, hel⟩ := HX.out.later b2
      have hs2 : w.heap.size ≤ w2.heap.size := Nat.le_trans HB.out.size b2.size
      have HO := hid how
      have HEL := hid hel
      have HU := hid (own_mono o2 HB.out.size)
      have HBY := hid HRR.out.rdB.2
      have HB2 := hid (below_chain HB.out b2)
      obtain ⟨au, cu, rfl, -⟩ := rd_own o2
      rw [HTL.out] at how
      have HW := hid how
      clear how hel o2 b2
      go_wp2_with (first | (at_builtin; refine wpList_append_own _ rfl _ _ 22 rfl w.heap.size 24 i0 (.slice none 0 0) 1 24 Try.underlying22 hi hz0 hz1 hz2 rfl (by decide) _ k _ rfl (HW.out.alloc _) ⟨w2.heap.size, 0, none⟩ 1 1 [.slice au xs[k].length cu] rfl rfl (cell_one_new _ _ _) (one_cell rfl) (by unfold maxLen; omega) (by omega) (by simp; omega) ?_))
      intro v' w9 hown' hgrow _
      have HX9 : Hid (Txts w.heap.size w9 v' (xs.take (k + 1))) := hid (by
        rw [HTK.out]
        refine Txts.snoc (HO.out.alloc _) (fun i h => ?_) (HU.out.alloc _) HBY.out (by rw [HTL.out]; exact hown') hgrow
        obtain ⟨u', h1, h2, h3⟩ := HEL.out i h
        exact ⟨u', h1, h2.alloc _, h3⟩)
      have HB9 : Hid (Below w.heap.size w w9) := hid ((HB2.out.alloc HB2.out.size _).grown hgrow (by simp; omega) (fun p hp => (own_in HO.out hp).1))
      clear hown' hgrow
      go_wp2
      go_roundw
      case rel => exact ⟨k + 1, by omega, by go_num, HX9.out, HB9.out⟩
      case measure => simp [intOf]; omega
    · obtain rfl : k = xs.length := by omega
      have HF : Hid (Txts w.heap.size wr _ xs) := hid (by have := HX.out; rw [List.take_length] at this; exact this)
      go_wp2
      go_ret
      exact ⟨_, rfl, HF.out, HB.out⟩
set_option maxRecDepth 100000 in
set_option maxHeartbeats 2000000 in
theorem l3join_any (a1 a2 : Option Addr) (c1 c2 : Nat) (xs ys : List (List Nat)) (w : World) (h1 : RdSl cSS w xs (.slice a1 xs.length c1)) (h2 : RdSl cSS w ys (.slice a2 ys.length c2)) (t1 : totL List.length xs ≤ 1048576) (t2 : totL List.length ys ≤ 1048576) :
    Calls Try.prog 71 #[.slice a1 xs.length c1, .slice a2 ys.length c2] w fun e w' => ∃ v, e = .returned v ∧ Txts w.heap.size w' v (xs ++ ys) ∧ Below w.heap.size w w' := by
  obtain ⟨i0, hi, hz0, hz1, hz2⟩ := info_parts infoSlT
  have H1 := hid h1
  have H2 := hid h2
  clear h1 h2
  have l1 : xs.length ≤ 1048576 := by rw [totL_tot] at t1; omega
  have l2 : ys.length ≤ 1048576 := by rw [totL_tot] at t2; omega
  go_enter Try.func71, Try.ntmps71
  go_wp2_with fail
  refine (l3texts_any a1 c1 xs w H1.out t1).mono ?_
  rintro e w2 ⟨v2, rfl, x2, b2⟩
  have HX2 := hid x2
  have HB2 := hid b2
  clear x2 b2
  go_wp2_with fail
  refine (l3texts_any a2 c2 ys w2 (H2.out.later HB2.out) t2).mono ?_
  rintro e w3 ⟨v3, rfl, x3, b3⟩
  obtain ⟨vals, how, hel⟩ := HX2.out.later b3
  obtain ⟨us, hou, heu⟩ := x3
  obtain ⟨a3, c3, rfl, hrd⟩ := rd_own hou
  have HO := hid how
  have HEL := hid hel
  have HEU := hid heu
  have HRD := hid hrd
  have HUL : Hid (us.length = ys.length) := hid (by have := hou.1; omega)
  have HNN : Hid (a3 = none → ys.length = 0 ∧ c3 = 0) := hid (fun ha => by
    rcases hou.2 with ⟨e, h0⟩ | ⟨g, cap, cur, e, _⟩
    · simp at e; omega
    · simp at e; rw [ha] at e; simp at e)
  have HON : Hid (∀ u ∈ us, u.oneCell' = true) := hid (fun u hu => by
    obtain ⟨i, h, rfl⟩ := List.getElem_of_mem hu
    obtain ⟨u', h1, h2, _⟩ := heu i (by have := hou.1; omega)
    rw [List.getElem?_eq_getElem h] at h1
    simp at h1
    obtain ⟨_, _, e, _⟩ := rd_own h2
    rw [h1, e]; rfl)
  have HB3 := hid (below_chain HB2.out b3)
  have hs2 := HB2.out.size
  have hs3 := HB3.out.size
  clear how hel heu hrd hou b3
  go_wp2_with (first | (at_builtin; refine append_any rfl _ _ 22 rfl w.heap.size 24 i0 (.slice none 0 0) 24 Try.underlying22 hi hz0 hz1 hz2 rfl _ xs.length _ rfl HO.out a3 ys.length c3 us rfl HUL.out HNN.out HRD.out HON.out (by unfold maxLen; omega) (by omega) hs3 ?_))
  intro v' w9 hown' hgrow
  have HX9 : Hid (Txts w.heap.size w9 v' (xs ++ ys)) := hid (Txts.join HO.out HEL.out HUL.out (fun i h => by
    obtain ⟨u, h1, h2, h3⟩ := HEU.out i h
    exact ⟨u, h1, own_mono h2 hs2, h3⟩) hown' hgrow)
  have HB9 : Hid (Below w.heap.size w w9) := hid (HB3.out.grown hgrow hs3 (fun p hp => (own_in HO.out hp).1))
  clear hown' hgrow
  go_wp2
  go_ret
  exact ⟨_, rfl, HX9.out, HB9.out⟩
end Go.Proofs.Ytcljakdcejhfiab
