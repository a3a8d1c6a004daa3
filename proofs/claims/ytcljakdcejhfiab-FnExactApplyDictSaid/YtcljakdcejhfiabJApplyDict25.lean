import Derived.Test.YtcljakdcejhfiabJApplyDict24
import Derived.Test.YtcljakdcejhfiabJApplyDict15
import Derived.Test.YtcljakdcejhfiabJApplyDict18
namespace Go.Proofs.Ytcljakdcejhfiab
open Go.RowKit
def nextI (vs : List (List Nat)) (act : Int) (fs : List (List Nat)) : List (List Nat) := if act = 1 then vs ++ fs else if act = 2 then fs else vs
set_option maxRecDepth 100000 in
set_option maxHeartbeats 2000000 in
theorem nextTexts_any (a1 a2 : Option Addr) (c1 c2 : Nat) (vs fs : List (List Nat)) (act : Int) (w : World) (h1 : RdSl cSS w vs (.slice a1 vs.length c1)) (h2 : RdSl cSS w fs (.slice a2 fs.length c2)) (m1 : vs.length ≤ 1048576) (m2 : fs.length ≤ 1048576) :
    Calls Try.prog 74 #[.slice a1 vs.length c1, .int .i64 act, .slice a2 fs.length c2] w fun e w' => ∃ v, e = .returned v ∧ RdSl cSS w' (nextI vs act fs) v ∧ Below w.heap.size w w' := by
  by_cases k1 : act = 1
  · subst k1
    have HN : Hid (nextI vs 1 fs = vs ++ fs) := hid (by simp [nextI])
    obtain ⟨vals, lv, rv, ov, iv⟩ := h1.vals
    obtain ⟨us, lu, ru, ou, iu⟩ := h2.vals
    have HC : Hid (∀ e, Calls Try.prog 86 #[.slice (some ⟨w.heap.size, 0, none⟩) 2 2] (w.alloc (.cells #[.slice a1 vs.length c1, .slice a2 fs.length c2] e)) fun e w' => ∃ v, e = .returned v ∧ RdSl cSS w' (vs ++ fs) v ∧ Below w.heap.size w w') := hid (fun e => by
      have hb := below_new1 w (.cells #[.slice a1 vs.length c1, .slice a2 fs.length c2] e)
      refine (concat_any w.heap.size a1 a2 vs.length fs.length c1 c2 vals us _ (by simp) (by simp) lv lu (rv.later hb) (ru.later hb) h1.nil0 h2.nil0 ov ou m1 m2).mono ?_
      rintro e w' ⟨v, rfl, ho, b⟩
      have hB : Below w.heap.size w w' := hb.trans (b.mono (by simp))
      refine ⟨v, rfl, rdSS_of_row (vals := vals ++ us) (by simpa using ho) (fun i h => ?_), hB⟩
      by_cases hi : i < vs.length
      · obtain ⟨u, q1, q2⟩ := iv i hi
        rw [List.getElem_append_left hi]
        exact ⟨u, by rw [List.getElem?_append_left (by omega)]; exact q1, q2.later hB⟩
      · obtain ⟨u, q1, q2⟩ := iu (i - vs.length) (by simp at h; omega)
        rw [List.getElem_append_right (by omega)]
        exact ⟨u, by rw [List.getElem?_append_right (by omega), lv]; exact q1, q2.later hB⟩)
    clear h1 h2 lv rv ov iv lu ru ou iu
    rw [HN.out]
    go_enter Try.func74, Try.ntmps74
    go_wp2_with fail
    refine (HC.out _).mono ?_
    rintro e w2 ⟨v, rfl, hr, hb⟩
    have HR := hid hr
    have HB := hid hb
    clear hr hb
    go_wp2
    go_ret
    exact ⟨_, rfl, HR.out, HB.out⟩
  have H1 := hid h1
  have H2 := hid h2
  clear h1 h2
  by_cases k2 : act = 2
  · subst k2
    have HN : Hid (nextI vs 2 fs = fs) := hid (by simp [nextI])
    rw [HN.out]
    go_enter Try.func74, Try.ntmps74
    go_wp2
    go_ret
    exact ⟨_, rfl, H2.out, Below.refl _ _⟩
  · have HN : Hid (nextI vs act fs = vs) := hid (by simp [nextI, k1, k2])
    rw [HN.out]
    have b1 : (act == 1) = false := by simpa using k1
    have b2 : (act == 2) = false := by simpa using k2
    go_enter Try.func74, Try.ntmps74
    go_wp2
    go_ret
    exact ⟨_, rfl, H1.out, Below.refl _ _⟩
set_option maxHeartbeats 1000000 in
theorem freshFits_any (a2 : Option Addr) (c2 : Nat) (fs : List (List Nat)) (act : Int) (w : World) (m2 : fs.length ≤ 1048576) :
    Calls Try.prog 75 #[.int .i64 act, .slice a2 fs.length c2] w fun e w' => e = .returned (.bool (fitsD act fs)) ∧ w' = w := by
  by_cases k0 : act = 0
  · subst k0
    have HF : Hid (fitsD 0 fs = ((fs.length : Int) == 0)) := hid (by
      by_cases h : fs.length = 0
      · simp [fitsD, h]
      · have : ((fs.length : Int) == 0) = false := by simp; intro e; exact h (by simp [e])
        rw [this]; simp [fitsD]; intro e; exact h (by simp [e]))
    rw [HF.out]
    generalize fs.length = n at *
    go_enter Try.func75, Try.ntmps75
    go_wp2
    go_ret
    exact ⟨rfl, rfl⟩
  by_cases k1 : act = 1
  · subst k1
    have HF : Hid (fitsD 1 fs = decide (0 < fs.length)) := hid (by
      by_cases h : fs.length = 0
      · simp [fitsD, h]
      · rw [decide_eq_true (by omega)]
        simp [fitsD]; intro e; exact h (by simp [e]))
    rw [HF.out]
    generalize fs.length = n at *
    go_enter Try.func75, Try.ntmps75
    go_wp2
    go_ret
    exact ⟨rfl, rfl⟩
  · have HF : Hid (fitsD act fs = true) := hid (by simp [fitsD, k0, k1])
    rw [HF.out]
    have b0 : (act == 0) = false := by simpa using k0
    have b1 : (act == 1) = false := by simpa using k1
    go_enter Try.func75, Try.ntmps75
    go_wp2
    go_ret
    exact ⟨rfl, rfl⟩
theorem isNil (w : World) : (binOp .eql 24 (.slice none 0 0) (.slice none 0 0)).run Try.prog w = .ok (.bool true) w := by kernel_rfl
theorem notNil (w : World) (ad : Addr) (n c : Nat) : (binOp .eql 24 (.slice (some ad) n c) (.slice none 0 0)).run Try.prog w = .ok (.bool false) w := by kernel_rfl
set_option maxRecDepth 100000 in
set_option maxHeartbeats 1000000 in
theorem clone_any (a : Option Addr) (cap : Nat) (xs : List Nat) (w : World) (hr : RdSl cByte w xs (.slice a xs.length cap)) (hl : xs.length ≤ 1048576) :
    Calls Try.prog 62 #[.slice a xs.length cap] w fun e w' => ∃ v, e = .returned v ∧ w'.ownsRow w.heap.size 5 1 v xs.length (byt xs) ∧ Below w.heap.size w w' := by
  obtain ⟨i0, hi, hz0, hz1, hz2⟩ := info_parts infoByteT
  have HR := hid hr.rdB.1
  have HN := hid hr.nil0
  clear hr
  cases a with
  | none =>
    obtain ⟨e1, e2⟩ := HN.out rfl
    obtain rfl : xs = [] := List.length_eq_zero_iff.1 e1
    subst e2
    have hnl := isNil w
    go_enter Try.func62, Try.ntmps62
    go_wp2
    go_ret
    exact ⟨_, rfl, World.ownsRow_nil _ _ _ _, Below.refl _ _⟩
  | some ad =>
    have HB0 := hid (below_new1 w (.cells #[] 5))
    have HO0 : Hid ((w.alloc (.cells #[] 5)).ownsRow w.heap.size 5 1 (.slice (some ⟨w.heap.size, 0, none⟩) 0 0) 0 []) := hid ⟨rfl, .inr ⟨w.heap.size, 0, #[], rfl, Nat.le_refl _, heap_alloc_new w _, Nat.le_refl _, Nat.zero_le _, rfl, rfl⟩⟩
    have HR0 := hid (HR.out.later HB0.out)
    have hnl := notNil w ad xs.length cap
    go_enter Try.func62, Try.ntmps62
    go_wp2_with (first | (at_builtin; refine append_any rfl _ _ 24 rfl w.heap.size 5 i0 (.int .u8 0) 1 Try.underlying24 hi hz0 hz1 hz2 rfl _ 0 [] rfl HO0.out (some ad) xs.length cap (byt xs) rfl (byt_len _) HN.out HR0.out (byt_one _) (by unfold maxLen; omega) (by omega) (by simp) ?_))
    intro v' w1 hown hgrow
    have HB : Hid (Below w.heap.size w w1) := hid (HB0.out.grown hgrow (by simp) (fun k h => by simp [Value.ownBlock] at h; omega))
    have HO : Hid (w1.ownsRow w.heap.size 5 1 v' xs.length (byt xs)) := hid (by simpa using hown)
    clear hown hgrow
    go_wp2
    go_ret
    exact ⟨_, rfl, HO.out, HB.out⟩
set_option maxHeartbeats 2000000 in
theorem copyTexts_any (a : Option Addr) (cap : Nat) (xs : List (List Nat)) (w : World) (hr : RdSl cSS w xs (.slice a xs.length cap)) (ht : totL List.length xs ≤ 1048576) :
    Calls Try.prog 76 #[.slice a xs.length cap] w fun e w' => ∃ v bs, e = .returned v ∧ OwnSl cSS 24 w' xs v bs ∧ (∀ b ∈ bs, w.heap.size ≤ b) ∧ bs.Nodup ∧ Below w.heap.size w w' := by
  obtain ⟨i0, hi, hz0, hz1, hz2⟩ := info_parts infoSlT
  have HR := hid hr
  clear hr
  have hlen : xs.length ≤ 1048576 := by unfold totL at ht; omega
  go_enter Try.func76, Try.ntmps76
  go_wp2_with (first | (at_make; refine wpList_make_full _ rfl (.tmp 7) (.tmp 7) 22 rfl w.heap.size 24 i0 (.slice none 0 0) 1 Try.underlying22 hi hz0 hz1 .i64 .i64 _ _ xs.length rfl rfl rfl rfl (by rw [hz2]; omega) (by unfold maxLen; omega) (by simp) ?_))
  intro w1 ho hg1
  have HB1 : Hid (Below w.heap.size w w1) := hid ((Below.refl _ w).grown hg1 (Nat.le_refl _) (by intro k h; cases h))
  have HM : Hid (Made1 cSS 24 w w1 xs 0) := hid ⟨_, [], ho, rfl, fun i h h2 => by simp at h2, by simp, by simp⟩
  clear hg1 hi hz0 hz1 hz2 ho
  go_wp2
  go_loopw [4, 5, 11] (fun _ _ i wr => ∃ k : Nat, k ≤ xs.length ∧ i = .int .i64 k ∧ Made1 cSS 24 w wr xs k ∧ Below w.heap.size w wr) (fun _ _ i _ => xs.length - (intOf i).toNat)
  case atStart => exact ⟨0, Nat.zero_le _, rfl, HM.out, HB1.out⟩
  case round =>
    obtain ⟨k, hk, rfl, hm, hbe⟩ := hrel
    have HV := hid hm
    have HB := hid hbe
    clear hm hbe
    by_cases hlt : k < xs.length
    · obtain ⟨b, off, a', c', rfl, hcb, hrr⟩ := (HR.out.later HB.out).row hlt
      have HRR := hid hrr
      have HBY := hid hrr.rdB.2
      have hki : (k : Int) < (xs.length : Int) := by omega
      clear hrr
      go_wp2_with fail
      refine (clone_any a' c' xs[k] wr HRR.out (by have := tot_at List.length xs k hlt; unfold totL at ht; omega)).mono ?_
      rintro e w2 ⟨v2, rfl, o2, b2⟩
      obtain ⟨a2, c2, rfl, -⟩ := rd_own o2
      have hg2 : ∀ b ∈ (Value.slice a2 xs[k].length c2).ownBlock.toList, wr.heap.size ≤ b := fun b hb => (own_in o2 (by simpa using hb)).1
      have HN : Hid (Made1 cSS 24 w (w2.setCell ⟨w.heap.size, k, none⟩ (.slice a2 xs[k].length c2)) xs (k + 1)) := hid (HV.out.step hlt b2 ⟨_, rfl, ownSl_bytes o2 HBY.out⟩ hg2 (by cases (Value.slice a2 xs[k].length c2).ownBlock <;> simp))
      have HBB : Hid (Below w.heap.size w (w2.setCell ⟨w.heap.size, k, none⟩ (.slice a2 xs[k].length c2))) := hid ((HB.out.trans (b2.mono HB.out.size)).setCell (p := ⟨w.heap.size, k, none⟩) (Nat.le_refl _) _)
      obtain ⟨vs, hvl, how2⟩ := HV.out.row b2
      have f0 := how2.frozenAt k
      have q0 := how2.cellAt k (by omega)
      rw [List.getElem?_eq_getElem (by omega)] at q0
      generalize vs[k] = y0 at q0
      clear o2 b2 how2 hvl hg2
      go_wp2
      go_roundw
      case rel => exact ⟨k + 1, by omega, by go_num, HN.out, HBB.out⟩
      case measure => simp [intOf]; omega
    · obtain rfl : k = xs.length := by omega
      obtain ⟨bs, h1, h2, h3⟩ := HV.out.done rfl
      have HF := hid h1
      clear h1
      go_wp2
      go_ret
      exact ⟨_, bs, rfl, HF.out, h2, h3, HB.out⟩
end Go.Proofs.Ytcljakdcejhfiab
