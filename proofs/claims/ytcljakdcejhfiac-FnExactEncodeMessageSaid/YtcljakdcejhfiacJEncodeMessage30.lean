import Derived.Test.YtcljakdcejhfiacJEncodeMessage22
import Derived.Test.YtcljakdcejhfiacJEncodeMessage29
namespace Go.Proofs.Ytcljakdcejhfiac
open Go.RowKit
theorem tot_le_join (xss : List (List Nat)) : tot xss ≤ (join xss).length := by
  have key : ∀ k, k ≤ xss.length → tot (xss.take k) ≤ (join (xss.take k)).length := by
    intro k
    induction k with
    | zero => intro _; simp [tot]
    | succ k ih =>
      intro h
      have h1 := join_next xss k (by omega)
      have h2 := tot_snoc xss k (by omega)
      have h3 := (evn_le xss[k].length).1
      have := ih (by omega)
      omega
  have := key xss.length (Nat.le_refl _)
  rwa [List.take_length] at this
theorem encB_ge (m : PM) : tot m.bufs ≤ (encB m).length := by
  have h := tot_le_join (lensM m.bufs :: m.bufs)
  have h2 : tot (lensM m.bufs :: m.bufs) = 4 * m.bufs.length + tot m.bufs := by simp [tot, lensM_len]
  simp only [encB, encM, bodyM, List.length_append, headM_len]
  omega
theorem encR_bad {m : PM} (h : msgOK m = false) : encR m = [] := by unfold encR; rw [if_neg (by simp [h])]
theorem encR_big {m : PM} (h : 20000 < (encB m).length) : encR m = [] := by unfold encR; rw [if_neg (by omega)]
theorem encR_ok {m : PM} (h : msgOK m = true) (hl : (encB m).length ≤ 20000) : encR m = encB m := by unfold encR; rw [if_pos ⟨h, hl⟩]
theorem encR_len (m : PM) : (encR m).length ≤ 20000 := by
  unfold encR
  split
  · rename_i h; exact h.2
  · simp
set_option maxRecDepth 100000 in
set_option maxHeartbeats 4000000 in
theorem specEnc_any (m : PM) (a : Option Addr) (cap : Nat) (w : World) (hr : RdSl cSS w m.bufs (.slice a m.bufs.length cap)) (ht : totL List.length m.bufs ≤ 1048576) :
    Calls Try.prog 15 #[.agg #[.int .i64 m.kind, .int .i64 m.field, .int .i64 m.count, .slice a m.bufs.length cap]] w (EncPost w (encR m)) := by
  have HR := hid hr
  have hlen : m.bufs.length ≤ 1048576 ∧ tot m.bufs ≤ 1048576 := by rw [totL_tot] at ht; omega
  have HM : Hid (¬ (1 ≤ m.kind ∧ m.kind ≤ 4 ∧ 0 ≤ m.field ∧ m.field < 12 ∧ 0 ≤ m.count ∧ m.count ≤ 1000 ∧ m.bufs.length ≤ 40 ∧ (m.field = 0 ∨ m.kind = 2 ∨ m.kind = 3)) → encR m = []) := hid (fun h => encR_bad (by unfold msgOK; exact decide_eq_false h))
  clear hr
  by_cases k1 : m.kind < 1
  · have HE := hid (HM.out (by omega))
    go_enter Try.func15, Try.ntmps15
    go_wp2
    go_ret
    exact encPost_nil (below_new1 _ _) HE.out
  by_cases k2 : 4 < m.kind
  · have HE := hid (HM.out (by omega))
    go_enter Try.func15, Try.ntmps15
    go_wp2
    go_ret
    exact encPost_nil (below_new1 _ _) HE.out
  by_cases k3 : m.field < 0
  · have HE := hid (HM.out (by omega))
    go_enter Try.func15, Try.ntmps15
    go_wp2
    go_ret
    exact encPost_nil (below_new1 _ _) HE.out
  by_cases k4 : 12 ≤ m.field
  · have HE := hid (HM.out (by omega))
    go_enter Try.func15, Try.ntmps15
    go_wp2
    go_ret
    exact encPost_nil (below_new1 _ _) HE.out
  by_cases k5 : m.count < 0
  · have HE := hid (HM.out (by omega))
    go_enter Try.func15, Try.ntmps15
    go_wp2
    go_ret
    exact encPost_nil (below_new1 _ _) HE.out
  by_cases k6 : 1000 < m.count
  · have HE := hid (HM.out (by omega))
    go_enter Try.func15, Try.ntmps15
    go_wp2
    go_ret
    exact encPost_nil (below_new1 _ _) HE.out
  by_cases k7 : 40 < m.bufs.length
  · have HE := hid (HM.out (by omega))
    go_enter Try.func15, Try.ntmps15
    go_wp2
    go_ret
    exact encPost_nil (below_new1 _ _) HE.out
  have HGE := hid (encB_ge m)
  have HBG : Hid (20000 < (encB m).length → encR m = []) := hid (fun h => encR_big h)
  have HQ : Hid (tot m.bufs ≤ 20000 → Calls Try.prog 56 #[.agg #[.int .i64 m.kind, .int .i64 m.field, .int .i64 m.count, .slice a m.bufs.length cap]] (w.alloc (.cells #[.int .i64 m.kind, .int .i64 m.field, .int .i64 m.count, .slice a m.bufs.length cap] 39)) (EncPost (w.alloc (.cells #[.int .i64 m.kind, .int .i64 m.field, .int .i64 m.count, .slice a m.bufs.length cap] 39)) (encB m))) := hid (fun h => by
    have h2 := l4enc_any m.kind.toNat m.field.toNat m.count.toNat m.bufs a cap _ (HR.out.later (below_new1 w (.cells #[.int .i64 m.kind, .int .i64 m.field, .int .i64 m.count, .slice a m.bufs.length cap] 39))) (by omega) (by omega) (by omega) (by omega) (by omega)
    rw [Int.toNat_of_nonneg (by omega), Int.toNat_of_nonneg (by omega), Int.toNat_of_nonneg (by omega)] at h2
    exact h2)
  by_cases k8 : m.field = 0
  · have HOK : Hid ((encB m).length ≤ 20000 → encR m = encB m) := hid (fun h => encR_ok (by unfold msgOK; exact decide_eq_true (by omega)) h)
    have b8 : (m.field != 0) = false := by simpa using k8
    clear k8 HM
    go_enter Try.func15, Try.ntmps15
    go_wp2
    go_loop [3, 4] (fun s i => ∃ k : Nat, k ≤ m.bufs.length ∧ i = .int .i64 k ∧ s = .int .i64 ((tot (m.bufs.take k) : Nat) : Int)) (fun _ i => m.bufs.length - (intOf i).toNat)
    case atStart => exact ⟨0, Nat.zero_le _, rfl, by simp [tot]⟩
    case round =>
      obtain ⟨k, hk, rfl, rfl⟩ := hrel
      by_cases hlt : k < m.bufs.length
      · obtain ⟨b, off, a', c', rfl, hcb, -⟩ := (HR.out.later (below_new1 w (.cells #[.int .i64 m.kind, .int .i64 m.field, .int .i64 m.count, .slice a m.bufs.length cap] 39))).row hlt
        have hki : (k : Int) < (m.bufs.length : Int) := by omega
        have HTS := hid (tot_snoc m.bufs k hlt)
        have h3 := tot_take m.bufs k
        have h4 := len_le_tot m.bufs k hlt
        generalize tot (m.bufs.take k) = t at *
        go_wp2
        go_round
        case rel => exact ⟨k + 1, by omega, by go_num, by rw [HTS.out]; go_num⟩
        case measure => simp [intOf]; omega
      · obtain rfl : k = m.bufs.length := by omega
        have HF : Hid (tot (m.bufs.take m.bufs.length) = tot m.bufs) := hid (by rw [List.take_length])
        rw [HF.out]
        by_cases hbig : 20000 < tot m.bufs
        · have HE := hid (HBG.out (by have := HGE.out; omega))
          generalize tot m.bufs = t at *
          go_wp2
          go_ret
          exact encPost_nil (below_new1 _ _) HE.out
        · have HQ2 := hid (HQ.out (by omega))
          generalize tot m.bufs = t at *
          go_wp2_with fail
          refine HQ2.out.mono ?_
          rintro e w2 ⟨a2, c2, rfl, o2, b2⟩
          have HO := hid (own_mono o2 (show w.heap.size ≤ _ by simp))
          have HB : Hid (Below w.heap.size w w2) := hid ((below_new1 w _).trans (b2.mono (by simp)))
          clear o2 b2
          by_cases hl : 20000 < (encB m).length
          · have HE := hid (HBG.out hl)
            generalize (encB m).length = n at *
            go_wp2
            go_ret
            exact encPost_nil HB.out HE.out
          · have HE := hid (HOK.out (by omega))
            have HLN : Hid (encR m = encB m) := hid HE.out
            have hlen2 : (encB m).length ≤ 20000 := by omega
            go_wp2
            go_ret
            rw [HLN.out]
            exact ⟨a2, c2, rfl, HO.out, HB.out⟩
  have b8 : (m.field != 0) = true := by simpa using k8
  by_cases k9 : m.kind = 2
  · have HOK : Hid ((encB m).length ≤ 20000 → encR m = encB m) := hid (fun h => encR_ok (by unfold msgOK; exact decide_eq_true (by omega)) h)
    have b9 : (m.kind != 2) = false := by simpa using k9
    clear k9 k8 HM
    go_enter Try.func15, Try.ntmps15
    go_wp2
    go_loop [3, 4] (fun s i => ∃ k : Nat, k ≤ m.bufs.length ∧ i = .int .i64 k ∧ s = .int .i64 ((tot (m.bufs.take k) : Nat) : Int)) (fun _ i => m.bufs.length - (intOf i).toNat)
    case atStart => exact ⟨0, Nat.zero_le _, rfl, by simp [tot]⟩
    case round =>
      obtain ⟨k, hk, rfl, rfl⟩ := hrel
      by_cases hlt : k < m.bufs.length
      · obtain ⟨b, off, a', c', rfl, hcb, -⟩ := (HR.out.later (below_new1 w (.cells #[.int .i64 m.kind, .int .i64 m.field, .int .i64 m.count, .slice a m.bufs.length cap] 39))).row hlt
        have hki : (k : Int) < (m.bufs.length : Int) := by omega
        have HTS := hid (tot_snoc m.bufs k hlt)
        have h3 := tot_take m.bufs k
        have h4 := len_le_tot m.bufs k hlt
        generalize tot (m.bufs.take k) = t at *
        go_wp2
        go_round
        case rel => exact ⟨k + 1, by omega, by go_num, by rw [HTS.out]; go_num⟩
        case measure => simp [intOf]; omega
      · obtain rfl : k = m.bufs.length := by omega
        have HF : Hid (tot (m.bufs.take m.bufs.length) = tot m.bufs) := hid (by rw [List.take_length])
        rw [HF.out]
        by_cases hbig : 20000 < tot m.bufs
        · have HE := hid (HBG.out (by have := HGE.out; omega))
          generalize tot m.bufs = t at *
          go_wp2
          go_ret
          exact encPost_nil (below_new1 _ _) HE.out
        · have HQ2 := hid (HQ.out (by omega))
          generalize tot m.bufs = t at *
          go_wp2_with fail
          refine HQ2.out.mono ?_
          rintro e w2 ⟨a2, c2, rfl, o2, b2⟩
          have HO := hid (own_mono o2 (show w.heap.size ≤ _ by simp))
          have HB : Hid (Below w.heap.size w w2) := hid ((below_new1 w _).trans (b2.mono (by simp)))
          clear o2 b2
          by_cases hl : 20000 < (encB m).length
          · have HE := hid (HBG.out hl)
            generalize (encB m).length = n at *
            go_wp2
            go_ret
            exact encPost_nil HB.out HE.out
          · have HE := hid (HOK.out (by omega))
            have HLN : Hid (encR m = encB m) := hid HE.out
            have hlen2 : (encB m).length ≤ 20000 := by omega
            go_wp2
            go_ret
            rw [HLN.out]
            exact ⟨a2, c2, rfl, HO.out, HB.out⟩
  have b9 : (m.kind != 2) = true := by simpa using k9
  by_cases k10 : m.kind = 3
  · have HOK : Hid ((encB m).length ≤ 20000 → encR m = encB m) := hid (fun h => encR_ok (by unfold msgOK; exact decide_eq_true (by omega)) h)
    have b10 : (m.kind != 3) = false := by simpa using k10
    clear k10 k9 k8 HM
    go_enter Try.func15, Try.ntmps15
    go_wp2
    go_loop [3, 4] (fun s i => ∃ k : Nat, k ≤ m.bufs.length ∧ i = .int .i64 k ∧ s = .int .i64 ((tot (m.bufs.take k) : Nat) : Int)) (fun _ i => m.bufs.length - (intOf i).toNat)
    case atStart => exact ⟨0, Nat.zero_le _, rfl, by simp [tot]⟩
    case round =>
      obtain ⟨k, hk, rfl, rfl⟩ := hrel
      by_cases hlt : k < m.bufs.length
      · obtain ⟨b, off, a', c', rfl, hcb, -⟩ := (HR.out.later (below_new1 w (.cells #[.int .i64 m.kind, .int .i64 m.field, .int .i64 m.count, .slice a m.bufs.length cap] 39))).row hlt
        have hki : (k : Int) < (m.bufs.length : Int) := by omega
        have HTS := hid (tot_snoc m.bufs k hlt)
        have h3 := tot_take m.bufs k
        have h4 := len_le_tot m.bufs k hlt
        generalize tot (m.bufs.take k) = t at *
        go_wp2
        go_round
        case rel => exact ⟨k + 1, by omega, by go_num, by rw [HTS.out]; go_num⟩
        case measure => simp [intOf]; omega
      · obtain rfl : k = m.bufs.length := by omega
        have HF : Hid (tot (m.bufs.take m.bufs.length) = tot m.bufs) := hid (by rw [List.take_length])
        rw [HF.out]
        by_cases hbig : 20000 < tot m.bufs
        · have HE := hid (HBG.out (by have := HGE.out; omega))
          generalize tot m.bufs = t at *
          go_wp2
          go_ret
          exact encPost_nil (below_new1 _ _) HE.out
        · have HQ2 := hid (HQ.out (by omega))
          generalize tot m.bufs = t at *
          go_wp2_with fail
          refine HQ2.out.mono ?_
          rintro e w2 ⟨a2, c2, rfl, o2, b2⟩
          have HO := hid (own_mono o2 (show w.heap.size ≤ _ by simp))
          have HB : Hid (Below w.heap.size w w2) := hid ((below_new1 w _).trans (b2.mono (by simp)))
          clear o2 b2
          by_cases hl : 20000 < (encB m).length
          · have HE := hid (HBG.out hl)
            generalize (encB m).length = n at *
            go_wp2
            go_ret
            exact encPost_nil HB.out HE.out
          · have HE := hid (HOK.out (by omega))
            have HLN : Hid (encR m = encB m) := hid HE.out
            have hlen2 : (encB m).length ≤ 20000 := by omega
            go_wp2
            go_ret
            rw [HLN.out]
            exact ⟨a2, c2, rfl, HO.out, HB.out⟩
  have HE := hid (HM.out (by omega))
  have b10 : (m.kind != 3) = true := by simpa using k10
  clear k8 k9 k10
  go_enter Try.func15, Try.ntmps15
  go_wp2
  go_ret
  exact encPost_nil (below_new1 _ _) HE.out
end Go.Proofs.Ytcljakdcejhfiac
