import Derived.Test.YtcljakdcejhfiadJStartStream41
import Derived.Test.YtcljakdcejhfiadJStartStream43
namespace Go.Proofs.Ytcljakdcejhfiad
open Go.RowKit
set_option maxRecDepth 1000000 in
set_option maxHeartbeats 1000000 in
theorem aligned_any (n : Nat) (w : World) (hn : n ≤ 1099511627776) :
    Calls Try.prog 148 #[.int .i64 (n : Int)] w fun e w' => e = .returned (.int .i64 ((evn n : Nat) : Int)) ∧ w' = w := by
  have HE : Hid (((evn n : Nat) : Int) = ((n : Int) + 8 - 1) / 8 * 8) := hid (by unfold evn; omega)
  have h1 : (0 : Int) ≤ (n : Int) := by omega
  go_enter Try.func148, Try.ntmps148
  go_wp2
  go_ret
  refine ⟨ret_int ?_, rfl⟩
  rw [HE.out]
def sizeM (bs : List (List Nat)) : Nat := 12 + evn (4 * bs.length) + (bs.map fun b => evn b.length).sum
set_option maxRecDepth 1000000 in
set_option maxHeartbeats 1000000 in
theorem messageSize_any (a : Option Addr) (cap : Nat) (bs : List (List Nat)) (w : World) (hr : RdSl cSS w bs (.slice a bs.length cap)) (ht : totL List.length bs ≤ 1048576) :
    Calls Try.prog 143 #[.slice a bs.length cap] w fun e w' => e = .returned (.int .i64 ((sizeM bs : Nat) : Int)) ∧ w' = w := by
  have HR := hid hr
  have hlen : bs.length ≤ 1048576 ∧ tot bs ≤ 1048576 := by rw [totL_tot] at ht; omega
  have hE := evn_le (4 * bs.length)
  have HQ : Hid (Calls Try.prog 148 #[.int .i64 (4 * (bs.length : Int))] w fun e w' => e = .returned (.int .i64 ((evn (4 * bs.length) : Nat) : Int)) ∧ w' = w) := hid (by
    have h := aligned_any (4 * bs.length) w (by omega)
    rw [show ((4 * bs.length : Nat) : Int) = 4 * (bs.length : Int) from by omega] at h
    exact h)
  have HS0 : Hid (sizeM bs = 12 + evn (4 * bs.length) + ((bs.take bs.length).map fun b => evn b.length).sum) := hid (by unfold sizeM; rw [List.take_length])
  clear hr
  generalize sizeM bs = S at *
  generalize evn (4 * bs.length) = E4 at *
  go_enter Try.func143, Try.ntmps143
  go_wp2_with fail
  refine HQ.out.mono ?_
  rintro e w1 ⟨rfl, rfl⟩
  go_wp2
  go_loop [3, 14] (fun s i => ∃ k : Nat, k ≤ bs.length ∧ i = .int .i64 k ∧ s = .int .i64 ((12 + E4 + ((bs.take k).map fun b => evn b.length).sum : Nat) : Int) ∧ ((bs.take k).map fun b => evn b.length).sum ≤ tot (bs.take k) + 7 * k) (fun _ i => bs.length - (intOf i).toNat)
  case atStart => exact ⟨0, Nat.zero_le _, rfl, by congr 2; simp; omega, by simp [tot]⟩
  case round =>
    obtain ⟨k, hk, rfl, rfl, hs⟩ := hrel
    by_cases hlt : k < bs.length
    · obtain ⟨b, off, a', c', rfl, hcb, -⟩ := HR.out.row hlt
      have hki : (k : Int) < (bs.length : Int) := by omega
      have HTS := hid (tot_snoc bs k hlt)
      have HSS := hid (sum_snoc (fun b : List Nat => evn b.length) bs k hlt)
      have h3 := tot_take bs k
      have h4 := len_le_tot bs k hlt
      have hE2 := evn_le bs[k].length
      have HQ2 := hid (aligned_any bs[k].length w1 (by omega))
      generalize ((bs.take k).map fun b => evn b.length).sum = t at *
      generalize tot (bs.take k) = tk at *
      generalize evn bs[k].length = E2 at *
      go_wp2_with fail
      refine HQ2.out.mono ?_
      rintro e w2 ⟨rfl, rfl⟩
      go_wp2
      go_round
      case rel => exact ⟨k + 1, by omega, by go_num, by rw [HSS.out]; go_num, by rw [HSS.out, HTS.out]; omega⟩
      case measure => simp [intOf]; omega
    · obtain rfl : k = bs.length := by omega
      rw [← HS0.out]
      clear hs
      go_wp2
      go_ret
      exact ⟨rfl, rfl⟩
theorem join_size (xss : List (List Nat)) : ∀ k, k ≤ xss.length → (join (xss.take k)).length = ((xss.take k).map fun b => evn b.length).sum := by
  intro k
  induction k with
  | zero => intro _; simp [join]
  | succ k ih => intro h; rw [join_next xss k h, ih (by omega), sum_snoc (fun b : List Nat => evn b.length) xss k h]
theorem sizeM_len (m : PM) : (encB m).length = sizeM m.bufs := by
  have h := join_size (lensM m.bufs :: m.bufs) (m.bufs.length + 1) (by simp)
  rw [List.take_of_length_le (by simp)] at h
  simp only [encB, encM, bodyM, List.length_append, headM_len, digs_len, h, sizeM, List.map_cons, List.sum_cons, lensM_len]
  omega
def fitK (f k : Int) : Bool := decide ((f = 0 ∧ (k = 1 ∨ k = 4)) ∨ (0 ≤ f ∧ f < 12 ∧ (k = 2 ∨ k = 3)))
set_option maxRecDepth 1000000 in
set_option maxHeartbeats 2000000 in
theorem fitsKind_any (f k : Int) (w : World) :
    Calls Try.prog 142 #[.int .i64 f, .int .i64 k] w fun e w' => e = .returned (.bool (fitK f k)) ∧ w' = w := by
  have HT : Hid ((f = 0 ∧ (k = 1 ∨ k = 4)) ∨ (0 ≤ f ∧ f < 12 ∧ (k = 2 ∨ k = 3)) → fitK f k = true) := hid (fun h => by unfold fitK; exact decide_eq_true h)
  have HF : Hid (¬ ((f = 0 ∧ (k = 1 ∨ k = 4)) ∨ (0 ≤ f ∧ f < 12 ∧ (k = 2 ∨ k = 3))) → fitK f k = false) := hid (fun h => by unfold fitK; exact decide_eq_false h)
  generalize fitK f k = B at *
  by_cases k1 : k = 1
  · subst k1
    by_cases f0 : f = 0
    · subst f0
      have HB := hid (HT.out (by omega))
      go_enter Try.func142, Try.ntmps142
      go_wp2
      go_ret
      exact ⟨(by rw [HB.out]; first | done | rfl), rfl⟩
    · have HB := hid (HF.out (by omega))
      have e0 : (f == 0) = false := by simpa using f0
      clear f0
      go_enter Try.func142, Try.ntmps142
      go_wp2
      go_ret
      exact ⟨(by rw [HB.out]; first | done | rfl), rfl⟩
  by_cases k4 : k = 4
  · subst k4
    by_cases f0 : f = 0
    · subst f0
      have HB := hid (HT.out (by omega))
      go_enter Try.func142, Try.ntmps142
      go_wp2
      go_ret
      exact ⟨(by rw [HB.out]; first | done | rfl), rfl⟩
    · have HB := hid (HF.out (by omega))
      have e0 : (f == 0) = false := by simpa using f0
      clear f0
      go_enter Try.func142, Try.ntmps142
      go_wp2
      go_ret
      exact ⟨(by rw [HB.out]; first | done | rfl), rfl⟩
  have e1 : (k == 1) = false := by simpa using k1
  have e4 : (k == 4) = false := by simpa using k4
  by_cases k2 : k = 2 ∨ k = 3
  · by_cases f0 : 0 ≤ f
    · by_cases f1 : f < 12
      · have HB := hid (HT.out (by omega))
        rcases k2 with rfl | rfl
        · go_enter Try.func142, Try.ntmps142
          go_wp2
          go_ret
          exact ⟨(by rw [HB.out]; first | done | rfl), rfl⟩
        · go_enter Try.func142, Try.ntmps142
          go_wp2
          go_ret
          exact ⟨(by rw [HB.out]; first | done | rfl), rfl⟩
      · have HB := hid (HF.out (by omega))
        rcases k2 with rfl | rfl
        · go_enter Try.func142, Try.ntmps142
          go_wp2
          go_ret
          exact ⟨(by rw [HB.out]; first | done | rfl), rfl⟩
        · go_enter Try.func142, Try.ntmps142
          go_wp2
          go_ret
          exact ⟨(by rw [HB.out]; first | done | rfl), rfl⟩
    · have HB := hid (HF.out (by omega))
      rcases k2 with rfl | rfl
      · go_enter Try.func142, Try.ntmps142
        go_wp2
        go_ret
        exact ⟨(by rw [HB.out]; first | done | rfl), rfl⟩
      · go_enter Try.func142, Try.ntmps142
        go_wp2
        go_ret
        exact ⟨(by rw [HB.out]; first | done | rfl), rfl⟩
  · have HB := hid (HF.out (by omega))
    have e2 : (k == 2) = false := by simp; omega
    have e3 : (k == 3) = false := by simp; omega
    clear k1 k2 k4
    go_enter Try.func142, Try.ntmps142
    go_wp2
    go_ret
    exact ⟨(by rw [HB.out]; first | done | rfl), rfl⟩
def encOK (m : PM) : Bool := msgOK m && decide ((encB m).length ≤ 20000)
theorem encR_eq (m : PM) : encR m = if encOK m = true then encB m else [] := by
  unfold encR encOK; simp
set_option maxRecDepth 1000000 in
set_option maxHeartbeats 2000000 in
theorem validMessage_any (m : PM) (a : Option Addr) (cap : Nat) (w : World) (hr : RdSl cSS w m.bufs (.slice a m.bufs.length cap)) (ht : totL List.length m.bufs ≤ 1048576) :
    Calls Try.prog 126 #[.agg #[.int .i64 m.kind, .int .i64 m.field, .int .i64 m.count, .slice a m.bufs.length cap]] w fun e w' => e = .returned (.bool (encOK m)) ∧ Below w.heap.size w w' := by
  have HR := hid hr
  have HL := hid (sizeM_len m)
  have HF : Hid (msgOK m = false → encOK m = false) := hid (fun h => by unfold encOK; rw [h]; rfl)
  have HM : Hid (msgOK m = decide (1 ≤ m.kind ∧ m.kind ≤ 4 ∧ 0 ≤ m.field ∧ m.field < 12 ∧ 0 ≤ m.count ∧ m.count ≤ 1000 ∧ m.bufs.length ≤ 40 ∧ (m.field = 0 ∨ m.kind = 2 ∨ m.kind = 3))) := hid rfl
  have HK : Hid (fitK m.field m.kind = decide ((m.field = 0 ∧ (m.kind = 1 ∨ m.kind = 4)) ∨ (0 ≤ m.field ∧ m.field < 12 ∧ (m.kind = 2 ∨ m.kind = 3)))) := hid rfl
  clear hr
  by_cases c1 : m.count < 0
  · have HB := hid (HF.out (by rw [HM.out]; exact decide_eq_false (by omega)))
    go_enter Try.func126, Try.ntmps126
    go_wp2
    go_ret
    exact ⟨(by rw [HB.out]; first | done | rfl), below_new1 _ _⟩
  by_cases c2 : 1000 < m.count
  · have HB := hid (HF.out (by rw [HM.out]; exact decide_eq_false (by omega)))
    go_enter Try.func126, Try.ntmps126
    go_wp2
    go_ret
    exact ⟨(by rw [HB.out]; first | done | rfl), below_new1 _ _⟩
  by_cases c3 : 40 < m.bufs.length
  · have HB := hid (HF.out (by rw [HM.out]; exact decide_eq_false (by omega)))
    have c3' : (40 : Int) < (m.bufs.length : Int) := by omega
    go_enter Try.func126, Try.ntmps126
    go_wp2
    go_ret
    exact ⟨(by rw [HB.out]; first | done | rfl), below_new1 _ _⟩
  have c3' : (m.bufs.length : Int) ≤ 40 := by omega
  have HS := hid (messageSize_any a cap m.bufs (w.alloc (.cells #[.int .i64 m.kind, .int .i64 m.field, .int .i64 m.count, .slice a m.bufs.length cap] 121)) (HR.out.later (below_new1 _ _)) ht)
  cases hf : fitK m.field m.kind with
  | false =>
    have HB := hid (HF.out (by rw [HM.out]; refine decide_eq_false ?_; rw [HK.out] at hf; have := of_decide_eq_false hf; omega))
    have HFK := hid (fitsKind_any m.field m.kind (w.alloc (.cells #[.int .i64 m.kind, .int .i64 m.field, .int .i64 m.count, .slice a m.bufs.length cap] 121)))
    rw [hf] at HFK
    clear hf
    go_enter Try.func126, Try.ntmps126
    go_wp2_with fail
    refine HFK.out.mono ?_
    rintro e w1 ⟨rfl, rfl⟩
    go_wp2
    go_ret
    exact ⟨(by rw [HB.out]; first | done | rfl), below_new1 _ _⟩
  | true =>
    have HB : Hid (encOK m = decide ((sizeM m.bufs : Int) ≤ 20000)) := hid (by
      unfold encOK
      rw [HM.out, decide_eq_true (by rw [HK.out] at hf; have := of_decide_eq_true hf; omega), Bool.true_and, HL.out]
      by_cases h : sizeM m.bufs ≤ 20000
      · rw [decide_eq_true h, decide_eq_true (by omega)]
      · rw [decide_eq_false h, decide_eq_false (by omega)])
    have HFK := hid (fitsKind_any m.field m.kind (w.alloc (.cells #[.int .i64 m.kind, .int .i64 m.field, .int .i64 m.count, .slice a m.bufs.length cap] 121)))
    rw [hf] at HFK
    rw [HB.out]
    clear hf
    generalize sizeM m.bufs = S at *
    go_enter Try.func126, Try.ntmps126
    go_wp2_with fail
    refine HFK.out.mono ?_
    rintro e w1 ⟨rfl, rfl⟩
    go_wp2_with fail
    refine HS.out.mono ?_
    rintro e w2 ⟨rfl, rfl⟩
    go_wp2
    go_ret
    exact ⟨rfl, below_new1 _ _⟩
end Go.Proofs.Ytcljakdcejhfiad
