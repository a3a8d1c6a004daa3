/- EncI1, EncI2. -/
import Derived.Test.YtnoajjkbmdicfaaEncSpec
import Derived.Test.YtnoajjkbmdicfaaBAppN
import Derived.Test.YtnoajjkbmdicfaaBCrc
/- impl's small functions of messages: alignedSize, messageSize, fieldFitsKind, validMessage, lengthsOf, withChecksum. -/
namespace Go.Proofs.Ytnoajjkbmdicfaa
open Go.RowKit

set_option maxRecDepth 1000000 in
set_option maxHeartbeats 1000000 in
theorem aligned_any (n : Nat) (w : World) (hn : n ≤ 1099511627776) :
    Calls Try.prog 76 #[.int .i64 (n : Int)] w fun e w' => e = .returned (.int .i64 ((evn n : Nat) : Int)) ∧ w' = w := by
  have HE : Hid (((evn n : Nat) : Int) = ((n : Int) + 8 - 1) / 8 * 8) := hid (by unfold evn; omega)
  have h1 : (0 : Int) ≤ (n : Int) := by omega
  go_enter Try.func76, Try.ntmps76
  go_wp2
  go_ret
  refine ⟨ret_int ?_, rfl⟩
  rw [HE.out]

/-- What messageSize answers. -/
def sizeM (bs : List (List Nat)) : Nat := 12 + evn (4 * bs.length) + (bs.map fun b => evn b.length).sum

set_option maxRecDepth 1000000 in
set_option maxHeartbeats 1000000 in
theorem messageSize_any (a : Option Addr) (cap : Nat) (bs : List (List Nat)) (w : World) (hr : RdSl cSS w bs (.slice a bs.length cap)) (ht : totL List.length bs ≤ 1048576) :
    Calls Try.prog 62 #[.slice a bs.length cap] w fun e w' => e = .returned (.int .i64 ((sizeM bs : Nat) : Int)) ∧ w' = w := by
  have HR := hid hr
  have hlen : bs.length ≤ 1048576 ∧ tot bs ≤ 1048576 := by rw [totL_tot] at ht; omega
  have hE := evn_le (4 * bs.length)
  have HQ : Hid (Calls Try.prog 76 #[.int .i64 (4 * (bs.length : Int))] w fun e w' => e = .returned (.int .i64 ((evn (4 * bs.length) : Nat) : Int)) ∧ w' = w) := hid (by
    have h := aligned_any (4 * bs.length) w (by omega)
    rw [show ((4 * bs.length : Nat) : Int) = 4 * (bs.length : Int) from by omega] at h
    exact h)
  have HS0 : Hid (sizeM bs = 12 + evn (4 * bs.length) + ((bs.take bs.length).map fun b => evn b.length).sum) := hid (by unfold sizeM; rw [List.take_length])
  clear hr
  generalize sizeM bs = S at *
  generalize evn (4 * bs.length) = E4 at *
  go_enter Try.func62, Try.ntmps62
  go_wp2_with fail
  refine HQ.out.mono ?_
  rintro e w1 ⟨rfl, rfl⟩
  go_wp2
  go_loop [3, 14] (fun s i => ∃ k : Nat, k ≤ bs.length ∧ i = .int .i64 k ∧ s = .int .i64 ((12 + E4 + ((bs.take k).map fun b => evn b.length).sum : Nat) : Int) ∧ ((bs.take k).map fun b => evn b.length).sum ≤ tot (bs.take k) + 7 * k) (fun _ i => bs.length - (intOf i).toNat)
  case atStart => exact ⟨0, Nat.zero_le _, rfl, by congr 2; simp; omega, by simp [tot]⟩
  case round =>
    obtain ⟨k, hk, rfl, rfl, hs⟩ := hrel
    by_cases hlt : k < bs.length
    · obtain ⟨b, off, a', c', rfl, hcb, -⟩ := HR.out.row hlt
      have hki : (k : Int) < (bs.length : Int) := by omega
      have HTS := hid (tot_snoc bs k hlt)
      have HSS := hid (sum_snoc (fun b : List Nat => evn b.length) bs k hlt)
      have h3 := tot_take bs k
      have h4 := len_le_tot bs k hlt
      have hE2 := evn_le bs[k].length
      have HQ2 := hid (aligned_any bs[k].length w1 (by omega))
      generalize ((bs.take k).map fun b => evn b.length).sum = t at *
      generalize tot (bs.take k) = tk at *
      generalize evn bs[k].length = E2 at *
      go_wp2_with fail
      refine HQ2.out.mono ?_
      rintro e w2 ⟨rfl, rfl⟩
      go_wp2
      go_round
      case rel => exact ⟨k + 1, by omega, by go_num, by rw [HSS.out]; go_num, by rw [HSS.out, HTS.out]; omega⟩
      case measure => simp [intOf]; omega
    · obtain rfl : k = bs.length := by omega
      rw [← HS0.out]
      clear hs
      go_wp2
      go_ret
      exact ⟨rfl, rfl⟩

theorem join_size (xss : List (List Nat)) : ∀ k, k ≤ xss.length → (join (xss.take k)).length = ((xss.take k).map fun b => evn b.length).sum := by
  intro k
  induction k with
  | zero => intro _; simp [join]
  | succ k ih => intro h; rw [join_next xss k h, ih (by omega), sum_snoc (fun b : List Nat => evn b.length) xss k h]
theorem sizeM_len (m : PM) : (encB m).length = sizeM m.bufs := by
  have h := join_size (lensM m.bufs :: m.bufs) (m.bufs.length + 1) (by simp)
  rw [List.take_of_length_le (by simp)] at h
  simp only [encB, encM, bodyM, List.length_append, headM_len, digs_len, h, sizeM, List.map_cons, List.sum_cons, lensM_len]
  omega

/-- Does a field's number fit the kind? -/
def fitK (f k : Int) : Bool := decide ((f = 0 ∧ (k = 1 ∨ k = 4)) ∨ (0 ≤ f ∧ f < 12 ∧ (k = 2 ∨ k = 3)))

set_option maxRecDepth 1000000 in
set_option maxHeartbeats 2000000 in
theorem fitsKind_any (f k : Int) (w : World) :
    Calls Try.prog 61 #[.int .i64 f, .int .i64 k] w fun e w' => e = .returned (.bool (fitK f k)) ∧ w' = w := by
  have HT : Hid ((f = 0 ∧ (k = 1 ∨ k = 4)) ∨ (0 ≤ f ∧ f < 12 ∧ (k = 2 ∨ k = 3)) → fitK f k = true) := hid (fun h => by unfold fitK; exact decide_eq_true h)
  have HF : Hid (¬ ((f = 0 ∧ (k = 1 ∨ k = 4)) ∨ (0 ≤ f ∧ f < 12 ∧ (k = 2 ∨ k = 3))) → fitK f k = false) := hid (fun h => by unfold fitK; exact decide_eq_false h)
  generalize fitK f k = B at *
  by_cases k1 : k = 1
  · subst k1
    by_cases f0 : f = 0
    · subst f0
      have HB := hid (HT.out (by omega))
      go_enter Try.func61, Try.ntmps61
      go_wp2
      go_ret
      exact ⟨(by rw [HB.out]; first | done | rfl), rfl⟩
    · have HB := hid (HF.out (by omega))
      have e0 : (f == 0) = false := by simpa using f0
      clear f0
      go_enter Try.func61, Try.ntmps61
      go_wp2
      go_ret
      exact ⟨(by rw [HB.out]; first | done | rfl), rfl⟩
  by_cases k4 : k = 4
  · subst k4
    by_cases f0 : f = 0
    · subst f0
      have HB := hid (HT.out (by omega))
      go_enter Try.func61, Try.ntmps61
      go_wp2
      go_ret
      exact ⟨(by rw [HB.out]; first | done | rfl), rfl⟩
    · have HB := hid (HF.out (by omega))
      have e0 : (f == 0) = false := by simpa using f0
      clear f0
      go_enter Try.func61, Try.ntmps61
      go_wp2
      go_ret
      exact ⟨(by rw [HB.out]; first | done | rfl), rfl⟩
  have e1 : (k == 1) = false := by simpa using k1
  have e4 : (k == 4) = false := by simpa using k4
  by_cases k2 : k = 2 ∨ k = 3
  · by_cases f0 : 0 ≤ f
    · by_cases f1 : f < 12
      · have HB := hid (HT.out (by omega))
        rcases k2 with rfl | rfl
        · go_enter Try.func61, Try.ntmps61
          go_wp2
          go_ret
          exact ⟨(by rw [HB.out]; first | done | rfl), rfl⟩
        · go_enter Try.func61, Try.ntmps61
          go_wp2
          go_ret
          exact ⟨(by rw [HB.out]; first | done | rfl), rfl⟩
      · have HB := hid (HF.out (by omega))
        rcases k2 with rfl | rfl
        · go_enter Try.func61, Try.ntmps61
          go_wp2
          go_ret
          exact ⟨(by rw [HB.out]; first | done | rfl), rfl⟩
        · go_enter Try.func61, Try.ntmps61
          go_wp2
          go_ret
          exact ⟨(by rw [HB.out]; first | done | rfl), rfl⟩
    · have HB := hid (HF.out (by omega))
      rcases k2 with rfl | rfl
      · go_enter Try.func61, Try.ntmps61
        go_wp2
        go_ret
        exact ⟨(by rw [HB.out]; first | done | rfl), rfl⟩
      · go_enter Try.func61, Try.ntmps61
        go_wp2
        go_ret
        exact ⟨(by rw [HB.out]; first | done | rfl), rfl⟩
  · have HB := hid (HF.out (by omega))
    have e2 : (k == 2) = false := by simp; omega
    have e3 : (k == 3) = false := by simp; omega
    clear k1 k2 k4
    go_enter Try.func61, Try.ntmps61
    go_wp2
    go_ret
    exact ⟨(by rw [HB.out]; first | done | rfl), rfl⟩

/-- Is it to be encoded? -/
def encOK (m : PM) : Bool := msgOK m && decide ((encB m).length ≤ 20000)
theorem encR_eq (m : PM) : encR m = if encOK m = true then encB m else [] := by
  unfold encR encOK; simp

set_option maxRecDepth 1000000 in
set_option maxHeartbeats 2000000 in
theorem validMessage_any (m : PM) (a : Option Addr) (cap : Nat) (w : World) (hr : RdSl cSS w m.bufs (.slice a m.bufs.length cap)) (ht : totL List.length m.bufs ≤ 1048576) :
    Calls Try.prog 31 #[.agg #[.int .i64 m.kind, .int .i64 m.field, .int .i64 m.count, .slice a m.bufs.length cap]] w fun e w' => e = .returned (.bool (encOK m)) ∧ Below w.heap.size w w' := by
  have HR := hid hr
  have HL := hid (sizeM_len m)
  have HF : Hid (msgOK m = false → encOK m = false) := hid (fun h => by unfold encOK; rw [h]; rfl)
  have HM : Hid (msgOK m = decide (1 ≤ m.kind ∧ m.kind ≤ 4 ∧ 0 ≤ m.field ∧ m.field < 12 ∧ 0 ≤ m.count ∧ m.count ≤ 1000 ∧ m.bufs.length ≤ 40 ∧ (m.field = 0 ∨ m.kind = 2 ∨ m.kind = 3))) := hid rfl
  have HK : Hid (fitK m.field m.kind = decide ((m.field = 0 ∧ (m.kind = 1 ∨ m.kind = 4)) ∨ (0 ≤ m.field ∧ m.field < 12 ∧ (m.kind = 2 ∨ m.kind = 3)))) := hid rfl
  clear hr
  by_cases c1 : m.count < 0
  · have HB := hid (HF.out (by rw [HM.out]; exact decide_eq_false (by omega)))
    go_enter Try.func31, Try.ntmps31
    go_wp2
    go_ret
    exact ⟨(by rw [HB.out]; first | done | rfl), below_new1 _ _⟩
  by_cases c2 : 1000 < m.count
  · have HB := hid (HF.out (by rw [HM.out]; exact decide_eq_false (by omega)))
    go_enter Try.func31, Try.ntmps31
    go_wp2
    go_ret
    exact ⟨(by rw [HB.out]; first | done | rfl), below_new1 _ _⟩
  by_cases c3 : 40 < m.bufs.length
  · have HB := hid (HF.out (by rw [HM.out]; exact decide_eq_false (by omega)))
    have c3' : (40 : Int) < (m.bufs.length : Int) := by omega
    go_enter Try.func31, Try.ntmps31
    go_wp2
    go_ret
    exact ⟨(by rw [HB.out]; first | done | rfl), below_new1 _ _⟩
  have c3' : (m.bufs.length : Int) ≤ 40 := by omega
  have HS := hid (messageSize_any a cap m.bufs (w.alloc (.cells #[.int .i64 m.kind, .int .i64 m.field, .int .i64 m.count, .slice a m.bufs.length cap] 28)) (HR.out.later (below_new1 _ _)) ht)
  cases hf : fitK m.field m.kind with
  | false =>
    have HB := hid (HF.out (by rw [HM.out]; refine decide_eq_false ?_; rw [HK.out] at hf; have := of_decide_eq_false hf; omega))
    have HFK := hid (fitsKind_any m.field m.kind (w.alloc (.cells #[.int .i64 m.kind, .int .i64 m.field, .int .i64 m.count, .slice a m.bufs.length cap] 28)))
    rw [hf] at HFK
    clear hf
    go_enter Try.func31, Try.ntmps31
    go_wp2_with fail
    refine HFK.out.mono ?_
    rintro e w1 ⟨rfl, rfl⟩
    go_wp2
    go_ret
    exact ⟨(by rw [HB.out]; first | done | rfl), below_new1 _ _⟩
  | true =>
    have HB : Hid (encOK m = decide ((sizeM m.bufs : Int) ≤ 20000)) := hid (by
      unfold encOK
      rw [HM.out, decide_eq_true (by rw [HK.out] at hf; have := of_decide_eq_true hf; omega), Bool.true_and, HL.out]
      by_cases h : sizeM m.bufs ≤ 20000
      · rw [decide_eq_true h, decide_eq_true (by omega)]
      · rw [decide_eq_false h, decide_eq_false (by omega)])
    have HFK := hid (fitsKind_any m.field m.kind (w.alloc (.cells #[.int .i64 m.kind, .int .i64 m.field, .int .i64 m.count, .slice a m.bufs.length cap] 28)))
    rw [hf] at HFK
    rw [HB.out]
    clear hf
    generalize sizeM m.bufs = S at *
    go_enter Try.func31, Try.ntmps31
    go_wp2_with fail
    refine HFK.out.mono ?_
    rintro e w1 ⟨rfl, rfl⟩
    go_wp2_with fail
    refine HS.out.mono ?_
    rintro e w2 ⟨rfl, rfl⟩
    go_wp2
    go_ret
    exact ⟨rfl, below_new1 _ _⟩

end Go.Proofs.Ytnoajjkbmdicfaa

/- impl.lengthsOf and impl.withChecksum. -/
namespace Go.Proofs.Ytnoajjkbmdicfaa
open Go.RowKit

theorem u32_wrap (n : Nat) (h : n < 4294967296) : IntKind.u32.wrap (n : Int) = n := by
  simp [IntKind.wrap, IntKind.bits, IntKind.signed]; omega

set_option maxRecDepth 1000000 in
set_option maxHeartbeats 1000000 in
theorem lengthsOf_any (a : Option Addr) (cap : Nat) (bs : List (List Nat)) (w : World) (hr : RdSl cSS w bs (.slice a bs.length cap)) (ht : totL List.length bs ≤ 1048576) :
    Calls Try.prog 36 #[.slice a bs.length cap] w fun e w' => ∃ v, e = .returned v ∧ w'.ownsRow w.heap.size 5 1 v (4 * bs.length) (byt (lensM bs)) ∧ Below w.heap.size w w' := by
  have HR := hid hr
  have hlen : bs.length ≤ 1048576 ∧ tot bs ≤ 1048576 := by rw [totL_tot] at ht; omega
  clear hr
  go_enter Try.func36, Try.ntmps36
  go_wp2
  go_loopw [3, 8] (fun v i wr => ∃ k : Nat, k ≤ bs.length ∧ i = .int .i64 k ∧ wr.ownsRow w.heap.size 5 1 v (4 * k) (byt (lensM (bs.take k))) ∧ Below w.heap.size w wr) (fun _ i _ => bs.length - (intOf i).toNat)
  case atStart => exact ⟨0, Nat.zero_le _, rfl, by simpa [lensM, byt] using World.ownsRow_nil _ _ _ _, Below.refl _ _⟩
  case round =>
    obtain ⟨k, hk, rfl, how, hbe⟩ := hrel
    have HO := hid how
    have HB := hid hbe
    clear how hbe
    by_cases hlt : k < bs.length
    · obtain ⟨b, off, a', c', rfl, hcb, -⟩ := (HR.out.later HB.out).row hlt
      have hlk := len_le_tot bs k hlt
      have hki : (k : Int) < (bs.length : Int) := by omega
      have hs := HB.out.size
      have hu := u32_wrap bs[k].length (by omega)
      have HS : Hid (lensM (bs.take (k + 1)) = lensM (bs.take k) ++ digs (U (bs[k].length : Int)) 4) := hid (by rw [lensM_snoc bs k hlt, U_nat _ (by omega)])
      have HQ := hid (fun v (h : wr.ownsRow w.heap.size 5 1 v (4 * k) (byt (lensM (bs.take k)))) => app_u32 w.heap.size v (4 * k) (lensM (bs.take k)) (bs[k].length : Int) wr h hs (by omega) (by unfold IntIn; omega))
      go_wp2_with fail
      refine (HQ.out _ HO.out).mono ?_
      rintro e w2 ⟨v2, rfl, o2, b2⟩
      have HO2 : Hid (w2.ownsRow w.heap.size 5 1 v2 (4 * (k + 1)) (byt (lensM (bs.take (k + 1))))) := hid (by rw [HS.out]; exact o2)
      have HB2 : Hid (Below w.heap.size w w2) := hid (HB.out.trans b2)
      clear o2 b2 HQ HO
      go_wp2
      go_roundw
      case rel => exact ⟨k + 1, by omega, by go_num, HO2.out, HB2.out⟩
      case measure => simp [intOf]; omega
    · obtain rfl : k = bs.length := by omega
      have hO := HO.out
      rw [List.take_length] at hO
      have HO2 := hid hO
      clear hO HO
      go_wp2
      go_ret
      exact ⟨_, rfl, HO2.out, HB.out⟩

/-- Parts one behind another. -/
def catL (ps : List (List Nat)) : List Nat := ps.flatMap id
theorem catL_snoc (ps : List (List Nat)) (k : Nat) (h : k < ps.length) : catL (ps.take (k + 1)) = catL (ps.take k) ++ ps[k] := by
  unfold catL
  rw [List.take_succ_eq_append_getElem h, List.flatMap_append]; simp
theorem catL_tot (ps : List (List Nat)) : (catL ps).length = tot ps := by
  unfold catL tot
  rw [List.length_flatMap]; rfl
theorem catL_lt {ps : List (List Nat)} (h : ∀ t ∈ ps, ∀ x ∈ t, x < 256) : ∀ x ∈ catL ps, x < 256 := by
  intro x hx
  simp only [catL, List.mem_flatMap, id] at hx
  obtain ⟨t, h1, h2⟩ := hx
  exact h t h1 x h2

set_option maxRecDepth 1000000 in
set_option maxHeartbeats 1000000 in
theorem withChecksum_any (a : Option Addr) (cap : Nat) (ps : List (List Nat)) (w : World) (hr : RdSl cSS w ps (.slice a ps.length cap)) (ht : totL List.length ps ≤ 104857600) :
    Calls Try.prog 32 #[.slice a ps.length cap] w fun e w' => ∃ v, e = .returned v ∧ w'.ownsRow w.heap.size 5 1 v ((catL ps).length + 4) (byt (catL ps ++ digs (crcM (catL ps)) 4)) ∧ Below w.heap.size w w' := by
  obtain ⟨i0, hi, hz0, hz1, hz2⟩ := info_parts infoByteM
  have HR := hid hr
  have HA := hid hr.allOK
  have hlen : ps.length ≤ 104857600 ∧ tot ps ≤ 104857600 := by rw [totL_tot] at ht; omega
  have hXl : (catL ps).length ≤ 104857600 := by rw [catL_tot]; omega
  have HXB := hid (catL_lt HA.out)
  have HCL := hid (crcM_lt (catL ps) HXB.out)
  generalize hX : catL ps = X at *
  have HX := hid hX
  clear hr hX
  go_enter Try.func32, Try.ntmps32
  go_wp2
  go_loopw [3, 8] (fun v i wr => ∃ k : Nat, k ≤ ps.length ∧ i = .int .i64 k ∧ wr.ownsRow w.heap.size 5 1 v (catL (ps.take k)).length (byt (catL (ps.take k))) ∧ Below w.heap.size w wr) (fun _ i _ => ps.length - (intOf i).toNat)
  case atStart => exact ⟨0, Nat.zero_le _, rfl, by simpa [catL, byt] using World.ownsRow_nil _ _ _ _, Below.refl _ _⟩
  case round =>
    obtain ⟨k, hk, rfl, how, hbe⟩ := hrel
    have HO := hid how
    have HB := hid hbe
    clear how hbe
    have hs := HB.out.size
    by_cases hlt : k < ps.length
    · obtain ⟨b, off, a', c', rfl, hcb, hrr⟩ := (HR.out.later HB.out).row hlt
      have hlk := len_le_tot ps k hlt
      have hki : (k : Int) < (ps.length : Int) := by omega
      have h3 := tot_take ps k
      have HCT := hid (catL_tot (ps.take k))
      have hCL : (catL (ps.take k)).length ≤ 104857600 := by rw [HCT.out]; omega
      have HS := hid (catL_snoc ps k hlt)
      have HRD := hid hrr.rdB.1
      have HNI := hid hrr.nil0
      clear hrr
      generalize catL (ps.take k) = X at *
      go_wp2_with (first | (at_builtin; refine append_any rfl _ _ 26 rfl w.heap.size 5 i0 (.int .u8 0) 1 Try.underlying26 hi hz0 hz1 hz2 rfl _ X.length _ rfl HO.out a' ps[k].length c' (byt ps[k]) rfl (byt_len _) HNI.out HRD.out (byt_one _) (by unfold maxLen; omega) (by omega) hs ?_))
      intro v' w9 hown' hgrow
      have HN : Hid (w9.ownsRow w.heap.size 5 1 v' (catL (ps.take (k + 1))).length (byt (catL (ps.take (k + 1))))) := hid (by rw [HS.out, byt_append, List.length_append]; exact hown')
      have HB9 : Hid (Below w.heap.size w w9) := hid (HB.out.grown hgrow hs (fun p hp => (own_in HO.out hp).1))
      clear hown' hgrow HO
      go_wp2
      go_roundw
      case rel => exact ⟨k + 1, by omega, by go_num, HN.out, HB9.out⟩
      case measure => simp [intOf]; omega
    · obtain rfl : k = ps.length := by omega
      have hO := HO.out
      rw [List.take_length, HX.out] at hO
      obtain ⟨aX, cX, rfl, hRX⟩ := rd_own hO
      have HO2 := hid hO
      have HQ := hid (implCrc_any aX cX X wr hRX HXB.out (by omega))
      rw [show (crcFold X ^^^ 4294967295 : Nat) = crcM X from rfl] at HQ
      clear hO HO hRX
      have HC4 : Hid (U (crcM X : Int) = crcM X) := hid (U_nat _ (by have := HCL.out; omega))
      have hci : IntIn (crcM X : Int) := by have := HCL.out; unfold IntIn; omega
      have HCI := hid hci
      clear hci
      generalize hC : crcM X = C at HQ HC4 HCI
      have HC := hid hC
      clear hC
      go_wp2_with fail
      refine HQ.out.mono ?_
      rintro e w2 ⟨rfl, b2⟩
      have hs2 : w.heap.size ≤ w2.heap.size := Nat.le_trans hs b2.size
      have HO3 := hid (own_later HO2.out b2)
      have HB2 := hid (below_chain HB.out b2)
      clear b2
      go_wp2_with fail
      refine (app_u32 w.heap.size _ X.length X (C : Int) w2 HO3.out hs2 (by omega) HCI.out).mono ?_
      rintro e w3 ⟨v3, rfl, o3, b3⟩
      rw [HC4.out, ← HC.out] at o3
      have HO4 := hid o3
      have HB3 : Hid (Below w.heap.size w w3) := hid (HB2.out.trans b3)
      clear o3 b3
      go_wp2
      go_ret
      exact ⟨_, rfl, HO4.out, HB3.out⟩

end Go.Proofs.Ytnoajjkbmdicfaa
