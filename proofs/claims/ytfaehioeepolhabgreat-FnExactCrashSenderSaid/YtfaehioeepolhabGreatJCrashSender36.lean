import Derived.Test.YtfaehioeepolhabGreatJCrashSender35
namespace Go.Proofs.YtfaehioeepolhabGreat
open Go.RowKit
theorem tab_step (h x : Nat) (hh : h < 4294967296) (hx : x < 256) :
  bits .xor .u32 ((h : Int) / 256) ((csteps 8 (h % 256 ^^^ x) : Nat) : Int) = ((crcIn h x : Nat) : Int) := by
 have h1 : h % 256 ^^^ x < 256 := Nat.xor_lt_two_pow (n := 8) (by omega) (by omega)
 have := bits_xor_u32 (h / 256) (csteps 8 (h % 256 ^^^ x)) (by omega) (csteps_lt 8 (by omega))
 rw [crcIn_table, ← this]
 simp
set_option maxHeartbeats 800000 in
set_option maxRecDepth 100000 in
theorem implCrc_some (b off cap : Nat) (xs : List Nat) (w : World) (hx : ∀ i, (h : i < xs.length) → w.cell? ⟨b, off + i, none⟩ = some (.int .u8 (xs[i] : Int))) (hbB : xs ≠ [] → b < w.heap.size) (hb : ∀ x ∈ xs, x < 256) (hn : xs.length ≤ 1099511627776) :
  Calls Tryz.prog 174 #[.slice (some ⟨b, off, none⟩) xs.length cap] w fun e w' => e = .returned (.int .u32 ((crcFold xs ^^^ 4294967295 : Nat) : Int)) ∧ Below w.heap.size w w' := by
 obtain ⟨Z, hZ, hzv⟩ := zeroTab
 have HZ := hid hZ
 clear hZ
 go_enter Tryz.func174, Tryz.ntmps174
 go_wp2_with fail
 refine (crcTable_any w).mono ?_
 rintro e w1 ⟨rfl, hb1⟩
 have HB1 := hid hb1
 clear hb1
 have HT : Hid (∀ j, j < 256 → (u32s crcTab).toArray[j]? = some (.int .u32 ((csteps 8 j : Nat) : Int))) := hid (fun j hj => by rw [gA]; exact crcTab_at j hj)
 have HS : Hid ((u32s crcTab).toArray.size = 256) := hid (by rw [List.size_toArray, crcTab_len])
 have HI := hid (sizeTab _ crcTab_len)
 have H1 : Hid ((u32s crcTab).toArray.all (·.oneCell') = true) := hid (u32s_one _)
 generalize (u32s crcTab).toArray = T at *
 go_wp2_with (first | (refine wpList_store_row rfl 199 _ _ rfl w1.heap.size T rfl rfl 199 Z.toArray (heap_alloc_last w1 _) HI.out (by rw [HS.out, List.size_toArray]; exact HZ.out) H1.out ?_; rw [World.setRow_alloc_new]))
 clear hzv HZ H1 HI
 have HC : Hid (∀ j, j < 256 → (w1.alloc (.cells T 199)).cell? ⟨w1.heap.size, j, none⟩ = some (.int .u32 ((csteps 8 j : Nat) : Int))) := hid (fun j hj => by rw [cR _ _ j T 199 (0, 0) (heap_alloc_last w1 _)]; exact HT.out j hj)
 have HX : Hid (∀ i, (h : i < xs.length) → (w1.alloc (.cells T 199)).cell? ⟨b, off + i, none⟩ = some (.int .u8 (xs[i] : Int))) := hid (fun i h => by
  have hbb : Below w.heap.size w (w1.alloc (.cells T 199)) := HB1.out.alloc HB1.out.size _
  exact (hbb.cell (p := ⟨b, off + i, none⟩) (hbB (by intro e; simp [e] at h))).trans (hx i h))
 have HB2 : Hid (Below w.heap.size w (w1.alloc (.cells T 199))) := hid (HB1.out.alloc HB1.out.size _)
 clear HT HB1 hx hbB HS
 generalize w1.alloc (.cells T 199) = w2 at *
 generalize w1.heap.size = g at *
 clear w1
 go_loop [4, 10] (fun h i => ∃ k : Nat, k ≤ xs.length ∧ i = .int .i64 k ∧ h = .int .u32 ((crcFold (xs.take k) : Nat) : Int)) (fun _ i => xs.length - (intOf i).toNat)
 case atStart => exact ⟨0, Nat.zero_le _, rfl, rfl⟩
 case round =>
  obtain ⟨k, hk, rfl, rfl⟩ := hrel
  have hfl := crcTake_lt xs hb k
  by_cases hlt : k < xs.length
  ·have g1 := HX.out k hlt
   have hxk : xs[k] < 256 := hb _ (List.getElem_mem _)
   have hki : (k : Int) < (xs.length : Int) := by omega
   have HS : Hid (crcFold (xs.take (k + 1)) = crcIn (crcFold (xs.take k)) xs[k]) := foldl_snoc xs k hlt
   generalize crcFold (xs.take k) = h0 at *
   have HP := hid (tab_step h0 xs[k] hfl hxk)
   have hj : h0 % 256 ^^^ xs[k] < 256 := Nat.xor_lt_two_pow (n := 8) (by omega) (by omega)
   have hX : bits .xor .u8 ((h0 : Int) % 256) (xs[k] : Int) = ((h0 % 256 ^^^ xs[k] : Nat) : Int) := by
    simpa using bits_xor_u8 (h0 % 256) xs[k] (by omega) hxk
   have g2 := HC.out _ hj
   generalize h0 % 256 ^^^ xs[k] = j at *
   generalize csteps 8 j = s at *
   go_wp2
   go_round
   case rel => exact ⟨k + 1, by omega, by go_num, by rw [HS.out, ← HP.out]⟩
   case measure => simp [intOf]; omega
  ·obtain rfl : k = xs.length := by omega
   rw [List.take_length] at *
   have HF := hid (bits_xor_full (crcFold xs) hfl)
   go_wp2
   go_ret
   exact ⟨ret_int HF.out, HB2.out⟩
set_option maxHeartbeats 800000 in
set_option maxRecDepth 100000 in
theorem implCrc_zero (a : Option Addr) (cap : Nat) (w : World) :
  Calls Tryz.prog 174 #[.slice a 0 cap] w fun e w' => e = .returned (.int .u32 ((crcFold [] ^^^ 4294967295 : Nat) : Int)) ∧ Below w.heap.size w w' := by
 obtain ⟨Z, hZ, hzv⟩ := zeroTab
 have HZ := hid hZ
 clear hZ
 go_enter Tryz.func174, Tryz.ntmps174
 go_wp2_with fail
 refine (crcTable_any w).mono ?_
 rintro e w1 ⟨rfl, hb1⟩
 have HB1 := hid hb1
 clear hb1
 have HT : Hid (∀ j, j < 256 → (u32s crcTab).toArray[j]? = some (.int .u32 ((csteps 8 j : Nat) : Int))) := hid (fun j hj => by rw [gA]; exact crcTab_at j hj)
 have HS : Hid ((u32s crcTab).toArray.size = 256) := hid (by rw [List.size_toArray, crcTab_len])
 have HI := hid (sizeTab _ crcTab_len)
 have H1 : Hid ((u32s crcTab).toArray.all (·.oneCell') = true) := hid (u32s_one _)
 generalize (u32s crcTab).toArray = T at *
 go_wp2_with (first | (refine wpList_store_row rfl 199 _ _ rfl w1.heap.size T rfl rfl 199 Z.toArray (heap_alloc_last w1 _) HI.out (by rw [HS.out, List.size_toArray]; exact HZ.out) H1.out ?_; rw [World.setRow_alloc_new]))
 clear hzv HZ H1 HI
 have HB2 : Hid (Below w.heap.size w (w1.alloc (.cells T 199))) := hid (HB1.out.alloc HB1.out.size _)
 clear HT HB1 HS
 generalize w1.alloc (.cells T 199) = w2 at *
 generalize w1.heap.size = g at *
 clear w1
 have HF := hid (bits_xor_full 4294967295 (by decide))
 refine wp_loop_rounds 1 ?_; rw [rounds_succ]
 go_wp2
 go_ret
 exact ⟨by simpa [crcFold] using HF.out, HB2.out⟩
theorem implCrc_any (a : Option Addr) (cap : Nat) (xs : List Nat) (w : World) (hr : Rd w a (byt xs)) (hb : ∀ x ∈ xs, x < 256) (hn : xs.length ≤ 1099511627776) :
  Calls Tryz.prog 174 #[.slice a xs.length cap] w fun e w' => e = .returned (.int .u32 ((crcFold xs ^^^ 4294967295 : Nat) : Int)) ∧ Below w.heap.size w w' := by
 have hlt := hr.lt
 rcases hr with h0 | ⟨b, off, rfl, hc⟩
 ·obtain rfl : xs = [] := by simpa [byt] using h0
  exact implCrc_zero a cap w
 ·exact implCrc_some b off cap xs w (rdByte hc) (fun h => hlt _ rfl (by simpa [byt] using h)) hb hn
set_option maxHeartbeats 1000000 in
theorem aligned_any (n : Nat) (w : World) (hn : n ≤ 1099511627776) :
  Calls Tryz.prog 180 #[.int .i64 (n : Int)] w fun e w' => e = .returned (.int .i64 ((evn n : Nat) : Int)) ∧ w' = w := by
 have HE : Hid (((evn n : Nat) : Int) = ((n : Int) + 8 - 1) / 8 * 8) := hid (by unfold evn; omega)
 have h1 : (0 : Int) ≤ (n : Int) := by omega
 go_enter Tryz.func180, Tryz.ntmps180
 go_wp2
 go_ret
 refine ⟨ret_int ?_, rfl⟩
 rw [HE.out]
def sizeM (bs : List (List Nat)) : Nat := 12 + evn (4 * bs.length) + (bs.map fun b => evn b.length).sum
set_option maxHeartbeats 1000000 in
theorem messageSize_any (a : Option Addr) (cap : Nat) (bs : List (List Nat)) (w : World) (hr : RdSl cSS w bs (.slice a bs.length cap)) (ht : totL List.length bs ≤ 1048576) :
  Calls Tryz.prog 172 #[.slice a bs.length cap] w fun e w' => e = .returned (.int .i64 ((sizeM bs : Nat) : Int)) ∧ w' = w := by
 have HR := hid hr
 have hlen : bs.length ≤ 1048576 ∧ tot bs ≤ 1048576 := by rw [totL_tot] at ht; omega
 have hE := evn_le (4 * bs.length)
 have HQ : Hid (Calls Tryz.prog 180 #[.int .i64 (4 * (bs.length : Int))] w fun e w' => e = .returned (.int .i64 ((evn (4 * bs.length) : Nat) : Int)) ∧ w' = w) := hid (by
  have h := aligned_any (4 * bs.length) w (by omega)
  rw [show ((4 * bs.length : Nat) : Int) = 4 * (bs.length : Int) from by omega] at h
  exact h)
 have HS0 : Hid (sizeM bs = 12 + evn (4 * bs.length) + ((bs.take bs.length).map fun b => evn b.length).sum) := hid (by unfold sizeM; rw [List.take_length])
 clear hr
 generalize sizeM bs = S at *
 generalize evn (4 * bs.length) = E4 at *
 go_enter Tryz.func172, Tryz.ntmps172
 go_wp2_with fail
 refine HQ.out.mono ?_
 rintro e w1 ⟨rfl, rfl⟩
 go_wp2
 go_loop [3, 14] (fun s i => ∃ k : Nat, k ≤ bs.length ∧ i = .int .i64 k ∧ s = .int .i64 ((12 + E4 + ((bs.take k).map fun b => evn b.length).sum : Nat) : Int) ∧ ((bs.take k).map fun b => evn b.length).sum ≤ tot (bs.take k) + 7 * k) (fun _ i => bs.length - (intOf i).toNat)
 case atStart => exact ⟨0, Nat.zero_le _, rfl, by congr 2; simp; omega, by simp [tot]⟩
 case round =>
  obtain ⟨k, hk, rfl, rfl, hs⟩ := hrel
  by_cases hlt : k < bs.length
  ·obtain ⟨b, off, a', c', rfl, hcb, -⟩ := HR.out.row hlt
   have hki : (k : Int) < (bs.length : Int) := by omega
   have HTS := hid (tot_snoc bs k hlt)
   have HSS := hid (sum_snoc (fun b : List Nat => evn b.length) bs k hlt)
   have h3 := tot_take bs k
   have h4 := len_le_tot bs k hlt
   have hE2 := evn_le bs[k].length
   have HQ2 := hid (aligned_any bs[k].length w1 (by omega))
   generalize ((bs.take k).map fun b => evn b.length).sum = t at *
   generalize tot (bs.take k) = tk at *
   generalize evn bs[k].length = E2 at *
   go_wp2_with fail
   refine HQ2.out.mono ?_
   rintro e w2 ⟨rfl, rfl⟩
   go_wp2
   go_round
   case rel => exact ⟨k + 1, by omega, by go_num, by rw [HSS.out]; go_num, by rw [HSS.out, HTS.out]; omega⟩
   case measure => simp [intOf]; omega
  ·obtain rfl : k = bs.length := by omega
   rw [← HS0.out]
   clear hs
   go_wp2
   go_ret
   exact ⟨rfl, rfl⟩
theorem join_size (xss : List (List Nat)) : ∀ k, k ≤ xss.length → (join (xss.take k)).length = ((xss.take k).map fun b => evn b.length).sum := by
 intro k
 induction k with
 | zero => intro _; simp [join]
 | succ k ih => intro h; rw [join_next xss k h, ih (by omega), sum_snoc (fun b : List Nat => evn b.length) xss k h]
theorem sizeM_len (m : PM) : (encB m).length = sizeM m.bufs := by
 have h := join_size (lensM m.bufs :: m.bufs) (m.bufs.length + 1) (by simp)
 rw [List.take_of_length_le (by simp)] at h
 simp only [encB, encM, bodyM, List.length_append, headM_len, digs_len, h, sizeM, List.map_cons, List.sum_cons, lensM_len]
 omega
def fitK (f k : Int) : Bool := decide ((f = 0 ∧ (k = 1 ∨ k = 4)) ∨ (0 ≤ f ∧ f < 12 ∧ (k = 2 ∨ k = 3)))
set_option maxHeartbeats 2000000 in
theorem fitsKind_any (f k : Int) (w : World) :
  Calls Tryz.prog 171 #[.int .i64 f, .int .i64 k] w fun e w' => e = .returned (.bool (fitK f k)) ∧ w' = w := by
 have HT : Hid ((f = 0 ∧ (k = 1 ∨ k = 4)) ∨ (0 ≤ f ∧ f < 12 ∧ (k = 2 ∨ k = 3)) → fitK f k = true) := hid (fun h => by unfold fitK; exact decide_eq_true h)
 have HF : Hid (¬ ((f = 0 ∧ (k = 1 ∨ k = 4)) ∨ (0 ≤ f ∧ f < 12 ∧ (k = 2 ∨ k = 3))) → fitK f k = false) := hid (fun h => by unfold fitK; exact decide_eq_false h)
 generalize fitK f k = B at *
 by_cases k1 : k = 1
 ·subst k1
  by_cases f0 : f = 0
  ·subst f0
   have HB := hid (HT.out (by omega))
   go_enter Tryz.func171, Tryz.ntmps171
   go_wp2
   go_ret
   exact ⟨(by rw [HB.out]; first | done | rfl), rfl⟩
  ·have HB := hid (HF.out (by omega))
   have e0 : (f == 0) = false := by simpa using f0
   clear f0
   go_enter Tryz.func171, Tryz.ntmps171
   go_wp2
   go_ret
   exact ⟨(by rw [HB.out]; first | done | rfl), rfl⟩
 by_cases k4 : k = 4
 ·subst k4
  by_cases f0 : f = 0
  ·subst f0
   have HB := hid (HT.out (by omega))
   go_enter Tryz.func171, Tryz.ntmps171
   go_wp2
   go_ret
   exact ⟨(by rw [HB.out]; first | done | rfl), rfl⟩
  ·have HB := hid (HF.out (by omega))
   have e0 : (f == 0) = false := by simpa using f0
   clear f0
   go_enter Tryz.func171, Tryz.ntmps171
   go_wp2
   go_ret
   exact ⟨(by rw [HB.out]; first | done | rfl), rfl⟩
 have e1 : (k == 1) = false := by simpa using k1
 have e4 : (k == 4) = false := by simpa using k4
 by_cases k2 : k = 2 ∨ k = 3
 ·by_cases f0 : 0 ≤ f
  ·by_cases f1 : f < 12
   ·have HB := hid (HT.out (by omega))
    rcases k2 with rfl | rfl
    ·go_enter Tryz.func171, Tryz.ntmps171
     go_wp2
     go_ret
     exact ⟨(by rw [HB.out]; first | done | rfl), rfl⟩
    ·go_enter Tryz.func171, Tryz.ntmps171
     go_wp2
     go_ret
     exact ⟨(by rw [HB.out]; first | done | rfl), rfl⟩
   ·have HB := hid (HF.out (by omega))
    rcases k2 with rfl | rfl
    ·go_enter Tryz.func171, Tryz.ntmps171
     go_wp2
     go_ret
     exact ⟨(by rw [HB.out]; first | done | rfl), rfl⟩
    ·go_enter Tryz.func171, Tryz.ntmps171
     go_wp2
     go_ret
     exact ⟨(by rw [HB.out]; first | done | rfl), rfl⟩
  ·have HB := hid (HF.out (by omega))
   rcases k2 with rfl | rfl
   ·go_enter Tryz.func171, Tryz.ntmps171
    go_wp2
    go_ret
    exact ⟨(by rw [HB.out]; first | done | rfl), rfl⟩
   ·go_enter Tryz.func171, Tryz.ntmps171
    go_wp2
    go_ret
    exact ⟨(by rw [HB.out]; first | done | rfl), rfl⟩
 ·have HB := hid (HF.out (by omega))
  have e2 : (k == 2) = false := by simp; omega
  have e3 : (k == 3) = false := by simp; omega
  clear k1 k2 k4
  go_enter Tryz.func171, Tryz.ntmps171
  go_wp2
  go_ret
  exact ⟨(by rw [HB.out]; first | done | rfl), rfl⟩
def encOK (m : PM) : Bool := msgOK m && decide ((encB m).length ≤ 20000)
theorem encR_eq (m : PM) : encR m = if encOK m = true then encB m else [] := by
 unfold encR encOK; simp
set_option maxHeartbeats 2000000 in
theorem validMessage_any (m : PM) (a : Option Addr) (cap : Nat) (w : World) (hr : RdSl cSS w m.bufs (.slice a m.bufs.length cap)) (ht : totL List.length m.bufs ≤ 1048576) :
  Calls Tryz.prog 160 #[.agg #[.int .i64 m.kind, .int .i64 m.field, .int .i64 m.count, .slice a m.bufs.length cap]] w fun e w' => e = .returned (.bool (encOK m)) ∧ Below w.heap.size w w' := by
 have HR := hid hr
 have HL := hid (sizeM_len m)
 have HF : Hid (msgOK m = false → encOK m = false) := hid (fun h => by unfold encOK; rw [h]; rfl)
 have HM : Hid (msgOK m = decide (1 ≤ m.kind ∧ m.kind ≤ 4 ∧ 0 ≤ m.field ∧ m.field < 12 ∧ 0 ≤ m.count ∧ m.count ≤ 1000 ∧ m.bufs.length ≤ 40 ∧ (m.field = 0 ∨ m.kind = 2 ∨ m.kind = 3))) := hid rfl
 have HK : Hid (fitK m.field m.kind = decide ((m.field = 0 ∧ (m.kind = 1 ∨ m.kind = 4)) ∨ (0 ≤ m.field ∧ m.field < 12 ∧ (m.kind = 2 ∨ m.kind = 3)))) := hid rfl
 clear hr
 by_cases c1 : m.count < 0
 ·have HB := hid (HF.out (by rw [HM.out]; exact decide_eq_false (by omega)))
  go_enter Tryz.func160, Tryz.ntmps160
  go_wp2
  go_ret
  exact ⟨(by rw [HB.out]; first | done | rfl), bN _ _⟩
 by_cases c2 : 1000 < m.count
 ·have HB := hid (HF.out (by rw [HM.out]; exact decide_eq_false (by omega)))
  go_enter Tryz.func160, Tryz.ntmps160
  go_wp2
  go_ret
  exact ⟨(by rw [HB.out]; first | done | rfl), bN _ _⟩
 by_cases c3 : 40 < m.bufs.length
 ·have HB := hid (HF.out (by rw [HM.out]; exact decide_eq_false (by omega)))
  have c3' : (40 : Int) < (m.bufs.length : Int) := by omega
  go_enter Tryz.func160, Tryz.ntmps160
  go_wp2
  go_ret
  exact ⟨(by rw [HB.out]; first | done | rfl), bN _ _⟩
 have c3' : (m.bufs.length : Int) ≤ 40 := by omega
 have HS := hid (messageSize_any a cap m.bufs (w.alloc (.cells #[.int .i64 m.kind, .int .i64 m.field, .int .i64 m.count, .slice a m.bufs.length cap] 161)) (HR.out.later (bN _ _)) ht)
 cases hf : fitK m.field m.kind with
 | false =>
  have HB := hid (HF.out (by rw [HM.out]; refine decide_eq_false ?_; rw [HK.out] at hf; have := of_decide_eq_false hf; omega))
  have HFK := hid (fitsKind_any m.field m.kind (w.alloc (.cells #[.int .i64 m.kind, .int .i64 m.field, .int .i64 m.count, .slice a m.bufs.length cap] 161)))
  rw [hf] at HFK
  clear hf
  go_enter Tryz.func160, Tryz.ntmps160
  go_wp2_with fail
  refine HFK.out.mono ?_
  rintro e w1 ⟨rfl, rfl⟩
  go_wp2
  go_ret
  exact ⟨(by rw [HB.out]; first | done | rfl), bN _ _⟩
 | true =>
  have HB : Hid (encOK m = decide ((sizeM m.bufs : Int) ≤ 20000)) := hid (by
   unfold encOK
   rw [HM.out, decide_eq_true (by rw [HK.out] at hf; have := of_decide_eq_true hf; omega), Bool.true_and, HL.out]
   by_cases h : sizeM m.bufs ≤ 20000
   ·rw [decide_eq_true h, decide_eq_true (by omega)]
   ·rw [decide_eq_false h, decide_eq_false (by omega)])
  have HFK := hid (fitsKind_any m.field m.kind (w.alloc (.cells #[.int .i64 m.kind, .int .i64 m.field, .int .i64 m.count, .slice a m.bufs.length cap] 161)))
  rw [hf] at HFK
  rw [HB.out]
  clear hf
  generalize sizeM m.bufs = S at *
  go_enter Tryz.func160, Tryz.ntmps160
  go_wp2_with fail
  refine HFK.out.mono ?_
  rintro e w1 ⟨rfl, rfl⟩
  go_wp2_with fail
  refine HS.out.mono ?_
  rintro e w2 ⟨rfl, rfl⟩
  go_wp2
  go_ret
  exact ⟨rfl, bN _ _⟩
end Go.Proofs.YtfaehioeepolhabGreat
