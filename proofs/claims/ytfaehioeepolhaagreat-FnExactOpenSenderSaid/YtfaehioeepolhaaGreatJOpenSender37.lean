import Derived.Test.YtfaehioeepolhaaGreatJOpenSender0
import Derived.Test.YtfaehioeepolhaaGreatJOpenSender11
import Derived.Test.YtfaehioeepolhaaGreatJOpenSender26
import Derived.Test.YtfaehioeepolhaaGreatJOpenSender19
import Derived.Test.YtfaehioeepolhaaGreatJOpenSender9
import Derived.Deep.WholeRow
import Derived.Laws.CopyOwn
namespace Go.Proofs.YtfaehioeepolhaaGreat
open Go.RowKit
set_option maxHeartbeats 1000000 in
theorem validNext_any (n : Int) (w : World) :
    Calls Tryz.prog 92 #[.int .i64 n] w fun e w' => e = .returned (.bool (decide (0 ≤ n ∧ n ≤ 1000000000))) ∧ w' = w := by
  by_cases h1 : 0 ≤ n
  · by_cases h2 : n ≤ 1000000000
    · rw [decide_eq_true ⟨h1, h2⟩]
      go_enter Tryz.func92, Tryz.ntmps92
      go_wp2
      go_ret
      exact ⟨rfl, rfl⟩
    · rw [decide_eq_false (fun h => h2 h.2)]
      go_enter Tryz.func92, Tryz.ntmps92
      go_wp2
      go_ret
      exact ⟨rfl, rfl⟩
  · rw [decide_eq_false (fun h => h1 h.1)]
    go_enter Tryz.func92, Tryz.ntmps92
    go_wp2
    go_ret
    exact ⟨rfl, rfl⟩
end Go.Proofs.YtfaehioeepolhaaGreat
namespace Go.Proofs.YtfaehioeepolhaaGreat
open Go.RowKit
theorem tot_le_join (xss : List (List Nat)) : tot xss ≤ (join xss).length := by
  have key : ∀ k, k ≤ xss.length → tot (xss.take k) ≤ (join (xss.take k)).length := by
    intro k
    induction k with
    | zero => intro _; simp [tot]
    | succ k ih =>
      intro h
      have h1 := join_next xss k (by omega)
      have h2 := tot_snoc xss k (by omega)
      have h3 := (evn_le xss[k].length).1
      have := ih (by omega)
      omega
  have := key xss.length (Nat.le_refl _)
  rwa [List.take_length] at this
theorem encR_ok {m : PM} (h : msgOK m = true) (hl : (encB m).length ≤ 20000) : encR m = encB m := by unfold encR; rw [if_pos ⟨h, hl⟩]
end Go.Proofs.YtfaehioeepolhaaGreat
namespace Go.Proofs.YtfaehioeepolhaaGreat
open Go.RowKit
set_option maxHeartbeats 1000000 in
set_option maxRecDepth 100000 in
theorem app_u32 (B : Nat) (v : Value) (n : Nat) (xs : List Nat) (N : Int) (w : World) (ho : w.ownsRow B 5 1 v n (byt xs)) (hB : B ≤ w.heap.size) (hn : n ≤ 1099511627776) (hN : IntIn N) :
    Calls Tryz.prog 197 #[v, .int .u32 N, .int .i64 4] w fun e w' => ∃ v', e = .returned v' ∧ w'.ownsRow B 5 1 v' (n + 4) (byt (xs ++ digs (U N) 4)) ∧ Below B w w' := by
  obtain ⟨i0, hi, hz0, hz1, hz2⟩ := info_parts infoByteP
  have hU := U_eq N
  have HL := hid (U_lt N)
  have HN' := hid hN
  have HO0 := hid ho
  clear hN ho
  generalize U N = u at *
  go_enter Tryz.func197, Tryz.ntmps197
  go_wp2
  go_loopw [0, 7, 11] (fun o r i wr => ∃ k : Nat, k ≤ 4 ∧ i = .int .i64 k ∧ r = .int .u64 ((u / 256 ^ k : Nat) : Int) ∧ wr.ownsRow B 5 1 o (n + k) (byt (xs ++ (digs u 4).take k)) ∧ Below B w wr) (fun _ _ i _ => 4 - (intOf i).toNat)
  case atStart => exact ⟨0, Nat.zero_le _, rfl, by simp, by simpa using HO0.out, Below.refl _ _⟩
  case round =>
    obtain ⟨k, hk, rfl, rfl, how, hbe⟩ := hrel
    have HO := hid how
    have HB := hid hbe
    clear how hbe hU
    by_cases hlt : k < 4
    · have HD := hid (digs_snoc u 4 k hlt)
      have HN := hid (div_next u k)
      have HR := hid (div_lt u k HL.out)
      have hBr : B ≤ wr.heap.size := Nat.le_trans hB HB.out.size
      generalize u / 256 ^ k = R at *
      have hki : decide ((k : Int) < 4) = true := by simp; omega
      go_wp2_with (first | (at_builtin; refine wpList_append_own _ rfl _ _ 23 rfl B 5 i0 (.int .u8 0) 1 1 Tryz.underlying23 hi hz0 hz1 hz2 rfl (by decide) _ (n + k) _ rfl (HO.out.alloc _) ⟨wr.heap.size, 0, none⟩ 1 1 [.int .u8 ((R : Int) % 256)] rfl rfl (cell_one_new _ _ _) (one_cell rfl) (by unfold maxLen; omega) (by omega) (by simp; omega) ?_))
      intro v' w1 hown' hgrow _
      have HB1 : Hid (Below B w w1) := hid ((HB.out.alloc hBr _).grown hgrow (by simp; omega) (fun k h => (World.ownsRow.lt HO.out k h).1))
      have HO1 : Hid (w1.ownsRow B 5 1 v' (n + (k + 1)) (byt (xs ++ (digs u 4).take (k + 1)))) := hid (by
        rw [HD.out, ← List.append_assoc, byt_snoc, ← Nat.add_assoc]
        simpa using hown')
      clear hown' hgrow
      go_wp2
      go_roundw
      case rel => exact ⟨k + 1, by omega, by go_num, by rw [← HN.out]; simp, HO1.out, HB1.out⟩
      case measure => simp [intOf]; omega
    · have hki : decide ((k : Int) < 4) = false := by simp; omega
      have HK : Hid (k = 4) := hid (by omega)
      have hO := HO.out
      rw [HK.out, List.take_of_length_le (by rw [digs_len]; exact Nat.le_refl _)] at hO
      have HO2 := hid hO
      clear hO HO
      go_wp2
      go_ret
      exact ⟨_, rfl, HO2.out, HB.out⟩
end Go.Proofs.YtfaehioeepolhaaGreat
namespace Go.Proofs.YtfaehioeepolhaaGreat
open Go.RowKit
def u32s (xs : List Nat) : List Value := xs.map fun x : Nat => Value.int .u32 (x : Int)
def crcTab : List Nat := (List.range 256).map (csteps 8)
theorem crcTab_len : (u32s crcTab).length = 256 := by simp [u32s, crcTab]
theorem crcTab_at (k : Nat) (h : k < 256) : (u32s crcTab)[k]? = some (.int .u32 ((csteps 8 k : Nat) : Int)) := by simp [u32s, crcTab, h]
theorem u32s_one (xs : List Nat) : (u32s xs).toArray.all (·.oneCell') = true := by
  rw [Array.all_eq_true_iff_forall_mem]
  intro v hv
  simp [u32s] at hv
  obtain ⟨x, _, rfl⟩ := hv
  rfl
theorem infoTab : (Tryz.prog.info? 224).map (fun i => (i.zero, i.size)) = some (some (.agg (Array.replicate 256 (.int .u32 0))), 256) := by kernel_rfl
theorem zeroTab : ∃ Z : List Value, Z.length = 256 ∧ (∀ w, (zeroValue 224).run Tryz.prog w = .ok (.agg Z.toArray) w) :=
  ⟨(Array.replicate 256 (.int .u32 0)).toList, by rw [Array.length_toList, Array.size_replicate], fun w => by rw [Array.toArray_toList]; exact (zero_of_info infoTab).1 w⟩
theorem sizeTab (vs : List Value) (h : vs.length = 256) : (Tryz.prog.info? 224).map (·.size) = some vs.toArray.size := by
  rw [(zero_of_info infoTab).2]; simp [h]
theorem own_block {w : World} {B g : Nat} {e : TypeId} {vs : List Value} (hg : B ≤ g) (hh : w.heap[g]? = some (.cells vs.toArray e (0, 0))) (hl : vs.length ≤ maxLen) : w.ownsRow B e 1 (.slice (some ⟨g, 0, none⟩) vs.length vs.length) vs.length vs :=
  ⟨by omega, .inr ⟨g, vs.length, vs.toArray, rfl, hg, hh, Nat.le_refl _, hl, by simp, by simp⟩⟩
theorem block_own {w : World} {B g n : Nat} {e : TypeId} {vs : List Value} (h : w.ownsRow B e 1 (.slice (some ⟨g, 0, none⟩) n n) n vs) : w.heap[g]? = some (.cells vs.toArray e (0, 0)) := by
  rcases h.2 with ⟨h', _⟩ | ⟨g', cap', cur, h', _, hg, _, _, hs, ht⟩
  · simp at h'
  · simp only [Value.slice.injEq, Option.some.injEq, Addr.mk.injEq, and_true, true_and] at h'
    obtain ⟨rfl, rfl⟩ := h'
    rw [hg]
    have : cur.toList = vs := by rw [← ht, List.take_of_length_le (by simp; omega)]
    rw [← this]
set_option maxHeartbeats 800000 in
set_option maxRecDepth 100000 in
theorem crcTable_any (w : World) :
    Calls Tryz.prog 205 #[] w fun e w' => e = .returned (.agg (u32s crcTab).toArray) ∧ Below w.heap.size w w' := by
  obtain ⟨Z, hZ, hzv⟩ := zeroTab
  go_enter Tryz.func205, Tryz.ntmps205
  go_wp2
  clear hzv
  have hs0 : ((w.alloc (.cells Z.toArray 224)).alloc (.cells Z.toArray 224)).heap[w.heap.size]? = some (.cells Z.toArray 224 (0, 0)) := heap_alloc2_old _ _ _
  have hs1 : ((w.alloc (.cells Z.toArray 224)).alloc (.cells Z.toArray 224)).heap[w.heap.size + 1]? = some (.cells Z.toArray 224 (0, 0)) := heap_alloc2_new _ _ _
  have hb0 : Below w.heap.size w ((w.alloc (.cells Z.toArray 224)).alloc (.cells Z.toArray 224)) := ((Below.refl _ _).alloc (Nat.le_refl _) _).alloc (by simp) _
  go_loopw [4] (fun i wr => ∃ k : Nat, k ≤ 256 ∧ i = .int .i64 k ∧ wr.ownsRow (w.heap.size + 1) 224 1 (.slice (some ⟨w.heap.size + 1, 0, none⟩) 256 256) 256 ((u32s crcTab).take k ++ Z.drop k) ∧ wr.heap[w.heap.size]? = some (.cells Z.toArray 224 (0, 0)) ∧ Below w.heap.size w wr) (fun i _ => 256 - (intOf i).toNat)
  case atStart =>
    refine ⟨0, Nat.zero_le _, rfl, ?_, hs0, hb0⟩
    have := own_block (B := w.heap.size + 1) (Nat.le_refl _) hs1 (by rw [hZ]; decide)
    rw [hZ] at this
    simpa using this
  case round =>
    obtain ⟨k, hk, rfl, how, h0, hbe⟩ := hrel
    clear hs0 hs1 hb0
    have HO := hid how
    have H0 := hid h0
    have HB := hid hbe
    have HZ := hid hZ
    clear how h0 hbe hZ
    by_cases hlt : k < 256
    · have hki : decide ((k : Int) < 256) = true := by simp; omega
      go_wp2
      go_loop [3, 9] (fun h i => ∃ j : Nat, j ≤ 8 ∧ i = .int .i64 j ∧ h = .int .u32 ((csteps j k : Nat) : Int)) (fun _ i => 8 - (intOf i).toNat)
      case atStart => exact ⟨0, Nat.zero_le _, rfl, rfl⟩
      case round =>
        obtain ⟨j, hj, rfl, rfl⟩ := hrel
        have hsl := csteps_lt j (h := k) (by omega)
        have HJ : Hid (csteps (j + 1) k = cstep (csteps j k)) := rfl
        by_cases hj8 : j < 8
        · generalize csteps j k = s at *
          by_cases hod : s % 2 = 1
          · have ht : ((s : Int) % 2 == 1) = true := by simp; omega
            have HX : Hid (bits .xor .u32 ((s : Int) / 2) 3988292384 = ((cstep s : Nat) : Int)) := xor_odd hsl hod
            clear hod
            go_wp2
            go_round
            case rel => exact ⟨j + 1, by omega, by go_num, by rw [HJ.out, ← HX.out]⟩
            case measure => simp [intOf]; omega
          · have ht : ((s : Int) % 2 == 1) = false := by simp; omega
            have HX : Hid (((s : Int) / 2) = ((cstep s : Nat) : Int)) := hid (by rw [cstep_not hod]; simp)
            clear hod
            go_wp2
            go_round
            case rel => exact ⟨j + 1, by omega, by go_num, by rw [HJ.out, ← HX.out]⟩
            case measure => simp [intOf]; omega
        · obtain rfl : j = 8 := by omega
          have hfz := HO.out.frozenAt k
          obtain ⟨o, hco⟩ := own_cell HO.out hlt
          have hR := hid (fill_round crcTab_len HZ.out (crcTab_at k hlt) (Nat.le_refl _) HO.out (Below.refl (w.heap.size + 1) wr))
          have hR0 : Hid ((wr.setCell ⟨w.heap.size + 1, k, none⟩ (.int .u32 ((csteps 8 k : Nat) : Int))).heap[w.heap.size]? = some (.cells Z.toArray 224 (0, 0))) := hid ((Below.heap_setCell wr _ _ w.heap.size (by simp)).trans H0.out)
          generalize csteps 8 k = s8 at *
          go_wp2
          go_roundw
          case rel => exact ⟨k + 1, by omega, by go_num, hR.out.1, hR0.out, HB.out.setCell (by simp) _⟩
          case measure => simp [intOf]; omega
    · have hki : decide ((k : Int) < 256) = false := by simp; omega
      have HK : Hid (k = 256) := hid (by omega)
      have hD := HO.out
      rw [HK.out, fill_done crcTab_len HZ.out] at hD
      have hD' := block_own hD
      clear HO hD
      have hT := sizeTab _ crcTab_len
      have hS : (u32s crcTab).toArray.size = 256 := by rw [List.size_toArray, crcTab_len]
      have HT : Hid ((u32s crcTab).toArray.all (·.oneCell') = true) := hid (u32s_one _)
      generalize hTE : (u32s crcTab).toArray = T at *
      have HE := hid hTE
      clear hTE
      have HS := hid hS
      have HI := hid hT
      clear hS hT
      go_wp2_with (first | (refine wpList_load_row rfl 224 _ rfl (w.heap.size + 1) rfl 224 _ (0, 0) _ hD' Tryz.underlying224 rfl HI.out ?_) | (refine wpList_store_row rfl 224 _ _ rfl w.heap.size T rfl rfl 224 Z.toArray H0.out HI.out (by rw [HS.out, List.size_toArray]; exact HZ.out) HT.out ?_))
      refine bodyPost_ret (v := .agg T) (results_cell_row Tryz.results205 _ _ w.heap.size 224 T (0, 0) _ rfl (setRow_heap wr w.heap.size Z.toArray T 224 (0, 0) H0.out) Tryz.underlying224 rfl HI.out) rfl ⟨by rw [HE.out], ?_⟩
      exact below_setRow HB.out (Nat.le_refl _) T
end Go.Proofs.YtfaehioeepolhaaGreat
namespace Go.Proofs.YtfaehioeepolhaaGreat
open Go.RowKit
theorem tab_step (h x : Nat) (hh : h < 4294967296) (hx : x < 256) :
    bits .xor .u32 ((h : Int) / 256) ((csteps 8 (h % 256 ^^^ x) : Nat) : Int) = ((crcIn h x : Nat) : Int) := by
  have h1 : h % 256 ^^^ x < 256 := Nat.xor_lt_two_pow (n := 8) (by omega) (by omega)
  have := bits_xor_u32 (h / 256) (csteps 8 (h % 256 ^^^ x)) (by omega) (csteps_lt 8 (by omega))
  rw [crcIn_table, ← this]
  simp
set_option maxHeartbeats 800000 in
set_option maxRecDepth 100000 in
theorem implCrc_some (b off cap : Nat) (xs : List Nat) (w : World) (hx : ∀ i, (h : i < xs.length) → w.cell? ⟨b, off + i, none⟩ = some (.int .u8 (xs[i] : Int))) (hbB : xs ≠ [] → b < w.heap.size) (hb : ∀ x ∈ xs, x < 256) (hn : xs.length ≤ 1099511627776) :
    Calls Tryz.prog 198 #[.slice (some ⟨b, off, none⟩) xs.length cap] w fun e w' => e = .returned (.int .u32 ((crcFold xs ^^^ 4294967295 : Nat) : Int)) ∧ Below w.heap.size w w' := by
  obtain ⟨Z, hZ, hzv⟩ := zeroTab
  have HZ := hid hZ
  clear hZ
  go_enter Tryz.func198, Tryz.ntmps198
  go_wp2_with fail
  refine (crcTable_any w).mono ?_
  rintro e w1 ⟨rfl, hb1⟩
  have HB1 := hid hb1
  clear hb1
  have HT : Hid (∀ j, j < 256 → (u32s crcTab).toArray[j]? = some (.int .u32 ((csteps 8 j : Nat) : Int))) := hid (fun j hj => by rw [List.getElem?_toArray]; exact crcTab_at j hj)
  have HS : Hid ((u32s crcTab).toArray.size = 256) := hid (by rw [List.size_toArray, crcTab_len])
  have HI := hid (sizeTab _ crcTab_len)
  have H1 : Hid ((u32s crcTab).toArray.all (·.oneCell') = true) := hid (u32s_one _)
  generalize (u32s crcTab).toArray = T at *
  go_wp2_with (first | (refine wpList_store_row rfl 224 _ _ rfl w1.heap.size T rfl rfl 224 Z.toArray (heap_alloc_last w1 _) HI.out (by rw [HS.out, List.size_toArray]; exact HZ.out) H1.out ?_; rw [World.setRow_alloc_new]))
  clear hzv HZ H1 HI
  have HC : Hid (∀ j, j < 256 → (w1.alloc (.cells T 224)).cell? ⟨w1.heap.size, j, none⟩ = some (.int .u32 ((csteps 8 j : Nat) : Int))) := hid (fun j hj => by rw [cell_of_row _ _ j T 224 (0, 0) (heap_alloc_last w1 _)]; exact HT.out j hj)
  have HX : Hid (∀ i, (h : i < xs.length) → (w1.alloc (.cells T 224)).cell? ⟨b, off + i, none⟩ = some (.int .u8 (xs[i] : Int))) := hid (fun i h => by
    have hbb : Below w.heap.size w (w1.alloc (.cells T 224)) := HB1.out.alloc HB1.out.size _
    exact (hbb.cell (p := ⟨b, off + i, none⟩) (hbB (by intro e; simp [e] at h))).trans (hx i h))
  have HB2 : Hid (Below w.heap.size w (w1.alloc (.cells T 224))) := hid (HB1.out.alloc HB1.out.size _)
  clear HT HB1 hx hbB HS
  generalize w1.alloc (.cells T 224) = w2 at *
  generalize w1.heap.size = g at *
  clear w1
  go_loop [4, 10] (fun h i => ∃ k : Nat, k ≤ xs.length ∧ i = .int .i64 k ∧ h = .int .u32 ((crcFold (xs.take k) : Nat) : Int)) (fun _ i => xs.length - (intOf i).toNat)
  case atStart => exact ⟨0, Nat.zero_le _, rfl, rfl⟩
  case round =>
    obtain ⟨k, hk, rfl, rfl⟩ := hrel
    have hfl := crcTake_lt xs hb k
    by_cases hlt : k < xs.length
    · have g1 := HX.out k hlt
      have hxk : xs[k] < 256 := hb _ (List.getElem_mem _)
      have hki : (k : Int) < (xs.length : Int) := by omega
      have HS : Hid (crcFold (xs.take (k + 1)) = crcIn (crcFold (xs.take k)) xs[k]) := foldl_snoc xs k hlt
      generalize crcFold (xs.take k) = h0 at *
      have HP := hid (tab_step h0 xs[k] hfl hxk)
      have hj : h0 % 256 ^^^ xs[k] < 256 := Nat.xor_lt_two_pow (n := 8) (by omega) (by omega)
      have hX : bits .xor .u8 ((h0 : Int) % 256) (xs[k] : Int) = ((h0 % 256 ^^^ xs[k] : Nat) : Int) := by
        simpa using bits_xor_u8 (h0 % 256) xs[k] (by omega) hxk
      have g2 := HC.out _ hj
      generalize h0 % 256 ^^^ xs[k] = j at *
      generalize csteps 8 j = s at *
      go_wp2
      go_round
      case rel => exact ⟨k + 1, by omega, by go_num, by rw [HS.out, ← HP.out]⟩
      case measure => simp [intOf]; omega
    · obtain rfl : k = xs.length := by omega
      rw [List.take_length] at *
      have HF := hid (bits_xor_full (crcFold xs) hfl)
      go_wp2
      go_ret
      exact ⟨ret_int HF.out, HB2.out⟩
set_option maxHeartbeats 800000 in
set_option maxRecDepth 100000 in
theorem implCrc_zero (a : Option Addr) (cap : Nat) (w : World) :
    Calls Tryz.prog 198 #[.slice a 0 cap] w fun e w' => e = .returned (.int .u32 ((crcFold [] ^^^ 4294967295 : Nat) : Int)) ∧ Below w.heap.size w w' := by
  obtain ⟨Z, hZ, hzv⟩ := zeroTab
  have HZ := hid hZ
  clear hZ
  go_enter Tryz.func198, Tryz.ntmps198
  go_wp2_with fail
  refine (crcTable_any w).mono ?_
  rintro e w1 ⟨rfl, hb1⟩
  have HB1 := hid hb1
  clear hb1
  have HT : Hid (∀ j, j < 256 → (u32s crcTab).toArray[j]? = some (.int .u32 ((csteps 8 j : Nat) : Int))) := hid (fun j hj => by rw [List.getElem?_toArray]; exact crcTab_at j hj)
  have HS : Hid ((u32s crcTab).toArray.size = 256) := hid (by rw [List.size_toArray, crcTab_len])
  have HI := hid (sizeTab _ crcTab_len)
  have H1 : Hid ((u32s crcTab).toArray.all (·.oneCell') = true) := hid (u32s_one _)
  generalize (u32s crcTab).toArray = T at *
  go_wp2_with (first | (refine wpList_store_row rfl 224 _ _ rfl w1.heap.size T rfl rfl 224 Z.toArray (heap_alloc_last w1 _) HI.out (by rw [HS.out, List.size_toArray]; exact HZ.out) H1.out ?_; rw [World.setRow_alloc_new]))
  clear hzv HZ H1 HI
  have HB2 : Hid (Below w.heap.size w (w1.alloc (.cells T 224))) := hid (HB1.out.alloc HB1.out.size _)
  clear HT HB1 HS
  generalize w1.alloc (.cells T 224) = w2 at *
  generalize w1.heap.size = g at *
  clear w1
  have HF := hid (bits_xor_full 4294967295 (by decide))
  refine wp_loop_rounds 1 ?_; rw [rounds_succ]
  go_wp2
  go_ret
  exact ⟨by simpa [crcFold] using HF.out, HB2.out⟩
theorem implCrc_any (a : Option Addr) (cap : Nat) (xs : List Nat) (w : World) (hr : Rd w a (byt xs)) (hb : ∀ x ∈ xs, x < 256) (hn : xs.length ≤ 1099511627776) :
    Calls Tryz.prog 198 #[.slice a xs.length cap] w fun e w' => e = .returned (.int .u32 ((crcFold xs ^^^ 4294967295 : Nat) : Int)) ∧ Below w.heap.size w w' := by
  have hlt := hr.lt
  rcases hr with h0 | ⟨b, off, rfl, hc⟩
  · obtain rfl : xs = [] := by simpa [byt] using h0
    exact implCrc_zero a cap w
  · exact implCrc_some b off cap xs w (rdByte hc) (fun h => hlt _ rfl (by simpa [byt] using h)) hb hn
end Go.Proofs.YtfaehioeepolhaaGreat
namespace Go.Proofs.YtfaehioeepolhaaGreat
open Go.RowKit
set_option maxHeartbeats 1000000 in
theorem aligned_any (n : Nat) (w : World) (hn : n ≤ 1099511627776) :
    Calls Tryz.prog 204 #[.int .i64 (n : Int)] w fun e w' => e = .returned (.int .i64 ((evn n : Nat) : Int)) ∧ w' = w := by
  have HE : Hid (((evn n : Nat) : Int) = ((n : Int) + 8 - 1) / 8 * 8) := hid (by unfold evn; omega)
  have h1 : (0 : Int) ≤ (n : Int) := by omega
  go_enter Tryz.func204, Tryz.ntmps204
  go_wp2
  go_ret
  refine ⟨ret_int ?_, rfl⟩
  rw [HE.out]
def sizeM (bs : List (List Nat)) : Nat := 12 + evn (4 * bs.length) + (bs.map fun b => evn b.length).sum
set_option maxHeartbeats 1000000 in
theorem messageSize_any (a : Option Addr) (cap : Nat) (bs : List (List Nat)) (w : World) (hr : RdSl cSS w bs (.slice a bs.length cap)) (ht : totL List.length bs ≤ 1048576) :
    Calls Tryz.prog 196 #[.slice a bs.length cap] w fun e w' => e = .returned (.int .i64 ((sizeM bs : Nat) : Int)) ∧ w' = w := by
  have HR := hid hr
  have hlen : bs.length ≤ 1048576 ∧ tot bs ≤ 1048576 := by rw [totL_tot] at ht; omega
  have hE := evn_le (4 * bs.length)
  have HQ : Hid (Calls Tryz.prog 204 #[.int .i64 (4 * (bs.length : Int))] w fun e w' => e = .returned (.int .i64 ((evn (4 * bs.length) : Nat) : Int)) ∧ w' = w) := hid (by
    have h := aligned_any (4 * bs.length) w (by omega)
    rw [show ((4 * bs.length : Nat) : Int) = 4 * (bs.length : Int) from by omega] at h
    exact h)
  have HS0 : Hid (sizeM bs = 12 + evn (4 * bs.length) + ((bs.take bs.length).map fun b => evn b.length).sum) := hid (by unfold sizeM; rw [List.take_length])
  clear hr
  generalize sizeM bs = S at *
  generalize evn (4 * bs.length) = E4 at *
  go_enter Tryz.func196, Tryz.ntmps196
  go_wp2_with fail
  refine HQ.out.mono ?_
  rintro e w1 ⟨rfl, rfl⟩
  go_wp2
  go_loop [3, 14] (fun s i => ∃ k : Nat, k ≤ bs.length ∧ i = .int .i64 k ∧ s = .int .i64 ((12 + E4 + ((bs.take k).map fun b => evn b.length).sum : Nat) : Int) ∧ ((bs.take k).map fun b => evn b.length).sum ≤ tot (bs.take k) + 7 * k) (fun _ i => bs.length - (intOf i).toNat)
  case atStart => exact ⟨0, Nat.zero_le _, rfl, by congr 2; simp; omega, by simp [tot]⟩
  case round =>
    obtain ⟨k, hk, rfl, rfl, hs⟩ := hrel
    by_cases hlt : k < bs.length
    · obtain ⟨b, off, a', c', rfl, hcb, -⟩ := HR.out.row hlt
      have hki : (k : Int) < (bs.length : Int) := by omega
      have HTS := hid (tot_snoc bs k hlt)
      have HSS := hid (sum_snoc (fun b : List Nat => evn b.length) bs k hlt)
      have h3 := tot_take bs k
      have h4 := len_le_tot bs k hlt
      have hE2 := evn_le bs[k].length
      have HQ2 := hid (aligned_any bs[k].length w1 (by omega))
      generalize ((bs.take k).map fun b => evn b.length).sum = t at *
      generalize tot (bs.take k) = tk at *
      generalize evn bs[k].length = E2 at *
      go_wp2_with fail
      refine HQ2.out.mono ?_
      rintro e w2 ⟨rfl, rfl⟩
      go_wp2
      go_round
      case rel => exact ⟨k + 1, by omega, by go_num, by rw [HSS.out]; go_num, by rw [HSS.out, HTS.out]; omega⟩
      case measure => simp [intOf]; omega
    · obtain rfl : k = bs.length := by omega
      rw [← HS0.out]
      clear hs
      go_wp2
      go_ret
      exact ⟨rfl, rfl⟩
theorem join_size (xss : List (List Nat)) : ∀ k, k ≤ xss.length → (join (xss.take k)).length = ((xss.take k).map fun b => evn b.length).sum := by
  intro k
  induction k with
  | zero => intro _; simp [join]
  | succ k ih => intro h; rw [join_next xss k h, ih (by omega), sum_snoc (fun b : List Nat => evn b.length) xss k h]
theorem sizeM_len (m : PM) : (encB m).length = sizeM m.bufs := by
  have h := join_size (lensM m.bufs :: m.bufs) (m.bufs.length + 1) (by simp)
  rw [List.take_of_length_le (by simp)] at h
  simp only [encB, encM, bodyM, List.length_append, headM_len, digs_len, h, sizeM, List.map_cons, List.sum_cons, lensM_len]
  omega
def fitK (f k : Int) : Bool := decide ((f = 0 ∧ (k = 1 ∨ k = 4)) ∨ (0 ≤ f ∧ f < 12 ∧ (k = 2 ∨ k = 3)))
set_option maxHeartbeats 2000000 in
theorem fitsKind_any (f k : Int) (w : World) :
    Calls Tryz.prog 195 #[.int .i64 f, .int .i64 k] w fun e w' => e = .returned (.bool (fitK f k)) ∧ w' = w := by
  have HT : Hid ((f = 0 ∧ (k = 1 ∨ k = 4)) ∨ (0 ≤ f ∧ f < 12 ∧ (k = 2 ∨ k = 3)) → fitK f k = true) := hid (fun h => by unfold fitK; exact decide_eq_true h)
  have HF : Hid (¬ ((f = 0 ∧ (k = 1 ∨ k = 4)) ∨ (0 ≤ f ∧ f < 12 ∧ (k = 2 ∨ k = 3))) → fitK f k = false) := hid (fun h => by unfold fitK; exact decide_eq_false h)
  generalize fitK f k = B at *
  by_cases k1 : k = 1
  · subst k1
    by_cases f0 : f = 0
    · subst f0
      have HB := hid (HT.out (by omega))
      go_enter Tryz.func195, Tryz.ntmps195
      go_wp2
      go_ret
      exact ⟨(by rw [HB.out]; first | done | rfl), rfl⟩
    · have HB := hid (HF.out (by omega))
      have e0 : (f == 0) = false := by simpa using f0
      clear f0
      go_enter Tryz.func195, Tryz.ntmps195
      go_wp2
      go_ret
      exact ⟨(by rw [HB.out]; first | done | rfl), rfl⟩
  by_cases k4 : k = 4
  · subst k4
    by_cases f0 : f = 0
    · subst f0
      have HB := hid (HT.out (by omega))
      go_enter Tryz.func195, Tryz.ntmps195
      go_wp2
      go_ret
      exact ⟨(by rw [HB.out]; first | done | rfl), rfl⟩
    · have HB := hid (HF.out (by omega))
      have e0 : (f == 0) = false := by simpa using f0
      clear f0
      go_enter Tryz.func195, Tryz.ntmps195
      go_wp2
      go_ret
      exact ⟨(by rw [HB.out]; first | done | rfl), rfl⟩
  have e1 : (k == 1) = false := by simpa using k1
  have e4 : (k == 4) = false := by simpa using k4
  by_cases k2 : k = 2 ∨ k = 3
  · by_cases f0 : 0 ≤ f
    · by_cases f1 : f < 12
      · have HB := hid (HT.out (by omega))
        rcases k2 with rfl | rfl
        · go_enter Tryz.func195, Tryz.ntmps195
          go_wp2
          go_ret
          exact ⟨(by rw [HB.out]; first | done | rfl), rfl⟩
        · go_enter Tryz.func195, Tryz.ntmps195
          go_wp2
          go_ret
          exact ⟨(by rw [HB.out]; first | done | rfl), rfl⟩
      · have HB := hid (HF.out (by omega))
        rcases k2 with rfl | rfl
        · go_enter Tryz.func195, Tryz.ntmps195
          go_wp2
          go_ret
          exact ⟨(by rw [HB.out]; first | done | rfl), rfl⟩
        · go_enter Tryz.func195, Tryz.ntmps195
          go_wp2
          go_ret
          exact ⟨(by rw [HB.out]; first | done | rfl), rfl⟩
    · have HB := hid (HF.out (by omega))
      rcases k2 with rfl | rfl
      · go_enter Tryz.func195, Tryz.ntmps195
        go_wp2
        go_ret
        exact ⟨(by rw [HB.out]; first | done | rfl), rfl⟩
      · go_enter Tryz.func195, Tryz.ntmps195
        go_wp2
        go_ret
        exact ⟨(by rw [HB.out]; first | done | rfl), rfl⟩
  · have HB := hid (HF.out (by omega))
    have e2 : (k == 2) = false := by simp; omega
    have e3 : (k == 3) = false := by simp; omega
    clear k1 k2 k4
    go_enter Tryz.func195, Tryz.ntmps195
    go_wp2
    go_ret
    exact ⟨(by rw [HB.out]; first | done | rfl), rfl⟩
def encOK (m : PM) : Bool := msgOK m && decide ((encB m).length ≤ 20000)
theorem encR_eq (m : PM) : encR m = if encOK m = true then encB m else [] := by
  unfold encR encOK; simp
set_option maxHeartbeats 2000000 in
theorem validMessage_any (m : PM) (a : Option Addr) (cap : Nat) (w : World) (hr : RdSl cSS w m.bufs (.slice a m.bufs.length cap)) (ht : totL List.length m.bufs ≤ 1048576) :
    Calls Tryz.prog 187 #[.agg #[.int .i64 m.kind, .int .i64 m.field, .int .i64 m.count, .slice a m.bufs.length cap]] w fun e w' => e = .returned (.bool (encOK m)) ∧ Below w.heap.size w w' := by
  have HR := hid hr
  have HL := hid (sizeM_len m)
  have HF : Hid (msgOK m = false → encOK m = false) := hid (fun h => by unfold encOK; rw [h]; rfl)
  have HM : Hid (msgOK m = decide (1 ≤ m.kind ∧ m.kind ≤ 4 ∧ 0 ≤ m.field ∧ m.field < 12 ∧ 0 ≤ m.count ∧ m.count ≤ 1000 ∧ m.bufs.length ≤ 40 ∧ (m.field = 0 ∨ m.kind = 2 ∨ m.kind = 3))) := hid rfl
  have HK : Hid (fitK m.field m.kind = decide ((m.field = 0 ∧ (m.kind = 1 ∨ m.kind = 4)) ∨ (0 ≤ m.field ∧ m.field < 12 ∧ (m.kind = 2 ∨ m.kind = 3)))) := hid rfl
  clear hr
  by_cases c1 : m.count < 0
  · have HB := hid (HF.out (by rw [HM.out]; exact decide_eq_false (by omega)))
    go_enter Tryz.func187, Tryz.ntmps187
    go_wp2
    go_ret
    exact ⟨(by rw [HB.out]; first | done | rfl), below_new1 _ _⟩
  by_cases c2 : 1000 < m.count
  · have HB := hid (HF.out (by rw [HM.out]; exact decide_eq_false (by omega)))
    go_enter Tryz.func187, Tryz.ntmps187
    go_wp2
    go_ret
    exact ⟨(by rw [HB.out]; first | done | rfl), below_new1 _ _⟩
  by_cases c3 : 40 < m.bufs.length
  · have HB := hid (HF.out (by rw [HM.out]; exact decide_eq_false (by omega)))
    have c3' : (40 : Int) < (m.bufs.length : Int) := by omega
    go_enter Tryz.func187, Tryz.ntmps187
    go_wp2
    go_ret
    exact ⟨(by rw [HB.out]; first | done | rfl), below_new1 _ _⟩
  have c3' : (m.bufs.length : Int) ≤ 40 := by omega
  have HS := hid (messageSize_any a cap m.bufs (w.alloc (.cells #[.int .i64 m.kind, .int .i64 m.field, .int .i64 m.count, .slice a m.bufs.length cap] 184)) (HR.out.later (below_new1 _ _)) ht)
  cases hf : fitK m.field m.kind with
  | false =>
    have HB := hid (HF.out (by rw [HM.out]; refine decide_eq_false ?_; rw [HK.out] at hf; have := of_decide_eq_false hf; omega))
    have HFK := hid (fitsKind_any m.field m.kind (w.alloc (.cells #[.int .i64 m.kind, .int .i64 m.field, .int .i64 m.count, .slice a m.bufs.length cap] 184)))
    rw [hf] at HFK
    clear hf
    go_enter Tryz.func187, Tryz.ntmps187
    go_wp2_with fail
    refine HFK.out.mono ?_
    rintro e w1 ⟨rfl, rfl⟩
    go_wp2
    go_ret
    exact ⟨(by rw [HB.out]; first | done | rfl), below_new1 _ _⟩
  | true =>
    have HB : Hid (encOK m = decide ((sizeM m.bufs : Int) ≤ 20000)) := hid (by
      unfold encOK
      rw [HM.out, decide_eq_true (by rw [HK.out] at hf; have := of_decide_eq_true hf; omega), Bool.true_and, HL.out]
      by_cases h : sizeM m.bufs ≤ 20000
      · rw [decide_eq_true h, decide_eq_true (by omega)]
      · rw [decide_eq_false h, decide_eq_false (by omega)])
    have HFK := hid (fitsKind_any m.field m.kind (w.alloc (.cells #[.int .i64 m.kind, .int .i64 m.field, .int .i64 m.count, .slice a m.bufs.length cap] 184)))
    rw [hf] at HFK
    rw [HB.out]
    clear hf
    generalize sizeM m.bufs = S at *
    go_enter Tryz.func187, Tryz.ntmps187
    go_wp2_with fail
    refine HFK.out.mono ?_
    rintro e w1 ⟨rfl, rfl⟩
    go_wp2_with fail
    refine HS.out.mono ?_
    rintro e w2 ⟨rfl, rfl⟩
    go_wp2
    go_ret
    exact ⟨rfl, below_new1 _ _⟩
end Go.Proofs.YtfaehioeepolhaaGreat
