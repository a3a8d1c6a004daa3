import Derived.Test.YtmaccmgmcahopaaJWindow0
import Derived.Test.YtmaccmgmcahopaaJWindow5
import Derived.Deep.WholeRow
import Derived.Laws.CopyOwn
namespace Go.Proofs.Ytmaccmgmcahopaa
open Go.RowKit
def u32s (xs : List Nat) : List Value := xs.map fun x : Nat => Value.int .u32 (x : Int)
def crcTab : List Nat := (List.range 256).map (csteps 8)
theorem crcTab_len : (u32s crcTab).length = 256 := by simp [u32s, crcTab]
theorem crcTab_at (k : Nat) (h : k < 256) : (u32s crcTab)[k]? = some (.int .u32 ((csteps 8 k : Nat) : Int)) := by simp [u32s, crcTab, h]
theorem u32s_one (xs : List Nat) : (u32s xs).toArray.all (·.oneCell') = true := by
  rw [Array.all_eq_true_iff_forall_mem]
  intro v hv
  simp [u32s] at hv
  obtain ⟨x, _, rfl⟩ := hv
  rfl
theorem infoTab : (Try.prog.info? 128).map (fun i => (i.zero, i.size)) = some (some (.agg (Array.replicate 256 (.int .u32 0))), 256) := by kernel_rfl
theorem zeroTab : ∃ Z : List Value, Z.length = 256 ∧ (∀ w, (zeroValue 128).run Try.prog w = .ok (.agg Z.toArray) w) :=
  ⟨(Array.replicate 256 (.int .u32 0)).toList, by rw [Array.length_toList, Array.size_replicate], fun w => by rw [Array.toArray_toList]; exact (zero_of_info infoTab).1 w⟩
theorem sizeTab (vs : List Value) (h : vs.length = 256) : (Try.prog.info? 128).map (·.size) = some vs.toArray.size := by
  rw [(zero_of_info infoTab).2]; simp [h]
theorem own_block {w : World} {B g : Nat} {e : TypeId} {vs : List Value} (hg : B ≤ g) (hh : w.heap[g]? = some (.cells vs.toArray e (0, 0))) (hl : vs.length ≤ maxLen) : w.ownsRow B e 1 (.slice (some ⟨g, 0, none⟩) vs.length vs.length) vs.length vs :=
  ⟨by omega, .inr ⟨g, vs.length, vs.toArray, rfl, hg, hh, Nat.le_refl _, hl, by simp, by simp⟩⟩
theorem block_own {w : World} {B g n : Nat} {e : TypeId} {vs : List Value} (h : w.ownsRow B e 1 (.slice (some ⟨g, 0, none⟩) n n) n vs) : w.heap[g]? = some (.cells vs.toArray e (0, 0)) := by
  rcases h.2 with ⟨h', _⟩ | ⟨g', cap', cur, h', _, hg, _, _, hs, ht⟩
  · simp at h'
  · simp only [Value.slice.injEq, Option.some.injEq, Addr.mk.injEq, and_true, true_and] at h'
    obtain ⟨rfl, rfl⟩ := h'
    rw [hg]
    have : cur.toList = vs := by rw [← ht, List.take_of_length_le (by simp; omega)]
    rw [← this]
set_option maxHeartbeats 800000 in
set_option maxRecDepth 100000 in
theorem crcTable_any (w : World) :
    Calls Try.prog 76 #[] w fun e w' => e = .returned (.agg (u32s crcTab).toArray) ∧ Below w.heap.size w w' := by
  obtain ⟨Z, hZ, hzv⟩ := zeroTab
  go_enter Try.func76, Try.ntmps76
  go_wp2
  clear hzv
  have hs0 : ((w.alloc (.cells Z.toArray 128)).alloc (.cells Z.toArray 128)).heap[w.heap.size]? = some (.cells Z.toArray 128 (0, 0)) := heap_alloc2_old _ _ _
  have hs1 : ((w.alloc (.cells Z.toArray 128)).alloc (.cells Z.toArray 128)).heap[w.heap.size + 1]? = some (.cells Z.toArray 128 (0, 0)) := heap_alloc2_new _ _ _
  have hb0 : Below w.heap.size w ((w.alloc (.cells Z.toArray 128)).alloc (.cells Z.toArray 128)) := ((Below.refl _ _).alloc (Nat.le_refl _) _).alloc (by simp) _
  go_loopw [4] (fun i wr => ∃ k : Nat, k ≤ 256 ∧ i = .int .i64 k ∧ wr.ownsRow (w.heap.size + 1) 128 1 (.slice (some ⟨w.heap.size + 1, 0, none⟩) 256 256) 256 ((u32s crcTab).take k ++ Z.drop k) ∧ wr.heap[w.heap.size]? = some (.cells Z.toArray 128 (0, 0)) ∧ Below w.heap.size w wr) (fun i _ => 256 - (intOf i).toNat)
  case atStart =>
    refine ⟨0, Nat.zero_le _, rfl, ?_, hs0, hb0⟩
    have := own_block (B := w.heap.size + 1) (Nat.le_refl _) hs1 (by rw [hZ]; decide)
    rw [hZ] at this
    simpa using this
  case round =>
    obtain ⟨k, hk, rfl, how, h0, hbe⟩ := hrel
    clear hs0 hs1 hb0
    have HO := hid how
    have H0 := hid h0
    have HB := hid hbe
    have HZ := hid hZ
    clear how h0 hbe hZ
    by_cases hlt : k < 256
    · have hki : decide ((k : Int) < 256) = true := by simp; omega
      go_wp2
      go_loop [3, 9] (fun h i => ∃ j : Nat, j ≤ 8 ∧ i = .int .i64 j ∧ h = .int .u32 ((csteps j k : Nat) : Int)) (fun _ i => 8 - (intOf i).toNat)
      case atStart => exact ⟨0, Nat.zero_le _, rfl, rfl⟩
      case round =>
        obtain ⟨j, hj, rfl, rfl⟩ := hrel
        have hsl := csteps_lt j (h := k) (by omega)
        have HJ : Hid (csteps (j + 1) k = cstep (csteps j k)) := rfl
        by_cases hj8 : j < 8
        · generalize csteps j k = s at *
          by_cases hod : s % 2 = 1
          · have ht : ((s : Int) % 2 == 1) = true := by simp; omega
            have HX : Hid (bits .xor .u32 ((s : Int) / 2) 3988292384 = ((cstep s : Nat) : Int)) := xor_odd hsl hod
            clear hod
            go_wp2
            go_round
            case rel => exact ⟨j + 1, by omega, by go_num, by rw [HJ.out, ← HX.out]⟩
            case measure => simp [intOf]; omega
          · have ht : ((s : Int) % 2 == 1) = false := by simp; omega
            have HX : Hid (((s : Int) / 2) = ((cstep s : Nat) : Int)) := hid (by rw [cstep_not hod]; simp)
            clear hod
            go_wp2
            go_round
            case rel => exact ⟨j + 1, by omega, by go_num, by rw [HJ.out, ← HX.out]⟩
            case measure => simp [intOf]; omega
        · obtain rfl : j = 8 := by omega
          have hfz := HO.out.frozenAt k
          obtain ⟨o, hco⟩ := own_cell HO.out hlt
          have hR := hid (fill_round crcTab_len HZ.out (crcTab_at k hlt) (Nat.le_refl _) HO.out (Below.refl (w.heap.size + 1) wr))
          have hR0 : Hid ((wr.setCell ⟨w.heap.size + 1, k, none⟩ (.int .u32 ((csteps 8 k : Nat) : Int))).heap[w.heap.size]? = some (.cells Z.toArray 128 (0, 0))) := hid ((Below.heap_setCell wr _ _ w.heap.size (by simp)).trans H0.out)
          generalize csteps 8 k = s8 at *
          go_wp2
          go_roundw
          case rel => exact ⟨k + 1, by omega, by go_num, hR.out.1, hR0.out, HB.out.setCell (by simp) _⟩
          case measure => simp [intOf]; omega
    · have hki : decide ((k : Int) < 256) = false := by simp; omega
      have HK : Hid (k = 256) := hid (by omega)
      have hD := HO.out
      rw [HK.out, fill_done crcTab_len HZ.out] at hD
      have hD' := block_own hD
      clear HO hD
      have hT := sizeTab _ crcTab_len
      have hS : (u32s crcTab).toArray.size = 256 := by rw [List.size_toArray, crcTab_len]
      have HT : Hid ((u32s crcTab).toArray.all (·.oneCell') = true) := hid (u32s_one _)
      generalize hTE : (u32s crcTab).toArray = T at *
      have HE := hid hTE
      clear hTE
      have HS := hid hS
      have HI := hid hT
      clear hS hT
      go_wp2_with (first | (refine wpList_load_row rfl 128 _ rfl (w.heap.size + 1) rfl 128 _ (0, 0) _ hD' Try.underlying128 rfl HI.out ?_) | (refine wpList_store_row rfl 128 _ _ rfl w.heap.size T rfl rfl 128 Z.toArray H0.out HI.out (by rw [HS.out, List.size_toArray]; exact HZ.out) HT.out ?_))
      refine bodyPost_ret (v := .agg T) (results_cell_row Try.results76 _ _ w.heap.size 128 T (0, 0) _ rfl (setRow_heap wr w.heap.size Z.toArray T 128 (0, 0) H0.out) Try.underlying128 rfl HI.out) rfl ⟨by rw [HE.out], ?_⟩
      exact below_setRow HB.out (Nat.le_refl _) T
end Go.Proofs.Ytmaccmgmcahopaa
namespace Go.Proofs.Ytmaccmgmcahopaa
open Go.RowKit
theorem tab_step (h x : Nat) (hh : h < 4294967296) (hx : x < 256) :
    bits .xor .u32 ((h : Int) / 256) ((csteps 8 (h % 256 ^^^ x) : Nat) : Int) = ((crcIn h x : Nat) : Int) := by
  have h1 : h % 256 ^^^ x < 256 := Nat.xor_lt_two_pow (n := 8) (by omega) (by omega)
  have := bits_xor_u32 (h / 256) (csteps 8 (h % 256 ^^^ x)) (by omega) (csteps_lt 8 (by omega))
  rw [crcIn_table, ← this]
  simp
set_option maxHeartbeats 800000 in
set_option maxRecDepth 100000 in
theorem implCrc_some (b off cap : Nat) (xs : List Nat) (w : World) (hx : ∀ i, (h : i < xs.length) → w.cell? ⟨b, off + i, none⟩ = some (.int .u8 (xs[i] : Int))) (hbB : xs ≠ [] → b < w.heap.size) (hb : ∀ x ∈ xs, x < 256) (hn : xs.length ≤ 1099511627776) :
    Calls Try.prog 65 #[.slice (some ⟨b, off, none⟩) xs.length cap] w fun e w' => e = .returned (.int .u32 ((crcFold xs ^^^ 4294967295 : Nat) : Int)) ∧ Below w.heap.size w w' := by
  obtain ⟨Z, hZ, hzv⟩ := zeroTab
  have HZ := hid hZ
  clear hZ
  go_enter Try.func65, Try.ntmps65
  go_wp2_with fail
  refine (crcTable_any w).mono ?_
  rintro e w1 ⟨rfl, hb1⟩
  have HB1 := hid hb1
  clear hb1
  have HT : Hid (∀ j, j < 256 → (u32s crcTab).toArray[j]? = some (.int .u32 ((csteps 8 j : Nat) : Int))) := hid (fun j hj => by rw [List.getElem?_toArray]; exact crcTab_at j hj)
  have HS : Hid ((u32s crcTab).toArray.size = 256) := hid (by rw [List.size_toArray, crcTab_len])
  have HI := hid (sizeTab _ crcTab_len)
  have H1 : Hid ((u32s crcTab).toArray.all (·.oneCell') = true) := hid (u32s_one _)
  generalize (u32s crcTab).toArray = T at *
  go_wp2_with (first | (refine wpList_store_row rfl 128 _ _ rfl w1.heap.size T rfl rfl 128 Z.toArray (heap_alloc_last w1 _) HI.out (by rw [HS.out, List.size_toArray]; exact HZ.out) H1.out ?_; rw [World.setRow_alloc_new]))
  clear hzv HZ H1 HI
  have HC : Hid (∀ j, j < 256 → (w1.alloc (.cells T 128)).cell? ⟨w1.heap.size, j, none⟩ = some (.int .u32 ((csteps 8 j : Nat) : Int))) := hid (fun j hj => by rw [cell_of_row _ _ j T 128 (0, 0) (heap_alloc_last w1 _)]; exact HT.out j hj)
  have HX : Hid (∀ i, (h : i < xs.length) → (w1.alloc (.cells T 128)).cell? ⟨b, off + i, none⟩ = some (.int .u8 (xs[i] : Int))) := hid (fun i h => by
    have hbb : Below w.heap.size w (w1.alloc (.cells T 128)) := HB1.out.alloc HB1.out.size _
    exact (hbb.cell (p := ⟨b, off + i, none⟩) (hbB (by intro e; simp [e] at h))).trans (hx i h))
  have HB2 : Hid (Below w.heap.size w (w1.alloc (.cells T 128))) := hid (HB1.out.alloc HB1.out.size _)
  clear HT HB1 hx hbB HS
  generalize w1.alloc (.cells T 128) = w2 at *
  generalize w1.heap.size = g at *
  clear w1
  go_loop [4, 10] (fun h i => ∃ k : Nat, k ≤ xs.length ∧ i = .int .i64 k ∧ h = .int .u32 ((crcFold (xs.take k) : Nat) : Int)) (fun _ i => xs.length - (intOf i).toNat)
  case atStart => exact ⟨0, Nat.zero_le _, rfl, rfl⟩
  case round =>
    obtain ⟨k, hk, rfl, rfl⟩ := hrel
    have hfl := crcTake_lt xs hb k
    by_cases hlt : k < xs.length
    · have g1 := HX.out k hlt
      have hxk : xs[k] < 256 := hb _ (List.getElem_mem _)
      have hki : (k : Int) < (xs.length : Int) := by omega
      have HS : Hid (crcFold (xs.take (k + 1)) = crcIn (crcFold (xs.take k)) xs[k]) := foldl_snoc xs k hlt
      generalize crcFold (xs.take k) = h0 at *
      have HP := hid (tab_step h0 xs[k] hfl hxk)
      have hj : h0 % 256 ^^^ xs[k] < 256 := Nat.xor_lt_two_pow (n := 8) (by omega) (by omega)
      have hX : bits .xor .u8 ((h0 : Int) % 256) (xs[k] : Int) = ((h0 % 256 ^^^ xs[k] : Nat) : Int) := by
        simpa using bits_xor_u8 (h0 % 256) xs[k] (by omega) hxk
      have g2 := HC.out _ hj
      generalize h0 % 256 ^^^ xs[k] = j at *
      generalize csteps 8 j = s at *
      go_wp2
      go_round
      case rel => exact ⟨k + 1, by omega, by go_num, by rw [HS.out, ← HP.out]⟩
      case measure => simp [intOf]; omega
    · obtain rfl : k = xs.length := by omega
      rw [List.take_length] at *
      have HF := hid (bits_xor_full (crcFold xs) hfl)
      go_wp2
      go_ret
      exact ⟨ret_int HF.out, HB2.out⟩
set_option maxHeartbeats 800000 in
set_option maxRecDepth 100000 in
theorem implCrc_zero (a : Option Addr) (cap : Nat) (w : World) :
    Calls Try.prog 65 #[.slice a 0 cap] w fun e w' => e = .returned (.int .u32 ((crcFold [] ^^^ 4294967295 : Nat) : Int)) ∧ Below w.heap.size w w' := by
  obtain ⟨Z, hZ, hzv⟩ := zeroTab
  have HZ := hid hZ
  clear hZ
  go_enter Try.func65, Try.ntmps65
  go_wp2_with fail
  refine (crcTable_any w).mono ?_
  rintro e w1 ⟨rfl, hb1⟩
  have HB1 := hid hb1
  clear hb1
  have HT : Hid (∀ j, j < 256 → (u32s crcTab).toArray[j]? = some (.int .u32 ((csteps 8 j : Nat) : Int))) := hid (fun j hj => by rw [List.getElem?_toArray]; exact crcTab_at j hj)
  have HS : Hid ((u32s crcTab).toArray.size = 256) := hid (by rw [List.size_toArray, crcTab_len])
  have HI := hid (sizeTab _ crcTab_len)
  have H1 : Hid ((u32s crcTab).toArray.all (·.oneCell') = true) := hid (u32s_one _)
  generalize (u32s crcTab).toArray = T at *
  go_wp2_with (first | (refine wpList_store_row rfl 128 _ _ rfl w1.heap.size T rfl rfl 128 Z.toArray (heap_alloc_last w1 _) HI.out (by rw [HS.out, List.size_toArray]; exact HZ.out) H1.out ?_; rw [World.setRow_alloc_new]))
  clear hzv HZ H1 HI
  have HB2 : Hid (Below w.heap.size w (w1.alloc (.cells T 128))) := hid (HB1.out.alloc HB1.out.size _)
  clear HT HB1 HS
  generalize w1.alloc (.cells T 128) = w2 at *
  generalize w1.heap.size = g at *
  clear w1
  have HF := hid (bits_xor_full 4294967295 (by decide))
  refine wp_loop_rounds 1 ?_; rw [rounds_succ]
  go_wp2
  go_ret
  exact ⟨by simpa [crcFold] using HF.out, HB2.out⟩
theorem implCrc_any (a : Option Addr) (cap : Nat) (xs : List Nat) (w : World) (hr : Rd w a (byt xs)) (hb : ∀ x ∈ xs, x < 256) (hn : xs.length ≤ 1099511627776) :
    Calls Try.prog 65 #[.slice a xs.length cap] w fun e w' => e = .returned (.int .u32 ((crcFold xs ^^^ 4294967295 : Nat) : Int)) ∧ Below w.heap.size w w' := by
  have hlt := hr.lt
  rcases hr with h0 | ⟨b, off, rfl, hc⟩
  · obtain rfl : xs = [] := by simpa [byt] using h0
    exact implCrc_zero a cap w
  · exact implCrc_some b off cap xs w (rdByte hc) (fun h => hlt _ rfl (by simpa [byt] using h)) hb hn
end Go.Proofs.Ytmaccmgmcahopaa
