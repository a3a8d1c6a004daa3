import Derived.Test.YtcljakdcejhfiaaJCrc320
import Derived.Test.YtcljakdcejhfiaaJCrc324
import Derived.Deep.WholeRow
import Derived.Laws.CopyOwn
namespace Go.Proofs.Ytcljakdcejhfiaa
open Go.RowKit
def u32s (xs : List Nat) : List Value := xs.map fun x : Nat => Value.int .u32 (x : Int)
def crcTab : List Nat := (List.range 256).map (csteps 8)
theorem crcTab_len : (u32s crcTab).length = 256 := by simp [u32s, crcTab]
theorem crcTab_at (k : Nat) (h : k < 256) : (u32s crcTab)[k]? = some (.int .u32 ((csteps 8 k : Nat) : Int)) := by simp [u32s, crcTab, h]
theorem u32s_one (xs : List Nat) : (u32s xs).toArray.all (·.oneCell') = true := by
  rw [Array.all_eq_true_iff_forall_mem]
  intro v hv
  simp [u32s] at hv
  obtain ⟨x, _, rfl⟩ := hv
  rfl
theorem infoTab : (Try.prog.info? 52).map (fun i => (i.zero, i.size)) = some (some (.agg (Array.replicate 256 (.int .u32 0))), 256) := by kernel_rfl
theorem zeroTab : ∃ Z : List Value, Z.length = 256 ∧ (∀ w, (zeroValue 52).run Try.prog w = .ok (.agg Z.toArray) w) :=
  ⟨(Array.replicate 256 (.int .u32 0)).toList, by rw [Array.length_toList, Array.size_replicate], fun w => by rw [Array.toArray_toList]; exact (zero_of_info infoTab).1 w⟩
theorem sizeTab (vs : List Value) (h : vs.length = 256) : (Try.prog.info? 52).map (·.size) = some vs.toArray.size := by
  rw [(zero_of_info infoTab).2]; simp [h]
theorem own_block {w : World} {B g : Nat} {e : TypeId} {vs : List Value} (hg : B ≤ g) (hh : w.heap[g]? = some (.cells vs.toArray e (0, 0))) (hl : vs.length ≤ maxLen) : w.ownsRow B e 1 (.slice (some ⟨g, 0, none⟩) vs.length vs.length) vs.length vs :=
  ⟨by omega, .inr ⟨g, vs.length, vs.toArray, rfl, hg, hh, Nat.le_refl _, hl, by simp, by simp⟩⟩
theorem block_own {w : World} {B g n : Nat} {e : TypeId} {vs : List Value} (h : w.ownsRow B e 1 (.slice (some ⟨g, 0, none⟩) n n) n vs) : w.heap[g]? = some (.cells vs.toArray e (0, 0)) := by
  rcases h.2 with ⟨h', _⟩ | ⟨g', cap', cur, h', _, hg, _, _, hs, ht⟩
  · simp at h'
  · simp only [Value.slice.injEq, Option.some.injEq, Addr.mk.injEq, and_true, true_and] at h'
    obtain ⟨rfl, rfl⟩ := h'
    rw [hg]
    have : cur.toList = vs := by rw [← ht, List.take_of_length_le (by simp; omega)]
    rw [← this]
set_option maxHeartbeats 800000 in
set_option maxRecDepth 100000 in
theorem crcTable_any (w : World) :
    Calls Try.prog 36 #[] w fun e w' => e = .returned (.agg (u32s crcTab).toArray) ∧ Below w.heap.size w w' := by
  obtain ⟨Z, hZ, hzv⟩ := zeroTab
  go_enter Try.func36, Try.ntmps36
  go_wp2
  clear hzv
  have hs0 : ((w.alloc (.cells Z.toArray 52)).alloc (.cells Z.toArray 52)).heap[w.heap.size]? = some (.cells Z.toArray 52 (0, 0)) := heap_alloc2_old _ _ _
  have hs1 : ((w.alloc (.cells Z.toArray 52)).alloc (.cells Z.toArray 52)).heap[w.heap.size + 1]? = some (.cells Z.toArray 52 (0, 0)) := heap_alloc2_new _ _ _
  have hb0 : Below w.heap.size w ((w.alloc (.cells Z.toArray 52)).alloc (.cells Z.toArray 52)) := ((Below.refl _ _).alloc (Nat.le_refl _) _).alloc (by simp) _
  go_loopw [4] (fun i wr => ∃ k : Nat, k ≤ 256 ∧ i = .int .i64 k ∧ wr.ownsRow (w.heap.size + 1) 52 1 (.slice (some ⟨w.heap.size + 1, 0, none⟩) 256 256) 256 ((u32s crcTab).take k ++ Z.drop k) ∧ wr.heap[w.heap.size]? = some (.cells Z.toArray 52 (0, 0)) ∧ Below w.heap.size w wr) (fun i _ => 256 - (intOf i).toNat)
  case atStart =>
    refine ⟨0, Nat.zero_le _, rfl, ?_, hs0, hb0⟩
    have := own_block (B := w.heap.size + 1) (Nat.le_refl _) hs1 (by rw [hZ]; decide)
    rw [hZ] at this
    simpa using this
  case round =>
    obtain ⟨k, hk, rfl, how, h0, hbe⟩ := hrel
    clear hs0 hs1 hb0
    have HO := hid how
    have H0 := hid h0
    have HB := hid hbe
    have HZ := hid hZ
    clear how h0 hbe hZ
    by_cases hlt : k < 256
    · have hki : decide ((k : Int) < 256) = true := by simp; omega
      go_wp2
      go_loop [3, 9] (fun h i => ∃ j : Nat, j ≤ 8 ∧ i = .int .i64 j ∧ h = .int .u32 ((csteps j k : Nat) : Int)) (fun _ i => 8 - (intOf i).toNat)
      case atStart => exact ⟨0, Nat.zero_le _, rfl, rfl⟩
      case round =>
        obtain ⟨j, hj, rfl, rfl⟩ := hrel
        have hsl := csteps_lt j (h := k) (by omega)
        have HJ : Hid (csteps (j + 1) k = cstep (csteps j k)) := rfl
        by_cases hj8 : j < 8
        · generalize csteps j k = s at *
          by_cases hod : s % 2 = 1
          · have ht : ((s : Int) % 2 == 1) = true := by simp; omega
            have HX : Hid (bits .xor .u32 ((s : Int) / 2) 3988292384 = ((cstep s : Nat) : Int)) := xor_odd hsl hod
            clear hod
            go_wp2
            go_round
            case rel => exact ⟨j + 1, by omega, by go_num, by rw [HJ.out, ← HX.out]⟩
            case measure => simp [intOf]; omega
          · have ht : ((s : Int) % 2 == 1) = false := by simp; omega
            have HX : Hid (((s : Int) / 2) = ((cstep s : Nat) : Int)) := hid (by rw [cstep_not hod]; simp)
            clear hod
            go_wp2
            go_round
            case rel => exact ⟨j + 1, by omega, by go_num, by rw [HJ.out, ← HX.out]⟩
            case measure => simp [intOf]; omega
        · obtain rfl : j = 8 := by omega
          have hfz := HO.out.frozenAt k
          obtain ⟨o, hco⟩ := own_cell HO.out hlt
          have hR := hid (fill_round crcTab_len HZ.out (crcTab_at k hlt) (Nat.le_refl _) HO.out (Below.refl (w.heap.size + 1) wr))
          have hR0 : Hid ((wr.setCell ⟨w.heap.size + 1, k, none⟩ (.int .u32 ((csteps 8 k : Nat) : Int))).heap[w.heap.size]? = some (.cells Z.toArray 52 (0, 0))) := hid ((Below.heap_setCell wr _ _ w.heap.size (by simp)).trans H0.out)
          generalize csteps 8 k = s8 at *
          go_wp2
          go_roundw
          case rel => exact ⟨k + 1, by omega, by go_num, hR.out.1, hR0.out, HB.out.setCell (by simp) _⟩
          case measure => simp [intOf]; omega
    · have hki : decide ((k : Int) < 256) = false := by simp; omega
      have HK : Hid (k = 256) := hid (by omega)
      have hD := HO.out
      rw [HK.out, fill_done crcTab_len HZ.out] at hD
      have hD' := block_own hD
      clear HO hD
      have hT := sizeTab _ crcTab_len
      have hS : (u32s crcTab).toArray.size = 256 := by rw [List.size_toArray, crcTab_len]
      have HT : Hid ((u32s crcTab).toArray.all (·.oneCell') = true) := hid (u32s_one _)
      generalize hTE : (u32s crcTab).toArray = T at *
      have HE := hid hTE
      clear hTE
      have HS := hid hS
      have HI := hid hT
      clear hS hT
      go_wp2_with (first | (refine wpList_load_row rfl 52 _ rfl (w.heap.size + 1) rfl 52 _ (0, 0) _ hD' Try.underlying52 rfl HI.out ?_) | (refine wpList_store_row rfl 52 _ _ rfl w.heap.size T rfl rfl 52 Z.toArray H0.out HI.out (by rw [HS.out, List.size_toArray]; exact HZ.out) HT.out ?_))
      refine bodyPost_ret (v := .agg T) (results_cell_row Try.results36 _ _ w.heap.size 52 T (0, 0) _ rfl (setRow_heap wr w.heap.size Z.toArray T 52 (0, 0) H0.out) Try.underlying52 rfl HI.out) rfl ⟨by rw [HE.out], ?_⟩
      exact below_setRow HB.out (Nat.le_refl _) T
end Go.Proofs.Ytcljakdcejhfiaa
