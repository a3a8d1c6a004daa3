import Derived.Test.YtcljakdcejhfiabJEncodePacket34
namespace Go.Proofs.Ytcljakdcejhfiab
open Go.RowKit
theorem tab_step (h x : Nat) (hh : h < 4294967296) (hx : x < 256) :
    bits .xor .u32 ((h : Int) / 256) ((csteps 8 (h % 256 ^^^ x) : Nat) : Int) = ((crcIn h x : Nat) : Int) := by
  have h1 : h % 256 ^^^ x < 256 := Nat.xor_lt_two_pow (n := 8) (by omega) (by omega)
  have := bits_xor_u32 (h / 256) (csteps 8 (h % 256 ^^^ x)) (by omega) (csteps_lt 8 (by omega))
  rw [crcIn_table, ← this]
  simp
set_option maxHeartbeats 800000 in
set_option maxRecDepth 100000 in
theorem implCrc_some (b off cap : Nat) (xs : List Nat) (w : World) (hx : ∀ i, (h : i < xs.length) → w.cell? ⟨b, off + i, none⟩ = some (.int .u8 (xs[i] : Int))) (hbB : xs ≠ [] → b < w.heap.size) (hb : ∀ x ∈ xs, x < 256) (hn : xs.length ≤ 1099511627776) :
    Calls Try.prog 77 #[.slice (some ⟨b, off, none⟩) xs.length cap] w fun e w' => e = .returned (.int .u32 ((crcFold xs ^^^ 4294967295 : Nat) : Int)) ∧ Below w.heap.size w w' := by
  obtain ⟨Z, hZ, hzv⟩ := zeroTab
  have HZ := hid hZ
  clear hZ
  go_enter Try.func77, Try.ntmps77
  go_wp2_with fail
  refine (crcTable_any w).mono ?_
  rintro e w1 ⟨rfl, hb1⟩
  have HB1 := hid hb1
  clear hb1
  have HT : Hid (∀ j, j < 256 → (u32s crcTab).toArray[j]? = some (.int .u32 ((csteps 8 j : Nat) : Int))) := hid (fun j hj => by rw [List.getElem?_toArray]; exact crcTab_at j hj)
  have HS : Hid ((u32s crcTab).toArray.size = 256) := hid (by rw [List.size_toArray, crcTab_len])
  have HI := hid (sizeTab _ crcTab_len)
  have H1 : Hid ((u32s crcTab).toArray.all (·.oneCell') = true) := hid (u32s_one _)
  generalize (u32s crcTab).toArray = T at *
  go_wp2_with (first | (refine wpList_store_row rfl 105 _ _ rfl w1.heap.size T rfl rfl 105 Z.toArray (heap_alloc_last w1 _) HI.out (by rw [HS.out, List.size_toArray]; exact HZ.out) H1.out ?_; rw [World.setRow_alloc_new]))
  clear hzv HZ H1 HI
  have HC : Hid (∀ j, j < 256 → (w1.alloc (.cells T 105)).cell? ⟨w1.heap.size, j, none⟩ = some (.int .u32 ((csteps 8 j : Nat) : Int))) := hid (fun j hj => by rw [cell_of_row _ _ j T 105 (0, 0) (heap_alloc_last w1 _)]; exact HT.out j hj)
  have HX : Hid (∀ i, (h : i < xs.length) → (w1.alloc (.cells T 105)).cell? ⟨b, off + i, none⟩ = some (.int .u8 (xs[i] : Int))) := hid (fun i h => by
    have hbb : Below w.heap.size w (w1.alloc (.cells T 105)) := HB1.out.alloc HB1.out.size _
    exact (hbb.cell (p := ⟨b, off + i, none⟩) (hbB (by intro e; simp [e] at h))).trans (hx i h))
  have HB2 : Hid (Below w.heap.size w (w1.alloc (.cells T 105))) := hid (HB1.out.alloc HB1.out.size _)
  clear HT HB1 hx hbB HS
  generalize w1.alloc (.cells T 105) = w2 at *
  generalize w1.heap.size = g at *
  clear w1
  go_loop [4, 10] (fun h i => ∃ k : Nat, k ≤ xs.length ∧ i = .int .i64 k ∧ h = .int .u32 ((crcFold (xs.take k) : Nat) : Int)) (fun _ i => xs.length - (intOf i).toNat)
  case atStart => exact ⟨0, Nat.zero_le _, rfl, rfl⟩
  case round =>
    obtain ⟨k, hk, rfl, rfl⟩ := hrel
    have hfl := crcTake_lt xs hb k
    by_cases hlt : k < xs.length
    · have g1 := HX.out k hlt
      have hxk : xs[k] < 256 := hb _ (List.getElem_mem _)
      have hki : (k : Int) < (xs.length : Int) := by omega
      have HS : Hid (crcFold (xs.take (k + 1)) = crcIn (crcFold (xs.take k)) xs[k]) := foldl_snoc xs k hlt
      generalize crcFold (xs.take k) = h0 at *
      have HP := hid (tab_step h0 xs[k] hfl hxk)
      have hj : h0 % 256 ^^^ xs[k] < 256 := Nat.xor_lt_two_pow (n := 8) (by omega) (by omega)
      have hX : bits .xor .u8 ((h0 : Int) % 256) (xs[k] : Int) = ((h0 % 256 ^^^ xs[k] : Nat) : Int) := by
        simpa using bits_xor_u8 (h0 % 256) xs[k] (by omega) hxk
      have g2 := HC.out _ hj
      generalize h0 % 256 ^^^ xs[k] = j at *
      generalize csteps 8 j = s at *
      go_wp2
      go_round
      case rel => exact ⟨k + 1, by omega, by go_num, by rw [HS.out, ← HP.out]⟩
      case measure => simp [intOf]; omega
    · obtain rfl : k = xs.length := by omega
      rw [List.take_length] at *
      have HF := hid (bits_xor_full (crcFold xs) hfl)
      go_wp2
      go_ret
      exact ⟨ret_int HF.out, HB2.out⟩
set_option maxHeartbeats 800000 in
set_option maxRecDepth 100000 in
theorem implCrc_zero (a : Option Addr) (cap : Nat) (w : World) :
    Calls Try.prog 77 #[.slice a 0 cap] w fun e w' => e = .returned (.int .u32 ((crcFold [] ^^^ 4294967295 : Nat) : Int)) ∧ Below w.heap.size w w' := by
  obtain ⟨Z, hZ, hzv⟩ := zeroTab
  have HZ := hid hZ
  clear hZ
  go_enter Try.func77, Try.ntmps77
  go_wp2_with fail
  refine (crcTable_any w).mono ?_
  rintro e w1 ⟨rfl, hb1⟩
  have HB1 := hid hb1
  clear hb1
  have HT : Hid (∀ j, j < 256 → (u32s crcTab).toArray[j]? = some (.int .u32 ((csteps 8 j : Nat) : Int))) := hid (fun j hj => by rw [List.getElem?_toArray]; exact crcTab_at j hj)
  have HS : Hid ((u32s crcTab).toArray.size = 256) := hid (by rw [List.size_toArray, crcTab_len])
  have HI := hid (sizeTab _ crcTab_len)
  have H1 : Hid ((u32s crcTab).toArray.all (·.oneCell') = true) := hid (u32s_one _)
  generalize (u32s crcTab).toArray = T at *
  go_wp2_with (first | (refine wpList_store_row rfl 105 _ _ rfl w1.heap.size T rfl rfl 105 Z.toArray (heap_alloc_last w1 _) HI.out (by rw [HS.out, List.size_toArray]; exact HZ.out) H1.out ?_; rw [World.setRow_alloc_new]))
  clear hzv HZ H1 HI
  have HB2 : Hid (Below w.heap.size w (w1.alloc (.cells T 105))) := hid (HB1.out.alloc HB1.out.size _)
  clear HT HB1 HS
  generalize w1.alloc (.cells T 105) = w2 at *
  generalize w1.heap.size = g at *
  clear w1
  have HF := hid (bits_xor_full 4294967295 (by decide))
  refine wp_loop_rounds 1 ?_; rw [rounds_succ]
  go_wp2
  go_ret
  exact ⟨by simpa [crcFold] using HF.out, HB2.out⟩
theorem implCrc_any (a : Option Addr) (cap : Nat) (xs : List Nat) (w : World) (hr : Rd w a (byt xs)) (hb : ∀ x ∈ xs, x < 256) (hn : xs.length ≤ 1099511627776) :
    Calls Try.prog 77 #[.slice a xs.length cap] w fun e w' => e = .returned (.int .u32 ((crcFold xs ^^^ 4294967295 : Nat) : Int)) ∧ Below w.heap.size w w' := by
  have hlt := hr.lt
  rcases hr with h0 | ⟨b, off, rfl, hc⟩
  · obtain rfl : xs = [] := by simpa [byt] using h0
    exact implCrc_zero a cap w
  · exact implCrc_some b off cap xs w (rdByte hc) (fun h => hlt _ rfl (by simpa [byt] using h)) hb hn
end Go.Proofs.Ytcljakdcejhfiab
