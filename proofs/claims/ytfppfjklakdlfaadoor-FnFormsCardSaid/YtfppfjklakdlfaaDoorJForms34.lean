import Derived.Test.YtfppfjklakdlfaaDoorJForms6
import Derived.Test.YtfppfjklakdlfaaDoorJForms9
import Derived.Test.YtfppfjklakdlfaaDoorJForms0
import Derived.Test.YtfppfjklakdlfaaDoorJForms5
import Derived.Deep.WholeRow
import Derived.Laws.CopyOwn
namespace Go.Proofs.YtfppfjklakdlfaaDoor
open Go.RowKit
def cst (b : List Nat) (n : Nat) : Nat → Option (List (List Nat) × Nat)
  | 0 => if b.length < evn (4 * n) then none else some ([], evn (4 * n))
  | k + 1 => match cst b n k with
    | none => none
    | some (bs, at_) =>
      if b.length < at_ + num ((b.drop (4 * k)).take 4) then none
      else some (bs ++ [(b.drop at_).take (num ((b.drop (4 * k)).take 4))], at_ + evn (num ((b.drop (4 * k)).take 4)))
theorem cst_none {b : List Nat} {n k : Nat} (h : cst b n k = none) : ∀ j, k ≤ j → cst b n j = none := by
  intro j hj
  induction j with
  | zero => have : k = 0 := by omega
            subst this; exact h
  | succ j ih =>
    by_cases e : k = j + 1
    · subst e; exact h
    · unfold cst; rw [ih (by omega)]
theorem cst_next {b : List Nat} {n k : Nat} {bs : List (List Nat)} {at_ : Nat} (h : cst b n k = some (bs, at_)) : cst b n (k + 1) =
    if b.length < at_ + num ((b.drop (4 * k)).take 4) then none else some (bs ++ [(b.drop at_).take (num ((b.drop (4 * k)).take 4))], at_ + evn (num ((b.drop (4 * k)).take 4))) := by
  conv => lhs; unfold cst
  rw [h]
theorem cst_facts {b : List Nat} {n : Nat} : ∀ {k : Nat} {bs : List (List Nat)} {at_ : Nat}, cst b n k = some (bs, at_) → bs.length = k ∧ evn (4 * n) ≤ b.length ∧ at_ ≤ b.length + 7 * (k + 1) := by
  intro k
  induction k with
  | zero =>
    intro bs at_ h
    unfold cst at h
    split at h
    · cases h
    · rename_i hl
      simp only [Option.some.injEq, Prod.mk.injEq] at h
      obtain ⟨rfl, rfl⟩ := h
      exact ⟨rfl, by omega, by omega⟩
  | succ k ih =>
    intro bs at_ h
    cases hc : cst b n k with
    | none => rw [cst_none hc (k + 1) (by omega)] at h; cases h
    | some p =>
      obtain ⟨bs', at'⟩ := p
      rw [cst_next hc] at h
      obtain ⟨h1, h2, h3⟩ := ih hc
      split at h
      · cases h
      · rename_i hl
        simp only [Option.some.injEq, Prod.mk.injEq] at h
        obtain ⟨rfl, rfl⟩ := h
        have := (evn_le (num ((b.drop (4 * k)).take 4))).2.1
        exact ⟨by simp [h1], h2, by omega⟩
end Go.Proofs.YtfppfjklakdlfaaDoor
namespace Go.Proofs.YtfppfjklakdlfaaDoor
open Go.RowKit
set_option maxHeartbeats 1000000 in
set_option maxRecDepth 100000 in
theorem app_u32 (B : Nat) (v : Value) (n : Nat) (xs : List Nat) (N : Int) (w : World) (ho : w.ownsRow B 5 1 v n (byt xs)) (hB : B ≤ w.heap.size) (hn : n ≤ 1099511627776) (hN : IntIn N) :
    Calls Tryd.prog 54 #[v, .int .u32 N, .int .i64 4] w fun e w' => ∃ v', e = .returned v' ∧ w'.ownsRow B 5 1 v' (n + 4) (byt (xs ++ digs (U N) 4)) ∧ Below B w w' := by
  obtain ⟨i0, hi, hz0, hz1, hz2⟩ := info_parts infoByteP
  have hU := U_eq N
  have HL := hid (U_lt N)
  have HN' := hid hN
  have HO0 := hid ho
  clear hN ho
  generalize U N = u at *
  go_enter Tryd.func54, Tryd.ntmps54
  go_wp2
  go_loopw [0, 7, 11] (fun o r i wr => ∃ k : Nat, k ≤ 4 ∧ i = .int .i64 k ∧ r = .int .u64 ((u / 256 ^ k : Nat) : Int) ∧ wr.ownsRow B 5 1 o (n + k) (byt (xs ++ (digs u 4).take k)) ∧ Below B w wr) (fun _ _ i _ => 4 - (intOf i).toNat)
  case atStart => exact ⟨0, Nat.zero_le _, rfl, by simp, by simpa using HO0.out, Below.refl _ _⟩
  case round =>
    obtain ⟨k, hk, rfl, rfl, how, hbe⟩ := hrel
    have HO := hid how
    have HB := hid hbe
    clear how hbe hU
    by_cases hlt : k < 4
    · have HD := hid (digs_snoc u 4 k hlt)
      have HN := hid (div_next u k)
      have HR := hid (div_lt u k HL.out)
      have hBr : B ≤ wr.heap.size := Nat.le_trans hB HB.out.size
      generalize u / 256 ^ k = R at *
      have hki : decide ((k : Int) < 4) = true := by simp; omega
      go_wp2_with (first | (at_builtin; refine wpList_append_own _ rfl _ _ 22 rfl B 5 i0 (.int .u8 0) 1 1 Tryd.underlying22 hi hz0 hz1 hz2 rfl (by decide) _ (n + k) _ rfl (HO.out.alloc _) ⟨wr.heap.size, 0, none⟩ 1 1 [.int .u8 ((R : Int) % 256)] rfl rfl (cell_one_new _ _ _) (one_cell rfl) (by unfold maxLen; omega) (by omega) (by simp; omega) ?_))
      intro v' w1 hown' hgrow _
      have HB1 : Hid (Below B w w1) := hid ((HB.out.alloc hBr _).grown hgrow (by simp; omega) (fun k h => (World.ownsRow.lt HO.out k h).1))
      have HO1 : Hid (w1.ownsRow B 5 1 v' (n + (k + 1)) (byt (xs ++ (digs u 4).take (k + 1)))) := hid (by
        rw [HD.out, ← List.append_assoc, byt_snoc, ← Nat.add_assoc]
        simpa using hown')
      clear hown' hgrow
      go_wp2
      go_roundw
      case rel => exact ⟨k + 1, by omega, by go_num, by rw [← HN.out]; simp, HO1.out, HB1.out⟩
      case measure => simp [intOf]; omega
    · have hki : decide ((k : Int) < 4) = false := by simp; omega
      have HK : Hid (k = 4) := hid (by omega)
      have hO := HO.out
      rw [HK.out, List.take_of_length_le (by rw [digs_len]; exact Nat.le_refl _)] at hO
      have HO2 := hid hO
      clear hO HO
      go_wp2
      go_ret
      exact ⟨_, rfl, HO2.out, HB.out⟩
end Go.Proofs.YtfppfjklakdlfaaDoor
namespace Go.Proofs.YtfppfjklakdlfaaDoor
open Go.RowKit
def u32s (xs : List Nat) : List Value := xs.map fun x : Nat => Value.int .u32 (x : Int)
def crcTab : List Nat := (List.range 256).map (csteps 8)
theorem crcTab_len : (u32s crcTab).length = 256 := by simp [u32s, crcTab]
theorem crcTab_at (k : Nat) (h : k < 256) : (u32s crcTab)[k]? = some (.int .u32 ((csteps 8 k : Nat) : Int)) := by simp [u32s, crcTab, h]
theorem u32s_one (xs : List Nat) : (u32s xs).toArray.all (·.oneCell') = true := by
  rw [Array.all_eq_true_iff_forall_mem]
  intro v hv
  simp [u32s] at hv
  obtain ⟨x, _, rfl⟩ := hv
  rfl
theorem infoTab : (Tryd.prog.info? 103).map (fun i => (i.zero, i.size)) = some (some (.agg (Array.replicate 256 (.int .u32 0))), 256) := by kernel_rfl
theorem zeroTab : ∃ Z : List Value, Z.length = 256 ∧ (∀ w, (zeroValue 103).run Tryd.prog w = .ok (.agg Z.toArray) w) :=
  ⟨(Array.replicate 256 (.int .u32 0)).toList, by rw [Array.length_toList, Array.size_replicate], fun w => by rw [Array.toArray_toList]; exact (zero_of_info infoTab).1 w⟩
theorem sizeTab (vs : List Value) (h : vs.length = 256) : (Tryd.prog.info? 103).map (·.size) = some vs.toArray.size := by
  rw [(zero_of_info infoTab).2]; simp [h]
theorem own_block {w : World} {B g : Nat} {e : TypeId} {vs : List Value} (hg : B ≤ g) (hh : w.heap[g]? = some (.cells vs.toArray e (0, 0))) (hl : vs.length ≤ maxLen) : w.ownsRow B e 1 (.slice (some ⟨g, 0, none⟩) vs.length vs.length) vs.length vs :=
  ⟨by omega, .inr ⟨g, vs.length, vs.toArray, rfl, hg, hh, Nat.le_refl _, hl, by simp, by simp⟩⟩
theorem block_own {w : World} {B g n : Nat} {e : TypeId} {vs : List Value} (h : w.ownsRow B e 1 (.slice (some ⟨g, 0, none⟩) n n) n vs) : w.heap[g]? = some (.cells vs.toArray e (0, 0)) := by
  rcases h.2 with ⟨h', _⟩ | ⟨g', cap', cur, h', _, hg, _, _, hs, ht⟩
  · simp at h'
  · simp only [Value.slice.injEq, Option.some.injEq, Addr.mk.injEq, and_true, true_and] at h'
    obtain ⟨rfl, rfl⟩ := h'
    rw [hg]
    have : cur.toList = vs := by rw [← ht, List.take_of_length_le (by simp; omega)]
    rw [← this]
set_option maxHeartbeats 800000 in
set_option maxRecDepth 100000 in
theorem crcTable_any (w : World) :
    Calls Tryd.prog 74 #[] w fun e w' => e = .returned (.agg (u32s crcTab).toArray) ∧ Below w.heap.size w w' := by
  obtain ⟨Z, hZ, hzv⟩ := zeroTab
  go_enter Tryd.func74, Tryd.ntmps74
  go_wp2
  clear hzv
  have hs0 : ((w.alloc (.cells Z.toArray 103)).alloc (.cells Z.toArray 103)).heap[w.heap.size]? = some (.cells Z.toArray 103 (0, 0)) := heap_alloc2_old _ _ _
  have hs1 : ((w.alloc (.cells Z.toArray 103)).alloc (.cells Z.toArray 103)).heap[w.heap.size + 1]? = some (.cells Z.toArray 103 (0, 0)) := heap_alloc2_new _ _ _
  have hb0 : Below w.heap.size w ((w.alloc (.cells Z.toArray 103)).alloc (.cells Z.toArray 103)) := ((Below.refl _ _).alloc (Nat.le_refl _) _).alloc (by simp) _
  go_loopw [4] (fun i wr => ∃ k : Nat, k ≤ 256 ∧ i = .int .i64 k ∧ wr.ownsRow (w.heap.size + 1) 103 1 (.slice (some ⟨w.heap.size + 1, 0, none⟩) 256 256) 256 ((u32s crcTab).take k ++ Z.drop k) ∧ wr.heap[w.heap.size]? = some (.cells Z.toArray 103 (0, 0)) ∧ Below w.heap.size w wr) (fun i _ => 256 - (intOf i).toNat)
  case atStart =>
    refine ⟨0, Nat.zero_le _, rfl, ?_, hs0, hb0⟩
    have := own_block (B := w.heap.size + 1) (Nat.le_refl _) hs1 (by rw [hZ]; decide)
    rw [hZ] at this
    simpa using this
  case round =>
    obtain ⟨k, hk, rfl, how, h0, hbe⟩ := hrel
    clear hs0 hs1 hb0
    have HO := hid how
    have H0 := hid h0
    have HB := hid hbe
    have HZ := hid hZ
    clear how h0 hbe hZ
    by_cases hlt : k < 256
    · have hki : decide ((k : Int) < 256) = true := by simp; omega
      go_wp2
      go_loop [3, 9] (fun h i => ∃ j : Nat, j ≤ 8 ∧ i = .int .i64 j ∧ h = .int .u32 ((csteps j k : Nat) : Int)) (fun _ i => 8 - (intOf i).toNat)
      case atStart => exact ⟨0, Nat.zero_le _, rfl, rfl⟩
      case round =>
        obtain ⟨j, hj, rfl, rfl⟩ := hrel
        have hsl := csteps_lt j (h := k) (by omega)
        have HJ : Hid (csteps (j + 1) k = cstep (csteps j k)) := rfl
        by_cases hj8 : j < 8
        · generalize csteps j k = s at *
          by_cases hod : s % 2 = 1
          · have ht : ((s : Int) % 2 == 1) = true := by simp; omega
            have HX : Hid (bits .xor .u32 ((s : Int) / 2) 3988292384 = ((cstep s : Nat) : Int)) := xor_odd hsl hod
            clear hod
            go_wp2
            go_round
            case rel => exact ⟨j + 1, by omega, by go_num, by rw [HJ.out, ← HX.out]⟩
            case measure => simp [intOf]; omega
          · have ht : ((s : Int) % 2 == 1) = false := by simp; omega
            have HX : Hid (((s : Int) / 2) = ((cstep s : Nat) : Int)) := hid (by rw [cstep_not hod]; simp)
            clear hod
            go_wp2
            go_round
            case rel => exact ⟨j + 1, by omega, by go_num, by rw [HJ.out, ← HX.out]⟩
            case measure => simp [intOf]; omega
        · obtain rfl : j = 8 := by omega
          have hfz := HO.out.frozenAt k
          obtain ⟨o, hco⟩ := own_cell HO.out hlt
          have hR := hid (fill_round crcTab_len HZ.out (crcTab_at k hlt) (Nat.le_refl _) HO.out (Below.refl (w.heap.size + 1) wr))
          have hR0 : Hid ((wr.setCell ⟨w.heap.size + 1, k, none⟩ (.int .u32 ((csteps 8 k : Nat) : Int))).heap[w.heap.size]? = some (.cells Z.toArray 103 (0, 0))) := hid ((Below.heap_setCell wr _ _ w.heap.size (by simp)).trans H0.out)
          generalize csteps 8 k = s8 at *
          go_wp2
          go_roundw
          case rel => exact ⟨k + 1, by omega, by go_num, hR.out.1, hR0.out, HB.out.setCell (by simp) _⟩
          case measure => simp [intOf]; omega
    · have hki : decide ((k : Int) < 256) = false := by simp; omega
      have HK : Hid (k = 256) := hid (by omega)
      have hD := HO.out
      rw [HK.out, fill_done crcTab_len HZ.out] at hD
      have hD' := block_own hD
      clear HO hD
      have hT := sizeTab _ crcTab_len
      have hS : (u32s crcTab).toArray.size = 256 := by rw [List.size_toArray, crcTab_len]
      have HT : Hid ((u32s crcTab).toArray.all (·.oneCell') = true) := hid (u32s_one _)
      generalize hTE : (u32s crcTab).toArray = T at *
      have HE := hid hTE
      clear hTE
      have HS := hid hS
      have HI := hid hT
      clear hS hT
      go_wp2_with (first | (refine wpList_load_row rfl 103 _ rfl (w.heap.size + 1) rfl 103 _ (0, 0) _ hD' Tryd.underlying103 rfl HI.out ?_) | (refine wpList_store_row rfl 103 _ _ rfl w.heap.size T rfl rfl 103 Z.toArray H0.out HI.out (by rw [HS.out, List.size_toArray]; exact HZ.out) HT.out ?_))
      refine bodyPost_ret (v := .agg T) (results_cell_row Tryd.results74 _ _ w.heap.size 103 T (0, 0) _ rfl (setRow_heap wr w.heap.size Z.toArray T 103 (0, 0) H0.out) Tryd.underlying103 rfl HI.out) rfl ⟨by rw [HE.out], ?_⟩
      exact below_setRow HB.out (Nat.le_refl _) T
end Go.Proofs.YtfppfjklakdlfaaDoor
namespace Go.Proofs.YtfppfjklakdlfaaDoor
open Go.RowKit
theorem tab_step (h x : Nat) (hh : h < 4294967296) (hx : x < 256) :
    bits .xor .u32 ((h : Int) / 256) ((csteps 8 (h % 256 ^^^ x) : Nat) : Int) = ((crcIn h x : Nat) : Int) := by
  have h1 : h % 256 ^^^ x < 256 := Nat.xor_lt_two_pow (n := 8) (by omega) (by omega)
  have := bits_xor_u32 (h / 256) (csteps 8 (h % 256 ^^^ x)) (by omega) (csteps_lt 8 (by omega))
  rw [crcIn_table, ← this]
  simp
set_option maxHeartbeats 800000 in
set_option maxRecDepth 100000 in
theorem implCrc_some (b off cap : Nat) (xs : List Nat) (w : World) (hx : ∀ i, (h : i < xs.length) → w.cell? ⟨b, off + i, none⟩ = some (.int .u8 (xs[i] : Int))) (hbB : xs ≠ [] → b < w.heap.size) (hb : ∀ x ∈ xs, x < 256) (hn : xs.length ≤ 1099511627776) :
    Calls Tryd.prog 69 #[.slice (some ⟨b, off, none⟩) xs.length cap] w fun e w' => e = .returned (.int .u32 ((crcFold xs ^^^ 4294967295 : Nat) : Int)) ∧ Below w.heap.size w w' := by
  obtain ⟨Z, hZ, hzv⟩ := zeroTab
  have HZ := hid hZ
  clear hZ
  go_enter Tryd.func69, Tryd.ntmps69
  go_wp2_with fail
  refine (crcTable_any w).mono ?_
  rintro e w1 ⟨rfl, hb1⟩
  have HB1 := hid hb1
  clear hb1
  have HT : Hid (∀ j, j < 256 → (u32s crcTab).toArray[j]? = some (.int .u32 ((csteps 8 j : Nat) : Int))) := hid (fun j hj => by rw [List.getElem?_toArray]; exact crcTab_at j hj)
  have HS : Hid ((u32s crcTab).toArray.size = 256) := hid (by rw [List.size_toArray, crcTab_len])
  have HI := hid (sizeTab _ crcTab_len)
  have H1 : Hid ((u32s crcTab).toArray.all (·.oneCell') = true) := hid (u32s_one _)
  generalize (u32s crcTab).toArray = T at *
  go_wp2_with (first | (refine wpList_store_row rfl 103 _ _ rfl w1.heap.size T rfl rfl 103 Z.toArray (heap_alloc_last w1 _) HI.out (by rw [HS.out, List.size_toArray]; exact HZ.out) H1.out ?_; rw [World.setRow_alloc_new]))
  clear hzv HZ H1 HI
  have HC : Hid (∀ j, j < 256 → (w1.alloc (.cells T 103)).cell? ⟨w1.heap.size, j, none⟩ = some (.int .u32 ((csteps 8 j : Nat) : Int))) := hid (fun j hj => by rw [cell_of_row _ _ j T 103 (0, 0) (heap_alloc_last w1 _)]; exact HT.out j hj)
  have HX : Hid (∀ i, (h : i < xs.length) → (w1.alloc (.cells T 103)).cell? ⟨b, off + i, none⟩ = some (.int .u8 (xs[i] : Int))) := hid (fun i h => by
    have hbb : Below w.heap.size w (w1.alloc (.cells T 103)) := HB1.out.alloc HB1.out.size _
    exact (hbb.cell (p := ⟨b, off + i, none⟩) (hbB (by intro e; simp [e] at h))).trans (hx i h))
  have HB2 : Hid (Below w.heap.size w (w1.alloc (.cells T 103))) := hid (HB1.out.alloc HB1.out.size _)
  clear HT HB1 hx hbB HS
  generalize w1.alloc (.cells T 103) = w2 at *
  generalize w1.heap.size = g at *
  clear w1
  go_loop [4, 10] (fun h i => ∃ k : Nat, k ≤ xs.length ∧ i = .int .i64 k ∧ h = .int .u32 ((crcFold (xs.take k) : Nat) : Int)) (fun _ i => xs.length - (intOf i).toNat)
  case atStart => exact ⟨0, Nat.zero_le _, rfl, rfl⟩
  case round =>
    obtain ⟨k, hk, rfl, rfl⟩ := hrel
    have hfl := crcTake_lt xs hb k
    by_cases hlt : k < xs.length
    · have g1 := HX.out k hlt
      have hxk : xs[k] < 256 := hb _ (List.getElem_mem _)
      have hki : (k : Int) < (xs.length : Int) := by omega
      have HS : Hid (crcFold (xs.take (k + 1)) = crcIn (crcFold (xs.take k)) xs[k]) := foldl_snoc xs k hlt
      generalize crcFold (xs.take k) = h0 at *
      have HP := hid (tab_step h0 xs[k] hfl hxk)
      have hj : h0 % 256 ^^^ xs[k] < 256 := Nat.xor_lt_two_pow (n := 8) (by omega) (by omega)
      have hX : bits .xor .u8 ((h0 : Int) % 256) (xs[k] : Int) = ((h0 % 256 ^^^ xs[k] : Nat) : Int) := by
        simpa using bits_xor_u8 (h0 % 256) xs[k] (by omega) hxk
      have g2 := HC.out _ hj
      generalize h0 % 256 ^^^ xs[k] = j at *
      generalize csteps 8 j = s at *
      go_wp2
      go_round
      case rel => exact ⟨k + 1, by omega, by go_num, by rw [HS.out, ← HP.out]⟩
      case measure => simp [intOf]; omega
    · obtain rfl : k = xs.length := by omega
      rw [List.take_length] at *
      have HF := hid (bits_xor_full (crcFold xs) hfl)
      go_wp2
      go_ret
      exact ⟨ret_int HF.out, HB2.out⟩
set_option maxHeartbeats 800000 in
set_option maxRecDepth 100000 in
theorem implCrc_zero (a : Option Addr) (cap : Nat) (w : World) :
    Calls Tryd.prog 69 #[.slice a 0 cap] w fun e w' => e = .returned (.int .u32 ((crcFold [] ^^^ 4294967295 : Nat) : Int)) ∧ Below w.heap.size w w' := by
  obtain ⟨Z, hZ, hzv⟩ := zeroTab
  have HZ := hid hZ
  clear hZ
  go_enter Tryd.func69, Tryd.ntmps69
  go_wp2_with fail
  refine (crcTable_any w).mono ?_
  rintro e w1 ⟨rfl, hb1⟩
  have HB1 := hid hb1
  clear hb1
  have HT : Hid (∀ j, j < 256 → (u32s crcTab).toArray[j]? = some (.int .u32 ((csteps 8 j : Nat) : Int))) := hid (fun j hj => by rw [List.getElem?_toArray]; exact crcTab_at j hj)
  have HS : Hid ((u32s crcTab).toArray.size = 256) := hid (by rw [List.size_toArray, crcTab_len])
  have HI := hid (sizeTab _ crcTab_len)
  have H1 : Hid ((u32s crcTab).toArray.all (·.oneCell') = true) := hid (u32s_one _)
  generalize (u32s crcTab).toArray = T at *
  go_wp2_with (first | (refine wpList_store_row rfl 103 _ _ rfl w1.heap.size T rfl rfl 103 Z.toArray (heap_alloc_last w1 _) HI.out (by rw [HS.out, List.size_toArray]; exact HZ.out) H1.out ?_; rw [World.setRow_alloc_new]))
  clear hzv HZ H1 HI
  have HB2 : Hid (Below w.heap.size w (w1.alloc (.cells T 103))) := hid (HB1.out.alloc HB1.out.size _)
  clear HT HB1 HS
  generalize w1.alloc (.cells T 103) = w2 at *
  generalize w1.heap.size = g at *
  clear w1
  have HF := hid (bits_xor_full 4294967295 (by decide))
  refine wp_loop_rounds 1 ?_; rw [rounds_succ]
  go_wp2
  go_ret
  exact ⟨by simpa [crcFold] using HF.out, HB2.out⟩
theorem implCrc_any (a : Option Addr) (cap : Nat) (xs : List Nat) (w : World) (hr : Rd w a (byt xs)) (hb : ∀ x ∈ xs, x < 256) (hn : xs.length ≤ 1099511627776) :
    Calls Tryd.prog 69 #[.slice a xs.length cap] w fun e w' => e = .returned (.int .u32 ((crcFold xs ^^^ 4294967295 : Nat) : Int)) ∧ Below w.heap.size w w' := by
  have hlt := hr.lt
  rcases hr with h0 | ⟨b, off, rfl, hc⟩
  · obtain rfl : xs = [] := by simpa [byt] using h0
    exact implCrc_zero a cap w
  · exact implCrc_some b off cap xs w (rdByte hc) (fun h => hlt _ rfl (by simpa [byt] using h)) hb hn
end Go.Proofs.YtfppfjklakdlfaaDoor
