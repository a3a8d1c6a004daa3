import Derived.Test.YtmaccmgmcahopaaJBound20
import Derived.Test.YtmaccmgmcahopaaJBound21
import Derived.Test.YtmaccmgmcahopaaJBound9
import Derived.Test.YtmaccmgmcahopaaJBound0
import Derived.Test.YtmaccmgmcahopaaJBound3
import Derived.Deep.WholeRow
import Derived.Laws.CopyOwn
namespace Go.Proofs.Ytmaccmgmcahopaa
open Go.RowKit
theorem rdSS_of_row {B : Nat} {w : World} {v : Value} {xss : List (List Nat)} {vals : List Value} (ho : w.ownsRow B 22 1 v xss.length vals) (hi : ∀ i, (h : i < xss.length) → ∃ u, vals[i]? = some u ∧ RdSl cByte w xss[i] u) : RdSl cSS w xss v := by
  have hvl : vals.length = xss.length := by have := ho.1; omega
  rcases ho.2 with ⟨rfl, h0⟩ | ⟨g, cap, cur, rfl, hg, hh, hn, hm, r⟩
  · obtain rfl := List.length_eq_zero_iff.1 h0
    exact RdSl.empty none
  · refine ⟨_, cap, rfl, hn, hm, (fun h => by cases h), .inr ⟨g, 0, rfl, fun i h => ?_⟩⟩
    obtain ⟨u, hu, hr⟩ := hi i h
    refine ⟨[u], ⟨u, rfl, hr⟩, fun j hj => ?_⟩
    have hj0 : j = 0 := by simpa using hj
    subst hj0
    have := World.ownsRow.cellAt ho i (by omega)
    rw [show 0 + (i * cSS.n + 0) = i from by simp [cSl], this, hu]; rfl
end Go.Proofs.Ytmaccmgmcahopaa
namespace Go.Proofs.Ytmaccmgmcahopaa
open Go.RowKit
def Fct.bytes (xs : List Nat) : Fct := ⟨fun v w => RdSl cByte w xs v, fun _ _ _ h hb => h.later hb⟩
def Fct.texts (xss : List (List Nat)) : Fct := ⟨fun v w => RdSl cSS w xss v, fun _ _ _ h hb => h.later hb⟩
def Fct.row (B : Nat) (xs : List Nat) : Fct := ⟨fun v w => w.ownsRow B 5 1 v xs.length (byt xs), fun _ _ _ h hb => own_later h hb⟩
theorem bytes_new {w : World} {cs : Array Value} (xs : List Nat) (hc : cs.toList = byt xs) (hb : ∀ x ∈ xs, x < 256) (hl : xs.length ≤ 100) {n c : Nat} (hn : n = cs.size := by rfl) (hcn : c = cs.size := by rfl) : (Fct.bytes xs).p (.slice (some ⟨w.heap.size, 0, none⟩) n c) (w.alloc (.cells cs 5)) := by
  subst hn hcn
  have hs : cs.size = xs.length := by rw [← byt_len xs, ← hc]; simp
  have h := own_built (w := w) (B := w.heap.size) (e := 5) (cs := cs) (Nat.le_refl _) (by unfold maxLen; omega)
  rw [hc] at h
  exact own_rdSl h hb
theorem texts_new {w : World} {cs : Array Value} (vals : List Value) (xss : List (List Nat)) (hc : cs.toList = vals) (hl : vals.length = xss.length) (hi : ∀ i, (h : i < xss.length) → ∃ u, vals[i]? = some u ∧ RdSl cByte w xss[i] u) (hm : xss.length ≤ 100) {n c : Nat} (hn : n = cs.size := by rfl) (hcn : c = cs.size := by rfl) : (Fct.texts xss).p (.slice (some ⟨w.heap.size, 0, none⟩) n c) (w.alloc (.cells cs 22)) := by
  subst hn hcn
  have hs : cs.size = xss.length := by rw [← hl, ← hc]; simp
  have h := own_built (w := w) (B := w.heap.size) (e := 22) (cs := cs) (Nat.le_refl _) (by unfold maxLen; omega)
  rw [hs] at h ⊢
  refine rdSS_of_row h (fun i hh => ?_)
  obtain ⟨u, h1, h2⟩ := hi i hh
  exact ⟨u, by rw [hc]; exact h1, h2.later (below_new1 _ _)⟩
theorem RdSl.slice {α : Type} {c : Cod α} {w : World} {xs : List α} {v : Value} (h : RdSl c w xs v) : ∃ a k, v = .slice a xs.length k ∧ RdSl c w xs (.slice a xs.length k) := by
  obtain ⟨a, k, e, r⟩ := id h
  exact ⟨a, k, e, e ▸ h⟩
end Go.Proofs.Ytmaccmgmcahopaa
namespace Go.Proofs.Ytmaccmgmcahopaa
open Go.RowKit
set_option maxHeartbeats 1000000 in
set_option maxRecDepth 100000 in
theorem app_u32 (B : Nat) (v : Value) (n : Nat) (xs : List Nat) (N : Int) (w : World) (ho : w.ownsRow B 5 1 v n (byt xs)) (hB : B ≤ w.heap.size) (hn : n ≤ 1099511627776) (hN : IntIn N) :
    Calls Try.prog 34 #[v, .int .u32 N, .int .i64 4] w fun e w' => ∃ v', e = .returned v' ∧ w'.ownsRow B 5 1 v' (n + 4) (byt (xs ++ digs (U N) 4)) ∧ Below B w w' := by
  obtain ⟨i0, hi, hz0, hz1, hz2⟩ := info_parts infoByteP
  have hU := U_eq N
  have HL := hid (U_lt N)
  have HN' := hid hN
  have HO0 := hid ho
  clear hN ho
  generalize U N = u at *
  go_enter Try.func34, Try.ntmps34
  go_wp2
  go_loopw [0, 7, 11] (fun o r i wr => ∃ k : Nat, k ≤ 4 ∧ i = .int .i64 k ∧ r = .int .u64 ((u / 256 ^ k : Nat) : Int) ∧ wr.ownsRow B 5 1 o (n + k) (byt (xs ++ (digs u 4).take k)) ∧ Below B w wr) (fun _ _ i _ => 4 - (intOf i).toNat)
  case atStart => exact ⟨0, Nat.zero_le _, rfl, by simp, by simpa using HO0.out, Below.refl _ _⟩
  case round =>
    obtain ⟨k, hk, rfl, rfl, how, hbe⟩ := hrel
    have HO := hid how
    have HB := hid hbe
    clear how hbe hU
    by_cases hlt : k < 4
    · have HD := hid (digs_snoc u 4 k hlt)
      have HN := hid (div_next u k)
      have HR := hid (div_lt u k HL.out)
      have hBr : B ≤ wr.heap.size := Nat.le_trans hB HB.out.size
      generalize u / 256 ^ k = R at *
      have hki : decide ((k : Int) < 4) = true := by simp; omega
      go_wp2_with (first | (at_builtin; refine wpList_append_own _ rfl _ _ 22 rfl B 5 i0 (.int .u8 0) 1 1 Try.underlying22 hi hz0 hz1 hz2 rfl (by decide) _ (n + k) _ rfl (HO.out.alloc _) ⟨wr.heap.size, 0, none⟩ 1 1 [.int .u8 ((R : Int) % 256)] rfl rfl (cell_one_new _ _ _) (one_cell rfl) (by unfold maxLen; omega) (by omega) (by simp; omega) ?_))
      intro v' w1 hown' hgrow _
      have HB1 : Hid (Below B w w1) := hid ((HB.out.alloc hBr _).grown hgrow (by simp; omega) (fun k h => (World.ownsRow.lt HO.out k h).1))
      have HO1 : Hid (w1.ownsRow B 5 1 v' (n + (k + 1)) (byt (xs ++ (digs u 4).take (k + 1)))) := hid (by
        rw [HD.out, ← List.append_assoc, byt_snoc, ← Nat.add_assoc]
        simpa using hown')
      clear hown' hgrow
      go_wp2
      go_roundw
      case rel => exact ⟨k + 1, by omega, by go_num, by rw [← HN.out]; simp, HO1.out, HB1.out⟩
      case measure => simp [intOf]; omega
    · have hki : decide ((k : Int) < 4) = false := by simp; omega
      have HK : Hid (k = 4) := hid (by omega)
      have hO := HO.out
      rw [HK.out, List.take_of_length_le (by rw [digs_len]; exact Nat.le_refl _)] at hO
      have HO2 := hid hO
      clear hO HO
      go_wp2
      go_ret
      exact ⟨_, rfl, HO2.out, HB.out⟩
end Go.Proofs.Ytmaccmgmcahopaa
namespace Go.Proofs.Ytmaccmgmcahopaa
open Go.RowKit
def u32s (xs : List Nat) : List Value := xs.map fun x : Nat => Value.int .u32 (x : Int)
def crcTab : List Nat := (List.range 256).map (csteps 8)
theorem crcTab_len : (u32s crcTab).length = 256 := by simp [u32s, crcTab]
theorem crcTab_at (k : Nat) (h : k < 256) : (u32s crcTab)[k]? = some (.int .u32 ((csteps 8 k : Nat) : Int)) := by simp [u32s, crcTab, h]
theorem u32s_one (xs : List Nat) : (u32s xs).toArray.all (·.oneCell') = true := by
  rw [Array.all_eq_true_iff_forall_mem]
  intro v hv
  simp [u32s] at hv
  obtain ⟨x, _, rfl⟩ := hv
  rfl
theorem infoTab : (Try.prog.info? 128).map (fun i => (i.zero, i.size)) = some (some (.agg (Array.replicate 256 (.int .u32 0))), 256) := by kernel_rfl
theorem zeroTab : ∃ Z : List Value, Z.length = 256 ∧ (∀ w, (zeroValue 128).run Try.prog w = .ok (.agg Z.toArray) w) :=
  ⟨(Array.replicate 256 (.int .u32 0)).toList, by rw [Array.length_toList, Array.size_replicate], fun w => by rw [Array.toArray_toList]; exact (zero_of_info infoTab).1 w⟩
theorem sizeTab (vs : List Value) (h : vs.length = 256) : (Try.prog.info? 128).map (·.size) = some vs.toArray.size := by
  rw [(zero_of_info infoTab).2]; simp [h]
theorem own_block {w : World} {B g : Nat} {e : TypeId} {vs : List Value} (hg : B ≤ g) (hh : w.heap[g]? = some (.cells vs.toArray e (0, 0))) (hl : vs.length ≤ maxLen) : w.ownsRow B e 1 (.slice (some ⟨g, 0, none⟩) vs.length vs.length) vs.length vs :=
  ⟨by omega, .inr ⟨g, vs.length, vs.toArray, rfl, hg, hh, Nat.le_refl _, hl, by simp, by simp⟩⟩
theorem block_own {w : World} {B g n : Nat} {e : TypeId} {vs : List Value} (h : w.ownsRow B e 1 (.slice (some ⟨g, 0, none⟩) n n) n vs) : w.heap[g]? = some (.cells vs.toArray e (0, 0)) := by
  rcases h.2 with ⟨h', _⟩ | ⟨g', cap', cur, h', _, hg, _, _, hs, ht⟩
  · simp at h'
  · simp only [Value.slice.injEq, Option.some.injEq, Addr.mk.injEq, and_true, true_and] at h'
    obtain ⟨rfl, rfl⟩ := h'
    rw [hg]
    have : cur.toList = vs := by rw [← ht, List.take_of_length_le (by simp; omega)]
    rw [← this]
set_option maxHeartbeats 800000 in
set_option maxRecDepth 100000 in
theorem crcTable_any (w : World) :
    Calls Try.prog 76 #[] w fun e w' => e = .returned (.agg (u32s crcTab).toArray) ∧ Below w.heap.size w w' := by
  obtain ⟨Z, hZ, hzv⟩ := zeroTab
  go_enter Try.func76, Try.ntmps76
  go_wp2
  clear hzv
  have hs0 : ((w.alloc (.cells Z.toArray 128)).alloc (.cells Z.toArray 128)).heap[w.heap.size]? = some (.cells Z.toArray 128 (0, 0)) := heap_alloc2_old _ _ _
  have hs1 : ((w.alloc (.cells Z.toArray 128)).alloc (.cells Z.toArray 128)).heap[w.heap.size + 1]? = some (.cells Z.toArray 128 (0, 0)) := heap_alloc2_new _ _ _
  have hb0 : Below w.heap.size w ((w.alloc (.cells Z.toArray 128)).alloc (.cells Z.toArray 128)) := ((Below.refl _ _).alloc (Nat.le_refl _) _).alloc (by simp) _
  go_loopw [4] (fun i wr => ∃ k : Nat, k ≤ 256 ∧ i = .int .i64 k ∧ wr.ownsRow (w.heap.size + 1) 128 1 (.slice (some ⟨w.heap.size + 1, 0, none⟩) 256 256) 256 ((u32s crcTab).take k ++ Z.drop k) ∧ wr.heap[w.heap.size]? = some (.cells Z.toArray 128 (0, 0)) ∧ Below w.heap.size w wr) (fun i _ => 256 - (intOf i).toNat)
  case atStart =>
    refine ⟨0, Nat.zero_le _, rfl, ?_, hs0, hb0⟩
    have := own_block (B := w.heap.size + 1) (Nat.le_refl _) hs1 (by rw [hZ]; decide)
    rw [hZ] at this
    simpa using this
  case round =>
    obtain ⟨k, hk, rfl, how, h0, hbe⟩ := hrel
    clear hs0 hs1 hb0
    have HO := hid how
    have H0 := hid h0
    have HB := hid hbe
    have HZ := hid hZ
    clear how h0 hbe hZ
    by_cases hlt : k < 256
    · have hki : decide ((k : Int) < 256) = true := by simp; omega
      go_wp2
      go_loop [3, 9] (fun h i => ∃ j : Nat, j ≤ 8 ∧ i = .int .i64 j ∧ h = .int .u32 ((csteps j k : Nat) : Int)) (fun _ i => 8 - (intOf i).toNat)
      case atStart => exact ⟨0, Nat.zero_le _, rfl, rfl⟩
      case round =>
        obtain ⟨j, hj, rfl, rfl⟩ := hrel
        have hsl := csteps_lt j (h := k) (by omega)
        have HJ : Hid (csteps (j + 1) k = cstep (csteps j k)) := rfl
        by_cases hj8 : j < 8
        · generalize csteps j k = s at *
          by_cases hod : s % 2 = 1
          · have ht : ((s : Int) % 2 == 1) = true := by simp; omega
            have HX : Hid (bits .xor .u32 ((s : Int) / 2) 3988292384 = ((cstep s : Nat) : Int)) := xor_odd hsl hod
            clear hod
            go_wp2
            go_round
            case rel => exact ⟨j + 1, by omega, by go_num, by rw [HJ.out, ← HX.out]⟩
            case measure => simp [intOf]; omega
          · have ht : ((s : Int) % 2 == 1) = false := by simp; omega
            have HX : Hid (((s : Int) / 2) = ((cstep s : Nat) : Int)) := hid (by rw [cstep_not hod]; simp)
            clear hod
            go_wp2
            go_round
            case rel => exact ⟨j + 1, by omega, by go_num, by rw [HJ.out, ← HX.out]⟩
            case measure => simp [intOf]; omega
        · obtain rfl : j = 8 := by omega
          have hfz := HO.out.frozenAt k
          obtain ⟨o, hco⟩ := own_cell HO.out hlt
          have hR := hid (fill_round crcTab_len HZ.out (crcTab_at k hlt) (Nat.le_refl _) HO.out (Below.refl (w.heap.size + 1) wr))
          have hR0 : Hid ((wr.setCell ⟨w.heap.size + 1, k, none⟩ (.int .u32 ((csteps 8 k : Nat) : Int))).heap[w.heap.size]? = some (.cells Z.toArray 128 (0, 0))) := hid ((Below.heap_setCell wr _ _ w.heap.size (by simp)).trans H0.out)
          generalize csteps 8 k = s8 at *
          go_wp2
          go_roundw
          case rel => exact ⟨k + 1, by omega, by go_num, hR.out.1, hR0.out, HB.out.setCell (by simp) _⟩
          case measure => simp [intOf]; omega
    · have hki : decide ((k : Int) < 256) = false := by simp; omega
      have HK : Hid (k = 256) := hid (by omega)
      have hD := HO.out
      rw [HK.out, fill_done crcTab_len HZ.out] at hD
      have hD' := block_own hD
      clear HO hD
      have hT := sizeTab _ crcTab_len
      have hS : (u32s crcTab).toArray.size = 256 := by rw [List.size_toArray, crcTab_len]
      have HT : Hid ((u32s crcTab).toArray.all (·.oneCell') = true) := hid (u32s_one _)
      generalize hTE : (u32s crcTab).toArray = T at *
      have HE := hid hTE
      clear hTE
      have HS := hid hS
      have HI := hid hT
      clear hS hT
      go_wp2_with (first | (refine wpList_load_row rfl 128 _ rfl (w.heap.size + 1) rfl 128 _ (0, 0) _ hD' Try.underlying128 rfl HI.out ?_) | (refine wpList_store_row rfl 128 _ _ rfl w.heap.size T rfl rfl 128 Z.toArray H0.out HI.out (by rw [HS.out, List.size_toArray]; exact HZ.out) HT.out ?_))
      refine bodyPost_ret (v := .agg T) (results_cell_row Try.results76 _ _ w.heap.size 128 T (0, 0) _ rfl (setRow_heap wr w.heap.size Z.toArray T 128 (0, 0) H0.out) Try.underlying128 rfl HI.out) rfl ⟨by rw [HE.out], ?_⟩
      exact below_setRow HB.out (Nat.le_refl _) T
end Go.Proofs.Ytmaccmgmcahopaa
