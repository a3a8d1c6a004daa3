import Derived.Test.YtfaehioeepolhaaGreatJCrashReceiver28
namespace Go.Proofs.YtfaehioeepolhaaGreat
open Go.RowKit
theorem wrapq_i8 (n : Int) : -9223372036854775808 ≤ IntKind.i8.wrap n ∧ IntKind.i8.wrap n ≤ 9223372036854775807 := by
  simp only [IntKind.wrap, IntKind.bits, IntKind.signed]
  simp
  split <;> omega
set_option maxHeartbeats 1000000 in
set_option maxRecDepth 100000 in
theorem app_i8 (B : Nat) (v : Value) (n : Nat) (xs : List Nat) (N : Int) (w : World) (ho : w.ownsRow B 5 1 v n (byt xs)) (hB : B ≤ w.heap.size) (hn : n ≤ 1099511627776) (hN : IntIn N) :
    Calls Tryz.prog 206 #[v, .int .i8 N, .int .i64 1] w fun e w' => ∃ v', e = .returned v' ∧ w'.ownsRow B 5 1 v' (n + 1) (byt (xs ++ digs (U N) 1)) ∧ Below B w w' := by
  obtain ⟨i0, hi, hz0, hz1, hz2⟩ := info_parts infoByteP
  have hU := U_eq N
  have HL := hid (U_lt N)
  have HN' := hid hN
  have HO0 := hid ho
  clear hN ho
  generalize U N = u at *
  go_enter Tryz.func206, Tryz.ntmps206
  go_wp2
  go_loopw [0, 7, 11] (fun o r i wr => ∃ k : Nat, k ≤ 1 ∧ i = .int .i64 k ∧ r = .int .u64 ((u / 256 ^ k : Nat) : Int) ∧ wr.ownsRow B 5 1 o (n + k) (byt (xs ++ (digs u 1).take k)) ∧ Below B w wr) (fun _ _ i _ => 1 - (intOf i).toNat)
  case atStart => exact ⟨0, Nat.zero_le _, rfl, by simp, by simpa using HO0.out, Below.refl _ _⟩
  case round =>
    obtain ⟨k, hk, rfl, rfl, how, hbe⟩ := hrel
    have HO := hid how
    have HB := hid hbe
    clear how hbe hU
    by_cases hlt : k < 1
    · have HD := hid (digs_snoc u 1 k hlt)
      have HN := hid (div_next u k)
      have HR := hid (div_lt u k HL.out)
      have hBr : B ≤ wr.heap.size := Nat.le_trans hB HB.out.size
      generalize u / 256 ^ k = R at *
      have hki : decide ((k : Int) < 1) = true := by simp; omega
      go_wp2_with (first | (at_builtin; refine wpList_append_own _ rfl _ _ 23 rfl B 5 i0 (.int .u8 0) 1 1 Tryz.underlying23 hi hz0 hz1 hz2 rfl (by decide) _ (n + k) _ rfl (HO.out.alloc _) ⟨wr.heap.size, 0, none⟩ 1 1 [.int .u8 ((R : Int) % 256)] rfl rfl (cell_one_new _ _ _) (one_cell rfl) (by unfold maxLen; omega) (by omega) (by simp; omega) ?_))
      intro v' w1 hown' hgrow _
      have HB1 : Hid (Below B w w1) := hid ((HB.out.alloc hBr _).grown hgrow (by simp; omega) (fun k h => (World.ownsRow.lt HO.out k h).1))
      have HO1 : Hid (w1.ownsRow B 5 1 v' (n + (k + 1)) (byt (xs ++ (digs u 1).take (k + 1)))) := hid (by
        rw [HD.out, ← List.append_assoc, byt_snoc, ← Nat.add_assoc]
        simpa using hown')
      clear hown' hgrow
      go_wp2
      go_roundw
      case rel => exact ⟨k + 1, by omega, by go_num, by rw [← HN.out]; simp, HO1.out, HB1.out⟩
      case measure => simp [intOf]; omega
    · have hki : decide ((k : Int) < 1) = false := by simp; omega
      have HK : Hid (k = 1) := hid (by omega)
      have hO := HO.out
      rw [HK.out, List.take_of_length_le (by rw [digs_len]; exact Nat.le_refl _)] at hO
      have HO2 := hid hO
      clear hO HO
      go_wp2
      go_ret
      exact ⟨_, rfl, HO2.out, HB.out⟩
set_option maxHeartbeats 1000000 in
set_option maxRecDepth 100000 in
theorem packAs_i8 (a : Option Addr) (cap : Nat) (xs : List Int) (w : World) (hr : Rd w a (ints xs)) (hx : ∀ x ∈ xs, IntIn x) (hl : xs.length ≤ 1048576) :
    Calls Tryz.prog 200 #[.slice a xs.length cap, .int .i64 1] w (PkiPost w (pkiR 1 .i8 xs)) := by
  obtain ⟨i0, hi, hz0, hz1, hz2⟩ := info_parts infoByteP
  have HR := hid hr
  have HX := hid hx
  clear hr hx
  go_enter Tryz.func200, Tryz.ntmps200
  go_wp2_with (first | (at_make; refine wpList_make_own _ rfl _ _ 23 rfl w.heap.size 5 i0 (.int .u8 0) 1 Tryz.underlying23 hi hz0 hz1 .i64 .i64 _ (xs.length * 1) rfl rfl (by omega) (by rw [hz2]; omega) (by unfold maxLen; omega) (by simp) ?_))
  intro w1 ho hg1
  have HB1 : Hid (Below w.heap.size w w1) := hid ((Below.refl _ w).grown hg1 (Nat.le_refl _) (by intro k h; cases h))
  have HO1 := hid ho
  clear hg1 hi hz0 hz1 hz2 ho
  go_wp2
  go_loopw [6, 17] (fun v i wr => ∃ k : Nat, k ≤ xs.length ∧ i = .int .i64 k ∧ wr.ownsRow w.heap.size 5 1 v (1 * k) (byt (flat 1 (xs.take k))) ∧ (∀ x ∈ xs.take k, IntKind.i8.wrap x = x) ∧ Below w.heap.size w wr) (fun _ i _ => xs.length - (intOf i).toNat)
  case atStart => exact ⟨0, Nat.zero_le _, rfl, by simpa [byt, flat] using HO1.out, by simp, HB1.out⟩
  case round =>
    obtain ⟨k, hk, rfl, how, hfit, hbe⟩ := hrel
    have HO := hid how
    have HB := hid hbe
    have HF := hid hfit
    clear how hbe hfit
    by_cases hlt : k < xs.length
    · obtain ⟨b, off, rfl, hcb⟩ : ∃ b off, a = some ⟨b, off, none⟩ ∧ wr.cell? ⟨b, off + k, none⟩ = some (.int .i64 xs[k]) := by
        rcases (HR.out.later HB.out) with h0 | ⟨b, off, rfl, hcb⟩
        · have : (ints xs).length = 0 := by rw [h0]; rfl
          rw [ints_len] at this; omega
        · exact ⟨b, off, rfl, rdInt hcb _ hlt⟩
      have hxk := HX.out _ (List.getElem_mem hlt)
      have HXK := hid hxk
      obtain ⟨hx1, hx2⟩ := hxk
      have hki : (k : Int) < (xs.length : Int) := by omega
      have hwb : -9223372036854775808 ≤ IntKind.i8.wrap xs[k] ∧ IntKind.i8.wrap xs[k] ≤ 9223372036854775807 := by exact wrapq_i8 xs[k]
      obtain ⟨hw1, hw2⟩ := hwb
      by_cases hf : IntKind.i8.wrap xs[k] = xs[k]
      · have hf' : IntKind.i8.wrap xs[k] = xs[k] := by exact hf
        have HF1 : Hid (∀ x ∈ xs.take (k + 1), IntKind.i8.wrap x = x) := hid (by
          intro x hx
          rw [List.take_succ_eq_append_getElem hlt] at hx
          rcases List.mem_append.1 hx with h | h
          · exact HF.out x h
          · rw [List.mem_singleton] at h; rw [h]; exact hf)
        clear hw1 hw2
        go_wp2_with fail
        refine (app_i8 w.heap.size _ (1 * k) (flat 1 (xs.take k)) xs[k] wr HO.out HB.out.size (by omega) HXK.out).mono ?_
        rintro e w2 ⟨v2, rfl, o2, b2⟩
        have HO3 : Hid (w2.ownsRow w.heap.size 5 1 v2 (1 * (k + 1)) (byt (flat 1 (xs.take (k + 1))))) := hid (by
          rw [flat_snoc 1 xs k hlt, Nat.mul_add, Nat.mul_one]; exact o2)
        have HB3 := hid (HB.out.trans b2)
        clear o2 b2 hf hf'
        go_wp2
        go_roundw
        case rel => exact ⟨k + 1, by omega, by go_num, HO3.out, HF1.out, HB3.out⟩
        case measure => simp [intOf]; omega
      · have HP := hid (pkiR_bad (W := 1) k hlt hf)
        have hne : (IntKind.i8.wrap xs[k] != xs[k]) = true := by simpa using hf
        clear hf
        go_wp2
        go_ret2
        rw [HP.out]
        exact pkiPost_nil _ HB.out
    · obtain rfl : k = xs.length := by omega
      have hO := HO.out
      have hF := HF.out
      rw [List.take_length] at hO hF
      obtain ⟨a', c', rfl, _⟩ := rd_own hO
      have HO2 := hid hO
      have HP := hid (pkiR_ok (W := 1) hF)
      clear hO hF HO HF
      go_wp2
      go_ret2
      rw [HP.out]
      exact pkiPost_mk (flat_len 1 xs) HO2.out HB.out
end Go.Proofs.YtfaehioeepolhaaGreat
namespace Go.Proofs.YtfaehioeepolhaaGreat
open Go.RowKit
theorem wrapq_i16 (n : Int) : -9223372036854775808 ≤ IntKind.i16.wrap n ∧ IntKind.i16.wrap n ≤ 9223372036854775807 := by
  simp only [IntKind.wrap, IntKind.bits, IntKind.signed]
  simp
  split <;> omega
set_option maxHeartbeats 1000000 in
set_option maxRecDepth 100000 in
theorem app_i16 (B : Nat) (v : Value) (n : Nat) (xs : List Nat) (N : Int) (w : World) (ho : w.ownsRow B 5 1 v n (byt xs)) (hB : B ≤ w.heap.size) (hn : n ≤ 1099511627776) (hN : IntIn N) :
    Calls Tryz.prog 207 #[v, .int .i16 N, .int .i64 2] w fun e w' => ∃ v', e = .returned v' ∧ w'.ownsRow B 5 1 v' (n + 2) (byt (xs ++ digs (U N) 2)) ∧ Below B w w' := by
  obtain ⟨i0, hi, hz0, hz1, hz2⟩ := info_parts infoByteP
  have hU := U_eq N
  have HL := hid (U_lt N)
  have HN' := hid hN
  have HO0 := hid ho
  clear hN ho
  generalize U N = u at *
  go_enter Tryz.func207, Tryz.ntmps207
  go_wp2
  go_loopw [0, 7, 11] (fun o r i wr => ∃ k : Nat, k ≤ 2 ∧ i = .int .i64 k ∧ r = .int .u64 ((u / 256 ^ k : Nat) : Int) ∧ wr.ownsRow B 5 1 o (n + k) (byt (xs ++ (digs u 2).take k)) ∧ Below B w wr) (fun _ _ i _ => 2 - (intOf i).toNat)
  case atStart => exact ⟨0, Nat.zero_le _, rfl, by simp, by simpa using HO0.out, Below.refl _ _⟩
  case round =>
    obtain ⟨k, hk, rfl, rfl, how, hbe⟩ := hrel
    have HO := hid how
    have HB := hid hbe
    clear how hbe hU
    by_cases hlt : k < 2
    · have HD := hid (digs_snoc u 2 k hlt)
      have HN := hid (div_next u k)
      have HR := hid (div_lt u k HL.out)
      have hBr : B ≤ wr.heap.size := Nat.le_trans hB HB.out.size
      generalize u / 256 ^ k = R at *
      have hki : decide ((k : Int) < 2) = true := by simp; omega
      go_wp2_with (first | (at_builtin; refine wpList_append_own _ rfl _ _ 23 rfl B 5 i0 (.int .u8 0) 1 1 Tryz.underlying23 hi hz0 hz1 hz2 rfl (by decide) _ (n + k) _ rfl (HO.out.alloc _) ⟨wr.heap.size, 0, none⟩ 1 1 [.int .u8 ((R : Int) % 256)] rfl rfl (cell_one_new _ _ _) (one_cell rfl) (by unfold maxLen; omega) (by omega) (by simp; omega) ?_))
      intro v' w1 hown' hgrow _
      have HB1 : Hid (Below B w w1) := hid ((HB.out.alloc hBr _).grown hgrow (by simp; omega) (fun k h => (World.ownsRow.lt HO.out k h).1))
      have HO1 : Hid (w1.ownsRow B 5 1 v' (n + (k + 1)) (byt (xs ++ (digs u 2).take (k + 1)))) := hid (by
        rw [HD.out, ← List.append_assoc, byt_snoc, ← Nat.add_assoc]
        simpa using hown')
      clear hown' hgrow
      go_wp2
      go_roundw
      case rel => exact ⟨k + 1, by omega, by go_num, by rw [← HN.out]; simp, HO1.out, HB1.out⟩
      case measure => simp [intOf]; omega
    · have hki : decide ((k : Int) < 2) = false := by simp; omega
      have HK : Hid (k = 2) := hid (by omega)
      have hO := HO.out
      rw [HK.out, List.take_of_length_le (by rw [digs_len]; exact Nat.le_refl _)] at hO
      have HO2 := hid hO
      clear hO HO
      go_wp2
      go_ret
      exact ⟨_, rfl, HO2.out, HB.out⟩
set_option maxHeartbeats 1000000 in
set_option maxRecDepth 100000 in
theorem packAs_i16 (a : Option Addr) (cap : Nat) (xs : List Int) (w : World) (hr : Rd w a (ints xs)) (hx : ∀ x ∈ xs, IntIn x) (hl : xs.length ≤ 1048576) :
    Calls Tryz.prog 201 #[.slice a xs.length cap, .int .i64 2] w (PkiPost w (pkiR 2 .i16 xs)) := by
  obtain ⟨i0, hi, hz0, hz1, hz2⟩ := info_parts infoByteP
  have HR := hid hr
  have HX := hid hx
  clear hr hx
  go_enter Tryz.func201, Tryz.ntmps201
  go_wp2_with (first | (at_make; refine wpList_make_own _ rfl _ _ 23 rfl w.heap.size 5 i0 (.int .u8 0) 1 Tryz.underlying23 hi hz0 hz1 .i64 .i64 _ (xs.length * 2) rfl rfl (by omega) (by rw [hz2]; omega) (by unfold maxLen; omega) (by simp) ?_))
  intro w1 ho hg1
  have HB1 : Hid (Below w.heap.size w w1) := hid ((Below.refl _ w).grown hg1 (Nat.le_refl _) (by intro k h; cases h))
  have HO1 := hid ho
  clear hg1 hi hz0 hz1 hz2 ho
  go_wp2
  go_loopw [6, 17] (fun v i wr => ∃ k : Nat, k ≤ xs.length ∧ i = .int .i64 k ∧ wr.ownsRow w.heap.size 5 1 v (2 * k) (byt (flat 2 (xs.take k))) ∧ (∀ x ∈ xs.take k, IntKind.i16.wrap x = x) ∧ Below w.heap.size w wr) (fun _ i _ => xs.length - (intOf i).toNat)
  case atStart => exact ⟨0, Nat.zero_le _, rfl, by simpa [byt, flat] using HO1.out, by simp, HB1.out⟩
  case round =>
    obtain ⟨k, hk, rfl, how, hfit, hbe⟩ := hrel
    have HO := hid how
    have HB := hid hbe
    have HF := hid hfit
    clear how hbe hfit
    by_cases hlt : k < xs.length
    · obtain ⟨b, off, rfl, hcb⟩ : ∃ b off, a = some ⟨b, off, none⟩ ∧ wr.cell? ⟨b, off + k, none⟩ = some (.int .i64 xs[k]) := by
        rcases (HR.out.later HB.out) with h0 | ⟨b, off, rfl, hcb⟩
        · have : (ints xs).length = 0 := by rw [h0]; rfl
          rw [ints_len] at this; omega
        · exact ⟨b, off, rfl, rdInt hcb _ hlt⟩
      have hxk := HX.out _ (List.getElem_mem hlt)
      have HXK := hid hxk
      obtain ⟨hx1, hx2⟩ := hxk
      have hki : (k : Int) < (xs.length : Int) := by omega
      have hwb : -9223372036854775808 ≤ IntKind.i16.wrap xs[k] ∧ IntKind.i16.wrap xs[k] ≤ 9223372036854775807 := by exact wrapq_i16 xs[k]
      obtain ⟨hw1, hw2⟩ := hwb
      by_cases hf : IntKind.i16.wrap xs[k] = xs[k]
      · have hf' : IntKind.i16.wrap xs[k] = xs[k] := by exact hf
        have HF1 : Hid (∀ x ∈ xs.take (k + 1), IntKind.i16.wrap x = x) := hid (by
          intro x hx
          rw [List.take_succ_eq_append_getElem hlt] at hx
          rcases List.mem_append.1 hx with h | h
          · exact HF.out x h
          · rw [List.mem_singleton] at h; rw [h]; exact hf)
        clear hw1 hw2
        go_wp2_with fail
        refine (app_i16 w.heap.size _ (2 * k) (flat 2 (xs.take k)) xs[k] wr HO.out HB.out.size (by omega) HXK.out).mono ?_
        rintro e w2 ⟨v2, rfl, o2, b2⟩
        have HO3 : Hid (w2.ownsRow w.heap.size 5 1 v2 (2 * (k + 1)) (byt (flat 2 (xs.take (k + 1))))) := hid (by
          rw [flat_snoc 2 xs k hlt, Nat.mul_add, Nat.mul_one]; exact o2)
        have HB3 := hid (HB.out.trans b2)
        clear o2 b2 hf hf'
        go_wp2
        go_roundw
        case rel => exact ⟨k + 1, by omega, by go_num, HO3.out, HF1.out, HB3.out⟩
        case measure => simp [intOf]; omega
      · have HP := hid (pkiR_bad (W := 2) k hlt hf)
        have hne : (IntKind.i16.wrap xs[k] != xs[k]) = true := by simpa using hf
        clear hf
        go_wp2
        go_ret2
        rw [HP.out]
        exact pkiPost_nil _ HB.out
    · obtain rfl : k = xs.length := by omega
      have hO := HO.out
      have hF := HF.out
      rw [List.take_length] at hO hF
      obtain ⟨a', c', rfl, _⟩ := rd_own hO
      have HO2 := hid hO
      have HP := hid (pkiR_ok (W := 2) hF)
      clear hO hF HO HF
      go_wp2
      go_ret2
      rw [HP.out]
      exact pkiPost_mk (flat_len 2 xs) HO2.out HB.out
end Go.Proofs.YtfaehioeepolhaaGreat
