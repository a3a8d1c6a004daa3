import Derived.Test.YtfaehioeepolhaaGreatJCrashReceiver28
import Derived.Test.YtfaehioeepolhaaGreatJCrashReceiver29
import Derived.Test.YtfaehioeepolhaaGreatJCrashReceiver22
import Derived.Handy
namespace Go.Proofs.YtfaehioeepolhaaGreat
open Go.RowKit
theorem wrapq_i32 (n : Int) : -9223372036854775808 ≤ IntKind.i32.wrap n ∧ IntKind.i32.wrap n ≤ 9223372036854775807 := by
  simp only [IntKind.wrap, IntKind.bits, IntKind.signed]
  simp
  split <;> omega
set_option maxHeartbeats 1000000 in
set_option maxRecDepth 100000 in
theorem app_i32 (B : Nat) (v : Value) (n : Nat) (xs : List Nat) (N : Int) (w : World) (ho : w.ownsRow B 5 1 v n (byt xs)) (hB : B ≤ w.heap.size) (hn : n ≤ 1099511627776) (hN : IntIn N) :
    Calls Tryz.prog 208 #[v, .int .i32 N, .int .i64 4] w fun e w' => ∃ v', e = .returned v' ∧ w'.ownsRow B 5 1 v' (n + 4) (byt (xs ++ digs (U N) 4)) ∧ Below B w w' := by
  obtain ⟨i0, hi, hz0, hz1, hz2⟩ := info_parts infoByteP
  have hU := U_eq N
  have HL := hid (U_lt N)
  have HN' := hid hN
  have HO0 := hid ho
  clear hN ho
  generalize U N = u at *
  go_enter Tryz.func208, Tryz.ntmps208
  go_wp2
  go_loopw [0, 7, 11] (fun o r i wr => ∃ k : Nat, k ≤ 4 ∧ i = .int .i64 k ∧ r = .int .u64 ((u / 256 ^ k : Nat) : Int) ∧ wr.ownsRow B 5 1 o (n + k) (byt (xs ++ (digs u 4).take k)) ∧ Below B w wr) (fun _ _ i _ => 4 - (intOf i).toNat)
  case atStart => exact ⟨0, Nat.zero_le _, rfl, by simp, by simpa using HO0.out, Below.refl _ _⟩
  case round =>
    obtain ⟨k, hk, rfl, rfl, how, hbe⟩ := hrel
    have HO := hid how
    have HB := hid hbe
    clear how hbe hU
    by_cases hlt : k < 4
    · have HD := hid (digs_snoc u 4 k hlt)
      have HN := hid (div_next u k)
      have HR := hid (div_lt u k HL.out)
      have hBr : B ≤ wr.heap.size := Nat.le_trans hB HB.out.size
      generalize u / 256 ^ k = R at *
      have hki : decide ((k : Int) < 4) = true := by simp; omega
      go_wp2_with (first | (at_builtin; refine wpList_append_own _ rfl _ _ 23 rfl B 5 i0 (.int .u8 0) 1 1 Tryz.underlying23 hi hz0 hz1 hz2 rfl (by decide) _ (n + k) _ rfl (HO.out.alloc _) ⟨wr.heap.size, 0, none⟩ 1 1 [.int .u8 ((R : Int) % 256)] rfl rfl (cell_one_new _ _ _) (one_cell rfl) (by unfold maxLen; omega) (by omega) (by simp; omega) ?_))
      intro v' w1 hown' hgrow _
      have HB1 : Hid (Below B w w1) := hid ((HB.out.alloc hBr _).grown hgrow (by simp; omega) (fun k h => (World.ownsRow.lt HO.out k h).1))
      have HO1 : Hid (w1.ownsRow B 5 1 v' (n + (k + 1)) (byt (xs ++ (digs u 4).take (k + 1)))) := hid (by
        rw [HD.out, ← List.append_assoc, byt_snoc, ← Nat.add_assoc]
        simpa using hown')
      clear hown' hgrow
      go_wp2
      go_roundw
      case rel => exact ⟨k + 1, by omega, by go_num, by rw [← HN.out]; simp, HO1.out, HB1.out⟩
      case measure => simp [intOf]; omega
    · have hki : decide ((k : Int) < 4) = false := by simp; omega
      have HK : Hid (k = 4) := hid (by omega)
      have hO := HO.out
      rw [HK.out, List.take_of_length_le (by rw [digs_len]; exact Nat.le_refl _)] at hO
      have HO2 := hid hO
      clear hO HO
      go_wp2
      go_ret
      exact ⟨_, rfl, HO2.out, HB.out⟩
set_option maxHeartbeats 1000000 in
set_option maxRecDepth 100000 in
theorem packAs_i32 (a : Option Addr) (cap : Nat) (xs : List Int) (w : World) (hr : Rd w a (ints xs)) (hx : ∀ x ∈ xs, IntIn x) (hl : xs.length ≤ 1048576) :
    Calls Tryz.prog 202 #[.slice a xs.length cap, .int .i64 4] w (PkiPost w (pkiR 4 .i32 xs)) := by
  obtain ⟨i0, hi, hz0, hz1, hz2⟩ := info_parts infoByteP
  have HR := hid hr
  have HX := hid hx
  clear hr hx
  go_enter Tryz.func202, Tryz.ntmps202
  go_wp2_with (first | (at_make; refine wpList_make_own _ rfl _ _ 23 rfl w.heap.size 5 i0 (.int .u8 0) 1 Tryz.underlying23 hi hz0 hz1 .i64 .i64 _ (xs.length * 4) rfl rfl (by omega) (by rw [hz2]; omega) (by unfold maxLen; omega) (by simp) ?_))
  intro w1 ho hg1
  have HB1 : Hid (Below w.heap.size w w1) := hid ((Below.refl _ w).grown hg1 (Nat.le_refl _) (by intro k h; cases h))
  have HO1 := hid ho
  clear hg1 hi hz0 hz1 hz2 ho
  go_wp2
  go_loopw [6, 17] (fun v i wr => ∃ k : Nat, k ≤ xs.length ∧ i = .int .i64 k ∧ wr.ownsRow w.heap.size 5 1 v (4 * k) (byt (flat 4 (xs.take k))) ∧ (∀ x ∈ xs.take k, IntKind.i32.wrap x = x) ∧ Below w.heap.size w wr) (fun _ i _ => xs.length - (intOf i).toNat)
  case atStart => exact ⟨0, Nat.zero_le _, rfl, by simpa [byt, flat] using HO1.out, by simp, HB1.out⟩
  case round =>
    obtain ⟨k, hk, rfl, how, hfit, hbe⟩ := hrel
    have HO := hid how
    have HB := hid hbe
    have HF := hid hfit
    clear how hbe hfit
    by_cases hlt : k < xs.length
    · obtain ⟨b, off, rfl, hcb⟩ : ∃ b off, a = some ⟨b, off, none⟩ ∧ wr.cell? ⟨b, off + k, none⟩ = some (.int .i64 xs[k]) := by
        rcases (HR.out.later HB.out) with h0 | ⟨b, off, rfl, hcb⟩
        · have : (ints xs).length = 0 := by rw [h0]; rfl
          rw [ints_len] at this; omega
        · exact ⟨b, off, rfl, rdInt hcb _ hlt⟩
      have hxk := HX.out _ (List.getElem_mem hlt)
      have HXK := hid hxk
      obtain ⟨hx1, hx2⟩ := hxk
      have hki : (k : Int) < (xs.length : Int) := by omega
      have hwb : -9223372036854775808 ≤ wrap32 xs[k] ∧ wrap32 xs[k] ≤ 9223372036854775807 := by rw [wr32]; exact wrapq_i32 xs[k]
      obtain ⟨hw1, hw2⟩ := hwb
      by_cases hf : IntKind.i32.wrap xs[k] = xs[k]
      · have hf' : wrap32 xs[k] = xs[k] := by rw [wr32]; exact hf
        have HF1 : Hid (∀ x ∈ xs.take (k + 1), IntKind.i32.wrap x = x) := hid (by
          intro x hx
          rw [List.take_succ_eq_append_getElem hlt] at hx
          rcases List.mem_append.1 hx with h | h
          · exact HF.out x h
          · rw [List.mem_singleton] at h; rw [h]; exact hf)
        clear hw1 hw2
        go_wp2_with fail
        refine (app_i32 w.heap.size _ (4 * k) (flat 4 (xs.take k)) xs[k] wr HO.out HB.out.size (by omega) HXK.out).mono ?_
        rintro e w2 ⟨v2, rfl, o2, b2⟩
        have HO3 : Hid (w2.ownsRow w.heap.size 5 1 v2 (4 * (k + 1)) (byt (flat 4 (xs.take (k + 1))))) := hid (by
          rw [flat_snoc 4 xs k hlt, Nat.mul_add, Nat.mul_one]; exact o2)
        have HB3 := hid (HB.out.trans b2)
        clear o2 b2 hf hf'
        go_wp2
        go_roundw
        case rel => exact ⟨k + 1, by omega, by go_num, HO3.out, HF1.out, HB3.out⟩
        case measure => simp [intOf]; omega
      · have HP := hid (pkiR_bad (W := 4) k hlt hf)
        have hne : (wrap32 xs[k] != xs[k]) = true := by rw [wr32]; simpa using hf
        clear hf
        go_wp2
        go_ret2
        rw [HP.out]
        exact pkiPost_nil _ HB.out
    · obtain rfl : k = xs.length := by omega
      have hO := HO.out
      have hF := HF.out
      rw [List.take_length] at hO hF
      obtain ⟨a', c', rfl, _⟩ := rd_own hO
      have HO2 := hid hO
      have HP := hid (pkiR_ok (W := 4) hF)
      clear hO hF HO HF
      go_wp2
      go_ret2
      rw [HP.out]
      exact pkiPost_mk (flat_len 4 xs) HO2.out HB.out
end Go.Proofs.YtfaehioeepolhaaGreat
namespace Go.Proofs.YtfaehioeepolhaaGreat
open Go.RowKit
theorem wrapq_i64 (n : Int) : -9223372036854775808 ≤ IntKind.i64.wrap n ∧ IntKind.i64.wrap n ≤ 9223372036854775807 := by
  simp only [IntKind.wrap, IntKind.bits, IntKind.signed]
  simp
  split <;> omega
set_option maxHeartbeats 1000000 in
set_option maxRecDepth 100000 in
theorem app_i64 (B : Nat) (v : Value) (n : Nat) (xs : List Nat) (N : Int) (w : World) (ho : w.ownsRow B 5 1 v n (byt xs)) (hB : B ≤ w.heap.size) (hn : n ≤ 1099511627776) (hN : IntIn N) :
    Calls Tryz.prog 209 #[v, .int .i64 N, .int .i64 8] w fun e w' => ∃ v', e = .returned v' ∧ w'.ownsRow B 5 1 v' (n + 8) (byt (xs ++ digs (U N) 8)) ∧ Below B w w' := by
  obtain ⟨i0, hi, hz0, hz1, hz2⟩ := info_parts infoByteP
  have hU := U_eq N
  have HL := hid (U_lt N)
  have HN' := hid hN
  have HO0 := hid ho
  clear hN ho
  generalize U N = u at *
  go_enter Tryz.func209, Tryz.ntmps209
  go_wp2
  go_loopw [0, 7, 11] (fun o r i wr => ∃ k : Nat, k ≤ 8 ∧ i = .int .i64 k ∧ r = .int .u64 ((u / 256 ^ k : Nat) : Int) ∧ wr.ownsRow B 5 1 o (n + k) (byt (xs ++ (digs u 8).take k)) ∧ Below B w wr) (fun _ _ i _ => 8 - (intOf i).toNat)
  case atStart => exact ⟨0, Nat.zero_le _, rfl, by simp, by simpa using HO0.out, Below.refl _ _⟩
  case round =>
    obtain ⟨k, hk, rfl, rfl, how, hbe⟩ := hrel
    have HO := hid how
    have HB := hid hbe
    clear how hbe hU
    by_cases hlt : k < 8
    · have HD := hid (digs_snoc u 8 k hlt)
      have HN := hid (div_next u k)
      have HR := hid (div_lt u k HL.out)
      have hBr : B ≤ wr.heap.size := Nat.le_trans hB HB.out.size
      generalize u / 256 ^ k = R at *
      have hki : decide ((k : Int) < 8) = true := by simp; omega
      go_wp2_with (first | (at_builtin; refine wpList_append_own _ rfl _ _ 23 rfl B 5 i0 (.int .u8 0) 1 1 Tryz.underlying23 hi hz0 hz1 hz2 rfl (by decide) _ (n + k) _ rfl (HO.out.alloc _) ⟨wr.heap.size, 0, none⟩ 1 1 [.int .u8 ((R : Int) % 256)] rfl rfl (cell_one_new _ _ _) (one_cell rfl) (by unfold maxLen; omega) (by omega) (by simp; omega) ?_))
      intro v' w1 hown' hgrow _
      have HB1 : Hid (Below B w w1) := hid ((HB.out.alloc hBr _).grown hgrow (by simp; omega) (fun k h => (World.ownsRow.lt HO.out k h).1))
      have HO1 : Hid (w1.ownsRow B 5 1 v' (n + (k + 1)) (byt (xs ++ (digs u 8).take (k + 1)))) := hid (by
        rw [HD.out, ← List.append_assoc, byt_snoc, ← Nat.add_assoc]
        simpa using hown')
      clear hown' hgrow
      go_wp2
      go_roundw
      case rel => exact ⟨k + 1, by omega, by go_num, by rw [← HN.out]; simp, HO1.out, HB1.out⟩
      case measure => simp [intOf]; omega
    · have hki : decide ((k : Int) < 8) = false := by simp; omega
      have HK : Hid (k = 8) := hid (by omega)
      have hO := HO.out
      rw [HK.out, List.take_of_length_le (by rw [digs_len]; exact Nat.le_refl _)] at hO
      have HO2 := hid hO
      clear hO HO
      go_wp2
      go_ret
      exact ⟨_, rfl, HO2.out, HB.out⟩
set_option maxHeartbeats 1000000 in
set_option maxRecDepth 100000 in
theorem packAs_i64 (a : Option Addr) (cap : Nat) (xs : List Int) (w : World) (hr : Rd w a (ints xs)) (hx : ∀ x ∈ xs, IntIn x) (hl : xs.length ≤ 1048576) :
    Calls Tryz.prog 203 #[.slice a xs.length cap, .int .i64 8] w (PkiPost w (pkiR 8 .i64 xs)) := by
  obtain ⟨i0, hi, hz0, hz1, hz2⟩ := info_parts infoByteP
  have HR := hid hr
  have HX := hid hx
  clear hr hx
  go_enter Tryz.func203, Tryz.ntmps203
  go_wp2_with (first | (at_make; refine wpList_make_own _ rfl _ _ 23 rfl w.heap.size 5 i0 (.int .u8 0) 1 Tryz.underlying23 hi hz0 hz1 .i64 .i64 _ (xs.length * 8) rfl rfl (by omega) (by rw [hz2]; omega) (by unfold maxLen; omega) (by simp) ?_))
  intro w1 ho hg1
  have HB1 : Hid (Below w.heap.size w w1) := hid ((Below.refl _ w).grown hg1 (Nat.le_refl _) (by intro k h; cases h))
  have HO1 := hid ho
  clear hg1 hi hz0 hz1 hz2 ho
  go_wp2
  go_loopw [6, 17] (fun v i wr => ∃ k : Nat, k ≤ xs.length ∧ i = .int .i64 k ∧ wr.ownsRow w.heap.size 5 1 v (8 * k) (byt (flat 8 (xs.take k))) ∧ (∀ x ∈ xs.take k, IntKind.i64.wrap x = x) ∧ Below w.heap.size w wr) (fun _ i _ => xs.length - (intOf i).toNat)
  case atStart => exact ⟨0, Nat.zero_le _, rfl, by simpa [byt, flat] using HO1.out, by simp, HB1.out⟩
  case round =>
    obtain ⟨k, hk, rfl, how, hfit, hbe⟩ := hrel
    have HO := hid how
    have HB := hid hbe
    have HF := hid hfit
    clear how hbe hfit
    by_cases hlt : k < xs.length
    · obtain ⟨b, off, rfl, hcb⟩ : ∃ b off, a = some ⟨b, off, none⟩ ∧ wr.cell? ⟨b, off + k, none⟩ = some (.int .i64 xs[k]) := by
        rcases (HR.out.later HB.out) with h0 | ⟨b, off, rfl, hcb⟩
        · have : (ints xs).length = 0 := by rw [h0]; rfl
          rw [ints_len] at this; omega
        · exact ⟨b, off, rfl, rdInt hcb _ hlt⟩
      have hxk := HX.out _ (List.getElem_mem hlt)
      have HXK := hid hxk
      obtain ⟨hx1, hx2⟩ := hxk
      have hki : (k : Int) < (xs.length : Int) := by omega
      have hwb : -9223372036854775808 ≤ wrap64 xs[k] ∧ wrap64 xs[k] ≤ 9223372036854775807 := by rw [wr64]; exact wrapq_i64 xs[k]
      obtain ⟨hw1, hw2⟩ := hwb
      by_cases hf : IntKind.i64.wrap xs[k] = xs[k]
      · have hf' : wrap64 xs[k] = xs[k] := by rw [wr64]; exact hf
        have HF1 : Hid (∀ x ∈ xs.take (k + 1), IntKind.i64.wrap x = x) := hid (by
          intro x hx
          rw [List.take_succ_eq_append_getElem hlt] at hx
          rcases List.mem_append.1 hx with h | h
          · exact HF.out x h
          · rw [List.mem_singleton] at h; rw [h]; exact hf)
        clear hw1 hw2
        go_wp2_with fail
        refine (app_i64 w.heap.size _ (8 * k) (flat 8 (xs.take k)) xs[k] wr HO.out HB.out.size (by omega) HXK.out).mono ?_
        rintro e w2 ⟨v2, rfl, o2, b2⟩
        have HO3 : Hid (w2.ownsRow w.heap.size 5 1 v2 (8 * (k + 1)) (byt (flat 8 (xs.take (k + 1))))) := hid (by
          rw [flat_snoc 8 xs k hlt, Nat.mul_add, Nat.mul_one]; exact o2)
        have HB3 := hid (HB.out.trans b2)
        clear o2 b2 hf hf'
        go_wp2
        go_roundw
        case rel => exact ⟨k + 1, by omega, by go_num, HO3.out, HF1.out, HB3.out⟩
        case measure => simp [intOf]; omega
      · exact absurd ((fit_i64 _).2 ⟨hx1, by omega⟩) hf
    · obtain rfl : k = xs.length := by omega
      have hO := HO.out
      have hF := HF.out
      rw [List.take_length] at hO hF
      obtain ⟨a', c', rfl, _⟩ := rd_own hO
      have HO2 := hid hO
      have HP := hid (pkiR_ok (W := 8) hF)
      clear hO hF HO HF
      go_wp2
      go_ret2
      rw [HP.out]
      exact pkiPost_mk (flat_len 8 xs) HO2.out HB.out
end Go.Proofs.YtfaehioeepolhaaGreat
namespace Go.Proofs.YtfaehioeepolhaaGreat
open Go.RowKit
set_option maxHeartbeats 400000 in
theorem implPki_i8 (a : Option Addr) (cap : Nat) (xs : List Int) (w : World) (hr : Rd w a (ints xs)) (hx : ∀ x ∈ xs, IntIn x) (hl : xs.length ≤ 1048576) :
    Calls Tryz.prog 194 #[.slice a xs.length cap, .int .i64 1] w (PkiPost w (pkiR 1 .i8 xs)) := by
  go_enter Tryz.func194, Tryz.ntmps194
  go_wp2_with fail
  refine (packAs_i8 a cap xs w hr hx hl).mono ?_
  rintro e w1 ⟨a1, c1, rfl, o1, b1⟩
  go_wp2
  go_ret2
  exact ⟨a1, c1, rfl, o1, b1⟩
set_option maxHeartbeats 400000 in
theorem implPki_i16 (a : Option Addr) (cap : Nat) (xs : List Int) (w : World) (hr : Rd w a (ints xs)) (hx : ∀ x ∈ xs, IntIn x) (hl : xs.length ≤ 1048576) :
    Calls Tryz.prog 194 #[.slice a xs.length cap, .int .i64 2] w (PkiPost w (pkiR 2 .i16 xs)) := by
  go_enter Tryz.func194, Tryz.ntmps194
  go_wp2_with fail
  refine (packAs_i16 a cap xs w hr hx hl).mono ?_
  rintro e w1 ⟨a1, c1, rfl, o1, b1⟩
  go_wp2
  go_ret2
  exact ⟨a1, c1, rfl, o1, b1⟩
set_option maxHeartbeats 400000 in
theorem implPki_i32 (a : Option Addr) (cap : Nat) (xs : List Int) (w : World) (hr : Rd w a (ints xs)) (hx : ∀ x ∈ xs, IntIn x) (hl : xs.length ≤ 1048576) :
    Calls Tryz.prog 194 #[.slice a xs.length cap, .int .i64 4] w (PkiPost w (pkiR 4 .i32 xs)) := by
  go_enter Tryz.func194, Tryz.ntmps194
  go_wp2_with fail
  refine (packAs_i32 a cap xs w hr hx hl).mono ?_
  rintro e w1 ⟨a1, c1, rfl, o1, b1⟩
  go_wp2
  go_ret2
  exact ⟨a1, c1, rfl, o1, b1⟩
set_option maxHeartbeats 400000 in
theorem implPki_i64 (a : Option Addr) (cap : Nat) (xs : List Int) (w : World) (hr : Rd w a (ints xs)) (hx : ∀ x ∈ xs, IntIn x) (hl : xs.length ≤ 1048576) :
    Calls Tryz.prog 194 #[.slice a xs.length cap, .int .i64 8] w (PkiPost w (pkiR 8 .i64 xs)) := by
  go_enter Tryz.func194, Tryz.ntmps194
  go_wp2_with fail
  refine (packAs_i64 a cap xs w hr hx hl).mono ?_
  rintro e w1 ⟨a1, c1, rfl, o1, b1⟩
  go_wp2
  go_ret2
  exact ⟨a1, c1, rfl, o1, b1⟩
set_option maxHeartbeats 400000 in
theorem implPki_no (a : Option Addr) (cap len : Nat) (n : Int) (w : World) (h : ¬ (n = 1 ∨ n = 2 ∨ n = 4 ∨ n = 8)) :
    Calls Tryz.prog 194 #[.slice a len cap, .int .i64 n] w (PkiPost w ([], 1)) := by
  have e1 : (n == 1) = false := by simp; omega
  have e2 : (n == 2) = false := by simp; omega
  have e4 : (n == 4) = false := by simp; omega
  have e8 : (n == 8) = false := by simp; omega
  clear h
  go_enter Tryz.func194, Tryz.ntmps194
  go_wp2
  go_ret2
  exact pkiPost_nil _ (Below.refl _ _)
theorem implPki_any (a : Option Addr) (cap : Nat) (xs : List Int) (n : Int) (w : World) (hr : Rd w a (ints xs)) (hx : ∀ x ∈ xs, IntIn x) (_hcap : xs.length ≤ cap) (hl : xs.length ≤ 1048576) (_hn : IntIn n) :
    Calls Tryz.prog 194 #[.slice a xs.length cap, .int .i64 n] w (PkiPost w (pki xs n)) := by
  by_cases h1 : n = 1
  · subst h1; exact implPki_i8 a cap xs w hr hx hl
  by_cases h2 : n = 2
  · subst h2; exact implPki_i16 a cap xs w hr hx hl
  by_cases h4 : n = 4
  · subst h4; exact implPki_i32 a cap xs w hr hx hl
  by_cases h8 : n = 8
  · subst h8; exact implPki_i64 a cap xs w hr hx hl
  have h : ¬ (n = 1 ∨ n = 2 ∨ n = 4 ∨ n = 8) := by omega
  rw [pki_no xs n h]
  exact implPki_no a cap _ n w h
end Go.Proofs.YtfaehioeepolhaaGreat
namespace Go.Proofs.YtfaehioeepolhaaGreat
open Go.RowKit
set_option maxHeartbeats 2000000 in
theorem nameByte_any (c : Nat) (w : World) : Calls Tryz.prog 182 #[.int .u8 (c : Int)] w fun e w' => e = .returned (.bool (nameB c)) ∧ w' = w := by
  rcases nameB_split c with ⟨hs, hn⟩ | ⟨hs, hn⟩
  · have HN := hid hn
    clear hn
    rcases hs with h | h | h | h | h <;> (go_enter Tryz.func182, Tryz.ntmps182; go_wp2 <;> first | (exfalso; omega) | (go_ret; exact ⟨by rw [HN.out]; simp; omega, rfl⟩) | (go_ret; exact ⟨by rw [HN.out]; rfl, rfl⟩))
  · have HN := hid hn
    clear hn
    rcases hs with h | h | h | h <;> (go_enter Tryz.func182, Tryz.ntmps182; go_wp2 <;> first | (exfalso; omega) | (go_ret; exact ⟨by rw [HN.out]; simp; omega, rfl⟩) | (go_ret; exact ⟨by rw [HN.out]; rfl, rfl⟩))
end Go.Proofs.YtfaehioeepolhaaGreat
