import Derived.Test.YtfaehioeepolhabGreatJSend14
import Derived.Test.YtfaehioeepolhabGreatJSend22
import Derived.Test.YtfaehioeepolhabGreatJSend20
import Derived.Handy
import Derived.Test.YtfaehioeepolhabGreatJSend3
import Derived.Test.YtfaehioeepolhabGreatJSend16
namespace Go.Proofs.YtfaehioeepolhabGreat
open Go.RowKit
theorem wrapq_i32 (n : Int) : -9223372036854775808 ≤ IntKind.i32.wrap n ∧ IntKind.i32.wrap n ≤ 9223372036854775807 := by
  simp only [IntKind.wrap, IntKind.bits, IntKind.signed]
  simp
  split <;> omega
set_option maxHeartbeats 1000000 in
set_option maxRecDepth 100000 in
theorem app_i32 (B : Nat) (v : Value) (n : Nat) (xs : List Nat) (N : Int) (w : World) (ho : w.ownsRow B 5 1 v n (byt xs)) (hB : B ≤ w.heap.size) (hn : n ≤ 1099511627776) (hN : IntIn N) :
    Calls Tryz.prog 178 #[v, .int .i32 N, .int .i64 4] w fun e w' => ∃ v', e = .returned v' ∧ w'.ownsRow B 5 1 v' (n + 4) (byt (xs ++ digs (U N) 4)) ∧ Below B w w' := by
  obtain ⟨i0, hi, hz0, hz1, hz2⟩ := info_parts infoByteP
  have hU := U_eq N
  have HL := hid (U_lt N)
  have HN' := hid hN
  have HO0 := hid ho
  clear hN ho
  generalize U N = u at *
  go_enter Tryz.func178, Tryz.ntmps178
  go_wp2
  go_loopw [0, 7, 11] (fun o r i wr => ∃ k : Nat, k ≤ 4 ∧ i = .int .i64 k ∧ r = .int .u64 ((u / 256 ^ k : Nat) : Int) ∧ wr.ownsRow B 5 1 o (n + k) (byt (xs ++ (digs u 4).take k)) ∧ Below B w wr) (fun _ _ i _ => 4 - (intOf i).toNat)
  case atStart => exact ⟨0, Nat.zero_le _, rfl, by simp, by simpa using HO0.out, Below.refl _ _⟩
  case round =>
    obtain ⟨k, hk, rfl, rfl, how, hbe⟩ := hrel
    have HO := hid how
    have HB := hid hbe
    clear how hbe hU
    by_cases hlt : k < 4
    · have HD := hid (digs_snoc u 4 k hlt)
      have HN := hid (div_next u k)
      have HR := hid (div_lt u k HL.out)
      have hBr : B ≤ wr.heap.size := Nat.le_trans hB HB.out.size
      generalize u / 256 ^ k = R at *
      have hki : decide ((k : Int) < 4) = true := by simp; omega
      go_wp2_with (first | (at_builtin; refine wpList_append_own _ rfl _ _ 87 rfl B 5 i0 (.int .u8 0) 1 1 Tryz.underlying87 hi hz0 hz1 hz2 rfl (by decide) _ (n + k) _ rfl (HO.out.alloc _) ⟨wr.heap.size, 0, none⟩ 1 1 [.int .u8 ((R : Int) % 256)] rfl rfl (cell_one_new _ _ _) (one_cell rfl) (by unfold maxLen; omega) (by omega) (by simp; omega) ?_))
      intro v' w1 hown' hgrow _
      have HB1 : Hid (Below B w w1) := hid ((HB.out.alloc hBr _).grown hgrow (by simp; omega) (fun k h => (World.ownsRow.lt HO.out k h).1))
      have HO1 : Hid (w1.ownsRow B 5 1 v' (n + (k + 1)) (byt (xs ++ (digs u 4).take (k + 1)))) := hid (by
        rw [HD.out, ← List.append_assoc, byt_snoc, ← Nat.add_assoc]
        simpa using hown')
      clear hown' hgrow
      go_wp2
      go_roundw
      case rel => exact ⟨k + 1, by omega, by go_num, by rw [← HN.out]; simp, HO1.out, HB1.out⟩
      case measure => simp [intOf]; omega
    · have hki : decide ((k : Int) < 4) = false := by simp; omega
      have HK : Hid (k = 4) := hid (by omega)
      have hO := HO.out
      rw [HK.out, List.take_of_length_le (by rw [digs_len]; exact Nat.le_refl _)] at hO
      have HO2 := hid hO
      clear hO HO
      go_wp2
      go_ret
      exact ⟨_, rfl, HO2.out, HB.out⟩
set_option maxHeartbeats 1000000 in
set_option maxRecDepth 100000 in
theorem packAs_i32 (a : Option Addr) (cap : Nat) (xs : List Int) (w : World) (hr : Rd w a (ints xs)) (hx : ∀ x ∈ xs, IntIn x) (hl : xs.length ≤ 1048576) :
    Calls Tryz.prog 169 #[.slice a xs.length cap, .int .i64 4] w (PkiPost w (pkiR 4 .i32 xs)) := by
  obtain ⟨i0, hi, hz0, hz1, hz2⟩ := info_parts infoByteP
  have HR := hid hr
  have HX := hid hx
  clear hr hx
  go_enter Tryz.func169, Tryz.ntmps169
  go_wp2_with (first | (at_make; refine wpList_make_own _ rfl _ _ 87 rfl w.heap.size 5 i0 (.int .u8 0) 1 Tryz.underlying87 hi hz0 hz1 .i64 .i64 _ (xs.length * 4) rfl rfl (by omega) (by rw [hz2]; omega) (by unfold maxLen; omega) (by simp) ?_))
  intro w1 ho hg1
  have HB1 : Hid (Below w.heap.size w w1) := hid ((Below.refl _ w).grown hg1 (Nat.le_refl _) (by intro k h; cases h))
  have HO1 := hid ho
  clear hg1 hi hz0 hz1 hz2 ho
  go_wp2
  go_loopw [6, 17] (fun v i wr => ∃ k : Nat, k ≤ xs.length ∧ i = .int .i64 k ∧ wr.ownsRow w.heap.size 5 1 v (4 * k) (byt (flat 4 (xs.take k))) ∧ (∀ x ∈ xs.take k, IntKind.i32.wrap x = x) ∧ Below w.heap.size w wr) (fun _ i _ => xs.length - (intOf i).toNat)
  case atStart => exact ⟨0, Nat.zero_le _, rfl, by simpa [byt, flat] using HO1.out, by simp, HB1.out⟩
  case round =>
    obtain ⟨k, hk, rfl, how, hfit, hbe⟩ := hrel
    have HO := hid how
    have HB := hid hbe
    have HF := hid hfit
    clear how hbe hfit
    by_cases hlt : k < xs.length
    · obtain ⟨b, off, rfl, hcb⟩ : ∃ b off, a = some ⟨b, off, none⟩ ∧ wr.cell? ⟨b, off + k, none⟩ = some (.int .i64 xs[k]) := by
        rcases (HR.out.later HB.out) with h0 | ⟨b, off, rfl, hcb⟩
        · have : (ints xs).length = 0 := by rw [h0]; rfl
          rw [ints_len] at this; omega
        · exact ⟨b, off, rfl, rdInt hcb _ hlt⟩
      have hxk := HX.out _ (List.getElem_mem hlt)
      have HXK := hid hxk
      obtain ⟨hx1, hx2⟩ := hxk
      have hki : (k : Int) < (xs.length : Int) := by omega
      have hwb : -9223372036854775808 ≤ wrap32 xs[k] ∧ wrap32 xs[k] ≤ 9223372036854775807 := by rw [wr32]; exact wrapq_i32 xs[k]
      obtain ⟨hw1, hw2⟩ := hwb
      by_cases hf : IntKind.i32.wrap xs[k] = xs[k]
      · have hf' : wrap32 xs[k] = xs[k] := by rw [wr32]; exact hf
        have HF1 : Hid (∀ x ∈ xs.take (k + 1), IntKind.i32.wrap x = x) := hid (by
          intro x hx
          rw [List.take_succ_eq_append_getElem hlt] at hx
          rcases List.mem_append.1 hx with h | h
          · exact HF.out x h
          · rw [List.mem_singleton] at h; rw [h]; exact hf)
        clear hw1 hw2
        go_wp2_with fail
        refine (app_i32 w.heap.size _ (4 * k) (flat 4 (xs.take k)) xs[k] wr HO.out HB.out.size (by omega) HXK.out).mono ?_
        rintro e w2 ⟨v2, rfl, o2, b2⟩
        have HO3 : Hid (w2.ownsRow w.heap.size 5 1 v2 (4 * (k + 1)) (byt (flat 4 (xs.take (k + 1))))) := hid (by
          rw [flat_snoc 4 xs k hlt, Nat.mul_add, Nat.mul_one]; exact o2)
        have HB3 := hid (HB.out.trans b2)
        clear o2 b2 hf hf'
        go_wp2
        go_roundw
        case rel => exact ⟨k + 1, by omega, by go_num, HO3.out, HF1.out, HB3.out⟩
        case measure => simp [intOf]; omega
      · have HP := hid (pkiR_bad (W := 4) k hlt hf)
        have hne : (wrap32 xs[k] != xs[k]) = true := by rw [wr32]; simpa using hf
        clear hf
        go_wp2
        go_ret2
        rw [HP.out]
        exact pkiPost_nil _ HB.out
    · obtain rfl : k = xs.length := by omega
      have hO := HO.out
      have hF := HF.out
      rw [List.take_length] at hO hF
      obtain ⟨a', c', rfl, _⟩ := rd_own hO
      have HO2 := hid hO
      have HP := hid (pkiR_ok (W := 4) hF)
      clear hO hF HO HF
      go_wp2
      go_ret2
      rw [HP.out]
      exact pkiPost_mk (flat_len 4 xs) HO2.out HB.out
end Go.Proofs.YtfaehioeepolhabGreat
namespace Go.Proofs.YtfaehioeepolhabGreat
open Go.RowKit
theorem wrapq_i64 (n : Int) : -9223372036854775808 ≤ IntKind.i64.wrap n ∧ IntKind.i64.wrap n ≤ 9223372036854775807 := by
  simp only [IntKind.wrap, IntKind.bits, IntKind.signed]
  simp
  split <;> omega
set_option maxHeartbeats 1000000 in
set_option maxRecDepth 100000 in
theorem app_i64 (B : Nat) (v : Value) (n : Nat) (xs : List Nat) (N : Int) (w : World) (ho : w.ownsRow B 5 1 v n (byt xs)) (hB : B ≤ w.heap.size) (hn : n ≤ 1099511627776) (hN : IntIn N) :
    Calls Tryz.prog 179 #[v, .int .i64 N, .int .i64 8] w fun e w' => ∃ v', e = .returned v' ∧ w'.ownsRow B 5 1 v' (n + 8) (byt (xs ++ digs (U N) 8)) ∧ Below B w w' := by
  obtain ⟨i0, hi, hz0, hz1, hz2⟩ := info_parts infoByteP
  have hU := U_eq N
  have HL := hid (U_lt N)
  have HN' := hid hN
  have HO0 := hid ho
  clear hN ho
  generalize U N = u at *
  go_enter Tryz.func179, Tryz.ntmps179
  go_wp2
  go_loopw [0, 7, 11] (fun o r i wr => ∃ k : Nat, k ≤ 8 ∧ i = .int .i64 k ∧ r = .int .u64 ((u / 256 ^ k : Nat) : Int) ∧ wr.ownsRow B 5 1 o (n + k) (byt (xs ++ (digs u 8).take k)) ∧ Below B w wr) (fun _ _ i _ => 8 - (intOf i).toNat)
  case atStart => exact ⟨0, Nat.zero_le _, rfl, by simp, by simpa using HO0.out, Below.refl _ _⟩
  case round =>
    obtain ⟨k, hk, rfl, rfl, how, hbe⟩ := hrel
    have HO := hid how
    have HB := hid hbe
    clear how hbe hU
    by_cases hlt : k < 8
    · have HD := hid (digs_snoc u 8 k hlt)
      have HN := hid (div_next u k)
      have HR := hid (div_lt u k HL.out)
      have hBr : B ≤ wr.heap.size := Nat.le_trans hB HB.out.size
      generalize u / 256 ^ k = R at *
      have hki : decide ((k : Int) < 8) = true := by simp; omega
      go_wp2_with (first | (at_builtin; refine wpList_append_own _ rfl _ _ 87 rfl B 5 i0 (.int .u8 0) 1 1 Tryz.underlying87 hi hz0 hz1 hz2 rfl (by decide) _ (n + k) _ rfl (HO.out.alloc _) ⟨wr.heap.size, 0, none⟩ 1 1 [.int .u8 ((R : Int) % 256)] rfl rfl (cell_one_new _ _ _) (one_cell rfl) (by unfold maxLen; omega) (by omega) (by simp; omega) ?_))
      intro v' w1 hown' hgrow _
      have HB1 : Hid (Below B w w1) := hid ((HB.out.alloc hBr _).grown hgrow (by simp; omega) (fun k h => (World.ownsRow.lt HO.out k h).1))
      have HO1 : Hid (w1.ownsRow B 5 1 v' (n + (k + 1)) (byt (xs ++ (digs u 8).take (k + 1)))) := hid (by
        rw [HD.out, ← List.append_assoc, byt_snoc, ← Nat.add_assoc]
        simpa using hown')
      clear hown' hgrow
      go_wp2
      go_roundw
      case rel => exact ⟨k + 1, by omega, by go_num, by rw [← HN.out]; simp, HO1.out, HB1.out⟩
      case measure => simp [intOf]; omega
    · have hki : decide ((k : Int) < 8) = false := by simp; omega
      have HK : Hid (k = 8) := hid (by omega)
      have hO := HO.out
      rw [HK.out, List.take_of_length_le (by rw [digs_len]; exact Nat.le_refl _)] at hO
      have HO2 := hid hO
      clear hO HO
      go_wp2
      go_ret
      exact ⟨_, rfl, HO2.out, HB.out⟩
set_option maxHeartbeats 1000000 in
set_option maxRecDepth 100000 in
theorem packAs_i64 (a : Option Addr) (cap : Nat) (xs : List Int) (w : World) (hr : Rd w a (ints xs)) (hx : ∀ x ∈ xs, IntIn x) (hl : xs.length ≤ 1048576) :
    Calls Tryz.prog 170 #[.slice a xs.length cap, .int .i64 8] w (PkiPost w (pkiR 8 .i64 xs)) := by
  obtain ⟨i0, hi, hz0, hz1, hz2⟩ := info_parts infoByteP
  have HR := hid hr
  have HX := hid hx
  clear hr hx
  go_enter Tryz.func170, Tryz.ntmps170
  go_wp2_with (first | (at_make; refine wpList_make_own _ rfl _ _ 87 rfl w.heap.size 5 i0 (.int .u8 0) 1 Tryz.underlying87 hi hz0 hz1 .i64 .i64 _ (xs.length * 8) rfl rfl (by omega) (by rw [hz2]; omega) (by unfold maxLen; omega) (by simp) ?_))
  intro w1 ho hg1
  have HB1 : Hid (Below w.heap.size w w1) := hid ((Below.refl _ w).grown hg1 (Nat.le_refl _) (by intro k h; cases h))
  have HO1 := hid ho
  clear hg1 hi hz0 hz1 hz2 ho
  go_wp2
  go_loopw [6, 17] (fun v i wr => ∃ k : Nat, k ≤ xs.length ∧ i = .int .i64 k ∧ wr.ownsRow w.heap.size 5 1 v (8 * k) (byt (flat 8 (xs.take k))) ∧ (∀ x ∈ xs.take k, IntKind.i64.wrap x = x) ∧ Below w.heap.size w wr) (fun _ i _ => xs.length - (intOf i).toNat)
  case atStart => exact ⟨0, Nat.zero_le _, rfl, by simpa [byt, flat] using HO1.out, by simp, HB1.out⟩
  case round =>
    obtain ⟨k, hk, rfl, how, hfit, hbe⟩ := hrel
    have HO := hid how
    have HB := hid hbe
    have HF := hid hfit
    clear how hbe hfit
    by_cases hlt : k < xs.length
    · obtain ⟨b, off, rfl, hcb⟩ : ∃ b off, a = some ⟨b, off, none⟩ ∧ wr.cell? ⟨b, off + k, none⟩ = some (.int .i64 xs[k]) := by
        rcases (HR.out.later HB.out) with h0 | ⟨b, off, rfl, hcb⟩
        · have : (ints xs).length = 0 := by rw [h0]; rfl
          rw [ints_len] at this; omega
        · exact ⟨b, off, rfl, rdInt hcb _ hlt⟩
      have hxk := HX.out _ (List.getElem_mem hlt)
      have HXK := hid hxk
      obtain ⟨hx1, hx2⟩ := hxk
      have hki : (k : Int) < (xs.length : Int) := by omega
      have hwb : -9223372036854775808 ≤ wrap64 xs[k] ∧ wrap64 xs[k] ≤ 9223372036854775807 := by rw [wr64]; exact wrapq_i64 xs[k]
      obtain ⟨hw1, hw2⟩ := hwb
      by_cases hf : IntKind.i64.wrap xs[k] = xs[k]
      · have hf' : wrap64 xs[k] = xs[k] := by rw [wr64]; exact hf
        have HF1 : Hid (∀ x ∈ xs.take (k + 1), IntKind.i64.wrap x = x) := hid (by
          intro x hx
          rw [List.take_succ_eq_append_getElem hlt] at hx
          rcases List.mem_append.1 hx with h | h
          · exact HF.out x h
          · rw [List.mem_singleton] at h; rw [h]; exact hf)
        clear hw1 hw2
        go_wp2_with fail
        refine (app_i64 w.heap.size _ (8 * k) (flat 8 (xs.take k)) xs[k] wr HO.out HB.out.size (by omega) HXK.out).mono ?_
        rintro e w2 ⟨v2, rfl, o2, b2⟩
        have HO3 : Hid (w2.ownsRow w.heap.size 5 1 v2 (8 * (k + 1)) (byt (flat 8 (xs.take (k + 1))))) := hid (by
          rw [flat_snoc 8 xs k hlt, Nat.mul_add, Nat.mul_one]; exact o2)
        have HB3 := hid (HB.out.trans b2)
        clear o2 b2 hf hf'
        go_wp2
        go_roundw
        case rel => exact ⟨k + 1, by omega, by go_num, HO3.out, HF1.out, HB3.out⟩
        case measure => simp [intOf]; omega
      · exact absurd ((fit_i64 _).2 ⟨hx1, by omega⟩) hf
    · obtain rfl : k = xs.length := by omega
      have hO := HO.out
      have hF := HF.out
      rw [List.take_length] at hO hF
      obtain ⟨a', c', rfl, _⟩ := rd_own hO
      have HO2 := hid hO
      have HP := hid (pkiR_ok (W := 8) hF)
      clear hO hF HO HF
      go_wp2
      go_ret2
      rw [HP.out]
      exact pkiPost_mk (flat_len 8 xs) HO2.out HB.out
end Go.Proofs.YtfaehioeepolhabGreat
namespace Go.Proofs.YtfaehioeepolhabGreat
open Go.RowKit
set_option maxHeartbeats 400000 in
theorem implPki_i8 (a : Option Addr) (cap : Nat) (xs : List Int) (w : World) (hr : Rd w a (ints xs)) (hx : ∀ x ∈ xs, IntIn x) (hl : xs.length ≤ 1048576) :
    Calls Tryz.prog 159 #[.slice a xs.length cap, .int .i64 1] w (PkiPost w (pkiR 1 .i8 xs)) := by
  go_enter Tryz.func159, Tryz.ntmps159
  go_wp2_with fail
  refine (packAs_i8 a cap xs w hr hx hl).mono ?_
  rintro e w1 ⟨a1, c1, rfl, o1, b1⟩
  go_wp2
  go_ret2
  exact ⟨a1, c1, rfl, o1, b1⟩
set_option maxHeartbeats 400000 in
theorem implPki_i16 (a : Option Addr) (cap : Nat) (xs : List Int) (w : World) (hr : Rd w a (ints xs)) (hx : ∀ x ∈ xs, IntIn x) (hl : xs.length ≤ 1048576) :
    Calls Tryz.prog 159 #[.slice a xs.length cap, .int .i64 2] w (PkiPost w (pkiR 2 .i16 xs)) := by
  go_enter Tryz.func159, Tryz.ntmps159
  go_wp2_with fail
  refine (packAs_i16 a cap xs w hr hx hl).mono ?_
  rintro e w1 ⟨a1, c1, rfl, o1, b1⟩
  go_wp2
  go_ret2
  exact ⟨a1, c1, rfl, o1, b1⟩
set_option maxHeartbeats 400000 in
theorem implPki_i32 (a : Option Addr) (cap : Nat) (xs : List Int) (w : World) (hr : Rd w a (ints xs)) (hx : ∀ x ∈ xs, IntIn x) (hl : xs.length ≤ 1048576) :
    Calls Tryz.prog 159 #[.slice a xs.length cap, .int .i64 4] w (PkiPost w (pkiR 4 .i32 xs)) := by
  go_enter Tryz.func159, Tryz.ntmps159
  go_wp2_with fail
  refine (packAs_i32 a cap xs w hr hx hl).mono ?_
  rintro e w1 ⟨a1, c1, rfl, o1, b1⟩
  go_wp2
  go_ret2
  exact ⟨a1, c1, rfl, o1, b1⟩
set_option maxHeartbeats 400000 in
theorem implPki_i64 (a : Option Addr) (cap : Nat) (xs : List Int) (w : World) (hr : Rd w a (ints xs)) (hx : ∀ x ∈ xs, IntIn x) (hl : xs.length ≤ 1048576) :
    Calls Tryz.prog 159 #[.slice a xs.length cap, .int .i64 8] w (PkiPost w (pkiR 8 .i64 xs)) := by
  go_enter Tryz.func159, Tryz.ntmps159
  go_wp2_with fail
  refine (packAs_i64 a cap xs w hr hx hl).mono ?_
  rintro e w1 ⟨a1, c1, rfl, o1, b1⟩
  go_wp2
  go_ret2
  exact ⟨a1, c1, rfl, o1, b1⟩
set_option maxHeartbeats 400000 in
theorem implPki_no (a : Option Addr) (cap len : Nat) (n : Int) (w : World) (h : ¬ (n = 1 ∨ n = 2 ∨ n = 4 ∨ n = 8)) :
    Calls Tryz.prog 159 #[.slice a len cap, .int .i64 n] w (PkiPost w ([], 1)) := by
  have e1 : (n == 1) = false := by simp; omega
  have e2 : (n == 2) = false := by simp; omega
  have e4 : (n == 4) = false := by simp; omega
  have e8 : (n == 8) = false := by simp; omega
  clear h
  go_enter Tryz.func159, Tryz.ntmps159
  go_wp2
  go_ret2
  exact pkiPost_nil _ (Below.refl _ _)
theorem implPki_any (a : Option Addr) (cap : Nat) (xs : List Int) (n : Int) (w : World) (hr : Rd w a (ints xs)) (hx : ∀ x ∈ xs, IntIn x) (_hcap : xs.length ≤ cap) (hl : xs.length ≤ 1048576) (_hn : IntIn n) :
    Calls Tryz.prog 159 #[.slice a xs.length cap, .int .i64 n] w (PkiPost w (pki xs n)) := by
  by_cases h1 : n = 1
  · subst h1; exact implPki_i8 a cap xs w hr hx hl
  by_cases h2 : n = 2
  · subst h2; exact implPki_i16 a cap xs w hr hx hl
  by_cases h4 : n = 4
  · subst h4; exact implPki_i32 a cap xs w hr hx hl
  by_cases h8 : n = 8
  · subst h8; exact implPki_i64 a cap xs w hr hx hl
  have h : ¬ (n = 1 ∨ n = 2 ∨ n = 4 ∨ n = 8) := by omega
  rw [pki_no xs n h]
  exact implPki_no a cap _ n w h
end Go.Proofs.YtfaehioeepolhabGreat
namespace Go.Proofs.YtfaehioeepolhabGreat
open Go.RowKit
set_option maxHeartbeats 2000000 in
theorem nameByte_any (c : Nat) (w : World) : Calls Tryz.prog 157 #[.int .u8 (c : Int)] w fun e w' => e = .returned (.bool (nameB c)) ∧ w' = w := by
  rcases nameB_split c with ⟨hs, hn⟩ | ⟨hs, hn⟩
  · have HN := hid hn
    clear hn
    rcases hs with h | h | h | h | h <;> (go_enter Tryz.func157, Tryz.ntmps157; go_wp2 <;> first | (exfalso; omega) | (go_ret; exact ⟨by rw [HN.out]; simp; omega, rfl⟩) | (go_ret; exact ⟨by rw [HN.out]; rfl, rfl⟩))
  · have HN := hid hn
    clear hn
    rcases hs with h | h | h | h <;> (go_enter Tryz.func157, Tryz.ntmps157; go_wp2 <;> first | (exfalso; omega) | (go_ret; exact ⟨by rw [HN.out]; simp; omega, rfl⟩) | (go_ret; exact ⟨by rw [HN.out]; rfl, rfl⟩))
end Go.Proofs.YtfaehioeepolhabGreat
namespace Go.Proofs.YtfaehioeepolhabGreat
open Go.RowKit
set_option maxHeartbeats 2000000 in
theorem validName_any (a : Option Addr) (cap : Nat) (xs : List Nat) (w : World) (hr : Rd w a (byt xs)) :
    Calls Tryz.prog 143 #[.slice a xs.length cap] w fun e w' => e = .returned (.bool (nameOK xs)) ∧ w' = w := by
  by_cases h1 : xs.length < 1
  · have HD : Hid (nameOK xs = false) := hid (by simp [nameOK]; omega)
    rw [HD.out]
    go_enter Tryz.func143, Tryz.ntmps143
    go_wp2
    go_ret
    exact ⟨rfl, rfl⟩
  by_cases h2 : 20 < xs.length
  · have HD : Hid (nameOK xs = false) := hid (by simp [nameOK]; omega)
    rw [HD.out]
    go_enter Tryz.func143, Tryz.ntmps143
    go_wp2
    go_ret
    exact ⟨rfl, rfl⟩
  have HD : Hid (nameOK xs = xs.all nameB) := hid (by
    have e1 : decide (1 ≤ xs.length) = true := decide_eq_true (by omega)
    have e2 : decide (xs.length ≤ 20) = true := decide_eq_true (by omega)
    unfold nameOK; rw [e1, e2]; rfl)
  rw [HD.out]
  have HC : Hid (∀ i, (h : i < xs.length) → ∃ b off, a = some ⟨b, off, none⟩ ∧ w.cell? ⟨b, off + i, none⟩ = some (.int .u8 ((xs[i] : Nat) : Int))) := hid (by
    rcases hr with h | ⟨b, off, rfl, hc⟩
    · have : xs = [] := by simpa [byt] using h
      subst this; simp at h1
    · exact fun i h => ⟨b, off, rfl, rdByte hc i h⟩)
  clear hr
  go_enter Tryz.func143, Tryz.ntmps143
  go_wp2
  go_loop [4, 15] (fun c i => ∃ k : Nat, k ≤ xs.length ∧ i = .int .i64 k ∧ ∀ j, (h : j < xs.length) → j < k → nameB xs[j] = true) (fun _ i => xs.length - (intOf i).toNat)
  case atStart => exact ⟨0, Nat.zero_le _, rfl, fun j _ h => by omega⟩
  case round =>
    obtain ⟨k, hk, rfl, hall⟩ := hrel
    have HA := hid hall
    clear hall
    by_cases hlt : k < xs.length
    · obtain ⟨b, off, rfl, hcell⟩ := HC.out k hlt
      have hki : (k : Int) < (xs.length : Int) := by omega
      go_wp2_with fail
      refine (nameByte_any xs[k] w).mono ?_
      rintro e w ⟨rfl, rfl⟩
      cases hn : nameB xs[k]
      · have HX := hid (all_bad hlt hn)
        go_wp2
        go_ret
        exact ⟨by rw [HX.out]; rfl, rfl⟩
      · have HX : Hid (∀ j, (h : j < xs.length) → j < k + 1 → nameB xs[j] = true) := hid (fun j hj hjk => by
          by_cases e : j = k
          · subst e; exact hn
          · exact HA.out j hj (by omega))
        go_wp2
        go_round
        case rel => exact ⟨k + 1, by omega, by go_num, HX.out⟩
        case measure => simp [intOf]; omega
    · obtain rfl : k = xs.length := by omega
      have HF := hid (all_ok (fun j hj => HA.out j hj hj))
      go_wp2
      go_ret
      exact ⟨by rw [HF.out]; rfl, rfl⟩
set_option maxHeartbeats 1000000 in
theorem fitsWidth_any (n width : Int) (w : World) (hn : IntIn n) (hw : IntIn width) :
    Calls Tryz.prog 149 #[.int .i64 n, .int .i64 width] w fun e w' => e = .returned (.bool (fitsW n width)) ∧ Below w.heap.size w w' := by
  have HQ : Hid (Calls Tryz.prog 159 #[.slice (some ⟨w.heap.size, 0, none⟩) 1 1, .int .i64 width] (w.alloc (.cells #[.int .i64 n] 3)) (PkiPost (w.alloc (.cells #[.int .i64 n] 3)) (pki [n] width))) := hid (implPki_any (some ⟨w.heap.size, 0, none⟩) 1 [n] width _ (.inr ⟨w.heap.size, 0, rfl, fun i hi => by
      have : i = 0 := by simpa [ints] using hi
      subst this
      simp [ints]⟩) (by simp; exact hn) (by simp) (by simp) hw)
  have HD : Hid (fitsW n width = ((pki [n] width).2 == 0)) := hid rfl
  generalize pki [n] width = R at *
  go_enter Tryz.func149, Tryz.ntmps149
  go_wp2_with fail
  refine HQ.out.mono ?_
  rintro e w1 ⟨a1, c1, rfl, o1, b1⟩
  have HB : Hid (Below w.heap.size w w1) := hid ((below_new1 w _).trans (b1.mono (by simp)))
  clear o1 b1
  go_wp2
  go_ret
  exact ⟨by rw [HD.out]; rfl, HB.out⟩
set_option maxHeartbeats 400000 in
theorem validWidth_any (width : Int) (w : World) (hw : IntIn width) :
    Calls Tryz.prog 144 #[.int .i64 width] w fun e w' => e = .returned (.bool (widthOK width)) ∧ Below w.heap.size w w' := by
  go_enter Tryz.func144, Tryz.ntmps144
  go_wp2_with fail
  refine (fitsWidth_any 0 width w (by unfold IntIn; omega) hw).mono ?_
  rintro e w1 ⟨rfl, b1⟩
  have HB := hid b1
  clear b1
  rw [fitsW_zero]
  generalize hq : widthOK width = q
  go_wp2
  go_ret
  exact ⟨by rw [hq]; rfl, HB.out⟩
set_option maxHeartbeats 1000000 in
theorem validField_any (f : PF) (cs : List Value) (w : World) (hr : cField.rd w f cs) :
    Calls Tryz.prog 118 #[val cs] w fun e w' => e = .returned (.bool (fieldOK f)) ∧ Below w.heap.size w w' := by
  obtain ⟨v, rfl, hv, hik, hiw⟩ := cField_rd hr
  obtain ⟨a, cap, rfl, _, _, _, hrd, hby⟩ := hv.bytes
  simp only [val]
  have HK : Hid (Calls Tryz.prog 143 #[.slice a f.name.length cap] (w.alloc (.cells #[.slice a f.name.length cap, .int .i64 f.kind, .int .i64 f.width] 101)) fun e w' => e = .returned (.bool (nameOK f.name)) ∧ w' = w.alloc (.cells #[.slice a f.name.length cap, .int .i64 f.kind, .int .i64 f.width] 101)) := hid (validName_any a cap f.name _ (hrd.later (below_new1 _ _)))
  have HF : Hid (fieldOK f = (nameOK f.name && kindOK f)) := hid rfl
  have HKK : Hid (kindOK f = if f.kind = 1 then widthOK f.width else decide (0 ≤ f.kind) && decide (f.kind ≤ 3) && decide (f.width = 0)) := hid rfl
  have HIW := hid hiw
  clear hr hrd hv hik hiw
  cases hn : nameOK f.name
  · have HX : Hid (fieldOK f = false) := hid (by rw [HF.out, hn]; rfl)
    go_enter Tryz.func118, Tryz.ntmps118
    go_wp2_with fail
    refine HK.out.mono ?_
    rintro e w2 ⟨rfl, rfl⟩
    rw [hn]
    go_wp2
    go_ret
    exact ⟨by rw [HX.out]; rfl, below_new1 _ _⟩
  · by_cases h1 : f.kind = 1
    · have HX : Hid (fieldOK f = widthOK f.width) := hid (by rw [HF.out, hn, HKK.out, if_pos h1]; rfl)
      have H1 := hid h1
      clear h1
      go_enter Tryz.func118, Tryz.ntmps118
      go_wp2_with fail
      refine HK.out.mono ?_
      rintro e w2 ⟨rfl, rfl⟩
      rw [hn]
      have h1 := H1.out
      go_wp2_with fail
      refine (validWidth_any f.width _ HIW.out).mono ?_
      rintro e w2 ⟨rfl, b2⟩
      have HB : Hid (Below w.heap.size w w2) := hid ((below_new1 w _).trans (b2.mono (by simp)))
      clear b2
      generalize widthOK f.width = q at *
      go_wp2
      go_ret
      exact ⟨by rw [HX.out]; rfl, HB.out⟩
    · have HX : Hid (fieldOK f = (decide (0 ≤ f.kind) && decide (f.kind ≤ 3) && decide (f.width = 0))) := hid (by rw [HF.out, hn, HKK.out, if_neg h1]; rfl)
      by_cases h2 : f.kind = 0 ∨ f.kind = 2 ∨ f.kind = 3
      · have HY : Hid (fieldOK f = decide (f.width = 0)) := hid (by rw [HX.out, decide_eq_true (show 0 ≤ f.kind by omega), decide_eq_true (show f.kind ≤ 3 by omega)]; rfl)
        rcases h2 with h2 | h2 | h2
        all_goals
          have H2 := hid h2
          clear h2 h1
          go_enter Tryz.func118, Tryz.ntmps118
          go_wp2_with fail
          refine HK.out.mono ?_
          rintro e w2 ⟨rfl, rfl⟩
          rw [hn]
          have h2 := H2.out
          go_wp2
          go_ret
          exact ⟨by rw [HY.out]; rfl, below_new1 _ _⟩
      · have HY : Hid (fieldOK f = false) := hid (by
          rw [HX.out]
          by_cases e : 0 ≤ f.kind
          · rw [decide_eq_false (show ¬ f.kind ≤ 3 by omega)]; simp
          · rw [decide_eq_false e]; rfl)
        have e0 : (f.kind == 0) = false := by simp; omega
        have e1 : (f.kind == 1) = false := by simp; omega
        have e2 : (f.kind == 2) = false := by simp; omega
        have e3 : (f.kind == 3) = false := by simp; omega
        clear h1 h2
        go_enter Tryz.func118, Tryz.ntmps118
        go_wp2_with fail
        refine HK.out.mono ?_
        rintro e w2 ⟨rfl, rfl⟩
        rw [hn]
        go_wp2
        go_ret
        exact ⟨by rw [HY.out]; rfl, below_new1 _ _⟩
end Go.Proofs.YtfaehioeepolhabGreat
namespace Go.Proofs.YtfaehioeepolhabGreat
open Go.RowKit
set_option maxHeartbeats 2000000 in
theorem validCell_any (f : PF) (c : PC) (cs cs' : List Value) (w : World) (h1 : cField.rd w f cs) (h2 : cCell.rd w c cs') :
    Calls Tryz.prog 125 #[val cs, val cs'] w fun e w' => e = .returned (.bool (cellOK f c)) ∧ Below w.heap.size w w' := by
  obtain ⟨a1, c1, rfl⟩ := cField_shape h1
  obtain ⟨a2, c2, rfl⟩ := cCell_shape h2
  have hin : IntIn c.num ∧ IntIn f.width := by
    obtain ⟨v, e, _, h⟩ := cCell_rd h2
    obtain ⟨v, e, _, _, h'⟩ := cField_rd h1
    exact ⟨h, h'⟩
  have HIN := hid hin
  simp only [val]
  clear h1 h2 hin
  cases hn : c.null
  · by_cases k0 : f.kind = 0
    · have HX := hid (cellOK_bool hn k0)
      by_cases e0 : c.num = 0
      · rw [show (c.num == 0) = true from by simpa using e0] at HX
        go_enter Tryz.func125, Tryz.ntmps125
        go_wp2
        go_ret
        exact ⟨by rw [HX.out]; first | rfl | simp, below_new2 _ _ _⟩
      · by_cases e1 : c.num = 1
        · rw [show (c.num == 0) = false from by simpa using e0, show (c.num == 1) = true from by simpa using e1] at HX
          go_enter Tryz.func125, Tryz.ntmps125
          go_wp2
          go_ret
          exact ⟨by rw [HX.out]; first | rfl | simp, below_new2 _ _ _⟩
        · rw [show (c.num == 0) = false from by simpa using e0, show (c.num == 1) = false from by simpa using e1] at HX
          have b0 : (c.num == 0) = false := by simpa using e0
          have b1 : (c.num == 1) = false := by simpa using e1
          clear e0 e1
          go_enter Tryz.func125, Tryz.ntmps125
          go_wp2
          go_ret
          exact ⟨by rw [HX.out]; first | rfl | simp, below_new2 _ _ _⟩
    · have b0 : (f.kind == 0) = false := by simpa using k0
      by_cases k1 : f.kind = 1
      · have HX := hid (cellOK_int hn k1)
        have K1 := hid k1
        clear k1 k0
        have b1 : (f.kind == 1) = true := by simpa using K1.out
        have HQ : Hid (∀ w', Calls Tryz.prog 149 #[.int .i64 c.num, .int .i64 f.width] w' fun e w2 => e = .returned (.bool (fitsW c.num f.width)) ∧ Below w'.heap.size w' w2) := hid (fun w' => fitsWidth_any _ _ w' HIN.out.1 HIN.out.2)
        go_enter Tryz.func125, Tryz.ntmps125
        go_wp2_with fail
        refine (HQ.out _).mono ?_
        rintro e w2 ⟨rfl, b2⟩
        rw [size2] at b2
        obtain ⟨q0, q1⟩ := heap2 _ _ b2
        have p2 := cell_of_row w2 _ 2 _ _ _ q1
        simp at p2
        have HB : Hid (Below w.heap.size w w2) := hid ((below_new2 w _ _).trans (b2.mono (by omega)))
        clear b2 q0 q1
        cases hf : fitsW c.num f.width
        · rw [hf] at HX
          go_wp2
          go_ret
          exact ⟨by rw [HX.out]; first | rfl | simp, HB.out⟩
        · rw [hf] at HX
          go_wp2
          go_ret
          exact ⟨by rw [HX.out]; first | rfl | simp, HB.out⟩
      · have HX := hid (cellOK_text hn k0 k1)
        have b1 : (f.kind == 1) = false := by simpa using k1
        clear k0 k1
        go_enter Tryz.func125, Tryz.ntmps125
        go_wp2
        go_ret
        exact ⟨by rw [HX.out]; first | rfl | simp, below_new2 _ _ _⟩
  · have HX := hid (cellOK_null (f := f) hn)
    by_cases e0 : c.num = 0
    · rw [show (c.num == 0) = true from by simpa using e0] at HX
      go_enter Tryz.func125, Tryz.ntmps125
      go_wp2
      go_ret
      exact ⟨by rw [HX.out]; first | rfl | simp, below_new2 _ _ _⟩
    · rw [show (c.num == 0) = false from by simpa using e0] at HX
      have b0 : (c.num == 0) = false := by simpa using e0
      clear e0
      go_enter Tryz.func125, Tryz.ntmps125
      go_wp2
      go_ret
      exact ⟨by rw [HX.out]; first | rfl | simp, below_new2 _ _ _⟩
theorem cells_bad {f : PF} {cs : List PC} {k : Nat} (hk : k < cs.length) (h : cellOK f cs[k] = false) : cs.all (cellOK f) = false := by
  simp only [List.all_eq_false]
  exact ⟨cs[k], List.getElem_mem hk, by simp [h]⟩
theorem cells_ok {f : PF} {cs : List PC} (h : ∀ k, (hk : k < cs.length) → cellOK f cs[k] = true) : cs.all (cellOK f) = true := by
  simp only [List.all_eq_true]
  intro x hx
  obtain ⟨k, hk, rfl⟩ := List.getElem_of_mem hx
  exact h k hk
set_option maxHeartbeats 2000000 in
theorem validCells_any (f : PF) (fcs : List Value) (a : Option Addr) (cap : Nat) (xs : List PC) (w : World) (h1 : cField.rd w f fcs) (hr : RdSl cCell w xs (.slice a xs.length cap)) (hl : xs.length ≤ 1048576) :
    Calls Tryz.prog 83 #[val fcs, .slice a xs.length cap] w fun e w' => e = .returned (.bool (xs.all (cellOK f))) ∧ Below w.heap.size w w' := by
  have HF := hid h1
  obtain ⟨a1, c1, rfl⟩ := cField_shape h1
  have HR := hid hr
  simp only [val]
  clear h1 hr
  go_enter Tryz.func83, Tryz.ntmps83
  go_wp2
  go_loopw [6, 9] (fun _ i wr => ∃ k : Nat, k ≤ xs.length ∧ i = .int .i64 k ∧ (∀ j, (h : j < xs.length) → j < k → cellOK f xs[j] = true) ∧ wr.heap[w.heap.size]? = some (.cells #[.slice a1 f.name.length c1, .int .i64 f.kind, .int .i64 f.width] 101 (0, 0)) ∧ Below w.heap.size w wr) (fun _ i _ => xs.length - (intOf i).toNat)
  case atStart => exact ⟨0, Nat.zero_le _, rfl, fun j _ h => by omega, heap_alloc_new w _, below_new1 _ _⟩
  case round =>
    obtain ⟨k, hk, rfl, hall, hblk, hbe⟩ := hrel
    have HA := hid hall
    have HK := hid hblk
    have HB := hid hbe
    clear hall hblk hbe
    have p0 := cell_of_row wr _ 0 _ _ _ HK.out
    have p1 := cell_of_row wr _ 1 _ _ _ HK.out
    have p2 := cell_of_row wr _ 2 _ _ _ HK.out
    simp at p0 p1 p2
    have hB : w.heap.size < wr.heap.size := (Array.getElem?_eq_some_iff.1 HK.out).1
    by_cases hlt : k < xs.length
    · obtain ⟨b, off, v0, v1, v2, rfl, hes, d0, d1, d2⟩ := (HR.out.later HB.out).at3 rfl hlt
      obtain ⟨ax, cx, e⟩ := cCell_shape hes
      simp only [List.cons.injEq, and_true] at e
      obtain ⟨rfl, rfl, rfl⟩ := e
      have HE := hid hes
      have hki : (k : Int) < (xs.length : Int) := by omega
      have HQ : Hid (Calls Tryz.prog 125 #[.agg #[.slice a1 f.name.length c1, .int .i64 f.kind, .int .i64 f.width], .agg #[.bool xs[k].null, .int .i64 xs[k].num, .slice ax xs[k].text.length cx]] (wr.alloc (.cells #[.bool xs[k].null, .int .i64 xs[k].num, .slice ax xs[k].text.length cx] 102)) fun e w' => e = .returned (.bool (cellOK f xs[k])) ∧ Below wr.heap.size wr w') := hid (by
        have hb1 := below_new1 wr (.cells #[.bool xs[k].null, .int .i64 xs[k].num, .slice ax xs[k].text.length cx] 102)
        refine (validCell_any f xs[k] _ _ _ (cField.later (cField.later HF.out HB.out) hb1) (cCell.later HE.out hb1)).mono ?_
        rintro e w' ⟨rfl, b⟩
        exact ⟨rfl, hb1.trans (b.mono hb1.size)⟩)
      clear hes
      go_wp2_with fail
      refine HQ.out.mono ?_
      rintro e w2 ⟨rfl, b2⟩
      have HB2 := hid (HB.out.trans (b2.mono HB.out.size))
      have HK2 := hid ((b2.block _ hB).trans HK.out)
      clear b2
      cases hc : cellOK f xs[k]
      · have HX := hid (cells_bad hlt hc)
        go_wp2
        go_ret
        exact ⟨by rw [HX.out]; rfl, HB2.out⟩
      · have HX : Hid (∀ j, (h : j < xs.length) → j < k + 1 → cellOK f xs[j] = true) := hid (fun j hj hjk => by
          by_cases e : j = k
          · subst e; exact hc
          · exact HA.out j hj (by omega))
        go_wp2
        go_roundw
        case rel => exact ⟨k + 1, by omega, by go_num, HX.out, HK2.out, HB2.out⟩
        case measure => simp [intOf]; omega
    · obtain rfl : k = xs.length := by omega
      have HX := hid (cells_ok (fun j hj => HA.out j hj hj))
      go_wp2
      go_ret
      exact ⟨by rw [HX.out]; rfl, HB.out⟩
end Go.Proofs.YtfaehioeepolhabGreat
namespace Go.Proofs.YtfaehioeepolhabGreat
open Go.RowKit
set_option maxHeartbeats 2000000 in
theorem cellsOfField_any (t : PT) (R c : Nat) (a : Option Addr) (cap : Nat) (w : World) (hR : t.rows = (R : Int)) (hr : RdSl cCell w t.cells (.slice a t.cells.length cap)) (hRl : R ≤ 100) (hc : c < 12) (hlen : (c + 1) * R ≤ t.cells.length) :
    Calls Tryz.prog 82 #[.agg #[.int .i64 t.rows, .slice a t.cells.length cap], .int .i64 (c : Int)] w fun e w' => ∃ a' cap', e = .returned (.slice a' R cap') ∧ RdSl cCell w (col t.cells R c) (.slice a' R cap') ∧ Below w.heap.size w w' := by
  have hcap : t.cells.length ≤ cap ∧ cap ≤ maxLen := by
    obtain ⟨a', cap', e', g1, g2, _⟩ := hr
    simp at e'
    omega
  have HR := hid hr
  obtain ⟨lo, hlo⟩ : ∃ lo, lo = c * R := ⟨_, rfl⟩
  obtain ⟨hi, hhi⟩ : ∃ hi, hi = (c + 1) * R := ⟨_, rfl⟩
  have hsum : hi = lo + R := by rw [hlo, hhi, Nat.add_mul, Nat.one_mul]
  have hlo2 : lo ≤ 1200 := by rw [hlo]; exact Nat.le_trans (Nat.mul_le_mul (show c ≤ 12 by omega) hRl) (by omega)
  have m1 : (c : Int) * (R : Int) = (lo : Int) := by rw [hlo]; simp
  have m2 : ((c : Int) + 1) * (R : Int) = (hi : Int) := by rw [hhi]; simp
  rw [← hhi] at hlen
  have HL := hid hlo
  rw [hR]
  clear hr hlo hhi hR
  have H1 : Hid (RdSl cCell w (col t.cells R c) (.slice (a.map fun x => x.add (lo * 3)) R (cap - lo))) := hid (by
    have h := HR.out.cut (lo := lo) (R := R) (by omega)
    rw [HL.out] at h ⊢
    exact h)
  have H2 : Hid (R = 0 → col t.cells R c = []) := hid (fun h => by subst h; simp [col])
  unfold maxLen at hcap
  go_enter Tryz.func82, Tryz.ntmps82
  by_cases hz : cap = lo
  · subst hz
    have h0 : R = 0 := by omega
    have H0 := hid h0
    clear h0
    go_wp2
    go_ret
    refine ⟨a, 0, by simp, ?_, below_new1 _ _⟩
    rw [H2.out H0.out, H0.out]
    exact RdSl.empty a
  · go_wp2
    all_goals first
      | (exfalso; omega)
      | (go_ret; exact ⟨a.map fun x => x.add (lo * 3), cap - lo, by simp, H1.out, below_new1 _ _⟩)
end Go.Proofs.YtfaehioeepolhabGreat
namespace Go.Proofs.YtfaehioeepolhabGreat
open Go.RowKit
set_option maxHeartbeats 400000 in
theorem bytesEqual_any (a1 a2 : Option Addr) (c1 c2 : Nat) (xs ys : List Nat) (w : World) (h1 : Rd w a1 (byt xs)) (h2 : Rd w a2 (byt ys)) (hx : ∀ x ∈ xs, x < 256) (hy : ∀ x ∈ ys, x < 256) :
    Calls Tryz.prog 145 #[.slice a1 xs.length c1, .slice a2 ys.length c2] w fun e w' => e = .returned (.bool (decide (xs = ys))) ∧ w' = w := by
  have e1 := run_bstr (P := Tryz.prog) (c := c1) Tryz.underlying87 Tryz.underlying5 Tryz.underlying9 h1
  have e2 := run_bstr (P := Tryz.prog) (c := c2) Tryz.underlying87 Tryz.underlying5 Tryz.underlying9 h2
  have HD : Hid (decide (xs = ys) = ((bstr xs).toList == (bstr ys).toList)) := hid (bstr_beq hx hy)
  rw [HD.out]
  clear h1 h2
  generalize bstr xs = s at *
  generalize bstr ys = t at *
  go_enter Tryz.func145, Tryz.ntmps145
  go_wp2
  go_ret
  exact ⟨rfl, rfl⟩
end Go.Proofs.YtfaehioeepolhabGreat
