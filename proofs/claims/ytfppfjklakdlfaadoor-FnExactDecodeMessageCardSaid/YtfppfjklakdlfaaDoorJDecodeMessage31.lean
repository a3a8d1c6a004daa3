import Derived.Test.YtfppfjklakdlfaaDoorJDecodeMessage6
import Derived.Test.YtfppfjklakdlfaaDoorJDecodeMessage19
namespace Go.Proofs.YtfppfjklakdlfaaDoor
open Go.RowKit
def cst (b : List Nat) (n : Nat) : Nat → Option (List (List Nat) × Nat)
  | 0 => if b.length < evn (4 * n) then none else some ([], evn (4 * n))
  | k + 1 => match cst b n k with
    | none => none
    | some (bs, at_) =>
      if b.length < at_ + num ((b.drop (4 * k)).take 4) then none
      else some (bs ++ [(b.drop at_).take (num ((b.drop (4 * k)).take 4))], at_ + evn (num ((b.drop (4 * k)).take 4)))
theorem cst_none {b : List Nat} {n k : Nat} (h : cst b n k = none) : ∀ j, k ≤ j → cst b n j = none := by
  intro j hj
  induction j with
  | zero => have : k = 0 := by omega
            subst this; exact h
  | succ j ih =>
    by_cases e : k = j + 1
    · subst e; exact h
    · unfold cst; rw [ih (by omega)]
theorem cst_next {b : List Nat} {n k : Nat} {bs : List (List Nat)} {at_ : Nat} (h : cst b n k = some (bs, at_)) : cst b n (k + 1) =
    if b.length < at_ + num ((b.drop (4 * k)).take 4) then none else some (bs ++ [(b.drop at_).take (num ((b.drop (4 * k)).take 4))], at_ + evn (num ((b.drop (4 * k)).take 4))) := by
  conv => lhs; unfold cst
  rw [h]
theorem cst_facts {b : List Nat} {n : Nat} : ∀ {k : Nat} {bs : List (List Nat)} {at_ : Nat}, cst b n k = some (bs, at_) → bs.length = k ∧ evn (4 * n) ≤ b.length ∧ at_ ≤ b.length + 7 * (k + 1) := by
  intro k
  induction k with
  | zero =>
    intro bs at_ h
    unfold cst at h
    split at h
    · cases h
    · rename_i hl
      simp only [Option.some.injEq, Prod.mk.injEq] at h
      obtain ⟨rfl, rfl⟩ := h
      exact ⟨rfl, by omega, by omega⟩
  | succ k ih =>
    intro bs at_ h
    cases hc : cst b n k with
    | none => rw [cst_none hc (k + 1) (by omega)] at h; cases h
    | some p =>
      obtain ⟨bs', at'⟩ := p
      rw [cst_next hc] at h
      obtain ⟨h1, h2, h3⟩ := ih hc
      split at h
      · cases h
      · rename_i hl
        simp only [Option.some.injEq, Prod.mk.injEq] at h
        obtain ⟨rfl, rfl⟩ := h
        have := (evn_le (num ((b.drop (4 * k)).take 4))).2.1
        exact ⟨by simp [h1], h2, by omega⟩
end Go.Proofs.YtfppfjklakdlfaaDoor
namespace Go.Proofs.YtfppfjklakdlfaaDoor
open Go.RowKit
set_option maxHeartbeats 1000000 in
set_option maxRecDepth 100000 in
theorem app_u32 (B : Nat) (v : Value) (n : Nat) (xs : List Nat) (N : Int) (w : World) (ho : w.ownsRow B 5 1 v n (byt xs)) (hB : B ≤ w.heap.size) (hn : n ≤ 1099511627776) (hN : IntIn N) :
    Calls Tryd.prog 54 #[v, .int .u32 N, .int .i64 4] w fun e w' => ∃ v', e = .returned v' ∧ w'.ownsRow B 5 1 v' (n + 4) (byt (xs ++ digs (U N) 4)) ∧ Below B w w' := by
  obtain ⟨i0, hi, hz0, hz1, hz2⟩ := info_parts infoByteP
  have hU := U_eq N
  have HL := hid (U_lt N)
  have HN' := hid hN
  have HO0 := hid ho
  clear hN ho
  generalize U N = u at *
  go_enter Tryd.func54, Tryd.ntmps54
  go_wp2
  go_loopw [0, 7, 11] (fun o r i wr => ∃ k : Nat, k ≤ 4 ∧ i = .int .i64 k ∧ r = .int .u64 ((u / 256 ^ k : Nat) : Int) ∧ wr.ownsRow B 5 1 o (n + k) (byt (xs ++ (digs u 4).take k)) ∧ Below B w wr) (fun _ _ i _ => 4 - (intOf i).toNat)
  case atStart => exact ⟨0, Nat.zero_le _, rfl, by simp, by simpa using HO0.out, Below.refl _ _⟩
  case round =>
    obtain ⟨k, hk, rfl, rfl, how, hbe⟩ := hrel
    have HO := hid how
    have HB := hid hbe
    clear how hbe hU
    by_cases hlt : k < 4
    · have HD := hid (digs_snoc u 4 k hlt)
      have HN := hid (div_next u k)
      have HR := hid (div_lt u k HL.out)
      have hBr : B ≤ wr.heap.size := Nat.le_trans hB HB.out.size
      generalize u / 256 ^ k = R at *
      have hki : decide ((k : Int) < 4) = true := by simp; omega
      go_wp2_with (first | (at_builtin; refine wpList_append_own _ rfl _ _ 22 rfl B 5 i0 (.int .u8 0) 1 1 Tryd.underlying22 hi hz0 hz1 hz2 rfl (by decide) _ (n + k) _ rfl (HO.out.alloc _) ⟨wr.heap.size, 0, none⟩ 1 1 [.int .u8 ((R : Int) % 256)] rfl rfl (cell_one_new _ _ _) (one_cell rfl) (by unfold maxLen; omega) (by omega) (by simp; omega) ?_))
      intro v' w1 hown' hgrow _
      have HB1 : Hid (Below B w w1) := hid ((HB.out.alloc hBr _).grown hgrow (by simp; omega) (fun k h => (World.ownsRow.lt HO.out k h).1))
      have HO1 : Hid (w1.ownsRow B 5 1 v' (n + (k + 1)) (byt (xs ++ (digs u 4).take (k + 1)))) := hid (by
        rw [HD.out, ← List.append_assoc, byt_snoc, ← Nat.add_assoc]
        simpa using hown')
      clear hown' hgrow
      go_wp2
      go_roundw
      case rel => exact ⟨k + 1, by omega, by go_num, by rw [← HN.out]; simp, HO1.out, HB1.out⟩
      case measure => simp [intOf]; omega
    · have hki : decide ((k : Int) < 4) = false := by simp; omega
      have HK : Hid (k = 4) := hid (by omega)
      have hO := HO.out
      rw [HK.out, List.take_of_length_le (by rw [digs_len]; exact Nat.le_refl _)] at hO
      have HO2 := hid hO
      clear hO HO
      go_wp2
      go_ret
      exact ⟨_, rfl, HO2.out, HB.out⟩
end Go.Proofs.YtfppfjklakdlfaaDoor
