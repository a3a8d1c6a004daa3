import Derived.Test.YtfppfjklakdlfaaDoorJForms34
import Derived.Test.YtfppfjklakdlfaaDoorJForms35
import Derived.Test.YtfppfjklakdlfaaDoorJForms7
import Derived.Test.YtfppfjklakdlfaaDoorJForms15
import Derived.Deep.RegionHeld3
namespace Go.Proofs.YtfppfjklakdlfaaDoor
open Go.RowKit
theorem Made1.other {α : Type} {c : Cod α} {e : TypeId} {w wr : World} {xs ys : List α} {k : Nat} (hm : Made1 c e w wr xs k) (hl : xs.length = ys.length) (h : ∀ i, (h1 : i < xs.length) → (h2 : i < ys.length) → i < k → xs[i] = ys[i]) : Made1 c e w wr ys k := by
  obtain ⟨vs, bss, how, hbl, hown, hin, hnn⟩ := hm
  rw [hl] at how
  exact ⟨vs, bss, how, hbl, fun i h1 h2 => by rw [← h i (by omega) h1 (by omega)]; exact hown i (by omega) h2, hin, hnn⟩
def CutPost (w : World) (r : Option (List (List Nat) × Nat)) (E : Value) (e : Ending) (w' : World) : Prop :=
  Below w.heap.size w w' ∧ match r with
  | none => e = .returned (.tuple #[.slice none 0 0, E])
  | some (bs, _) => ∃ v bl, e = .returned (.tuple #[v, .nilIface]) ∧ OwnSl cSS 22 w' bs v bl ∧ (∀ b ∈ bl, w.heap.size ≤ b) ∧ bl.Nodup
set_option maxRecDepth 100000 in
set_option maxHeartbeats 4000000 in
theorem cutBuffers_any (a : Option Addr) (cap n : Nat) (xs : List Nat) (E : Value) (w : World) (hr : RdSl cByte w xs (.slice a xs.length cap)) (hl : xs.length ≤ 1048576) (hn : n ≤ 255) (hE : w.cell? ⟨0, 0, none⟩ = some E) :
    Calls Tryd.prog 61 #[.slice a xs.length cap, .int .i64 (n : Int)] w (CutPost w (cst xs n n) E) := by
  obtain ⟨i0, hi, hz0, hz1, hz2⟩ := info_parts infoSl1
  have HR := hid hr
  have hev := evn_le (4 * n)
  have HA : Hid (Calls Tryd.prog 73 #[.int .i64 (4 * (n : Int))] w fun e w' => e = .returned (.int .i64 ((evn (4 * n) : Nat) : Int)) ∧ w' = w) := hid (by
    have h := aligned_any (4 * n) w (by omega)
    rw [show ((4 * n : Nat) : Int) = 4 * (n : Int) from by omega] at h
    exact h)
  have HC0 : Hid (cst xs n 0 = if xs.length < evn (4 * n) then none else some ([], evn (4 * n))) := hid rfl
  clear hr
  by_cases c0 : xs.length < evn (4 * n)
  · have HN : Hid (cst xs n n = none) := hid (cst_none (k := 0) (by rw [HC0.out, if_pos c0]) n (by omega))
    rw [HN.out]
    have dc : decide (xs.length < evn (4 * n)) = true := decide_eq_true (by omega)
    clear hev HC0 c0 HN
    generalize evn (4 * n) = E4 at *
    go_enter Tryd.func61, Tryd.ntmps61
    go_wp2_with fail
    refine HA.out.mono ?_
    rintro e w1 ⟨rfl, rfl⟩
    go_wp2_with fail
    go_region
    all_goals (go_wp2; go_ret2; exact ⟨(Below.refl _ _).drew, rfl⟩)
  · have dc : decide (xs.length < evn (4 * n)) = false := decide_eq_false (by omega)
    have HC1 : Hid (cst xs n 0 = some ([], evn (4 * n))) := hid (by rw [HC0.out, if_neg c0])
    have hE4 : evn (4 * n) ≤ 1048576 ∧ 4 * n ≤ evn (4 * n) ∧ evn (4 * n) ≤ xs.length := by omega
    clear hev HC0 c0
    generalize evn (4 * n) = E4 at *
    go_enter Tryd.func61, Tryd.ntmps61
    go_wp2_with fail
    refine HA.out.mono ?_
    rintro e w1 ⟨rfl, rfl⟩
    go_wp2_with (first | (at_make; refine wpList_make_full _ rfl (.tmp 18) (.tmp 18) 23 rfl w1.heap.size 22 i0 (.slice none 0 0) 1 Tryd.underlying23 hi hz0 hz1 .i64 .i64 _ _ n rfl rfl rfl rfl (by rw [hz2]; omega) (by unfold maxLen; omega) (Nat.le_refl _) ?_) | fail)
    intro w2 ho hg1
    have HB1 : Hid (Below w1.heap.size w1 w2) := hid ((Below.refl _ w1).grown hg1 (Nat.le_refl _) (by intro k h; cases h))
    have HM : Hid (Made1 cSS 22 w1 w2 ([] ++ List.replicate (n - 0) []) 0) := hid ⟨_, [], by simpa using ho, rfl, fun i h h2 => by simp at h2, by simp, by simp⟩
    clear hg1 hi hz0 hz1 hz2 ho HA dc
    go_wp2
    go_loopw [6, 8, 9, 22] (fun p _ _ i wr => ∃ (k q : Nat) (bs : List (List Nat)), k ≤ n ∧ i = .int .i64 k ∧ p = .int .i64 q ∧ cst xs n k = some (bs, q) ∧ Made1 cSS 22 w1 wr (bs ++ List.replicate (n - k) []) k ∧ Below w1.heap.size w1 wr) (fun _ _ _ i _ => n - (intOf i).toNat)
    case atStart => exact ⟨0, E4, [], Nat.zero_le _, rfl, rfl, HC1.out, HM.out, HB1.out⟩
    case round =>
      obtain ⟨k, q, bs, hk, rfl, rfl, hc, hm, hbe⟩ := hrel
      have HC := hid hc
      have HV := hid hm
      have HB := hid hbe
      have hE' : wr.cell? ⟨0, 0, none⟩ = some E := cell_later hbe hE
      have hfa := cst_facts hc
      clear hc hm hbe
      by_cases hlt : k < n
      · have hki : (k : Int) < (n : Int) := by omega
        have hdi : decide (k < n) = true := decide_eq_true hlt
        obtain ⟨b, off, rfl, hcell⟩ : ∃ b off, a = some ⟨b, off, none⟩ ∧ ∀ i, (h : i < xs.length) → wr.cell? ⟨b, off + i, none⟩ = some (.int .u8 (xs[i] : Int)) := by
          obtain ⟨a', c', e', -, -, -, hrd, -⟩ := (HR.out.later HB.out).bytes
          cases e'
          rcases hrd with h | ⟨b, off, rfl, hc⟩
          · have : (byt xs).length = 0 := by rw [h]; rfl
            rw [byt_len] at this
            omega
          · exact ⟨b, off, rfl, fun i h => by have := hc i (by rw [byt_len]; exact h); rw [this]; simp [byt]⟩
        have HCELL := hid hcell
        have HBY : Hid (∀ x ∈ xs, x < 256) := hid (by obtain ⟨_, _, _, _, _, _, _, h⟩ := HR.out.bytes; exact h)
        have hcap : xs.length ≤ cap ∧ cap ≤ 9223372036854775807 := by obtain ⟨a', cap', e', g1, g2, _⟩ := HR.out; simp only [Value.slice.injEq] at e'; unfold maxLen at g2; omega
        have hne : ¬ cap = 4 * k := by omega
        have hb1 : decide ((4 : Int) * (k : Int) ≤ 4 * ((k : Int) + 1)) = true := decide_eq_true (by omega)
        clear hcell
        obtain ⟨L, hL⟩ : ∃ L : Nat, L = num ((xs.drop (4 * k)).take 4) := ⟨_, rfl⟩
        have hLb : L < 4294967296 := by
          have hin : 4 * k + 4 ≤ xs.length := by omega
          have h := num_lt (chunk xs 4 k) (chunk_lt HBY.out)
          rw [chunk_len hin] at h
          rw [hL]
          exact h
        have HRN : Hid (Calls Tryd.prog 57 #[.slice (some ⟨b, off + 4 * k, none⟩) (4 * (k + 1) - 4 * k) (cap - 4 * k)] wr fun e w' => e = .returned (.int .u32 (L : Int)) ∧ w' = wr) := hid (by
          have h := readc_u32 b off (off + 4 * k) (cap - 4 * k) (4 * (k + 1) - 4 * k) k xs wr HCELL.out HBY.out (by omega) rfl (by omega)
          have e : IntKind.u32.wrap ((num (chunk xs 4 k) : Nat) : Int) = (L : Int) := by
            rw [show num (chunk xs 4 k) = L from hL.symm]
            simp [IntKind.wrap, IntKind.bits, IntKind.signed]; omega
          rwa [e] at h)
        have HCN : Hid (cst xs n (k + 1) = if xs.length < q + L then none else some (bs ++ [(xs.drop q).take L], q + evn L)) := hid (by rw [hL]; exact cst_next HC.out)
        clear hL
        go_wp2_with fail
        refine HRN.out.mono ?_
        rintro e w3 ⟨rfl, rfl⟩
        clear HRN
        by_cases hf : xs.length < q + L
        · have hd1 : decide ((xs.length : Int) - (q : Int) < (L : Int)) = true := decide_eq_true (by omega)
          have HN : Hid (cst xs n n = none) := hid (cst_none (k := k + 1) (by rw [HCN.out, if_pos hf]) n (by omega))
          clear HCN hf
          go_wp2_with fail
          go_region
          all_goals (go_wp2; go_ret2; unfold CutPost; rw [HN.out]; exact ⟨HB.out.drew, rfl⟩)
        · have hd1 : decide ((xs.length : Int) - (q : Int) < (L : Int)) = false := decide_eq_false (by omega)
          have HC2 : Hid (cst xs n (k + 1) = some (bs ++ [(xs.drop q).take L], q + evn L)) := hid (by rw [HCN.out, if_neg hf])
          have hqL : q + L ≤ xs.length := by omega
          clear HCN hf
          obtain ⟨ys, hys⟩ : ∃ ys : List Nat, ys = (xs.drop q).take L := ⟨_, rfl⟩
          have hyl : ys.length = L := by rw [hys]; simp; omega
          have HYB : Hid (∀ x ∈ ys, x < 256) := hid (fun x hx => by rw [hys] at hx; exact HBY.out x (List.mem_of_mem_drop (List.mem_of_mem_take hx)))
          have HSUB : Hid (RdSl cByte w3 ys (.slice (some ⟨b, off + q, none⟩) L (cap - q))) := hid (by rw [hys]; exact rdB_cut (HR.out.later HB.out) hqL)
          have HCL : Hid (∀ A C, RdSl cByte w3 ys (.slice (some ⟨b, A, none⟩) L C) → Calls Tryd.prog 59 #[.slice (some ⟨b, A, none⟩) L C] w3 fun e w' => ∃ v, e = .returned v ∧ w'.ownsRow w3.heap.size 5 1 v L (byt ys) ∧ Below w3.heap.size w3 w') := hid (fun A C h => by
            have h2 := bclone_any (some ⟨b, A, none⟩) C ys w3 (by rw [hyl]; exact h) (by omega)
            rwa [hyl] at h2)
          rw [← hys] at HC2
          have HY0 : Hid (L = 0 → ys = []) := hid (fun h => List.length_eq_zero_iff.1 (hyl.trans h))
          have hbl := hfa.1
          have HV2 : Hid (Made1 cSS 22 w1 w3 ((bs ++ [ys]) ++ List.replicate (n - (k + 1)) []) k) := hid (HV.out.other (by simp; omega) (fun i h1 h2 h3 => by
            rw [List.getElem_append_left (by omega), List.getElem_append_left (by simp; omega), List.getElem_append_left (by omega)]))
          have HYK : Hid (∀ h, ((bs ++ [ys]) ++ List.replicate (n - (k + 1)) [])[k]'h = ys) := hid (fun h => by
            rw [List.getElem_append_left (by simp; omega)]
            simp [← hbl])
          have HYL : Hid (((bs ++ [ys]) ++ List.replicate (n - (k + 1)) []).length = n) := hid (by simp; omega)
          have hE2 := evn_le L
          have HAL := hid (fun W => aligned_any L W (by omega))
          generalize evn L = E2 at *
          clear hys hyl HV HC hbl
          by_cases hcq : cap = q
          · have HSUB0 : Hid (∀ A C, C ≤ maxLen → RdSl cByte w3 ys (.slice (some ⟨b, A, none⟩) L C)) := hid (fun A C hC => by
              have h0 : L = 0 := by omega
              rw [HY0.out h0, h0]
              exact ⟨some ⟨b, A, none⟩, C, rfl, Nat.zero_le _, hC, (fun h => by cases h), .inl rfl⟩)
            have hcqT : (cap = q) = True := eq_true hcq
            have HCQ := hid hcq
            clear hcq
            go_wp2_with fail
            refine (HCL.out _ _ (HSUB0.out _ _ (by have := HCQ.out; unfold maxLen; omega))).mono ?_
            rintro e w4 ⟨v2, rfl, o2, b2⟩
            obtain ⟨a2, c2, rfl, -⟩ := rd_own o2
            have hg2 : ∀ x ∈ (Value.slice a2 L c2).ownBlock.toList, w3.heap.size ≤ x := fun x hb => (own_in o2 (by simpa using hb)).1
            have HNX : Hid (Made1 cSS 22 w1 (w4.setCell ⟨w1.heap.size, k, none⟩ (.slice a2 L c2)) ((bs ++ [ys]) ++ List.replicate (n - (k + 1)) []) (k + 1)) := hid (HV2.out.step (by simp; omega) b2 (by rw [HYK.out]; exact ⟨_, rfl, ownSl_bytes o2 HYB.out⟩) hg2 (by cases (Value.slice a2 L c2).ownBlock <;> simp))
            have HBB : Hid (Below w1.heap.size w1 (w4.setCell ⟨w1.heap.size, k, none⟩ (.slice a2 L c2))) := hid ((HB.out.trans (b2.mono HB.out.size)).setCell (p := ⟨w1.heap.size, k, none⟩) (Nat.le_refl _) _)
            obtain ⟨vs, hvl, how2⟩ := HV2.out.row b2
            rw [HYL.out] at hvl how2
            have f0 := how2.frozenAt k
            have q0 := how2.cellAt k (by omega)
            rw [List.getElem?_eq_getElem (by omega)] at q0
            generalize vs[k] = y0 at q0
            clear o2 b2 how2 hvl hg2
            go_wp2_with fail
            refine (HAL.out _).mono ?_
            rintro e w5 ⟨rfl, rfl⟩
            go_wp2
            go_roundw
            case rel => exact ⟨k + 1, q + E2, bs ++ [ys], by omega, by go_num, by go_num, HC2.out, HNX.out, HBB.out⟩
            case measure => simp [intOf]; omega
          · have hcq2 : ¬ cap = q := hcq
            go_wp2_with fail
            refine (HCL.out _ _ (by exact HSUB.out)).mono ?_
            rintro e w4 ⟨v2, rfl, o2, b2⟩
            obtain ⟨a2, c2, rfl, -⟩ := rd_own o2
            have hg2 : ∀ x ∈ (Value.slice a2 L c2).ownBlock.toList, w3.heap.size ≤ x := fun x hb => (own_in o2 (by simpa using hb)).1
            have HNX : Hid (Made1 cSS 22 w1 (w4.setCell ⟨w1.heap.size, k, none⟩ (.slice a2 L c2)) ((bs ++ [ys]) ++ List.replicate (n - (k + 1)) []) (k + 1)) := hid (HV2.out.step (by simp; omega) b2 (by rw [HYK.out]; exact ⟨_, rfl, ownSl_bytes o2 HYB.out⟩) hg2 (by cases (Value.slice a2 L c2).ownBlock <;> simp))
            have HBB : Hid (Below w1.heap.size w1 (w4.setCell ⟨w1.heap.size, k, none⟩ (.slice a2 L c2))) := hid ((HB.out.trans (b2.mono HB.out.size)).setCell (p := ⟨w1.heap.size, k, none⟩) (Nat.le_refl _) _)
            obtain ⟨vs, hvl, how2⟩ := HV2.out.row b2
            rw [HYL.out] at hvl how2
            have f0 := how2.frozenAt k
            have q0 := how2.cellAt k (by omega)
            rw [List.getElem?_eq_getElem (by omega)] at q0
            generalize vs[k] = y0 at q0
            clear o2 b2 how2 hvl hg2
            go_wp2_with fail
            refine (HAL.out _).mono ?_
            rintro e w5 ⟨rfl, rfl⟩
            go_wp2
            go_roundw
            case rel => exact ⟨k + 1, q + E2, bs ++ [ys], by omega, by go_num, by go_num, HC2.out, HNX.out, HBB.out⟩
            case measure => simp [intOf]; omega
      · obtain rfl : k = n := by omega
        have hbl := hfa.1
        have hm : Made1 cSS 22 w1 wr bs bs.length := by
          have h := HV.out
          rw [Nat.sub_self, List.replicate_zero, List.append_nil] at h
          rw [hbl]
          exact h
        obtain ⟨bl, h1, h2, h3⟩ := hm.done rfl
        rw [hbl] at h1
        have HF := hid h1
        have hdi : decide (k < k) = false := decide_eq_false (by omega)
        clear h1 hm hbl HV
        go_wp2
        go_ret2
        unfold CutPost
        rw [HC.out]
        exact ⟨HB.out, _, bl, rfl, HF.out, h2, h3⟩
end Go.Proofs.YtfppfjklakdlfaaDoor
