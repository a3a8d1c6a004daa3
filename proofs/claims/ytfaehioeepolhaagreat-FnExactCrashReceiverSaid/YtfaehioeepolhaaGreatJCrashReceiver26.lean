import Derived.Test.YtfaehioeepolhaaGreatJCrashReceiver25
namespace Go.Proofs.YtfaehioeepolhaaGreat
open Go.RowKit
set_option maxRecDepth 100000 in
set_option maxHeartbeats 4000000 in
theorem l2texts_any (a : Option Addr) (cap : Nat) (xs : List PC) (w : World) (hr : RdSl cCell w xs (.slice a xs.length cap)) (hl : xs.length ≤ 1048576) :
    Calls Tryz.prog 148 #[.slice a xs.length cap, .int .i64 40] w fun e w' => ∃ a' n c', e = .returned (.slice a' n c') ∧ (40 < n ↔ 40 < diff xs) ∧ n ≤ 1048576 ∧ Below w.heap.size w w' := by
  obtain ⟨i0, hi, hz0, hz1, hz2⟩ := info_parts infoSlG
  have HR := hid hr
  have HD : Hid (∀ k, (ddv (nn (xs.take k))).length ≤ diff xs) := hid (fun k => by
    unfold diff
    rw [← ddv_len]
    have : nn xs = nn (xs.take k) ++ nn (xs.drop k) := by
      unfold nn
      rw [← List.map_append, ← List.filter_append, List.take_append_drop]
    rw [this]
    exact ddv_mono _ _)
  have HE : Hid (diff xs = (ddv (nn (xs.take xs.length))).length) := hid (by rw [List.take_length, ddv_len]; rfl)
  have HLE : Hid (∀ k, (ddv (nn (xs.take k))).length ≤ k) := hid (fun k => by
    rw [ddv_len]
    have h1 := cnt_le (nn (xs.take k)) (nn (xs.take k)).length
    have h2 := nn_len (xs.take k)
    simp at h2; omega)
  clear hr
  go_enter Tryz.func148, Tryz.ntmps148
  go_wp2
  go_loopw [5, 6] (fun v i wr => ∃ (k : Nat) (a' : Option Addr) (c' : Nat), k ≤ xs.length ∧ i = .int .i64 k ∧ v = .slice a' (ddv (nn (xs.take k))).length c' ∧ Gath w wr v (ddv (nn (xs.take k))) ∧ Below w.heap.size w wr) (fun _ i _ => xs.length - (intOf i).toNat)
  case atStart => exact ⟨0, none, 0, Nat.zero_le _, rfl, by simp [nn, ddv], by simpa [nn, ddv] using Gath.nil w, Below.refl _ _⟩
  case round =>
    obtain ⟨k, a', c', hk, rfl, rfl, hga, hbe⟩ := hrel
    have HG := hid hga
    have HB := hid hbe
    have hdk := HD.out k
    have hle := HLE.out k
    clear hga hbe
    by_cases hlt : k < xs.length
    · have hki : (k : Int) < (xs.length : Int) := by omega
      by_cases hfull : 40 < (ddv (nn (xs.take k))).length
      · have HX : Hid (40 < (ddv (nn (xs.take k))).length ↔ 40 < diff xs) := hid ⟨fun _ => by omega, fun _ => hfull⟩
        generalize (ddv (nn (xs.take k))).length = n at *
        have hd : decide ((n : Int) ≤ 40) = false := decide_eq_false (by omega)
        go_wp2
        go_ret
        exact ⟨a', n, c', rfl, HX.out, by omega, HB.out⟩
      · obtain ⟨b, off, v0, v1, v2, rfl, hes, d0, d1, d2⟩ := (HR.out.later HB.out).at3 rfl hlt
        obtain ⟨ax, cx, e⟩ := cCell_shape hes
        simp only [List.cons.injEq, and_true] at e
        obtain ⟨rfl, rfl, rfl⟩ := e
        have hT : RdSl cByte w xs[k].text (.slice ax xs[k].text.length cx) := by
          obtain ⟨b', off', y0, y1, y2, e', hy, q0, q1, q2⟩ := HR.out.at3 (k := k) rfl hlt
          simp only [Option.some.injEq, Addr.mk.injEq, and_true] at e'
          obtain ⟨rfl, rfl⟩ := e'
          have hlt2 := World.block_lt_of_cell? _ _ q2
          have e2 := (HB.out.cell (p := ⟨b, off + k * 3 + 2, none⟩) hlt2).symm.trans d2
          rw [q2] at e2
          obtain ⟨v, e3, hv, _⟩ := cCell_rd hy
          simp only [List.cons.injEq, and_true] at e3
          simp only [Option.some.injEq] at e2
          rw [← e2, e3.2.2]; exact hv
        have HT := hid hT
        have HS := hid (nn_snoc xs k hlt)
        have HQ : Hid (Calls Tryz.prog 135 #[.slice a' (ddv (nn (xs.take k))).length c', .slice ax xs[k].text.length cx] wr fun e w' => e = .returned (.int .i64 (place (ddv (nn (xs.take k))) xs[k].text)) ∧ w' = wr) := hid (by
          obtain ⟨_, _, e', -, -, -, hrd, hby⟩ := (HT.out.later HB.out).bytes
          simp only [Value.slice.injEq] at e'
          obtain ⟨rfl, -, rfl⟩ := e'
          exact l2place_any a' ax c' cx _ _ wr (HG.out.rd HB.out) hrd hby (by omega))
        have HP := hid (place_neg (vs := ddv (nn (xs.take k))) (t := xs[k].text))
        have HPL := hid (place_lt (ddv (nn (xs.take k))) xs[k].text)
        clear hes hT
        cases hnul : xs[k].null
        · rw [hnul] at d0
          have HSN : Hid (nn (xs.take (k + 1)) = nn (xs.take k) ++ [xs[k].text]) := hid (by rw [HS.out, hnul]; rfl)
          by_cases hp : place (ddv (nn (xs.take k))) xs[k].text < 0
          · have HS2 : Hid (ddv (nn (xs.take (k + 1))) = ddv (nn (xs.take k)) ++ [xs[k].text]) := hid (by rw [HSN.out, ddv_snoc, if_neg (HP.out.1 hp)])
            obtain ⟨vals, how, hel⟩ := HG.out
            have hvl : vals.length = (ddv (nn (xs.take k))).length := by have := how.1; omega
            have HO := hid how
            have HEL := hid hel
            have HVL := hid hvl
            clear how hel hvl
            generalize ddv (nn (xs.take k)) = L at *
            generalize place L xs[k].text = p at *
            have hd : decide ((L.length : Int) ≤ 40) = true := decide_eq_true (by omega)
            go_wp2_with fail
            refine HQ.out.mono ?_
            rintro e w2 ⟨rfl, rfl⟩
            go_wp2_with (first | (at_builtin; refine wpList_append_own _ rfl _ _ 123 rfl w.heap.size 23 i0 (.slice none 0 0) 1 24 Tryz.underlying123 hi hz0 hz1 hz2 rfl (by decide) _ L.length _ rfl (HO.out.alloc _) ⟨w2.heap.size, 0, none⟩ 1 1 [.slice ax xs[k].text.length cx] rfl rfl (cell_one_new _ _ _) (one_cell rfl) (by unfold maxLen; omega) (by omega) (by have := HB.out.size; simp; omega) ?_))
            intro v' w1 hown' hgrow _
            have HB1 : Hid (Below w.heap.size w w1) := hid ((HB.out.alloc HB.out.size _).grown hgrow (by have := HB.out.size; simp; omega) (fun k h => (World.ownsRow.lt HO.out k h).1))
            obtain ⟨a3, c3, hv3⟩ : ∃ a3 c3, v' = .slice a3 (L.length + 1) c3 := by
              rcases hown'.2 with ⟨_, h0⟩ | ⟨g, cc, _, h, _⟩
              · omega
              · exact ⟨_, cc, h⟩
            subst hv3
            have HG1 : Hid (Gath w w1 (.slice a3 (L.length + 1) c3) (ddv (nn (xs.take (k + 1))))) := hid (by rw [HS2.out]; exact Gath.snoc HVL.out HEL.out hown' HT.out)
            have HLN : Hid ((ddv (nn (xs.take (k + 1)))).length = L.length + 1) := hid (by rw [HS2.out]; simp)
            clear hown' hgrow
            go_wp2
            go_roundw
            case rel => exact ⟨k + 1, a3, c3, by omega, by go_num, by rw [HLN.out], HG1.out, HB1.out⟩
            case measure => simp [intOf]; omega
          · have HS2 : Hid (ddv (nn (xs.take (k + 1))) = ddv (nn (xs.take k))) := hid (by rw [HSN.out, ddv_snoc, if_pos (Classical.not_not.1 (fun h => hp (HP.out.2 h)))])
            generalize ddv (nn (xs.take k)) = L at *
            generalize place L xs[k].text = p at *
            have hd : decide ((L.length : Int) ≤ 40) = true := decide_eq_true (by omega)
            have hpl := HPL.out
            go_wp2_with fail
            refine HQ.out.mono ?_
            rintro e w2 ⟨rfl, rfl⟩
            go_wp2
            go_roundw
            case rel => exact ⟨k + 1, a', c', by omega, by go_num, by rw [HS2.out], by rw [HS2.out]; exact HG.out, HB.out⟩
            case measure => simp [intOf]; omega
        · rw [hnul] at d0
          have HS2 : Hid (ddv (nn (xs.take (k + 1))) = ddv (nn (xs.take k))) := hid (by rw [HS.out, hnul]; simp)
          generalize ddv (nn (xs.take k)) = L at *
          have hd : decide ((L.length : Int) ≤ 40) = true := decide_eq_true (by omega)
          go_wp2
          go_roundw
          case rel => exact ⟨k + 1, a', c', by omega, by go_num, by rw [HS2.out], by rw [HS2.out]; exact HG.out, HB.out⟩
          case measure => simp [intOf]; omega
    · obtain rfl : k = xs.length := by omega
      have HX : Hid (40 < (ddv (nn (xs.take xs.length))).length ↔ 40 < diff xs) := hid (by rw [HE.out])
      generalize (ddv (nn (xs.take xs.length))).length = n at *
      go_wp2
      go_ret
      exact ⟨a', n, c', rfl, HX.out, by omega, HB.out⟩
end Go.Proofs.YtfaehioeepolhaaGreat
