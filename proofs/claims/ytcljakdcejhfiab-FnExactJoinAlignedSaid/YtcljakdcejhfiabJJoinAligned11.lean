import Derived.Test.YtcljakdcejhfiabJJoinAligned2
import Derived.Test.YtcljakdcejhfiabJJoinAligned10
import Derived.Laws.AppendOwnNone
namespace Go.Proofs.Ytcljakdcejhfiab
open Go.RowKit
theorem infoByteJspec : (Try.prog.info? 5).map (fun i => (i.zero, i.size, i.bytes)) = some (some (.int .u8 0), 1, 1) := by kernel_rfl
theorem join_len (xss : List (List Nat)) : (join xss).length ≤ tot xss + 8 * xss.length := by
  have key : ∀ k, k ≤ xss.length → (join (xss.take k)).length ≤ tot (xss.take k) + 8 * k := by
    intro k
    induction k with
    | zero => intro _; simp [join]
    | succ k ih =>
      intro h
      have h1 := ih (by omega)
      rw [join_snoc xss k (by omega), joinStep_len, tot_snoc xss k (by omega)]
      have := padn_le ((join (xss.take k)).length + xss[k].length)
      omega
  have := key xss.length (Nat.le_refl _)
  rwa [List.take_length] at this
set_option maxHeartbeats 2000000 in
set_option maxRecDepth 100000 in
theorem specJoin_any (a : Option Addr) (cap : Nat) (xss : List (List Nat)) (w : World) (hr : RdSS w a xss) (hn : xss.length ≤ 1048576) (ht : tot xss ≤ 1048576) :
    Calls Try.prog 10 #[.slice a xss.length cap] w fun e w' => ∃ a' c', e = .returned (.slice a' (join xss).length c') ∧ w'.ownsRow w.heap.size 5 1 (.slice a' (join xss).length c') (join xss).length (byt (join xss)) ∧ Below w.heap.size w w' := by
  obtain ⟨i0, hi, hz0, hz1, hz2⟩ := info_parts infoByteJspec
  have HR := hid hr
  clear hr
  go_enter Try.func10, Try.ntmps10
  go_wp2
  go_loopw [3, 4] (fun v i wr => ∃ k : Nat, k ≤ xss.length ∧ i = .int .i64 k ∧ wr.ownsRow w.heap.size 5 1 v (join (xss.take k)).length (byt (join (xss.take k))) ∧ (join (xss.take k)).length ≤ tot (xss.take k) + 8 * k ∧ Below w.heap.size w wr) (fun _ i _ => xss.length - (intOf i).toNat)
  case atStart => exact ⟨0, Nat.zero_le _, rfl, by simpa [byt, join] using World.ownsRow_nil _ _ _ _, by simp [join], Below.refl _ _⟩
  case round =>
    obtain ⟨k, hk, rfl, how, hle, hbe⟩ := hrel
    have HO := hid how
    have HB := hid hbe
    have HLE := hid hle
    clear how hbe hle
    by_cases hlt : k < xss.length
    · obtain ⟨b, off, a', c', rfl, hcb, hrr, hzz⟩ := (HR.out.later HB.out).at_ hlt
      have HRR := hid hrr
      have hlk := len_le_tot xss k hlt
      have htk := tot_take xss k
      have HTS := hid (tot_snoc xss k hlt)
      have HJ := hid (join_snoc xss k hlt)
      have hki : (k : Int) < (xss.length : Int) := by omega
      have hlen : (join (xss.take k)).length ≤ 9437184 := by have := HLE.out; omega
      obtain ⟨Z, hZ⟩ : ∃ Z, Z = join (xss.take k) ++ xss[k] := ⟨_, rfl⟩
      have hZl : Z.length ≤ 10485760 := by rw [hZ, List.length_append]; omega
      have HZ := hid hZ
      clear hrr hZ
      cases a' with
      | none =>
        obtain rfl := hzz rfl
        have h0 : xss[k] = [] := by
          rcases HRR.out with h | ⟨_, _, h, _⟩
          · simpa [byt] using h
          · cases h
        have h0l : xss[k].length = 0 := by rw [h0]; rfl
        rw [h0l] at hcb
        have HBz := hid HB.out
        have HEz : Hid (Z = join (xss.take k)) := hid (by rw [HZ.out, h0, List.append_nil])
        have hOz := HO.out
        rw [← HEz.out] at hOz
        have HOz := hid hOz
        clear h0 h0l hOz
        go_wp2_with (first | (at_builtin; refine wpList_append_own_none rfl _ _ 24 rfl w.heap.size 5 i0 1 Try.underlying24 hi _ _ _ rfl HO.out rfl ?_))
        go_wp2
        go_loopw [3] (fun v wx => ∃ p : Nat, p ≤ padn Z.length ∧ wx.ownsRow w.heap.size 5 1 v (Z.length + p) (byt (Z ++ List.replicate p 0)) ∧ Below w.heap.size w wx) (fun v _ => padn Z.length + Z.length - lenOf v)
        case atStart => exact ⟨0, Nat.zero_le _, by simpa using HOz.out, HBz.out⟩
        case round =>
          obtain ⟨p, hp, how, hbe⟩ := hrel
          have hp7 := padn_le Z.length
          have HD := hid (padn_done hp)
          obtain ⟨a2, c2, rfl, _⟩ := rd_own how
          have HO3 := hid how
          have HB3 := hid hbe
          clear how hbe HOz HBz
          by_cases hd : p = padn Z.length
          · have ht : (((Z.length : Int) + (p : Int)) % 8 != 0) = false := by
              have := HD.out.2 hd
              simp; omega
            have HO4 : Hid (wr.ownsRow w.heap.size 5 1 (.slice a2 (Z.length + p) c2) (join (xss.take (k + 1))).length (byt (join (xss.take (k + 1))))) := hid (by
              rw [HJ.out]
              have h := HO3.out
              have e : Z ++ List.replicate p 0 = joinStep (join (xss.take k)) xss[k] := by rw [hd, HZ.out]; rfl
              have e2 : Z.length + p = (joinStep (join (xss.take k)) xss[k]).length := by rw [← e]; simp
              rw [e] at h
              rw [← e2]; exact h)
            have HLE2 : Hid ((join (xss.take (k + 1))).length ≤ tot (xss.take (k + 1)) + 8 * (k + 1)) := hid (by
              rw [HJ.out, joinStep_len, HTS.out]
              have := padn_le ((join (xss.take k)).length + xss[k].length)
              have := HLE.out; omega)
            clear hd
            go_wp2
            go_roundw
            case rel => exact ⟨k + 1, by omega, by go_num, HO4.out, HLE2.out, HB3.out⟩
            case measure => simp [intOf]; omega
          · have ht : (((Z.length : Int) + (p : Int)) % 8 != 0) = true := by
              have := mt HD.out.1 hd
              simp; omega
            go_wp2_with (first | (at_builtin; refine wpList_append_own _ rfl _ _ 24 rfl w.heap.size 5 i0 (.int .u8 0) 1 1 Try.underlying24 hi hz0 hz1 hz2 rfl (by decide) _ (Z.length + p) _ rfl (HO3.out.alloc _) ⟨wr.heap.size, 0, none⟩ 1 1 [.int .u8 0] rfl rfl (cell_one_new _ _ _) (one_cell rfl) (by unfold maxLen; omega) (by omega) (by have := HB3.out.size; simp; omega) ?_))
            intro v' w3 hown' hgrow _
            have HB4 : Hid (Below w.heap.size w w3) := hid ((HB3.out.alloc HB3.out.size _).grown hgrow (by have := HB3.out.size; simp; omega) (fun k h => (World.ownsRow.lt HO3.out k h).1))
            have HL4 := hid (own_len hown')
            have HO4 : Hid (w3.ownsRow w.heap.size 5 1 v' (Z.length + (p + 1)) (byt (Z ++ List.replicate (p + 1) 0))) := hid (by
              rw [List.replicate_succ', ← List.append_assoc, byt_append, ← Nat.add_assoc]; exact hown')
            clear hown' hgrow
            go_wp2
            go_roundw
            case rel => exact ⟨p + 1, by omega, HO4.out, HB4.out⟩
            case measure => rw [HL4.out]; simp [lenOf]; omega

      | some ad =>
        have hC : ∀ j u, (byt xss[k])[j]? = some u → wr.cell? (ad.add j) = some u := by
          intro j u hj
          rcases HRR.out with h | ⟨b', o', h, hc'⟩
          · rw [h] at hj; simp at hj
          · obtain rfl : ad = ⟨b', o', none⟩ := by simpa using h
            obtain ⟨h1, h2⟩ := List.getElem?_eq_some_iff.1 hj
            have hadd : (⟨b', o', none⟩ : Addr).add j = ⟨b', o' + j, none⟩ := by unfold Addr.add; split <;> simp_all
            rw [hadd, hc' j h1, h2]
        have HC2 := hid hC
        clear hC
        go_wp2_with (first | (at_builtin; refine wpList_append_own _ rfl _ _ 24 rfl w.heap.size 5 i0 (.int .u8 0) 1 1 Try.underlying24 hi hz0 hz1 hz2 rfl (by decide) _ (join (xss.take k)).length _ rfl HO.out ad xss[k].length c' (byt xss[k]) rfl (by rw [byt_len, Nat.mul_one]) HC2.out (byt_one _) (by unfold maxLen; omega) (by omega) HB.out.size ?_))
        intro v1 w1 hown1 hgrow1 _
        have HBz : Hid (Below w.heap.size w w1) := hid (HB.out.grown hgrow1 HB.out.size (fun k h => (World.ownsRow.lt HO.out k h).1))
        have HOz : Hid (w1.ownsRow w.heap.size 5 1 v1 Z.length (byt Z)) := hid (by
          rw [HZ.out, byt_append, List.length_append]; exact hown1)
        clear hown1 hgrow1
        go_wp2
        go_loopw [3] (fun v wx => ∃ p : Nat, p ≤ padn Z.length ∧ wx.ownsRow w.heap.size 5 1 v (Z.length + p) (byt (Z ++ List.replicate p 0)) ∧ Below w.heap.size w wx) (fun v _ => padn Z.length + Z.length - lenOf v)
        case atStart => exact ⟨0, Nat.zero_le _, by simpa using HOz.out, HBz.out⟩
        case round =>
          obtain ⟨p, hp, how, hbe⟩ := hrel
          have hp7 := padn_le Z.length
          have HD := hid (padn_done hp)
          obtain ⟨a2, c2, rfl, _⟩ := rd_own how
          have HO3 := hid how
          have HB3 := hid hbe
          clear how hbe HOz HBz
          by_cases hd : p = padn Z.length
          · have ht : (((Z.length : Int) + (p : Int)) % 8 != 0) = false := by
              have := HD.out.2 hd
              simp; omega
            have HO4 : Hid (wr.ownsRow w.heap.size 5 1 (.slice a2 (Z.length + p) c2) (join (xss.take (k + 1))).length (byt (join (xss.take (k + 1))))) := hid (by
              rw [HJ.out]
              have h := HO3.out
              have e : Z ++ List.replicate p 0 = joinStep (join (xss.take k)) xss[k] := by rw [hd, HZ.out]; rfl
              have e2 : Z.length + p = (joinStep (join (xss.take k)) xss[k]).length := by rw [← e]; simp
              rw [e] at h
              rw [← e2]; exact h)
            have HLE2 : Hid ((join (xss.take (k + 1))).length ≤ tot (xss.take (k + 1)) + 8 * (k + 1)) := hid (by
              rw [HJ.out, joinStep_len, HTS.out]
              have := padn_le ((join (xss.take k)).length + xss[k].length)
              have := HLE.out; omega)
            clear hd
            go_wp2
            go_roundw
            case rel => exact ⟨k + 1, by omega, by go_num, HO4.out, HLE2.out, HB3.out⟩
            case measure => simp [intOf]; omega
          · have ht : (((Z.length : Int) + (p : Int)) % 8 != 0) = true := by
              have := mt HD.out.1 hd
              simp; omega
            go_wp2_with (first | (at_builtin; refine wpList_append_own _ rfl _ _ 24 rfl w.heap.size 5 i0 (.int .u8 0) 1 1 Try.underlying24 hi hz0 hz1 hz2 rfl (by decide) _ (Z.length + p) _ rfl (HO3.out.alloc _) ⟨wr.heap.size, 0, none⟩ 1 1 [.int .u8 0] rfl rfl (cell_one_new _ _ _) (one_cell rfl) (by unfold maxLen; omega) (by omega) (by have := HB3.out.size; simp; omega) ?_))
            intro v' w3 hown' hgrow _
            have HB4 : Hid (Below w.heap.size w w3) := hid ((HB3.out.alloc HB3.out.size _).grown hgrow (by have := HB3.out.size; simp; omega) (fun k h => (World.ownsRow.lt HO3.out k h).1))
            have HL4 := hid (own_len hown')
            have HO4 : Hid (w3.ownsRow w.heap.size 5 1 v' (Z.length + (p + 1)) (byt (Z ++ List.replicate (p + 1) 0))) := hid (by
              rw [List.replicate_succ', ← List.append_assoc, byt_append, ← Nat.add_assoc]; exact hown')
            clear hown' hgrow
            go_wp2
            go_roundw
            case rel => exact ⟨p + 1, by omega, HO4.out, HB4.out⟩
            case measure => rw [HL4.out]; simp [lenOf]; omega

    · obtain rfl : k = xss.length := by omega
      have hO := HO.out
      rw [List.take_length] at hO
      obtain ⟨a', c', rfl, _⟩ := rd_own hO
      have HO2 := hid hO
      clear hO HO
      go_wp2
      go_ret
      exact ⟨_, _, rfl, HO2.out, HB.out⟩
end Go.Proofs.Ytcljakdcejhfiab
