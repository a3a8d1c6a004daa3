import Derived.Test.YtcljakdcejhfiadJStartStream24
import Derived.Test.YtcljakdcejhfiadJStartStream25
namespace Go.Proofs.Ytcljakdcejhfiad
open Go.RowKit
set_option maxRecDepth 1000000 in
set_option maxHeartbeats 8000000 in
theorem l4enc_any (K F C : Nat) (bs : List (List Nat)) (a : Option Addr) (cap : Nat) (w : World) (hr : RdSl cSS w bs (.slice a bs.length cap)) (hK : K < 256) (hF : F < 256) (hC : C < 65536) (hn : bs.length < 256) (ht : tot bs ≤ 1040000) :
    Calls Try.prog 86 #[.agg #[.int .i64 (K : Int), .int .i64 (F : Int), .int .i64 (C : Int), .slice a bs.length cap]] w fun e w' => ∃ a' c', e = .returned (.slice a' (encM K F C bs).length c') ∧ w'.ownsRow w.heap.size 5 1 (.slice a' (encM K F C bs).length c') (encM K F C bs).length (byt (encM K F C bs)) ∧ Below w.heap.size w w' := by
  obtain ⟨i0, hi, hz0, hz1, hz2⟩ := info_parts infoByteM
  obtain ⟨j0, hj, hy0, hy1, hy2⟩ := info_parts infoSlM
  have HR := hid hr
  have hwK := wrap_u8 K hK
  have hwF := wrap_u8 F hF
  have hwN := wrap_u8 bs.length hn
  have HCE : Hid ((encM K F C bs).length = 12 + (join (lensM bs :: bs)).length) := hid (by simp [encM, bodyM, headM_len, digs_len]; omega)
  clear hr
  go_enter Try.func86, Try.ntmps86
  go_wp2
  go_loopw [3, 4] (fun v i wr => ∃ k : Nat, k ≤ bs.length ∧ i = .int .i64 k ∧ wr.ownsRow w.heap.size 5 1 v (4 * k) (byt (lensM (bs.take k))) ∧ wr.heap[w.heap.size]? = some (.cells #[.int .i64 (K : Int), .int .i64 (F : Int), .int .i64 (C : Int), .slice a bs.length cap] 121 (0, 0)) ∧ Below w.heap.size w wr) (fun _ i _ => bs.length - (intOf i).toNat)
  case atStart => exact ⟨0, Nat.zero_le _, rfl, by simpa [lensM, byt] using World.ownsRow_nil _ _ _ _, heap_alloc_new w _, below_new1 _ _⟩
  case round =>
    obtain ⟨k, hk, rfl, how, hbx, hbe⟩ := hrel
    have HO := hid how
    have HX := hid hbx
    have HB := hid hbe
    have p0 := cell_of_row wr _ 0 _ _ _ hbx
    have p1 := cell_of_row wr _ 1 _ _ _ hbx
    have p2 := cell_of_row wr _ 2 _ _ _ hbx
    have p3 := cell_of_row wr _ 3 _ _ _ hbx
    simp at p0 p1 p2 p3
    have hG : w.heap.size < wr.heap.size := (Array.getElem?_eq_some_iff.1 hbx).1
    clear how hbx hbe
    by_cases hlt : k < bs.length
    · obtain ⟨b, off, a', c', rfl, hcb, hrr⟩ := (HR.out.later HB.out).row hlt
      have hlk := len_le_tot bs k hlt
      have hki : (k : Int) < (bs.length : Int) := by omega
      have HS : Hid (byt (lensM (bs.take (k + 1))) = byt (lensM (bs.take k)) ++ byt (digs bs[k].length 4)) := hid (by rw [lensM_snoc bs k hlt, byt_append])
      have HU : Hid (U (bs[k].length : Int) = bs[k].length) := hid (U_nat _ (by omega))
      clear hrr
      go_wp2_with fail
      refine (little_row (bs[k].length : Int) 4 wr (by omega) (by omega) (by unfold IntIn; omega)).mono ?_
      rintro e w2 ⟨g2, c2, rfl, o2, b2⟩
      rw [HU.out] at o2
      have HO2 := hid (own_later HO.out b2)
      have HR2 := hid (rd_row o2)
      have HX2 := hid ((b2.block _ hG).trans HX.out)
      have HB2 := hid (below_chain HB.out b2)
      have hs2 := HB2.out.size
      clear o2 b2 p0 p1 p2 p3
      go_wp2_with (first | (at_builtin; refine append_any rfl _ _ 69 rfl w.heap.size 5 i0 (.int .u8 0) 1 Try.underlying69 hi hz0 hz1 hz2 rfl _ (4 * k) _ rfl HO2.out (some ⟨g2, 0, none⟩) 4 c2 (byt (digs bs[k].length 4)) rfl (by rw [byt_len, digs_len]) (by simp) HR2.out (byt_one _) (by unfold maxLen; omega) (by omega) hs2 ?_))
      intro v' w9 hown' hgrow
      have HN : Hid (w9.ownsRow w.heap.size 5 1 v' (4 * (k + 1)) (byt (lensM (bs.take (k + 1))))) := hid (by rw [HS.out]; exact hown')
      have HB9 : Hid (Below w.heap.size w w9) := hid (HB2.out.grown hgrow hs2 (fun p hp => (own_in HO2.out hp).1))
      have HX9 : Hid (w9.heap[w.heap.size]? = some (.cells #[.int .i64 (K : Int), .int .i64 (F : Int), .int .i64 (C : Int), .slice (some ⟨b, off, none⟩) bs.length cap] 121 (0, 0))) := hid ((hgrow.block _ (Array.getElem?_eq_some_iff.1 HX2.out).1 (fun e => by
        rcases HO2.out.2 with ⟨h1, _⟩ | ⟨g, cc, cur, h1, _, hh, _⟩
        · rw [h1] at e; simp [Value.ownBlock] at e
        · rw [h1] at e
          simp [Value.ownBlock] at e
          rw [← e, HX2.out] at hh
          simp at hh)).trans HX2.out)
      clear hown' hgrow
      go_wp2
      go_roundw
      case rel => exact ⟨k + 1, by omega, by go_num, HN.out, HX9.out, HB9.out⟩
      case measure => simp [intOf]; omega
    · obtain rfl : k = bs.length := by omega
      have how := HO.out
      rw [List.take_length] at how
      obtain ⟨al, cl, rfl, -⟩ := rd_own how
      have HLR : Hid (RdSl cByte wr (lensM bs) (.slice al (4 * bs.length) cl)) := hid (own_rdSl how (lensM_lt bs))
      have HBX : Hid (∀ w', Below wr.heap.size wr w' → w'.heap[w.heap.size]? = some (.cells #[.int .i64 (K : Int), .int .i64 (F : Int), .int .i64 (C : Int), .slice a bs.length cap] 121 (0, 0))) := hid (fun w' hb => (hb.block _ hG).trans HX.out)
      have HJL : Hid ((join (lensM bs :: bs)).length ≤ 1060000) := hid (by
        have h := join_len (lensM bs :: bs)
        have h2 : tot (lensM bs :: bs) = 4 * bs.length + tot bs := by simp [tot, lensM_len]
        simp only [List.length_cons] at h
        omega)
      have HUC : Hid (U (C : Int) = C) := hid (U_nat _ (by omega))
      have HO0 : Hid ((wr.alloc (.cells #[.int .u8 67, .int .u8 77, .int .u8 (K : Int), .int .u8 (F : Int)] 5)).ownsRow wr.heap.size 5 1 (.slice (some ⟨wr.heap.size, 0, none⟩) 4 4) 4 (byt [67, 77, K, F])) := hid (own_built (cs := #[.int .u8 67, .int .u8 77, .int .u8 (K : Int), .int .u8 (F : Int)]) (Nat.le_refl _) (by simp [maxLen]))
      clear how
      go_wp2_with fail
      refine (little_row (C : Int) 2 _ (by omega) (by omega) (by unfold IntIn; omega)).mono ?_
      rintro e w2 ⟨g2, c2, rfl, o2, b2⟩
      rw [HUC.out] at o2
      have HO2 := hid (own_later HO0.out b2)
      have HR2 := hid (rd_row o2)
      have hB2 : Below wr.heap.size wr w2 := (below_new1 wr _).trans (b2.mono (by simp))
      have HB2 := hid hB2
      have hs2 := hB2.size
      clear o2 b2 hB2 p0 p1 p2 p3
      go_wp2_with (first | (at_builtin; refine append_any rfl _ _ 69 rfl wr.heap.size 5 i0 (.int .u8 0) 1 Try.underlying69 hi hz0 hz1 hz2 rfl _ 4 _ rfl HO2.out (some ⟨g2, 0, none⟩) 2 c2 (byt (digs C 2)) rfl (by rw [byt_len, digs_len]) (by simp) HR2.out (byt_one _) (by unfold maxLen; omega) (by omega) hs2 ?_))
      intro v3 w3 ho3 hg3
      have HO3 := hid ho3
      have hB3 : Below wr.heap.size wr w3 := HB2.out.grown hg3 hs2 (fun p hp => (own_in HO2.out hp).1)
      have HB3 := hid hB3
      have hs3 := hB3.size
      have p3 := cell_of_row w3 _ 3 _ _ _ (HBX.out w3 hB3)
      simp at p3
      have HN3 : Hid (Rd (w3.alloc (.cells #[.int .u8 (bs.length : Int), .int .u8 0] 5)) (some ⟨w3.heap.size, 0, none⟩) (byt [bs.length, 0])) := hid (rd_row (own_built (cs := #[.int .u8 (bs.length : Int), .int .u8 0]) (Nat.le_refl _) (by simp [maxLen])))
      have HB3' := hid ((HB3.out.alloc (o := .cells #[.int .u8 (bs.length : Int), .int .u8 0] 5) hs3))
      clear ho3 hg3 hB3 HO0 HO2
      go_wp2_with (first | (at_builtin; refine append_any rfl _ _ 69 rfl wr.heap.size 5 i0 (.int .u8 0) 1 Try.underlying69 hi hz0 hz1 hz2 rfl _ (4 + 2) _ rfl (HO3.out.alloc _) (some ⟨w3.heap.size, 0, none⟩) 2 2 (byt [bs.length, 0]) rfl rfl (by simp) HN3.out (byt_one _) (by unfold maxLen; omega) (by omega) (by simp; omega) ?_))
      intro v4 w4 ho4 hg4
      have HO4 := hid ho4
      have hB4 : Below wr.heap.size wr w4 := HB3'.out.grown hg4 (by simp; omega) (fun p hp => (own_in HO3.out hp).1)
      have HB4 := hid hB4
      have hs4 := hB4.size
      have hB5 := hB4.alloc (o := .cells #[.slice al (4 * bs.length) cl] 69) hs4
      have p3 := cell_of_row _ _ 3 _ _ _ (HBX.out _ hB5)
      simp only [List.getElem?_toArray, List.getElem?_cons_zero, List.getElem?_cons_succ] at p3
      have HP5 : Hid ((w4.alloc (.cells #[.slice al (4 * bs.length) cl] 69)).ownsRow wr.heap.size 69 1 (.slice (some ⟨w4.heap.size, 0, none⟩) 1 1) 1 [.slice al (4 * bs.length) cl]) := hid (own_built (cs := #[.slice al (4 * bs.length) cl]) hs4 (by simp [maxLen]))
      have HO5 := hid (HO4.out.alloc (.cells #[.slice al (4 * bs.length) cl] 69))
      have hBr := (below_chain HB.out hB5)
      obtain ⟨vals, lv, rv, ov, iv⟩ := HR.out.vals1
      have HLV := hid lv
      have HRV := hid (rv.later hBr)
      have HOV := hid ov
      have HIV := hid iv
      have HNV := hid (HR.out.nil0)
      have HB5 := hid hB5
      clear ho4 hg4 hB4 hB5 hBr lv rv ov iv HO3 HO4 HN3 HB3'
      go_wp2_with (first | (at_builtin; refine append_any rfl _ _ 45 rfl wr.heap.size 69 j0 (.slice none 0 0) 24 Try.underlying45 hj hy0 hy1 hy2 rfl _ 1 _ rfl HP5.out a bs.length cap vals rfl HLV.out HNV.out HRV.out HOV.out (by unfold maxLen; omega) (by omega) (by simp; omega) ?_))
      intro v6 w6 ho6 hg6
      obtain ⟨a6, c6, rfl, hr6⟩ := rd_own ho6
      have HO6 := hid (own_marked HO5.out hg6 (own_apart HO5.out HP5.out (by decide)))
      have hB6 : Below wr.heap.size wr w6 := HB5.out.grown hg6 (by simp; omega) (fun p hp => (own_in HP5.out hp).1)
      have HB6 := hid hB6
      have hs6 := hB6.size
      have HRS : Hid (RdSS w6 a6 (lensM bs :: bs)) := hid (by
        refine rdSS_cons (al := al) (cl := cl) (vals := vals) (by rw [lensM_len]; exact hr6) ?_ HLV.out (fun i h => ?_)
        · rw [lensM_len]; exact HLR.out.later HB6.out
        · obtain ⟨x, y, h1, h2⟩ := HIV.out i h
          exact ⟨x, y, h1, h2.later (below_chain HB.out HB6.out)⟩)
      have HQ6 : Hid (Calls Try.prog 124 #[.slice a6 (1 + bs.length) c6] w6 fun e w' => ∃ a' c', e = .returned (.slice a' (join (lensM bs :: bs)).length c') ∧ w'.ownsRow w6.heap.size 5 1 (.slice a' (join (lensM bs :: bs)).length c') (join (lensM bs :: bs)).length (byt (join (lensM bs :: bs))) ∧ Below w6.heap.size w6 w') := hid (by
        have h := specJoin_any a6 c6 (lensM bs :: bs) w6 HRS.out (by simp; omega) (by simp only [tot, List.map_cons, List.sum_cons, lensM_len]; unfold tot at ht; omega)
        rw [show (lensM bs :: bs).length = 1 + bs.length from by simp; omega] at h
        exact h)
      have HEN : Hid (encM K F C bs = ([67, 77, K, F] ++ digs C 2 ++ [bs.length, 0] ++ join (lensM bs :: bs)) ++ digs (crcM ([67, 77, K, F] ++ digs C 2 ++ [bs.length, 0] ++ join (lensM bs :: bs))) 4) := hid (by simp [encM, bodyM, headM])
      have HJB : Hid (∀ x ∈ join (lensM bs :: bs), x < 256) := hid (join_lt _ (fun t ht x hx => by
        rcases List.mem_cons.1 ht with rfl | ht
        · exact lensM_lt bs x hx
        · exact HR.out.allOK t ht x hx))
      clear ho6 hg6 hr6 hB6 HO5 HP5
      generalize join (lensM bs :: bs) = J at *
      go_wp2_with fail
      refine HQ6.out.mono ?_
      rintro e w7 ⟨a7, c7, rfl, o7, b7⟩
      have HO7 := hid (own_later HO6.out b7)
      have HR7 := hid (rd_at o7)
      have HN7 : Hid (a7 = none → J.length = 0 ∧ c7 = 0) := hid (fun h => by
        have := own_nil o7 rfl h
        refine ⟨?_, this⟩
        rcases o7.2 with ⟨e, h0⟩ | ⟨g, cc, cur, e, _⟩
        · exact h0
        · simp at e; rw [h] at e; simp at e)
      have hB7 := HB6.out.trans (b7.mono HB6.out.size)
      have HB7 := hid hB7
      have hs7 := hB7.size
      have hjl := HJL.out
      clear o7 b7 hB7 HO6 HRS HQ6
      go_wp2_with (first | (at_builtin; refine append_any rfl _ _ 69 rfl wr.heap.size 5 i0 (.int .u8 0) 1 Try.underlying69 hi hz0 hz1 hz2 rfl _ (4 + 2 + 2) _ rfl HO7.out a7 J.length c7 (byt J) rfl (byt_len _) HN7.out HR7.out (byt_one _) (by unfold maxLen; omega) (by omega) hs7 ?_))
      intro v8 w8 ho8 hg8
      have hB8 : Below wr.heap.size wr w8 := HB7.out.grown hg8 hs7 (fun p hp => (own_in HO7.out hp).1)
      have HB8 := hid hB8
      have hs8 := hB8.size
      rw [← byt_append, ← byt_append, ← byt_append] at ho8
      have ho8 : w8.ownsRow wr.heap.size 5 1 v8 (4 + 2 + 2 + J.length) (byt ([67, 77, K, F] ++ digs C 2 ++ [bs.length, 0] ++ J)) := by simpa using ho8
      obtain ⟨a8, c8, rfl, hr8⟩ := rd_own ho8
      have HO8 := hid ho8
      have HBB : Hid (∀ x ∈ [67, 77, K, F] ++ digs C 2 ++ [bs.length, 0] ++ J, x < 256) := hid (fun x hx => by
        simp only [List.mem_append, List.mem_cons, List.not_mem_nil, or_false] at hx
        rcases hx with ((h | h) | h) | h
        · rcases h with rfl | rfl | rfl | rfl <;> omega
        · exact digs_lt _ _ x h
        · rcases h with rfl | rfl <;> omega
        · exact HJB.out x h)
      have HBL : Hid (([67, 77, K, F] ++ digs C 2 ++ [bs.length, 0] ++ J).length = 4 + 2 + 2 + J.length) := hid (by simp [digs_len]; omega)
      have HQ8 : Hid (Calls Try.prog 105 #[.slice a8 (4 + 2 + 2 + J.length) c8] w8 fun e w' => e = .returned (.int .u32 ((crcM ([67, 77, K, F] ++ digs C 2 ++ [bs.length, 0] ++ J) : Nat) : Int)) ∧ w' = w8) := hid (by
        have h := specCrc_any a8 c8 ([67, 77, K, F] ++ digs C 2 ++ [bs.length, 0] ++ J) w8 hr8 HBB.out (by rw [HBL.out]; omega)
        rw [HBL.out] at h
        exact h)
      have hcr := crcM_lt _ HBB.out
      clear ho8 hg8 hr8 hB8 HO7 HR7
      generalize [67, 77, K, F] ++ digs C 2 ++ [bs.length, 0] ++ J = Y at *
      generalize crcM Y = R at *
      have hwR : IntKind.i64.wrap (R : Int) = R := by simp [IntKind.wrap, IntKind.bits, IntKind.signed]; omega
      have HUR : Hid (U (R : Int) = R) := hid (U_nat _ (by omega))
      go_wp2_with fail
      refine HQ8.out.mono ?_
      rintro e w9 ⟨rfl, rfl⟩
      go_wp2_with fail
      refine (little_row (R : Int) 4 w9 (by omega) (by omega) (by unfold IntIn; omega)).mono ?_
      rintro e w10 ⟨g10, c10, rfl, o10, b10⟩
      rw [HUR.out] at o10
      have HO10 := hid (own_later HO8.out b10)
      have HR10 := hid (rd_row o10)
      have hB10 := HB8.out.trans (b10.mono HB8.out.size)
      have HB10 := hid hB10
      have hs10 := hB10.size
      clear o10 b10 hB10 HO8
      go_wp2_with (first | (at_builtin; refine append_any rfl _ _ 69 rfl wr.heap.size 5 i0 (.int .u8 0) 1 Try.underlying69 hi hz0 hz1 hz2 rfl _ (4 + 2 + 2 + J.length) _ rfl HO10.out (some ⟨g10, 0, none⟩) 4 c10 (byt (digs R 4)) rfl (by rw [byt_len, digs_len]) (by simp) HR10.out (byt_one _) (by unfold maxLen; omega) (by omega) hs10 ?_))
      intro v11 w11 ho11 hg11
      have HB11 : Hid (Below wr.heap.size wr w11) := hid (HB10.out.grown hg11 hs10 (fun p hp => (own_in HO10.out hp).1))
      rw [← byt_append] at ho11
      obtain ⟨a11, c11, rfl, -⟩ := rd_own ho11
      have hEL : (encM K F C bs).length = 4 + 2 + 2 + J.length + 4 := by rw [HEN.out, List.length_append, HBL.out, digs_len]
      have HF : Hid (w11.ownsRow w.heap.size 5 1 (.slice a11 (encM K F C bs).length c11) (encM K F C bs).length (byt (encM K F C bs))) := hid (by
        rw [hEL, HEN.out]
        exact own_mono ho11 (by have := HB.out.size; omega))
      have HEL := hid hEL
      clear ho11 hg11 hEL
      go_wp2
      go_ret
      exact ⟨a11, c11, by rw [HEL.out]; rfl, HF.out, below_chain HB.out HB11.out⟩
end Go.Proofs.Ytcljakdcejhfiad
