import Derived.Test.YtfaehioeepolhabGreatJCrashSender19
import Derived.Test.YtfaehioeepolhabGreatJCrashSender22
import Derived.Test.YtfaehioeepolhabGreatJCrashSender0
import Derived.Laws.BytesString
import Derived.Handy
import Derived.Deep.RegionHeld
namespace Go.Proofs.YtfaehioeepolhabGreat
open Go.RowKit
set_option maxRecDepth 100000 in
set_option maxHeartbeats 8000000 in
theorem l4enc_any (K F C : Nat) (bs : List (List Nat)) (a : Option Addr) (cap : Nat) (w : World) (hr : RdSl cSS w bs (.slice a bs.length cap)) (hK : K < 256) (hF : F < 256) (hC : C < 65536) (hn : bs.length < 256) (ht : tot bs ≤ 1040000) :
  Calls Tryz.prog 136 #[.agg #[.int .i64 (K : Int), .int .i64 (F : Int), .int .i64 (C : Int), .slice a bs.length cap]] w fun e w' => ∃ a' c', e = .returned (.slice a' (encM K F C bs).length c') ∧ w'.ownsRow w.heap.size 5 1 (.slice a' (encM K F C bs).length c') (encM K F C bs).length (byt (encM K F C bs)) ∧ Below w.heap.size w w' := by
 obtain ⟨i0, hi, hz0, hz1, hz2⟩ := info_parts infoByteM
 obtain ⟨j0, hj, hy0, hy1, hy2⟩ := info_parts infoSlM
 have HR := hid hr
 have hwK := wrap_u8 K hK
 have hwF := wrap_u8 F hF
 have hwN := wrap_u8 bs.length hn
 have HCE : Hid ((encM K F C bs).length = 12 + (join (lensM bs :: bs)).length) := hid (by simp [encM, bodyM, headM_len, digs_len]; omega)
 clear hr
 go_enter Tryz.func136, Tryz.ntmps136
 go_wp2
 go_loopw [3, 4] (fun v i wr => ∃ k : Nat, k ≤ bs.length ∧ i = .int .i64 k ∧ wr.ownsRow w.heap.size 5 1 v (4 * k) (byt (lensM (bs.take k))) ∧ wr.heap[w.heap.size]? = some (.cells #[.int .i64 (K : Int), .int .i64 (F : Int), .int .i64 (C : Int), .slice a bs.length cap] 161 (0, 0)) ∧ Below w.heap.size w wr) (fun _ i _ => bs.length - (intOf i).toNat)
 case atStart => exact ⟨0, Nat.zero_le _, rfl, by simpa [lensM, byt] using World.ownsRow_nil _ _ _ _, heap_alloc_new w _, bN _ _⟩
 case round =>
  obtain ⟨k, hk, rfl, how, hbx, hbe⟩ := hrel
  have HO := hid how
  have HX := hid hbx
  have HB := hid hbe
  have p0 := cR wr _ 0 _ _ _ hbx
  have p1 := cR wr _ 1 _ _ _ hbx
  have p2 := cR wr _ 2 _ _ _ hbx
  have p3 := cR wr _ 3 _ _ _ hbx
  simp at p0 p1 p2 p3
  have hG : w.heap.size < wr.heap.size := (Array.getElem?_eq_some_iff.1 hbx).1
  clear how hbx hbe
  by_cases hlt : k < bs.length
  ·obtain ⟨b, off, a', c', rfl, hcb, hrr⟩ := (HR.out.later HB.out).row hlt
   have hlk := len_le_tot bs k hlt
   have hki : (k : Int) < (bs.length : Int) := by omega
   have HS : Hid (byt (lensM (bs.take (k + 1))) = byt (lensM (bs.take k)) ++ byt (digs bs[k].length 4)) := hid (by rw [lensM_snoc bs k hlt, byt_append])
   have HU : Hid (U (bs[k].length : Int) = bs[k].length) := hid (U_nat _ (by omega))
   clear hrr
   go_wp2_with fail
   refine (little_row (bs[k].length : Int) 4 wr (by omega) (by omega) (by unfold IntIn; omega)).mono ?_
   rintro e w2 ⟨g2, c2, rfl, o2, b2⟩
   rw [HU.out] at o2
   have HO2 := hid (own_later HO.out b2)
   have HR2 := hid (rd_row o2)
   have HX2 := hid ((b2.block _ hG).trans HX.out)
   have HB2 := hid (bC HB.out b2)
   have hs2 := HB2.out.size
   clear o2 b2 p0 p1 p2 p3
   go_wp2_with (first | (at_builtin; refine append_any rfl _ _ 87 rfl w.heap.size 5 i0 (.int .u8 0) 1 Tryz.underlying87 hi hz0 hz1 hz2 rfl _ (4 * k) _ rfl HO2.out (some ⟨g2, 0, none⟩) 4 c2 (byt (digs bs[k].length 4)) rfl (by rw [byt_len, digs_len]) (by simp) HR2.out (byt_one _) (by unfold maxLen; omega) (by omega) hs2 ?_))
   intro v' w9 hown' hgrow
   have HN : Hid (w9.ownsRow w.heap.size 5 1 v' (4 * (k + 1)) (byt (lensM (bs.take (k + 1))))) := hid (by rw [HS.out]; exact hown')
   have HB9 : Hid (Below w.heap.size w w9) := hid (HB2.out.grown hgrow hs2 (fun p hp => (own_in HO2.out hp).1))
   have HX9 : Hid (w9.heap[w.heap.size]? = some (.cells #[.int .i64 (K : Int), .int .i64 (F : Int), .int .i64 (C : Int), .slice (some ⟨b, off, none⟩) bs.length cap] 161 (0, 0))) := hid ((hgrow.block _ (Array.getElem?_eq_some_iff.1 HX2.out).1 (fun e => by
    rcases HO2.out.2 with ⟨h1, _⟩ | ⟨g, cc, cur, h1, _, hh, _⟩
    ·rw [h1] at e; simp [Value.ownBlock] at e
    ·rw [h1] at e
     simp [Value.ownBlock] at e
     rw [← e, HX2.out] at hh
     simp at hh)).trans HX2.out)
   clear hown' hgrow
   go_wp2
   go_roundw
   case rel => exact ⟨k + 1, by omega, by go_num, HN.out, HX9.out, HB9.out⟩
   case measure => simp [intOf]; omega
  ·obtain rfl : k = bs.length := by omega
   have how := HO.out
   rw [List.take_length] at how
   obtain ⟨al, cl, rfl, -⟩ := rd_own how
   have HLR : Hid (RdSl cByte wr (lensM bs) (.slice al (4 * bs.length) cl)) := hid (own_rdSl how (lensM_lt bs))
   have HBX : Hid (∀ w', Below wr.heap.size wr w' → w'.heap[w.heap.size]? = some (.cells #[.int .i64 (K : Int), .int .i64 (F : Int), .int .i64 (C : Int), .slice a bs.length cap] 161 (0, 0))) := hid (fun w' hb => (hb.block _ hG).trans HX.out)
   have HJL : Hid ((join (lensM bs :: bs)).length ≤ 1060000) := hid (by
    have h := join_len (lensM bs :: bs)
    have h2 : tot (lensM bs :: bs) = 4 * bs.length + tot bs := by simp [tot, lensM_len]
    simp only [List.length_cons] at h
    omega)
   have HUC : Hid (U (C : Int) = C) := hid (U_nat _ (by omega))
   have HO0 : Hid ((wr.alloc (.cells #[.int .u8 67, .int .u8 77, .int .u8 (K : Int), .int .u8 (F : Int)] 5)).ownsRow wr.heap.size 5 1 (.slice (some ⟨wr.heap.size, 0, none⟩) 4 4) 4 (byt [67, 77, K, F])) := hid (own_built (cs := #[.int .u8 67, .int .u8 77, .int .u8 (K : Int), .int .u8 (F : Int)]) (Nat.le_refl _) (by simp [maxLen]))
   clear how
   go_wp2_with fail
   refine (little_row (C : Int) 2 _ (by omega) (by omega) (by unfold IntIn; omega)).mono ?_
   rintro e w2 ⟨g2, c2, rfl, o2, b2⟩
   rw [HUC.out] at o2
   have HO2 := hid (own_later HO0.out b2)
   have HR2 := hid (rd_row o2)
   have hB2 : Below wr.heap.size wr w2 := (bN wr _).trans (b2.mono (by simp))
   have HB2 := hid hB2
   have hs2 := hB2.size
   clear o2 b2 hB2 p0 p1 p2 p3
   go_wp2_with (first | (at_builtin; refine append_any rfl _ _ 87 rfl wr.heap.size 5 i0 (.int .u8 0) 1 Tryz.underlying87 hi hz0 hz1 hz2 rfl _ 4 _ rfl HO2.out (some ⟨g2, 0, none⟩) 2 c2 (byt (digs C 2)) rfl (by rw [byt_len, digs_len]) (by simp) HR2.out (byt_one _) (by unfold maxLen; omega) (by omega) hs2 ?_))
   intro v3 w3 ho3 hg3
   have HO3 := hid ho3
   have hB3 : Below wr.heap.size wr w3 := HB2.out.grown hg3 hs2 (fun p hp => (own_in HO2.out hp).1)
   have HB3 := hid hB3
   have hs3 := hB3.size
   have p3 := cR w3 _ 3 _ _ _ (HBX.out w3 hB3)
   simp at p3
   have HN3 : Hid (Rd (w3.alloc (.cells #[.int .u8 (bs.length : Int), .int .u8 0] 5)) (some ⟨w3.heap.size, 0, none⟩) (byt [bs.length, 0])) := hid (rd_row (own_built (cs := #[.int .u8 (bs.length : Int), .int .u8 0]) (Nat.le_refl _) (by simp [maxLen])))
   have HB3' := hid ((HB3.out.alloc (o := .cells #[.int .u8 (bs.length : Int), .int .u8 0] 5) hs3))
   clear ho3 hg3 hB3 HO0 HO2
   go_wp2_with (first | (at_builtin; refine append_any rfl _ _ 87 rfl wr.heap.size 5 i0 (.int .u8 0) 1 Tryz.underlying87 hi hz0 hz1 hz2 rfl _ (4 + 2) _ rfl (HO3.out.alloc _) (some ⟨w3.heap.size, 0, none⟩) 2 2 (byt [bs.length, 0]) rfl rfl (by simp) HN3.out (byt_one _) (by unfold maxLen; omega) (by omega) (by simp; omega) ?_))
   intro v4 w4 ho4 hg4
   have HO4 := hid ho4
   have hB4 : Below wr.heap.size wr w4 := HB3'.out.grown hg4 (by simp; omega) (fun p hp => (own_in HO3.out hp).1)
   have HB4 := hid hB4
   have hs4 := hB4.size
   have hB5 := hB4.alloc (o := .cells #[.slice al (4 * bs.length) cl] 87) hs4
   have p3 := cR _ _ 3 _ _ _ (HBX.out _ hB5)
   simp only [gA, gZ, gU] at p3
   have HP5 : Hid ((w4.alloc (.cells #[.slice al (4 * bs.length) cl] 87)).ownsRow wr.heap.size 87 1 (.slice (some ⟨w4.heap.size, 0, none⟩) 1 1) 1 [.slice al (4 * bs.length) cl]) := hid (own_built (cs := #[.slice al (4 * bs.length) cl]) hs4 (by simp [maxLen]))
   have HO5 := hid (HO4.out.alloc (.cells #[.slice al (4 * bs.length) cl] 87))
   have hBr := (bC HB.out hB5)
   obtain ⟨vals, lv, rv, ov, iv⟩ := HR.out.vals1
   have HLV := hid lv
   have HRV := hid (rv.later hBr)
   have HOV := hid ov
   have HIV := hid iv
   have HNV := hid (HR.out.nil0)
   have HB5 := hid hB5
   clear ho4 hg4 hB4 hB5 hBr lv rv ov iv HO3 HO4 HN3 HB3'
   go_wp2_with (first | (at_builtin; refine append_any rfl _ _ 103 rfl wr.heap.size 87 j0 (.slice none 0 0) 24 Tryz.underlying103 hj hy0 hy1 hy2 rfl _ 1 _ rfl HP5.out a bs.length cap vals rfl HLV.out HNV.out HRV.out HOV.out (by unfold maxLen; omega) (by omega) (by simp; omega) ?_))
   intro v6 w6 ho6 hg6
   obtain ⟨a6, c6, rfl, hr6⟩ := rd_own ho6
   have HO6 := hid (own_marked HO5.out hg6 (own_apart HO5.out HP5.out (by decide)))
   have hB6 : Below wr.heap.size wr w6 := HB5.out.grown hg6 (by simp; omega) (fun p hp => (own_in HP5.out hp).1)
   have HB6 := hid hB6
   have hs6 := hB6.size
   have HRS : Hid (RdSS w6 a6 (lensM bs :: bs)) := hid (by
    refine rdSS_cons (al := al) (cl := cl) (vals := vals) (by rw [lensM_len]; exact hr6) ?_ HLV.out (fun i h => ?_)
    ·rw [lensM_len]; exact HLR.out.later HB6.out
    ·obtain ⟨x, y, h1, h2⟩ := HIV.out i h
     exact ⟨x, y, h1, h2.later (bC HB.out HB6.out)⟩)
   have HQ6 : Hid (Calls Tryz.prog 151 #[.slice a6 (1 + bs.length) c6] w6 fun e w' => ∃ a' c', e = .returned (.slice a' (join (lensM bs :: bs)).length c') ∧ w'.ownsRow w6.heap.size 5 1 (.slice a' (join (lensM bs :: bs)).length c') (join (lensM bs :: bs)).length (byt (join (lensM bs :: bs))) ∧ Below w6.heap.size w6 w') := hid (by
    have h := specJoin_any a6 c6 (lensM bs :: bs) w6 HRS.out (by simp; omega) (by simp only [tot, List.map_cons, List.sum_cons, lensM_len]; unfold tot at ht; omega)
    rw [show (lensM bs :: bs).length = 1 + bs.length from by simp; omega] at h
    exact h)
   have HEN : Hid (encM K F C bs = ([67, 77, K, F] ++ digs C 2 ++ [bs.length, 0] ++ join (lensM bs :: bs)) ++ digs (crcM ([67, 77, K, F] ++ digs C 2 ++ [bs.length, 0] ++ join (lensM bs :: bs))) 4) := hid (by simp [encM, bodyM, headM])
   have HJB : Hid (∀ x ∈ join (lensM bs :: bs), x < 256) := hid (join_lt _ (fun t ht x hx => by
    rcases List.mem_cons.1 ht with rfl | ht
    ·exact lensM_lt bs x hx
    ·exact HR.out.allOK t ht x hx))
   clear ho6 hg6 hr6 hB6 HO5 HP5
   generalize join (lensM bs :: bs) = J at *
   go_wp2_with fail
   refine HQ6.out.mono ?_
   rintro e w7 ⟨a7, c7, rfl, o7, b7⟩
   have HO7 := hid (own_later HO6.out b7)
   have HR7 := hid (rd_at o7)
   have HN7 : Hid (a7 = none → J.length = 0 ∧ c7 = 0) := hid (fun h => by
    have := own_nil o7 rfl h
    refine ⟨?_, this⟩
    rcases o7.2 with ⟨e, h0⟩ | ⟨g, cc, cur, e, _⟩
    ·exact h0
    ·simp at e; rw [h] at e; simp at e)
   have hB7 := HB6.out.trans (b7.mono HB6.out.size)
   have HB7 := hid hB7
   have hs7 := hB7.size
   have hjl := HJL.out
   clear o7 b7 hB7 HO6 HRS HQ6
   go_wp2_with (first | (at_builtin; refine append_any rfl _ _ 87 rfl wr.heap.size 5 i0 (.int .u8 0) 1 Tryz.underlying87 hi hz0 hz1 hz2 rfl _ (4 + 2 + 2) _ rfl HO7.out a7 J.length c7 (byt J) rfl (byt_len _) HN7.out HR7.out (byt_one _) (by unfold maxLen; omega) (by omega) hs7 ?_))
   intro v8 w8 ho8 hg8
   have hB8 : Below wr.heap.size wr w8 := HB7.out.grown hg8 hs7 (fun p hp => (own_in HO7.out hp).1)
   have HB8 := hid hB8
   have hs8 := hB8.size
   rw [← byt_append, ← byt_append, ← byt_append] at ho8
   have ho8 : w8.ownsRow wr.heap.size 5 1 v8 (4 + 2 + 2 + J.length) (byt ([67, 77, K, F] ++ digs C 2 ++ [bs.length, 0] ++ J)) := by simpa using ho8
   obtain ⟨a8, c8, rfl, hr8⟩ := rd_own ho8
   have HO8 := hid ho8
   have HBB : Hid (∀ x ∈ [67, 77, K, F] ++ digs C 2 ++ [bs.length, 0] ++ J, x < 256) := hid (fun x hx => by
    simp only [List.mem_append, List.mem_cons, List.not_mem_nil, or_false] at hx
    rcases hx with ((h | h) | h) | h
    ·rcases h with rfl | rfl | rfl | rfl <;> omega
    ·exact digs_lt _ _ x h
    ·rcases h with rfl | rfl <;> omega
    ·exact HJB.out x h)
   have HBL : Hid (([67, 77, K, F] ++ digs C 2 ++ [bs.length, 0] ++ J).length = 4 + 2 + 2 + J.length) := hid (by simp [digs_len]; omega)
   have HQ8 : Hid (Calls Tryz.prog 152 #[.slice a8 (4 + 2 + 2 + J.length) c8] w8 fun e w' => e = .returned (.int .u32 ((crcM ([67, 77, K, F] ++ digs C 2 ++ [bs.length, 0] ++ J) : Nat) : Int)) ∧ w' = w8) := hid (by
    have h := specCrc_any a8 c8 ([67, 77, K, F] ++ digs C 2 ++ [bs.length, 0] ++ J) w8 hr8 HBB.out (by rw [HBL.out]; omega)
    rw [HBL.out] at h
    exact h)
   have hcr := crcM_lt _ HBB.out
   clear ho8 hg8 hr8 hB8 HO7 HR7
   generalize [67, 77, K, F] ++ digs C 2 ++ [bs.length, 0] ++ J = Y at *
   generalize crcM Y = R at *
   have hwR : IntKind.i64.wrap (R : Int) = R := by simp [IntKind.wrap, IntKind.bits, IntKind.signed]; omega
   have HUR : Hid (U (R : Int) = R) := hid (U_nat _ (by omega))
   go_wp2_with fail
   refine HQ8.out.mono ?_
   rintro e w9 ⟨rfl, rfl⟩
   go_wp2_with fail
   refine (little_row (R : Int) 4 w9 (by omega) (by omega) (by unfold IntIn; omega)).mono ?_
   rintro e w10 ⟨g10, c10, rfl, o10, b10⟩
   rw [HUR.out] at o10
   have HO10 := hid (own_later HO8.out b10)
   have HR10 := hid (rd_row o10)
   have hB10 := HB8.out.trans (b10.mono HB8.out.size)
   have HB10 := hid hB10
   have hs10 := hB10.size
   clear o10 b10 hB10 HO8
   go_wp2_with (first | (at_builtin; refine append_any rfl _ _ 87 rfl wr.heap.size 5 i0 (.int .u8 0) 1 Tryz.underlying87 hi hz0 hz1 hz2 rfl _ (4 + 2 + 2 + J.length) _ rfl HO10.out (some ⟨g10, 0, none⟩) 4 c10 (byt (digs R 4)) rfl (by rw [byt_len, digs_len]) (by simp) HR10.out (byt_one _) (by unfold maxLen; omega) (by omega) hs10 ?_))
   intro v11 w11 ho11 hg11
   have HB11 : Hid (Below wr.heap.size wr w11) := hid (HB10.out.grown hg11 hs10 (fun p hp => (own_in HO10.out hp).1))
   rw [← byt_append] at ho11
   obtain ⟨a11, c11, rfl, -⟩ := rd_own ho11
   have hEL : (encM K F C bs).length = 4 + 2 + 2 + J.length + 4 := by rw [HEN.out, List.length_append, HBL.out, digs_len]
   have HF : Hid (w11.ownsRow w.heap.size 5 1 (.slice a11 (encM K F C bs).length c11) (encM K F C bs).length (byt (encM K F C bs))) := hid (by
    rw [hEL, HEN.out]
    exact own_mono ho11 (by have := HB.out.size; omega))
   have HEL := hid hEL
   clear ho11 hg11 hEL
   go_wp2
   go_ret
   exact ⟨a11, c11, by rw [HEL.out]; rfl, HF.out, bC HB.out HB11.out⟩
def fcSame (W : World) : Fct := ⟨fun _ w => Below W.heap.size W w, fun _ _ _ h hb => bC h hb⟩
def fcTwo (B lo : Nat) (f : PF) : Fct := ⟨fun v w => ∃ g, v = .slice (some ⟨g, 0, none⟩) 2 2 ∧ lo ≤ g ∧ w.ownsRow B 5 1 (.slice (some ⟨g, 0, none⟩) 2 2) 2 (byt [f.kind.toNat, f.width.toNat]), fun _ _ _ ⟨g, e, h1, h2⟩ hb => ⟨g, e, h1, own_later h2 hb⟩⟩
def fcHdr (B : Nat) (f : PF) : Fct := ⟨fun v w => ∃ g cp, v = .slice (some ⟨g, 0, none⟩) (hdrF f).length cp ∧ w.ownsRow B 5 1 (.slice (some ⟨g, 0, none⟩) (hdrF f).length cp) (hdrF f).length (byt (hdrF f)), fun _ _ _ ⟨g, cp, e, h⟩ hb => ⟨g, cp, e, own_later h hb⟩⟩
def fcOneT (B : Nat) (f : PF) : Fct := ⟨fun v w => ∃ g u, v = .slice (some ⟨g, 0, none⟩) 1 1 ∧ w.cell? ⟨g, 0, none⟩ = some u ∧ w.ownsRow B 5 1 u (hdrF f).length (byt (hdrF f)), fun _ _ _ ⟨g, u, e, h1, h2⟩ hb => ⟨g, u, e, (hb.cell (World.block_lt_of_cell? _ _ h1)).trans h1, own_later h2 hb⟩⟩
abbrev mbox (n : Nat) (v : Value) : Obj := .cells #[.int .i64 1, .int .i64 0, .int .i64 (n : Int), v] 161 (0, 0)
def fcGot (B gm : Nat) (acc : Value) (n : Nat) (bs : List (List Nat)) (f : PF) : Fct := ⟨fun v w => Txts B w v (bs ++ [hdrF f]) ∧ w.heap[gm]? = some (mbox n acc), fun _ _ _ ⟨h1, h2⟩ hb => ⟨h1.later hb, (hb.block _ (Array.getElem?_eq_some_iff.1 h2).1).trans h2⟩⟩
def fcPut (B gm n : Nat) (bs : List (List Nat)) (f : PF) : Fct := ⟨fun _ w => ∃ v, w.heap[gm]? = some (mbox n v) ∧ Txts B w v (bs ++ [hdrF f]), fun _ _ _ ⟨v, h1, h2⟩ hb => ⟨v, (hb.block _ (Array.getElem?_eq_some_iff.1 h1).1).trans h1, h2.later hb⟩⟩
theorem two_new8 {B lo : Nat} {w : World} {f : PF} (h0 : 0 ≤ f.kind ∧ f.kind ≤ 3) (h1 : 0 ≤ f.width ∧ f.width ≤ 8) (hlo : lo ≤ w.heap.size) (hB : B ≤ w.heap.size) : (fcTwo B lo f).p (.slice (some ⟨w.heap.size, 0, none⟩) 2 2) (w.alloc (.cells #[.int .u8 f.kind, .int .u8 f.width] 5)) := by
 refine ⟨_, rfl, hlo, ?_⟩
 have h := own_built (w := w) (B := B) (e := 5) (cs := #[.int .u8 f.kind, .int .u8 f.width]) hB (by unfold maxLen; simp)
 have e : byt [f.kind.toNat, f.width.toNat] = [.int .u8 f.kind, .int .u8 f.width] := by simp [byt, Int.toNat_of_nonneg h0.1, Int.toNat_of_nonneg h1.1]
 rw [e]
 exact h
theorem hdr_own {B : Nat} {w : World} {f : PF} {g cap : Nat} (h : w.ownsRow B 5 1 (.slice (some ⟨g, 0, none⟩) (2 + f.name.length) cap) (2 + f.name.length) (byt [f.kind.toNat, f.width.toNat] ++ byt f.name)) : (fcHdr B f).p (.slice (some ⟨g, 0, none⟩) (2 + f.name.length) cap) w := by
 have hl : 2 + f.name.length = (hdrF f).length := by simp [hdrF]; omega
 rw [hl, ← byt_append, show [f.kind.toNat, f.width.toNat] ++ f.name = hdrF f from rfl] at h
 exact ⟨g, cap, by rw [hl], h⟩
theorem oneT_new {B : Nat} {w : World} {f : PF} {u : Value} {e : TypeId} (h : w.ownsRow B 5 1 u (hdrF f).length (byt (hdrF f))) : (fcOneT B f).p (.slice (some ⟨w.heap.size, 0, none⟩) 1 1) (w.alloc (.cells #[u] e)) := by
 have p0 := cR _ _ 0 _ _ _ (heap_alloc_new w (.cells #[u] e))
 simp only [gA, gZ] at p0
 exact ⟨_, u, rfl, p0, own_later h (bN _ _)⟩
theorem one_at {w : World} {g : Nat} {u : Value} (h : w.cell? ⟨g, 0, none⟩ = some u) : ∀ j y, [u][j]? = some y → w.cell? ((⟨g, 0, none⟩ : Addr).add j) = some y := by
 intro j y hy
 match j, hy with
 | 0, hy => simp at hy; rw [addr_add0, ← hy]; exact h
theorem own_one {w : World} {B n : Nat} {e : TypeId} {u : Value} {vs : List Value} (h : w.ownsRow B e 1 u n vs) : u.oneCell' = true := by
 obtain ⟨a, c, rfl, -⟩ := rd_own h
 rfl
theorem name_cells {w : World} {xs : List Nat} {a : Option Addr} {n c : Nat} (h : RdSl cByte w xs (.slice a n c)) (hp : 1 ≤ xs.length) : ∃ ad, a = some ad ∧ ∀ j u, (byt xs)[j]? = some u → w.cell? (ad.add j) = some u := by
 obtain ⟨a', c', e, -, -, -, hr, -⟩ := h.bytes
 simp only [Value.slice.injEq] at e
 obtain ⟨rfl, -, -⟩ := e
 rcases hr with h0 | ⟨b, off, rfl, hc⟩
 ·have : xs = [] := by simpa [byt] using h0
  subst this; simp at hp
 ·refine ⟨_, rfl, fun j u hu => ?_⟩
  obtain ⟨hj, e⟩ := List.getElem?_eq_some_iff.1 hu
  rw [addr_add0, hc j hj, e]
theorem box_farH {w : World} {gm : Nat} {cs : Array Value} {t : TypeId} {B n s : Nat} {e : TypeId} {u : Value} {vs : List Value} (hb : w.heap[gm]? = some (.cells cs t (0, 0))) (ho : w.ownsRow B e s u n vs) (hne : e ≠ t) : u.ownBlock ≠ some gm := by
 intro hp
 rcases ho.2 with ⟨rfl, _⟩ | ⟨g, cap, cur, rfl, _, hh, _⟩
 ·simp [Value.ownBlock] at hp
 ·simp [Value.ownBlock] at hp
  subst hp
  rw [hb] at hh
  simp at hh
  exact hne hh.2.symm
theorem Txts.kept {B : Nat} {w w' : World} {v : Value} {xss : List (List Nat)} (h : Txts B w v xss) (hk : ∀ (b : Nat) e n vs u, w.ownsRow B e 1 u n vs → (e = 87 ∨ e = 5) → u.ownBlock = some b → w'.heap[b]? = w.heap[b]?) : Txts B w' v xss := by
 obtain ⟨vals, ho, hi⟩ := h
 exact ⟨vals, ownsRow_kept ho (fun b hb => hk b _ _ _ _ ho (.inl rfl) hb), fun i h => by
  obtain ⟨u, h1, h2, h3⟩ := hi i h
  exact ⟨u, h1, ownsRow_kept h2 (fun b hb => hk b _ _ _ _ h2 (.inr rfl) hb), h3⟩⟩
theorem put_box {B gm n : Nat} {w : World} {acc v x : Value} {bs : List (List Nat)} {f : PF} (hb : w.heap[gm]? = some (mbox n acc)) (h : Txts B w v (bs ++ [hdrF f])) : (fcPut B gm n bs f).p x (w.setCell ⟨gm, 3, none⟩ v) := by
 refine ⟨v, ?_, h.kept (fun b e n vs u ho he hp => Below.heap_setCell _ ⟨gm, 3, none⟩ _ _ (fun e' => ?_))⟩
 ·have h1 := heap_setCell_same w gm 3 _ _ v hb
  exact h1
 ·subst e'
  exact box_farH hb ho (by rcases he with rfl | rfl <;> decide) hp
theorem results_cell3 {P : Program} {fn : Func} {p u u' : Tmp} {ty : TypeId} (h : fn.results = #[.cell p ty, .tmp u, .tmp u']) (tmps : Array Value) (w : World) (g : Nat) (t : TypeId) (cs : Array Value) (fr : Nat × Nat) (d : TypeDesc)
  (hp : tmps.getD p undef = .pointer (some ⟨g, 0, none⟩)) (hg : w.heap[g]? = some (.cells cs t fr))
  (hu : P.underlying ty = some d) (hd : (match d with | .struct _ | .array _ _ => true | _ => false) = true) (hi : (P.info? ty).map (·.size) = some cs.size) :
  (results fn tmps).run P w = .ok (.tuple #[.agg cs, tmps.getD u undef, tmps.getD u' undef]) w := by
 have e : (results fn tmps).run P w = ((asAddr (tmps.getD p undef)).run P w).andThen fun a w₁ => ((loadVar ty a).run P w₁).andThen fun v w₂ => .ok (.tuple #[v, tmps.getD u undef, tmps.getD u' undef]) w₂ := by
  simp only [results, h]
  simp [Sem.run_bind, Result.andThen]
 rw [e, hp]
 simp [asAddr, run_loadVar_row w g t ty cs fr d hg hu hd hi]
set_option maxHeartbeats 400000 in
theorem l1width_any (n : Int) (w : World) :
  Calls Tryz.prog 141 #[.int .i64 n] w fun e w' => e = .returned (.bool (decide (n = 1 ∨ n = 2 ∨ n = 4 ∨ n = 8))) ∧ w' = w := by
 by_cases h1 : n = 1
 ·subst h1
  go_enter Tryz.func141, Tryz.ntmps141
  go_wp2
  go_ret
  exact ⟨rfl, rfl⟩
 by_cases h2 : n = 2
 ·subst h2
  go_enter Tryz.func141, Tryz.ntmps141
  go_wp2
  go_ret
  exact ⟨rfl, rfl⟩
 by_cases h4 : n = 4
 ·subst h4
  go_enter Tryz.func141, Tryz.ntmps141
  go_wp2
  go_ret
  exact ⟨rfl, rfl⟩
 by_cases h8 : n = 8
 ·subst h8
  go_enter Tryz.func141, Tryz.ntmps141
  go_wp2
  go_ret
  exact ⟨rfl, rfl⟩
 have e1 : (n == 1) = false := by simpa using h1
 have e2 : (n == 2) = false := by simpa using h2
 have e4 : (n == 4) = false := by simpa using h4
 have e8 : (n == 8) = false := by simpa using h8
 have HF : Hid (decide (n = 1 ∨ n = 2 ∨ n = 4 ∨ n = 8) = false) := hid (by simp [h1, h2, h4, h8])
 rw [HF.out]
 clear h1 h2 h4 h8 HF
 go_enter Tryz.func141, Tryz.ntmps141
 go_wp2
 go_ret
 exact ⟨rfl, rfl⟩
def bstr (xs : List Nat) : ByteArray := ⟨(xs.map fun x => UInt8.ofNat x).toArray⟩
theorem bstr_foldl (ns : List Nat) : ∀ s : ByteArray, ns.foldl (fun (r : ByteArray) (n : Nat) => r.push (UInt8.ofNat n)) s = ⟨s.data ++ (ns.map fun x => UInt8.ofNat x).toArray⟩ := by
 induction ns with
 | nil => intro s; simp
 | cons n ns ih =>
  intro s
  rw [List.foldl_cons, ih]
  simp [ByteArray.push]
theorem bstr_inj {xs ys : List Nat} (hx : ∀ x ∈ xs, x < 256) (hy : ∀ x ∈ ys, x < 256) (h : bstr xs = bstr ys) : xs = ys := by
 unfold bstr at h
 simp only [ByteArray.mk.injEq] at h
 have h' := congrArg Array.toList h
 simp only at h'
 clear h
 induction xs generalizing ys with
 | nil => cases ys <;> simp_all
 | cons x xs ih =>
  cases ys with
  | nil => simp at h'
  | cons y ys =>
   simp only [List.map_cons, List.cons.injEq] at h'
   have h1 : x = y := by
    have e := congrArg UInt8.toNat h'.1
    have a := hx x (by simp)
    have b := hy y (by simp)
    simp only [UInt8.toNat_ofNat'] at e
    omega
   rw [h1, ih (fun z hz => hx z (by simp [hz])) (fun z hz => hy z (by simp [hz])) h'.2]
theorem bstr_beq {xs ys : List Nat} (hx : ∀ x ∈ xs, x < 256) (hy : ∀ x ∈ ys, x < 256) : decide (xs = ys) = ((bstr xs).toList == (bstr ys).toList) := by
 rw [ByteArray.toList_eq, ByteArray.toList_eq]
 by_cases h : xs = ys
 ·subst h; simp
 ·have h1 : (bstr xs).data.toList ≠ (bstr ys).data.toList := fun e => h (bstr_inj hx hy (by
   have := Array.toList_inj.1 e
   cases hb : bstr xs; cases hc : bstr ys; simp_all))
  rw [decide_eq_false h]
  exact (beq_eq_false_iff_ne.2 h1).symm
theorem bstr_size (xs : List Nat) : (bstr xs).size = xs.length := by simp [bstr, ByteArray.size]
theorem run_bstr {P : Program} {w : World} {src dst e : TypeId} (hs : P.underlying src = some (.slice e)) (he : P.underlying e = some (.int .u8)) (hd : P.underlying dst = some .string)
  {a : Option Addr} {xs : List Nat} {c : Nat} (h : Rd w a (byt xs)) : (convert src dst (.slice a xs.length c)).run P w = .ok (.string (bstr xs)) w := by
 rw [run_convert_bytes_string w src dst e a xs.length c hs he hd]
 cases a with
 | none =>
  obtain rfl : xs = [] := by
   rcases h with h | ⟨b, off, h, _⟩
   ·simpa [byt] using h
   ·cases h
  simp [Conv.bytesToString, Sem.run_pure, bstr]
  rfl
 | some a =>
  have hl : (loadCells a xs.length).run P w = .ok ((xs.map (fun x : Nat => (x : Int))).map (Value.int .u8)).toArray w := by
   have := run_loadCells_list (P := P) (w := w) a (byt xs) (by
    intro j v hj
    rcases h with h | ⟨b, off, h1, hc⟩
    ·rw [h] at hj; simp at hj
    ·cases h1
     obtain ⟨h2, h3⟩ := List.getElem?_eq_some_iff.1 hj
     have h4 := hc j h2
     have hadd : (⟨b, off, none⟩ : Addr).add j = ⟨b, off + j, none⟩ := by unfold Addr.add; split <;> simp_all
     rw [hadd, h4, h3])
   simpa [byt, List.map_map, Function.comp_def] using this
  rw [run_bytesToString w a _ _ _ hl, List.foldl_map]
  simp only [Int.toNat_natCast]
  rw [bstr_foldl]
  simp [bstr]
set_option maxHeartbeats 400000 in
theorem l1same_any (a1 a2 : Option Addr) (c1 c2 : Nat) (xs ys : List Nat) (w : World) (h1 : Rd w a1 (byt xs)) (h2 : Rd w a2 (byt ys)) (hx : ∀ x ∈ xs, x < 256) (hy : ∀ x ∈ ys, x < 256) :
  Calls Tryz.prog 108 #[.slice a1 xs.length c1, .slice a2 ys.length c2] w fun e w' => e = .returned (.bool (decide (xs = ys))) ∧ w' = w := by
 have e1 := run_bstr (P := Tryz.prog) (c := c1) Tryz.underlying87 Tryz.underlying5 Tryz.underlying9 h1
 have e2 := run_bstr (P := Tryz.prog) (c := c2) Tryz.underlying87 Tryz.underlying5 Tryz.underlying9 h2
 have HD : Hid (decide (xs = ys) = ((bstr xs).toList == (bstr ys).toList)) := hid (bstr_beq hx hy)
 rw [HD.out]
 clear h1 h2
 generalize bstr xs = s at *
 generalize bstr ys = t at *
 go_enter Tryz.func108, Tryz.ntmps108
 go_wp2
 go_ret
 exact ⟨rfl, rfl⟩
set_option maxHeartbeats 2000000 in
theorem l2nameOK_any (a : Option Addr) (cap : Nat) (xs : List Nat) (w : World) (hr : Rd w a (byt xs)) (hb : ∀ x ∈ xs, x < 256) :
  Calls Tryz.prog 140 #[.slice a xs.length cap] w fun e w' => e = .returned (.bool (nameOK xs)) ∧ w' = w := by
 by_cases h1 : xs.length < 1
 ·have HD : Hid (nameOK xs = false) := hid (by simp [nameOK]; omega)
  rw [HD.out]
  go_enter Tryz.func140, Tryz.ntmps140
  go_wp2
  go_ret
  exact ⟨rfl, rfl⟩
 by_cases h2 : 20 < xs.length
 ·have HD : Hid (nameOK xs = false) := hid (by simp [nameOK]; omega)
  rw [HD.out]
  go_enter Tryz.func140, Tryz.ntmps140
  go_wp2
  go_ret
  exact ⟨rfl, rfl⟩
 have HD : Hid (nameOK xs = xs.all nameB) := hid (by
  have e1 : decide (1 ≤ xs.length) = true := decide_eq_true (by omega)
  have e2 : decide (xs.length ≤ 20) = true := decide_eq_true (by omega)
  unfold nameOK; rw [e1, e2]; rfl)
 rw [HD.out]
 have HC : Hid (∀ i, (h : i < xs.length) → ∃ b off, a = some ⟨b, off, none⟩ ∧ w.cell? ⟨b, off + i, none⟩ = some (.int .u8 ((xs[i] : Nat) : Int))) := hid (by
  rcases hr with h | ⟨b, off, rfl, hc⟩
  ·have : xs = [] := by simpa [byt] using h
   subst this; simp at h1
  ·exact fun i h => ⟨b, off, rfl, rdByte hc i h⟩)
 clear hr
 go_enter Tryz.func140, Tryz.ntmps140
 go_wp2
 go_loop [3, 4] (fun i c => ∃ k : Nat, k ≤ xs.length ∧ i = .int .i64 k ∧ ∀ j, (h : j < xs.length) → j < k → nameB xs[j] = true) (fun i _ => xs.length - (intOf i).toNat)
 case atStart => exact ⟨0, Nat.zero_le _, rfl, fun j _ h => by omega⟩
 case round =>
  obtain ⟨k, hk, rfl, hall⟩ := hrel
  have HA := hid hall
  clear hall
  by_cases hlt : k < xs.length
  ·obtain ⟨b, off, rfl, hcell⟩ := HC.out k hlt
   have hx := hb _ (List.getElem_mem hlt)
   have hki : (k : Int) < (xs.length : Int) := by omega
   have HBAD : Hid (nameB xs[k] = false → xs.all nameB = false) := hid (fun h => all_bad hlt h)
   have HGOOD : Hid (nameB xs[k] = true → ∀ j, (h : j < xs.length) → j < k + 1 → nameB xs[j] = true) := hid (fun h j hj hjk => by
    by_cases e : j = k
    ·subst e; exact h
    ·exact HA.out j hj (by omega))
   generalize hc : xs[k] = c at *
   rcases nameB_split c with ⟨hs, hn⟩ | ⟨hs, hn⟩
   ·have HX := hid (HBAD.out hn)
    clear hn
    rcases hs with h | h | h | h | h <;> (go_wp2 <;> first | (go_ret; exact ⟨by rw [HX.out]; rfl, rfl⟩) | (exfalso; omega) | (exfalso; simp_all; omega))
   ·have HX := hid (HGOOD.out hn)
    clear hn
    rcases hs with h | h | h | h <;> (go_wp2 <;> first | (exfalso; omega) | (go_round <;> first | exact ⟨k + 1, by omega, by go_num, HX.out⟩ | (simp [intOf]; omega)) | (exfalso; simp_all; omega))
  ·obtain rfl : k = xs.length := by omega
   have HF := hid (all_ok (fun j hj => HA.out j hj hj))
   go_wp2
   go_ret
   exact ⟨by rw [HF.out]; rfl, rfl⟩
set_option maxHeartbeats 1000000 in
theorem l2fieldOK_any (f : PF) (cs : List Value) (w : World) (hr : cField.rd w f cs) :
  Calls Tryz.prog 107 #[val cs] w fun e w' => e = .returned (.bool (fieldOK f)) ∧ Below w.heap.size w w' := by
 obtain ⟨v, rfl, hv, _⟩ := cField_rd hr
 obtain ⟨a, cap, rfl, _, _, _, hrd, hby⟩ := hv.bytes
 simp only [val]
 have HK : Hid (Calls Tryz.prog 140 #[.slice a f.name.length cap] (w.alloc (.cells #[.slice a f.name.length cap, .int .i64 f.kind, .int .i64 f.width] 101)) fun e w' => e = .returned (.bool (nameOK f.name)) ∧ w' = w.alloc (.cells #[.slice a f.name.length cap, .int .i64 f.kind, .int .i64 f.width] 101)) := hid (l2nameOK_any a cap f.name _ (hrd.later (bN _ _)) hby)
 have HF : Hid (fieldOK f = (nameOK f.name && kindOK f)) := hid rfl
 have HKK : Hid (kindOK f = if f.kind = 1 then widthOK f.width else decide (0 ≤ f.kind) && decide (f.kind ≤ 3) && decide (f.width = 0)) := hid rfl
 clear hr hrd hv
 cases hn : nameOK f.name
 ·have HX : Hid (fieldOK f = false) := hid (by rw [HF.out, hn]; rfl)
  go_enter Tryz.func107, Tryz.ntmps107
  go_wp2_with fail
  refine HK.out.mono ?_
  rintro e w2 ⟨rfl, rfl⟩
  rw [hn]
  go_wp2
  go_ret
  exact ⟨by rw [HX.out]; rfl, bN _ _⟩
 ·by_cases h1 : f.kind = 1
  ·have HX : Hid (fieldOK f = widthOK f.width) := hid (by rw [HF.out, hn, HKK.out, if_pos h1]; rfl)
   have H1 := hid h1
   clear h1
   go_enter Tryz.func107, Tryz.ntmps107
   go_wp2_with fail
   refine HK.out.mono ?_
   rintro e w2 ⟨rfl, rfl⟩
   rw [hn]
   have h1 := H1.out
   go_wp2_with fail
   refine (l1width_any f.width _).mono ?_
   rintro e w2 ⟨rfl, rfl⟩
   generalize hwd : decide (f.width = 1 ∨ f.width = 2 ∨ f.width = 4 ∨ f.width = 8) = wd
   go_wp2
   go_ret
   exact ⟨by rw [HX.out, show widthOK f.width = wd from hwd]; rfl, bN _ _⟩
  ·by_cases h2 : f.kind < 0
   ·have HX : Hid (fieldOK f = false) := hid (by rw [HF.out, hn, HKK.out, if_neg h1, decide_eq_false (show ¬ 0 ≤ f.kind by omega)]; rfl)
    go_enter Tryz.func107, Tryz.ntmps107
    go_wp2_with fail
    refine HK.out.mono ?_
    rintro e w2 ⟨rfl, rfl⟩
    rw [hn]
    go_wp2
    go_ret
    exact ⟨by rw [HX.out]; rfl, bN _ _⟩
   ·by_cases h3 : 3 < f.kind
    ·have HX : Hid (fieldOK f = false) := hid (by rw [HF.out, hn, HKK.out, if_neg h1, decide_eq_false (show ¬ f.kind ≤ 3 by omega)]; simp)
     go_enter Tryz.func107, Tryz.ntmps107
     go_wp2_with fail
     refine HK.out.mono ?_
     rintro e w2 ⟨rfl, rfl⟩
     rw [hn]
     go_wp2
     go_ret
     exact ⟨by rw [HX.out]; rfl, bN _ _⟩
    ·have HX : Hid (fieldOK f = decide (f.width = 0)) := hid (by rw [HF.out, hn, HKK.out, if_neg h1, decide_eq_true (show 0 ≤ f.kind by omega), decide_eq_true (show f.kind ≤ 3 by omega)]; rfl)
     go_enter Tryz.func107, Tryz.ntmps107
     go_wp2_with fail
     refine HK.out.mono ?_
     rintro e w2 ⟨rfl, rfl⟩
     rw [hn]
     go_wp2
     go_ret
     exact ⟨by rw [HX.out]; rfl, bN _ _⟩
theorem taken_none {fs : List PF} {i : Nat} (hi : i < fs.length) (h : ∀ k, (hk : k < fs.length) → k < i → fs[k].name ≠ fs[i].name) : taken (fs.take i) fs[i].name = false :=
 not_taken (fun k hk => by
  have hk' : k < i := by simp at hk; omega
  simp only [List.getElem_take]
  exact h k (by omega) hk')
theorem taken_some {fs : List PF} {i k : Nat} (hi : i < fs.length) (hk : k < i) (h : fs[k].name = fs[i].name) : taken (fs.take i) fs[i].name = true :=
 taken_at (k := k) (by simp; omega) (by simpa using h)
set_option maxHeartbeats 4000000 in
theorem specFields_any (a : Option Addr) (cap : Nat) (fs : List PF) (w : World) (hr : RdSl cField w fs (.slice a fs.length cap)) :
  Calls Tryz.prog 57 #[.slice a fs.length cap] w fun e w' => e = .returned (.bool (fieldsOK fs)) ∧ Below w.heap.size w w' := by
 have HR := hid hr
 clear hr
 by_cases h1 : fs.length < 1
 ·have HD : Hid (fieldsOK fs = false) := hid (by simp [fieldsOK]; omega)
  go_enter Tryz.func57, Tryz.ntmps57
  go_wp2
  go_ret
  exact ⟨by rw [HD.out]; rfl, Below.refl _ _⟩
 by_cases h2 : 12 < fs.length
 ·have HD : Hid (fieldsOK fs = false) := hid (by simp [fieldsOK]; omega)
  go_enter Tryz.func57, Tryz.ntmps57
  go_wp2
  go_ret
  exact ⟨by rw [HD.out]; rfl, Below.refl _ _⟩
 have HD : Hid (fieldsOK fs = okTo fs fs.length) := hid (by
  have e1 : decide (1 ≤ fs.length) = true := decide_eq_true (by omega)
  have e2 : decide (fs.length ≤ 12) = true := decide_eq_true (by omega)
  unfold fieldsOK; rw [e1, e2]; rfl)
 go_enter Tryz.func57, Tryz.ntmps57
 go_wp2
 go_loopw [3, 4] (fun i _ wr => ∃ k : Nat, k ≤ fs.length ∧ i = .int .i64 k ∧ okTo fs k = true ∧ Below w.heap.size w wr) (fun i _ _ => fs.length - (intOf i).toNat)
 case atStart => exact ⟨0, Nat.zero_le _, rfl, rfl, Below.refl _ _⟩
 case round =>
  obtain ⟨i, hk, rfl, hok, hbe⟩ := hrel
  have HB := hid hbe
  have HO := hid hok
  clear hbe hok
  by_cases hlt : i < fs.length
  ·obtain ⟨b, off, v0, v1, v2, rfl, hes, d0, d1, d2⟩ := (HR.out.later HB.out).at3 rfl hlt
   have HE := hid hes
   have hki : (i : Int) < (fs.length : Int) := by omega
   clear hes
   go_wp2_with fail
   refine (l2fieldOK_any fs[i] _ wr HE.out).mono ?_
   rintro e w2 ⟨rfl, b2⟩
   have HB2 := hid (HB.out.trans (b2.mono HB.out.size))
   cases hf : fieldOK fs[i]
   ·have HX := hid (fieldsOK_bad hlt (.inl hf))
    clear b2 hf
    go_wp2
    go_ret
    exact ⟨by rw [HX.out]; rfl, HB2.out⟩
   ·have HF := hid hf
    clear b2 hf d0 d1 d2
    go_wp2
    go_loopw [4] (fun j wq => ∃ k : Nat, k ≤ i ∧ j = .int .i64 k ∧ (∀ q, (h : q < fs.length) → q < k → fs[q].name ≠ fs[i].name) ∧ Below w.heap.size w wq) (fun j _ => i - (intOf j).toNat)
    case atStart => exact ⟨0, Nat.zero_le _, rfl, fun q _ h => by omega, HB2.out⟩
    case round =>
     obtain ⟨k, hki2, rfl, hne, hbq⟩ := hrel
     have HBQ := hid hbq
     have HNE := hid hne
     clear hbq hne
     by_cases hlk : k < i
     ·have RQ := HR.out.later HBQ.out
      obtain ⟨b', off', x0, x1, x2, e', hx, p0, -, -⟩ := RQ.at3 (k := k) rfl (by omega)
      simp only [Option.some.injEq, Addr.mk.injEq, and_true] at e'
      obtain ⟨rfl, rfl⟩ := e'
      obtain ⟨b', off', y0, y1, y2, e', hy, q0, -, -⟩ := RQ.at3 (k := i) rfl hlt
      simp only [Option.some.injEq, Addr.mk.injEq, and_true] at e'
      obtain ⟨rfl, rfl⟩ := e'
      obtain ⟨vx, ex, hvx, -⟩ := cField_rd hx
      obtain ⟨vy, ey, hvy, -⟩ := cField_rd hy
      obtain ⟨ax, cx, rfl, -, -, -, rx, bx⟩ := hvx.bytes
      obtain ⟨ay, cy, rfl, -, -, -, ry, by_⟩ := hvy.bytes
      simp only [List.cons.injEq] at ex ey
      obtain ⟨rfl, -⟩ := ex
      obtain ⟨rfl, -⟩ := ey
      have HQ : Hid (∀ n, Calls Tryz.prog 108 #[.slice ax fs[k].name.length cx, .slice ay fs[i].name.length cy] (wr.drewN n) fun e w' => e = .returned (.bool (decide (fs[k].name = fs[i].name))) ∧ ∃ m, w' = (wr.drewN n).drewN m) := hid (fun n => by
       refine (l1same_any ax ay cx cy _ _ _ (rx.later (below_drewN (Below.refl _ _) n)) (ry.later (below_drewN (Below.refl _ _) n)) bx by_).mono ?_
       rintro e w' ⟨rfl, rfl⟩
       exact ⟨rfl, 0, rfl⟩)
      have hkk : (k : Int) < (i : Int) := by omega
      have hkl : (k : Int) < (fs.length : Int) := by omega
      clear hvx hvy rx ry bx by_ hx hy RQ
      go_wp2
      go_quiet ((go_at_call 108; exact Calls.quiet_of (HQ.out _)))
      by_cases hsame : fs[k].name = fs[i].name
      ·have HX := hid (fieldsOK_bad hlt (.inr (taken_some hlt hlk hsame)))
       rw [decide_eq_true hsame]
       go_wp2
       go_ret
       exact ⟨by rw [HX.out]; rfl, below_drewN HBQ.out _⟩
      ·rw [decide_eq_false hsame]
       have HNN : Hid (∀ q, (h : q < fs.length) → q < k + 1 → fs[q].name ≠ fs[i].name) := hid (fun q hq hqk => by
        by_cases e : q = k
        ·subst e; exact hsame
        ·exact HNE.out q hq (by omega))
       go_wp2
       go_roundw
       case rel => exact ⟨k + 1, by omega, by go_num, HNN.out, below_drewN HBQ.out _⟩
       case measure => simp [intOf]; omega
     ·obtain rfl : k = i := by omega
      have HX : Hid (okTo fs (k + 1) = true) := hid (by rw [okTo_succ hlt, HO.out, HF.out, taken_none hlt HNE.out]; rfl)
      go_wp2
      go_roundw
      case rel => exact ⟨k + 1, by omega, by go_num, HX.out, HBQ.out⟩
      case measure => simp [intOf]; omega
  ·obtain rfl : i = fs.length := by omega
   have HX : Hid (fieldsOK fs = true) := hid (by rw [HD.out]; exact HO.out)
   go_wp2
   go_ret
   exact ⟨by rw [HX.out]; rfl, HB.out⟩
end Go.Proofs.YtfaehioeepolhabGreat
