import Derived.Test.YtfaehioeepolhabGreatJCrashSender19
import Derived.Test.YtfaehioeepolhabGreatJCrashSender35
import Derived.Test.YtfaehioeepolhabGreatJCrashSender36
import Derived.Test.YtfaehioeepolhabGreatJCrashSender3
import Derived.Test.YtfaehioeepolhabGreatJCrashSender4
import Derived.Laws.AppendOwnNone
import Derived.Test.YtfaehioeepolhabGreatJCrashSender12
import Derived.Lib.AppendZeros
namespace Go.Proofs.YtfaehioeepolhabGreat
open Go.RowKit
theorem u32_wrap (n : Nat) (h : n < 4294967296) : IntKind.u32.wrap (n : Int) = n := by
 simp [IntKind.wrap, IntKind.bits, IntKind.signed]; omega
def catL (ps : List (List Nat)) : List Nat := ps.flatMap id
theorem catL_snoc (ps : List (List Nat)) (k : Nat) (h : k < ps.length) : catL (ps.take (k + 1)) = catL (ps.take k) ++ ps[k] := by
 unfold catL
 rw [List.take_succ_eq_append_getElem h, List.flatMap_append]; simp
theorem catL_tot (ps : List (List Nat)) : (catL ps).length = tot ps := by
 unfold catL tot
 rw [List.length_flatMap]; rfl
theorem catL_lt {ps : List (List Nat)} (h : ∀ t ∈ ps, ∀ x ∈ t, x < 256) : ∀ x ∈ catL ps, x < 256 := by
 intro x hx
 simp only [catL, List.mem_flatMap, id] at hx
 obtain ⟨t, h1, h2⟩ := hx
 exact h t h1 x h2
set_option maxHeartbeats 1000000 in
theorem withChecksum_any (a : Option Addr) (cap : Nat) (ps : List (List Nat)) (w : World) (hr : RdSl cSS w ps (.slice a ps.length cap)) (ht : totL List.length ps ≤ 104857600) :
  Calls Tryz.prog 161 #[.slice a ps.length cap] w fun e w' => ∃ v, e = .returned v ∧ w'.ownsRow w.heap.size 5 1 v ((catL ps).length + 4) (byt (catL ps ++ digs (crcM (catL ps)) 4)) ∧ Below w.heap.size w w' := by
 obtain ⟨i0, hi, hz0, hz1, hz2⟩ := info_parts infoByteM
 have HR := hid hr
 have HA := hid hr.allOK
 have hlen : ps.length ≤ 104857600 ∧ tot ps ≤ 104857600 := by rw [totL_tot] at ht; omega
 have hXl : (catL ps).length ≤ 104857600 := by rw [catL_tot]; omega
 have HXB := hid (catL_lt HA.out)
 have HCL := hid (crcM_lt (catL ps) HXB.out)
 generalize hX : catL ps = X at *
 have HX := hid hX
 clear hr hX
 go_enter Tryz.func161, Tryz.ntmps161
 go_wp2
 go_loopw [3, 8] (fun v i wr => ∃ k : Nat, k ≤ ps.length ∧ i = .int .i64 k ∧ wr.ownsRow w.heap.size 5 1 v (catL (ps.take k)).length (byt (catL (ps.take k))) ∧ Below w.heap.size w wr) (fun _ i _ => ps.length - (intOf i).toNat)
 case atStart => exact ⟨0, Nat.zero_le _, rfl, by simpa [catL, byt] using World.ownsRow_nil _ _ _ _, Below.refl _ _⟩
 case round =>
  obtain ⟨k, hk, rfl, how, hbe⟩ := hrel
  have HO := hid how
  have HB := hid hbe
  clear how hbe
  have hs := HB.out.size
  by_cases hlt : k < ps.length
  ·obtain ⟨b, off, a', c', rfl, hcb, hrr⟩ := (HR.out.later HB.out).row hlt
   have hlk := len_le_tot ps k hlt
   have hki : (k : Int) < (ps.length : Int) := by omega
   have h3 := tot_take ps k
   have HCT := hid (catL_tot (ps.take k))
   have hCL : (catL (ps.take k)).length ≤ 104857600 := by rw [HCT.out]; omega
   have HS := hid (catL_snoc ps k hlt)
   have HRD := hid hrr.rdB.1
   have HNI := hid hrr.nil0
   clear hrr
   generalize catL (ps.take k) = X at *
   go_wp2_with (first | (at_builtin; refine append_any rfl _ _ 87 rfl w.heap.size 5 i0 (.int .u8 0) 1 Tryz.underlying87 hi hz0 hz1 hz2 rfl _ X.length _ rfl HO.out a' ps[k].length c' (byt ps[k]) rfl (byt_len _) HNI.out HRD.out (byt_one _) (by unfold maxLen; omega) (by omega) hs ?_))
   intro v' w9 hown' hgrow
   have HN : Hid (w9.ownsRow w.heap.size 5 1 v' (catL (ps.take (k + 1))).length (byt (catL (ps.take (k + 1))))) := hid (by rw [HS.out, byt_append, List.length_append]; exact hown')
   have HB9 : Hid (Below w.heap.size w w9) := hid (HB.out.grown hgrow hs (fun p hp => (own_in HO.out hp).1))
   clear hown' hgrow HO
   go_wp2
   go_roundw
   case rel => exact ⟨k + 1, by omega, by go_num, HN.out, HB9.out⟩
   case measure => simp [intOf]; omega
  ·obtain rfl : k = ps.length := by omega
   have hO := HO.out
   rw [List.take_length, HX.out] at hO
   obtain ⟨aX, cX, rfl, hRX⟩ := rd_own hO
   have HO2 := hid hO
   have HQ := hid (implCrc_any aX cX X wr hRX HXB.out (by omega))
   rw [show (crcFold X ^^^ 4294967295 : Nat) = crcM X from rfl] at HQ
   clear hO HO hRX
   have HC4 : Hid (U (crcM X : Int) = crcM X) := hid (U_nat _ (by have := HCL.out; omega))
   have hci : IntIn (crcM X : Int) := by have := HCL.out; unfold IntIn; omega
   have HCI := hid hci
   clear hci
   generalize hC : crcM X = C at HQ HC4 HCI
   have HC := hid hC
   clear hC
   go_wp2_with fail
   refine HQ.out.mono ?_
   rintro e w2 ⟨rfl, b2⟩
   have hs2 : w.heap.size ≤ w2.heap.size := Nat.le_trans hs b2.size
   have HO3 := hid (own_later HO2.out b2)
   have HB2 := hid (bC HB.out b2)
   clear b2
   go_wp2_with fail
   refine (app_u32 w.heap.size _ X.length X (C : Int) w2 HO3.out hs2 (by omega) HCI.out).mono ?_
   rintro e w3 ⟨v3, rfl, o3, b3⟩
   rw [HC4.out, ← HC.out] at o3
   have HO4 := hid o3
   have HB3 : Hid (Below w.heap.size w w3) := hid (HB2.out.trans b3)
   clear o3 b3
   go_wp2
   go_ret
   exact ⟨_, rfl, HO4.out, HB3.out⟩
set_option maxHeartbeats 1000000 in
theorem lengthsOf_any (a : Option Addr) (cap : Nat) (bs : List (List Nat)) (w : World) (hr : RdSl cSS w bs (.slice a bs.length cap)) (ht : totL List.length bs ≤ 1048576) :
  Calls Tryz.prog 165 #[.slice a bs.length cap] w fun e w' => ∃ v, e = .returned v ∧ w'.ownsRow w.heap.size 5 1 v (4 * bs.length) (byt (lensM bs)) ∧ Below w.heap.size w w' := by
 have HR := hid hr
 have hlen : bs.length ≤ 1048576 ∧ tot bs ≤ 1048576 := by rw [totL_tot] at ht; omega
 clear hr
 go_enter Tryz.func165, Tryz.ntmps165
 go_wp2
 go_loopw [3, 8] (fun v i wr => ∃ k : Nat, k ≤ bs.length ∧ i = .int .i64 k ∧ wr.ownsRow w.heap.size 5 1 v (4 * k) (byt (lensM (bs.take k))) ∧ Below w.heap.size w wr) (fun _ i _ => bs.length - (intOf i).toNat)
 case atStart => exact ⟨0, Nat.zero_le _, rfl, by simpa [lensM, byt] using World.ownsRow_nil _ _ _ _, Below.refl _ _⟩
 case round =>
  obtain ⟨k, hk, rfl, how, hbe⟩ := hrel
  have HO := hid how
  have HB := hid hbe
  clear how hbe
  by_cases hlt : k < bs.length
  ·obtain ⟨b, off, a', c', rfl, hcb, -⟩ := (HR.out.later HB.out).row hlt
   have hlk := len_le_tot bs k hlt
   have hki : (k : Int) < (bs.length : Int) := by omega
   have hs := HB.out.size
   have hu := u32_wrap bs[k].length (by omega)
   have HS : Hid (lensM (bs.take (k + 1)) = lensM (bs.take k) ++ digs (U (bs[k].length : Int)) 4) := hid (by rw [lensM_snoc bs k hlt, U_nat _ (by omega)])
   have HQ := hid (fun v (h : wr.ownsRow w.heap.size 5 1 v (4 * k) (byt (lensM (bs.take k)))) => app_u32 w.heap.size v (4 * k) (lensM (bs.take k)) (bs[k].length : Int) wr h hs (by omega) (by unfold IntIn; omega))
   go_wp2_with fail
   refine (HQ.out _ HO.out).mono ?_
   rintro e w2 ⟨v2, rfl, o2, b2⟩
   have HO2 : Hid (w2.ownsRow w.heap.size 5 1 v2 (4 * (k + 1)) (byt (lensM (bs.take (k + 1))))) := hid (by rw [HS.out]; exact o2)
   have HB2 : Hid (Below w.heap.size w w2) := hid (HB.out.trans b2)
   clear o2 b2 HQ HO
   go_wp2
   go_roundw
   case rel => exact ⟨k + 1, by omega, by go_num, HO2.out, HB2.out⟩
   case measure => simp [intOf]; omega
  ·obtain rfl : k = bs.length := by omega
   have hO := HO.out
   rw [List.take_length] at hO
   have HO2 := hid hO
   clear hO HO
   go_wp2
   go_ret
   exact ⟨_, rfl, HO2.out, HB.out⟩
set_option maxHeartbeats 1000000 in
set_option maxRecDepth 100000 in
theorem app_u16 (B : Nat) (v : Value) (n : Nat) (xs : List Nat) (N : Int) (w : World) (ho : w.ownsRow B 5 1 v n (byt xs)) (hB : B ≤ w.heap.size) (hn : n ≤ 1099511627776) (hN : IntIn N) :
  Calls Tryz.prog 162 #[v, .int .u16 N, .int .i64 2] w fun e w' => ∃ v', e = .returned v' ∧ w'.ownsRow B 5 1 v' (n + 2) (byt (xs ++ digs (U N) 2)) ∧ Below B w w' := by
 obtain ⟨i0, hi, hz0, hz1, hz2⟩ := info_parts infoByteP
 have hU := U_eq N
 have HL := hid (U_lt N)
 have HN' := hid hN
 have HO0 := hid ho
 clear hN ho
 generalize U N = u at *
 go_enter Tryz.func162, Tryz.ntmps162
 go_wp2
 go_loopw [0, 7, 11] (fun o r i wr => ∃ k : Nat, k ≤ 2 ∧ i = .int .i64 k ∧ r = .int .u64 ((u / 256 ^ k : Nat) : Int) ∧ wr.ownsRow B 5 1 o (n + k) (byt (xs ++ (digs u 2).take k)) ∧ Below B w wr) (fun _ _ i _ => 2 - (intOf i).toNat)
 case atStart => exact ⟨0, Nat.zero_le _, rfl, by simp, by simpa using HO0.out, Below.refl _ _⟩
 case round =>
  obtain ⟨k, hk, rfl, rfl, how, hbe⟩ := hrel
  have HO := hid how
  have HB := hid hbe
  clear how hbe hU
  by_cases hlt : k < 2
  ·have HD := hid (digs_snoc u 2 k hlt)
   have HN := hid (div_next u k)
   have HR := hid (div_lt u k HL.out)
   have hBr : B ≤ wr.heap.size := Nat.le_trans hB HB.out.size
   generalize u / 256 ^ k = R at *
   have hki : decide ((k : Int) < 2) = true := by simp; omega
   go_wp2_with (first | (at_builtin; refine wpList_append_own _ rfl _ _ 87 rfl B 5 i0 (.int .u8 0) 1 1 Tryz.underlying87 hi hz0 hz1 hz2 rfl (by decide) _ (n + k) _ rfl (HO.out.alloc _) ⟨wr.heap.size, 0, none⟩ 1 1 [.int .u8 ((R : Int) % 256)] rfl rfl (cell_one_new _ _ _) (one_cell rfl) (by unfold maxLen; omega) (by omega) (by simp; omega) ?_))
   intro v' w1 hown' hgrow _
   have HB1 : Hid (Below B w w1) := hid ((HB.out.alloc hBr _).grown hgrow (by simp; omega) (fun k h => (World.ownsRow.lt HO.out k h).1))
   have HO1 : Hid (w1.ownsRow B 5 1 v' (n + (k + 1)) (byt (xs ++ (digs u 2).take (k + 1)))) := hid (by
    rw [HD.out, ← List.append_assoc, byt_snoc, ← Nat.add_assoc]
    simpa using hown')
   clear hown' hgrow
   go_wp2
   go_roundw
   case rel => exact ⟨k + 1, by omega, by go_num, by rw [← HN.out]; simp, HO1.out, HB1.out⟩
   case measure => simp [intOf]; omega
  ·have hki : decide ((k : Int) < 2) = false := by simp; omega
   have HK : Hid (k = 2) := hid (by omega)
   have hO := HO.out
   rw [HK.out, List.take_of_length_le (by rw [digs_len]; exact Nat.le_refl _)] at hO
   have HO2 := hid hO
   clear hO HO
   go_wp2
   go_ret
   exact ⟨_, rfl, HO2.out, HB.out⟩
theorem infoByteJimpl : (Tryz.prog.info? 5).map (fun i => (i.zero, i.size, i.bytes)) = some (some (.int .u8 0), 1, 1) := by kernel_rfl
set_option maxHeartbeats 2000000 in
set_option maxRecDepth 100000 in
theorem implJoin_any (a : Option Addr) (cap : Nat) (xss : List (List Nat)) (w : World) (hr : RdSS w a xss) (hn : xss.length ≤ 1048576) (ht : tot xss ≤ 1048576) :
  Calls Tryz.prog 163 #[.slice a xss.length cap] w fun e w' => ∃ a' c', e = .returned (.slice a' (join xss).length c') ∧ w'.ownsRow w.heap.size 5 1 (.slice a' (join xss).length c') (join xss).length (byt (join xss)) ∧ Below w.heap.size w w' := by
 obtain ⟨i0, hi, hz0, hz1, hz2⟩ := info_parts infoByteJimpl
 have HR := hid hr
 clear hr
 go_enter Tryz.func163, Tryz.ntmps163
 go_wp2
 go_loopw [3, 8] (fun v i wr => ∃ k : Nat, k ≤ xss.length ∧ i = .int .i64 k ∧ wr.ownsRow w.heap.size 5 1 v (join (xss.take k)).length (byt (join (xss.take k))) ∧ (join (xss.take k)).length ≤ tot (xss.take k) + 8 * k ∧ Below w.heap.size w wr) (fun _ i _ => xss.length - (intOf i).toNat)
 case atStart => exact ⟨0, Nat.zero_le _, rfl, by simpa [byt, join] using World.ownsRow_nil _ _ _ _, by simp [join], Below.refl _ _⟩
 case round =>
  obtain ⟨k, hk, rfl, how, hle, hbe⟩ := hrel
  have HO := hid how
  have HB := hid hbe
  have HLE := hid hle
  clear how hbe hle
  by_cases hlt : k < xss.length
  ·obtain ⟨b, off, a', c', rfl, hcb, hrr, hzz⟩ := (HR.out.later HB.out).at_ hlt
   have HRR := hid hrr
   have hlk := len_le_tot xss k hlt
   have htk := tot_take xss k
   have HTS := hid (tot_snoc xss k hlt)
   have HJ := hid (join_snoc xss k hlt)
   have hki : (k : Int) < (xss.length : Int) := by omega
   have hlen : (join (xss.take k)).length ≤ 9437184 := by have := HLE.out; omega
   obtain ⟨Z, hZ⟩ : ∃ Z, Z = join (xss.take k) ++ xss[k] := ⟨_, rfl⟩
   have hZl : Z.length ≤ 10485760 := by rw [hZ, List.length_append]; omega
   have HZ := hid hZ
   clear hrr hZ
   cases a' with
   | none =>
    obtain rfl := hzz rfl
    have h0 : xss[k] = [] := by
     rcases HRR.out with h | ⟨_, _, h, _⟩
     ·simpa [byt] using h
     ·cases h
    have h0l : xss[k].length = 0 := by rw [h0]; rfl
    rw [h0l] at hcb
    have HBz := hid HB.out
    have HEz : Hid (Z = join (xss.take k)) := hid (by rw [HZ.out, h0, List.append_nil])
    have hOz := HO.out
    rw [← HEz.out] at hOz
    have HOz := hid hOz
    clear h0 h0l hOz
    go_wp2_with (first | (at_builtin; refine wpList_append_own_none rfl _ _ 87 rfl w.heap.size 5 i0 1 Tryz.underlying87 hi _ _ _ rfl HO.out rfl ?_))
    go_wp2
    go_loopw [3] (fun v wx => ∃ p : Nat, p ≤ padn Z.length ∧ wx.ownsRow w.heap.size 5 1 v (Z.length + p) (byt (Z ++ List.replicate p 0)) ∧ Below w.heap.size w wx) (fun v _ => padn Z.length + Z.length - lenOf v)
    case atStart => exact ⟨0, Nat.zero_le _, by simpa using HOz.out, HBz.out⟩
    case round =>
     obtain ⟨p, hp, how, hbe⟩ := hrel
     have hp7 := padn_le Z.length
     have HD := hid (padn_done hp)
     obtain ⟨a2, c2, rfl, _⟩ := rd_own how
     have HO3 := hid how
     have HB3 := hid hbe
     clear how hbe HOz HBz
     by_cases hd : p = padn Z.length
     ·have ht : (((Z.length : Int) + (p : Int)) % 8 != 0) = false := by
       have := HD.out.2 hd
       simp; omega
      have HO4 : Hid (wr.ownsRow w.heap.size 5 1 (.slice a2 (Z.length + p) c2) (join (xss.take (k + 1))).length (byt (join (xss.take (k + 1))))) := hid (by
       rw [HJ.out]
       have h := HO3.out
       have e : Z ++ List.replicate p 0 = joinStep (join (xss.take k)) xss[k] := by rw [hd, HZ.out]; rfl
       have e2 : Z.length + p = (joinStep (join (xss.take k)) xss[k]).length := by rw [← e]; simp
       rw [e] at h
       rw [← e2]; exact h)
      have HLE2 : Hid ((join (xss.take (k + 1))).length ≤ tot (xss.take (k + 1)) + 8 * (k + 1)) := hid (by
       rw [HJ.out, joinStep_len, HTS.out]
       have := padn_le ((join (xss.take k)).length + xss[k].length)
       have := HLE.out; omega)
      clear hd
      go_wp2
      go_roundw
      case rel => exact ⟨k + 1, by omega, by go_num, HO4.out, HLE2.out, HB3.out⟩
      case measure => simp [intOf]; omega
     ·have ht : (((Z.length : Int) + (p : Int)) % 8 != 0) = true := by
       have := mt HD.out.1 hd
       simp; omega
      go_wp2_with (first | (at_builtin; refine wpList_append_own _ rfl _ _ 87 rfl w.heap.size 5 i0 (.int .u8 0) 1 1 Tryz.underlying87 hi hz0 hz1 hz2 rfl (by decide) _ (Z.length + p) _ rfl (HO3.out.alloc _) ⟨wr.heap.size, 0, none⟩ 1 1 [.int .u8 0] rfl rfl (cell_one_new _ _ _) (one_cell rfl) (by unfold maxLen; omega) (by omega) (by have := HB3.out.size; simp; omega) ?_))
      intro v' w3 hown' hgrow _
      have HB4 : Hid (Below w.heap.size w w3) := hid ((HB3.out.alloc HB3.out.size _).grown hgrow (by have := HB3.out.size; simp; omega) (fun k h => (World.ownsRow.lt HO3.out k h).1))
      have HL4 := hid (own_len hown')
      have HO4 : Hid (w3.ownsRow w.heap.size 5 1 v' (Z.length + (p + 1)) (byt (Z ++ List.replicate (p + 1) 0))) := hid (by
       rw [List.replicate_succ', ← List.append_assoc, byt_append, ← Nat.add_assoc]; exact hown')
      clear hown' hgrow
      go_wp2
      go_roundw
      case rel => exact ⟨p + 1, by omega, HO4.out, HB4.out⟩
      case measure => rw [HL4.out]; simp [lenOf]; omega
   | some ad =>
    have hC : ∀ j u, (byt xss[k])[j]? = some u → wr.cell? (ad.add j) = some u := by
     intro j u hj
     rcases HRR.out with h | ⟨b', o', h, hc'⟩
     ·rw [h] at hj; simp at hj
     ·obtain rfl : ad = ⟨b', o', none⟩ := by simpa using h
      obtain ⟨h1, h2⟩ := List.getElem?_eq_some_iff.1 hj
      have hadd : (⟨b', o', none⟩ : Addr).add j = ⟨b', o' + j, none⟩ := by unfold Addr.add; split <;> simp_all
      rw [hadd, hc' j h1, h2]
    have HC2 := hid hC
    clear hC
    go_wp2_with (first | (at_builtin; refine wpList_append_own _ rfl _ _ 87 rfl w.heap.size 5 i0 (.int .u8 0) 1 1 Tryz.underlying87 hi hz0 hz1 hz2 rfl (by decide) _ (join (xss.take k)).length _ rfl HO.out ad xss[k].length c' (byt xss[k]) rfl (by rw [byt_len, Nat.mul_one]) HC2.out (byt_one _) (by unfold maxLen; omega) (by omega) HB.out.size ?_))
    intro v1 w1 hown1 hgrow1 _
    have HBz : Hid (Below w.heap.size w w1) := hid (HB.out.grown hgrow1 HB.out.size (fun k h => (World.ownsRow.lt HO.out k h).1))
    have HOz : Hid (w1.ownsRow w.heap.size 5 1 v1 Z.length (byt Z)) := hid (by
     rw [HZ.out, byt_append, List.length_append]; exact hown1)
    clear hown1 hgrow1
    go_wp2
    go_loopw [3] (fun v wx => ∃ p : Nat, p ≤ padn Z.length ∧ wx.ownsRow w.heap.size 5 1 v (Z.length + p) (byt (Z ++ List.replicate p 0)) ∧ Below w.heap.size w wx) (fun v _ => padn Z.length + Z.length - lenOf v)
    case atStart => exact ⟨0, Nat.zero_le _, by simpa using HOz.out, HBz.out⟩
    case round =>
     obtain ⟨p, hp, how, hbe⟩ := hrel
     have hp7 := padn_le Z.length
     have HD := hid (padn_done hp)
     obtain ⟨a2, c2, rfl, _⟩ := rd_own how
     have HO3 := hid how
     have HB3 := hid hbe
     clear how hbe HOz HBz
     by_cases hd : p = padn Z.length
     ·have ht : (((Z.length : Int) + (p : Int)) % 8 != 0) = false := by
       have := HD.out.2 hd
       simp; omega
      have HO4 : Hid (wr.ownsRow w.heap.size 5 1 (.slice a2 (Z.length + p) c2) (join (xss.take (k + 1))).length (byt (join (xss.take (k + 1))))) := hid (by
       rw [HJ.out]
       have h := HO3.out
       have e : Z ++ List.replicate p 0 = joinStep (join (xss.take k)) xss[k] := by rw [hd, HZ.out]; rfl
       have e2 : Z.length + p = (joinStep (join (xss.take k)) xss[k]).length := by rw [← e]; simp
       rw [e] at h
       rw [← e2]; exact h)
      have HLE2 : Hid ((join (xss.take (k + 1))).length ≤ tot (xss.take (k + 1)) + 8 * (k + 1)) := hid (by
       rw [HJ.out, joinStep_len, HTS.out]
       have := padn_le ((join (xss.take k)).length + xss[k].length)
       have := HLE.out; omega)
      clear hd
      go_wp2
      go_roundw
      case rel => exact ⟨k + 1, by omega, by go_num, HO4.out, HLE2.out, HB3.out⟩
      case measure => simp [intOf]; omega
     ·have ht : (((Z.length : Int) + (p : Int)) % 8 != 0) = true := by
       have := mt HD.out.1 hd
       simp; omega
      go_wp2_with (first | (at_builtin; refine wpList_append_own _ rfl _ _ 87 rfl w.heap.size 5 i0 (.int .u8 0) 1 1 Tryz.underlying87 hi hz0 hz1 hz2 rfl (by decide) _ (Z.length + p) _ rfl (HO3.out.alloc _) ⟨wr.heap.size, 0, none⟩ 1 1 [.int .u8 0] rfl rfl (cell_one_new _ _ _) (one_cell rfl) (by unfold maxLen; omega) (by omega) (by have := HB3.out.size; simp; omega) ?_))
      intro v' w3 hown' hgrow _
      have HB4 : Hid (Below w.heap.size w w3) := hid ((HB3.out.alloc HB3.out.size _).grown hgrow (by have := HB3.out.size; simp; omega) (fun k h => (World.ownsRow.lt HO3.out k h).1))
      have HL4 := hid (own_len hown')
      have HO4 : Hid (w3.ownsRow w.heap.size 5 1 v' (Z.length + (p + 1)) (byt (Z ++ List.replicate (p + 1) 0))) := hid (by
       rw [List.replicate_succ', ← List.append_assoc, byt_append, ← Nat.add_assoc]; exact hown')
      clear hown' hgrow
      go_wp2
      go_roundw
      case rel => exact ⟨p + 1, by omega, HO4.out, HB4.out⟩
      case measure => rw [HL4.out]; simp [lenOf]; omega
  ·obtain rfl : k = xss.length := by omega
   have hO := HO.out
   rw [List.take_length] at hO
   obtain ⟨a', c', rfl, _⟩ := rd_own hO
   have HO2 := hid hO
   clear hO HO
   go_wp2
   go_ret
   exact ⟨_, _, rfl, HO2.out, HB.out⟩
theorem rdSS_of_row {B : Nat} {w : World} {v : Value} {xss : List (List Nat)} {vals : List Value} (ho : w.ownsRow B 87 1 v xss.length vals) (hi : ∀ i, (h : i < xss.length) → ∃ u, vals[i]? = some u ∧ RdSl cByte w xss[i] u) : RdSl cSS w xss v := by
 have hvl : vals.length = xss.length := by have := ho.1; omega
 rcases ho.2 with ⟨rfl, h0⟩ | ⟨g, cap, cur, rfl, hg, hh, hn, hm, r⟩
 ·obtain rfl := List.length_eq_zero_iff.1 h0
  exact RdSl.empty none
 ·refine ⟨_, cap, rfl, hn, hm, (fun h => by cases h), .inr ⟨g, 0, rfl, fun i h => ?_⟩⟩
  obtain ⟨u, hu, hr⟩ := hi i h
  refine ⟨[u], ⟨u, rfl, hr⟩, fun j hj => ?_⟩
  have hj0 : j = 0 := by simpa using hj
  subst hj0
  have := World.ownsRow.cellAt ho i (by omega)
  rw [show 0 + (i * cSS.n + 0) = i from by simp [cSl], this, hu]; rfl
theorem RdSl.vals {w : World} {xss : List (List Nat)} {a : Option Addr} {n cap : Nat} (h : RdSl cSS w xss (.slice a n cap)) :
  ∃ vals : List Value, vals.length = xss.length ∧ Rd w a vals ∧ (∀ u ∈ vals, u.oneCell' = true) ∧ ∀ i, (h : i < xss.length) → ∃ u, vals[i]? = some u ∧ RdSl cByte w xss[i] u := by
 obtain ⟨a', cap', e', _, _, _, h4⟩ := id h
 simp only [Value.slice.injEq] at e'
 obtain ⟨rfl, rfl, rfl⟩ := e'
 rcases h4 with rfl | ⟨b, off, rfl, hat⟩
 ·exact ⟨[], rfl, .inl rfl, by simp, fun i h => by simp at h⟩
 ·have hx : ∀ i : Fin xss.length, ∃ u : Value, w.cell? ⟨b, off + i.1, none⟩ = some u ∧ RdSl cByte w xss[i.1] u := fun i => by
   obtain ⟨b', off', a', c', e, hc, hr⟩ := h.row i.2
   simp at e
   obtain ⟨rfl, rfl⟩ := e
   exact ⟨_, hc, hr⟩
  refine ⟨(List.finRange xss.length).map fun i => Classical.choose (hx i), by simp, .inr ⟨b, off, rfl, fun i hi => ?_⟩, fun u hu => ?_, fun i hi => ?_⟩
  ·have hi' : i < xss.length := by simpa using hi
   have := (Classical.choose_spec (hx ⟨i, hi'⟩)).1
   rw [this]; simp
  ·simp only [List.mem_map] at hu
   obtain ⟨i, _, rfl⟩ := hu
   obtain ⟨_, _, e, _⟩ := (Classical.choose_spec (hx i)).2
   rw [e]; rfl
  ·exact ⟨_, by simp [hi], (Classical.choose_spec (hx ⟨i, hi⟩)).2⟩
set_option maxRecDepth 100000 in
set_option maxHeartbeats 2000000 in
theorem growNil_any (n : Nat) (w : World) (hn : n ≤ 4194304) :
  Calls Tryz.prog 175 #[.slice none 0 0, .int .i64 n] w fun e w' => ∃ v, e = .returned v ∧ w'.ownsRow w.heap.size 87 1 v 0 [] ∧ Below w.heap.size w w' := by
 obtain ⟨i0, hi, hz0, hz1, hz2⟩ := info_parts infoSlT
 by_cases h0 : n = 0
 ·subst h0
  go_enter Tryz.func175, Tryz.ntmps175
  go_wp2
  go_ret
  exact ⟨_, rfl, World.ownsRow_nil _ _ _ _, Below.refl _ _⟩
 ·have hnn : ¬ ((n : Int) < 0) := by omega
  have hrun := fun ty => Lib.run_append_nil_zeros w 103 3 ty 87 i0 (.slice none 0 0) .i64 .i64 Tryz.underlying103 Tryz.underlying3 hi hz0 n (by omega) (by omega) (by omega) (by rw [hz2]; omega)
  have hG := grownCap_ge w n 0 87
  have hG2 := grownCap_le_maxLen w n 0 87 (by unfold maxLen; omega)
  have HO : Hid ((w.drew.alloc (.cells (Builtin.zeroCells (Value.slice none 0 0).cells n ++ Builtin.zeroCells (Value.slice none 0 0).cells (grownCap w n 0 87 - n)) 87)).ownsRow w.heap.size 87 1 (.slice (some ⟨w.heap.size, 0, none⟩) 0 (grownCap w n 0 87)) 0 []) := hid (by
   refine ⟨rfl, .inr ⟨w.heap.size, _, _, rfl, Nat.le_refl _, heap_alloc_new w.drew _, Nat.zero_le _, hG2, ?_, by simp⟩⟩
   simp [Builtin.zeroCells, Value.cells]; omega)
  have HB : Hid (Below w.heap.size w (w.drew.alloc (.cells (Builtin.zeroCells (Value.slice none 0 0).cells n ++ Builtin.zeroCells (Value.slice none 0 0).cells (grownCap w n 0 87 - n)) 87))) := hid ((Below.refl _ w).drew.alloc (Nat.le_refl _) _)
  generalize hW : (w.drew.alloc (.cells (Builtin.zeroCells (Value.slice none 0 0).cells n ++ Builtin.zeroCells (Value.slice none 0 0).cells (grownCap w n 0 87 - n)) 87)) = W at *
  generalize grownCap w n 0 87 = G at *
  clear hW
  have hGi : (0 : Int) ≤ (G : Int) := by omega
  go_enter Tryz.func175, Tryz.ntmps175
  go_wp2_with (first | (at_builtin; refine Lib.wpList_append_run _ rfl _ _ 103 3 rfl (.slice none 0 0) (.int .i64 n) rfl rfl _ _ (hrun _) ?_))
  go_wp2
  go_ret
  exact ⟨_, rfl, HO.out, HB.out⟩
set_option maxRecDepth 100000 in
set_option maxHeartbeats 4000000 in
theorem concat_any (g : Nat) (a1 a2 : Option Addr) (n1 n2 c1 c2 : Nat) (vs us : List Value) (w : World) (h1 : w.cell? ⟨g, 0, none⟩ = some (.slice a1 n1 c1)) (h2 : w.cell? ⟨g, 1, none⟩ = some (.slice a2 n2 c2))
  (l1 : vs.length = n1) (l2 : us.length = n2) (r1 : Rd w a1 vs) (r2 : Rd w a2 us) (e1 : a1 = none → n1 = 0 ∧ c1 = 0) (e2 : a2 = none → n2 = 0 ∧ c2 = 0) (o1 : ∀ u ∈ vs, u.oneCell' = true) (o2 : ∀ u ∈ us, u.oneCell' = true) (m1 : n1 ≤ 1048576) (m2 : n2 ≤ 1048576) :
  Calls Tryz.prog 164 #[.slice (some ⟨g, 0, none⟩) 2 2] w fun e w' => ∃ v, e = .returned v ∧ w'.ownsRow w.heap.size 87 1 v (n1 + n2) (vs ++ us) ∧ Below w.heap.size w w' := by
 obtain ⟨i0, hi, hz0, hz1, hz2⟩ := info_parts infoSlT
 have hg : g < w.heap.size := World.block_lt_of_cell? w ⟨g, 0, none⟩ h1
 have HL1 := hid l1
 have HL2 := hid l2
 have HR1 := hid r1
 have HR2 := hid r2
 have HE1 := hid e1
 have HE2 := hid e2
 have HO1 := hid o1
 have HO2 := hid o2
 have HC1 := hid h1
 have HC2 := hid h2
 clear l1 l2 r1 r2 e1 e2 o1 o2
 go_enter Tryz.func164, Tryz.ntmps164
 go_wp2
 go_loop [3, 5, 11] (fun s _ i => (i = .int .i64 0 ∧ s = .int .i64 0) ∨ (i = .int .i64 1 ∧ s = .int .i64 (n1 : Int)) ∨ (i = .int .i64 2 ∧ s = .int .i64 ((n1 : Int) + (n2 : Int)))) (fun _ _ i => 2 - (intOf i).toNat)
 case atStart => exact .inl ⟨rfl, rfl⟩
 case round =>
  rcases hrel with ⟨rfl, rfl⟩ | ⟨rfl, rfl⟩ | ⟨rfl, rfl⟩
  ·go_wp2
   go_round
   case rel => exact .inr (.inl ⟨by go_num, by go_num⟩)
   case measure => simp [intOf]
  ·go_wp2
   go_round
   case rel => exact .inr (.inr ⟨by go_num, by go_num⟩)
   case measure => simp [intOf]
  ·go_wp2_with fail
   have hsum : (n1 : Int) + (n2 : Int) = ((n1 + n2 : Nat) : Int) := by omega
   first | rw [hsum] | skip
   clear hsum
   refine (growNil_any (n1 + n2) w (by omega)).mono ?_
   rintro e w1 ⟨v1, rfl, how, b1⟩
   have HW := hid how
   have HB1 := hid b1
   clear how b1 h1 h2
   go_wp2
   go_loopw [6, 8, 27] (fun v _ i wr => ((i = .int .i64 0 ∧ wr.ownsRow w.heap.size 87 1 v 0 []) ∨ (i = .int .i64 1 ∧ wr.ownsRow w.heap.size 87 1 v n1 vs) ∨ (i = .int .i64 2 ∧ wr.ownsRow w.heap.size 87 1 v (n1 + n2) (vs ++ us))) ∧ Below w.heap.size w wr) (fun _ _ i _ => 2 - (intOf i).toNat)
   case atStart => exact ⟨.inl ⟨rfl, HW.out⟩, HB1.out⟩
   case round =>
    obtain ⟨hrel, hbe⟩ := hrel
    have HB := hid hbe
    have hs := hbe.size
    have h1 : wr.cell? ⟨g, 0, none⟩ = some (.slice a1 n1 c1) := (hbe.cell (p := ⟨g, 0, none⟩) hg).trans HC1.out
    have h2 : wr.cell? ⟨g, 1, none⟩ = some (.slice a2 n2 c2) := (hbe.cell (p := ⟨g, 1, none⟩) hg).trans HC2.out
    have R1 := hid (HR1.out.later hbe)
    have R2 := hid (HR2.out.later hbe)
    clear hbe
    rcases hrel with ⟨rfl, how⟩ | ⟨rfl, how⟩ | ⟨rfl, how⟩
    ·have HW2 := hid how
     clear how
     go_wp2_with (first | (at_builtin; refine append_any rfl _ _ 103 rfl w.heap.size 87 i0 (.slice none 0 0) 24 Tryz.underlying103 hi hz0 hz1 hz2 rfl _ 0 _ rfl HW2.out a1 n1 c1 vs rfl HL1.out HE1.out R1.out HO1.out (by unfold maxLen; omega) (by omega) hs ?_))
     intro v' w9 hown' hgrow
     have HN : Hid (w9.ownsRow w.heap.size 87 1 v' n1 vs) := hid (by simpa using hown')
     have HB9 : Hid (Below w.heap.size w w9) := hid (HB.out.grown hgrow hs (fun p hp => (own_in HW2.out hp).1))
     clear hown' hgrow
     go_wp2
     go_roundw
     case rel => exact ⟨.inr (.inl ⟨by go_num, HN.out⟩), HB9.out⟩
     case measure => simp [intOf]
    ·have HW2 := hid how
     clear how
     go_wp2_with (first | (at_builtin; refine append_any rfl _ _ 103 rfl w.heap.size 87 i0 (.slice none 0 0) 24 Tryz.underlying103 hi hz0 hz1 hz2 rfl _ n1 _ rfl HW2.out a2 n2 c2 us rfl HL2.out HE2.out R2.out HO2.out (by unfold maxLen; omega) (by omega) hs ?_))
     intro v' w9 hown' hgrow
     have HN := hid hown'
     have HB9 : Hid (Below w.heap.size w w9) := hid (HB.out.grown hgrow hs (fun p hp => (own_in HW2.out hp).1))
     clear hown' hgrow
     go_wp2
     go_roundw
     case rel => exact ⟨.inr (.inr ⟨by go_num, HN.out⟩), HB9.out⟩
     case measure => simp [intOf]
    ·have HW2 := hid how
     clear how
     go_wp2
     go_ret
     exact ⟨_, rfl, HW2.out, HB.out⟩
def Fct.bytes (xs : List Nat) : Fct := ⟨fun v w => RdSl cByte w xs v, fun _ _ _ h hb => h.later hb⟩
def Fct.texts (xss : List (List Nat)) : Fct := ⟨fun v w => RdSl cSS w xss v, fun _ _ _ h hb => h.later hb⟩
def Fct.row (B : Nat) (xs : List Nat) : Fct := ⟨fun v w => w.ownsRow B 5 1 v xs.length (byt xs), fun _ _ _ h hb => own_later h hb⟩
theorem bytes_new {w : World} {cs : Array Value} (xs : List Nat) (hc : cs.toList = byt xs) (hb : ∀ x ∈ xs, x < 256) (hl : xs.length ≤ 100) {n c : Nat} (hn : n = cs.size := by rfl) (hcn : c = cs.size := by rfl) : (Fct.bytes xs).p (.slice (some ⟨w.heap.size, 0, none⟩) n c) (w.alloc (.cells cs 5)) := by
 subst hn hcn
 have hs : cs.size = xs.length := by rw [← byt_len xs, ← hc]; simp
 have h := own_built (w := w) (B := w.heap.size) (e := 5) (cs := cs) (Nat.le_refl _) (by unfold maxLen; omega)
 rw [hc] at h
 exact own_rdSl h hb
theorem texts_new {w : World} {cs : Array Value} (vals : List Value) (xss : List (List Nat)) (hc : cs.toList = vals) (hl : vals.length = xss.length) (hi : ∀ i, (h : i < xss.length) → ∃ u, vals[i]? = some u ∧ RdSl cByte w xss[i] u) (hm : xss.length ≤ 100) {n c : Nat} (hn : n = cs.size := by rfl) (hcn : c = cs.size := by rfl) : (Fct.texts xss).p (.slice (some ⟨w.heap.size, 0, none⟩) n c) (w.alloc (.cells cs 87)) := by
 subst hn hcn
 have hs : cs.size = xss.length := by rw [← hl, ← hc]; simp
 have h := own_built (w := w) (B := w.heap.size) (e := 87) (cs := cs) (Nat.le_refl _) (by unfold maxLen; omega)
 rw [hs] at h ⊢
 refine rdSS_of_row h (fun i hh => ?_)
 obtain ⟨u, h1, h2⟩ := hi i hh
 exact ⟨u, by rw [hc]; exact h1, h2.later (bN _ _)⟩
theorem RdSl.slice {α : Type} {c : Cod α} {w : World} {xs : List α} {v : Value} (h : RdSl c w xs v) : ∃ a k, v = .slice a xs.length k ∧ RdSl c w xs (.slice a xs.length k) := by
 obtain ⟨a, k, e, r⟩ := id h
 exact ⟨a, k, e, e ▸ h⟩
end Go.Proofs.YtfaehioeepolhabGreat
