import Derived.Test.YtcljakdcejhfiabJEncodePacket27
import Derived.Test.YtcljakdcejhfiabJEncodePacket33
import Derived.Test.YtcljakdcejhfiabJEncodePacket35
namespace Go.Proofs.Ytcljakdcejhfiab
open Go.RowKit
theorem u32_wrap (n : Nat) (h : n < 4294967296) : IntKind.u32.wrap (n : Int) = n := by
  simp [IntKind.wrap, IntKind.bits, IntKind.signed]; omega
def catL (ps : List (List Nat)) : List Nat := ps.flatMap id
theorem catL_snoc (ps : List (List Nat)) (k : Nat) (h : k < ps.length) : catL (ps.take (k + 1)) = catL (ps.take k) ++ ps[k] := by
  unfold catL
  rw [List.take_succ_eq_append_getElem h, List.flatMap_append]; simp
theorem catL_tot (ps : List (List Nat)) : (catL ps).length = tot ps := by
  unfold catL tot
  rw [List.length_flatMap]; rfl
theorem catL_lt {ps : List (List Nat)} (h : ∀ t ∈ ps, ∀ x ∈ t, x < 256) : ∀ x ∈ catL ps, x < 256 := by
  intro x hx
  simp only [catL, List.mem_flatMap, id] at hx
  obtain ⟨t, h1, h2⟩ := hx
  exact h t h1 x h2
set_option maxHeartbeats 1000000 in
theorem withChecksum_any (a : Option Addr) (cap : Nat) (ps : List (List Nat)) (w : World) (hr : RdSl cSS w ps (.slice a ps.length cap)) (ht : totL List.length ps ≤ 104857600) :
    Calls Try.prog 46 #[.slice a ps.length cap] w fun e w' => ∃ v, e = .returned v ∧ w'.ownsRow w.heap.size 5 1 v ((catL ps).length + 4) (byt (catL ps ++ digs (crcM (catL ps)) 4)) ∧ Below w.heap.size w w' := by
  obtain ⟨i0, hi, hz0, hz1, hz2⟩ := info_parts infoByteM
  have HR := hid hr
  have HA := hid hr.allOK
  have hlen : ps.length ≤ 104857600 ∧ tot ps ≤ 104857600 := by rw [totL_tot] at ht; omega
  have hXl : (catL ps).length ≤ 104857600 := by rw [catL_tot]; omega
  have HXB := hid (catL_lt HA.out)
  have HCL := hid (crcM_lt (catL ps) HXB.out)
  generalize hX : catL ps = X at *
  have HX := hid hX
  clear hr hX
  go_enter Try.func46, Try.ntmps46
  go_wp2
  go_loopw [3, 8] (fun v i wr => ∃ k : Nat, k ≤ ps.length ∧ i = .int .i64 k ∧ wr.ownsRow w.heap.size 5 1 v (catL (ps.take k)).length (byt (catL (ps.take k))) ∧ Below w.heap.size w wr) (fun _ i _ => ps.length - (intOf i).toNat)
  case atStart => exact ⟨0, Nat.zero_le _, rfl, by simpa [catL, byt] using World.ownsRow_nil _ _ _ _, Below.refl _ _⟩
  case round =>
    obtain ⟨k, hk, rfl, how, hbe⟩ := hrel
    have HO := hid how
    have HB := hid hbe
    clear how hbe
    have hs := HB.out.size
    by_cases hlt : k < ps.length
    · obtain ⟨b, off, a', c', rfl, hcb, hrr⟩ := (HR.out.later HB.out).row hlt
      have hlk := len_le_tot ps k hlt
      have hki : (k : Int) < (ps.length : Int) := by omega
      have h3 := tot_take ps k
      have HCT := hid (catL_tot (ps.take k))
      have hCL : (catL (ps.take k)).length ≤ 104857600 := by rw [HCT.out]; omega
      have HS := hid (catL_snoc ps k hlt)
      have HRD := hid hrr.rdB.1
      have HNI := hid hrr.nil0
      clear hrr
      generalize catL (ps.take k) = X at *
      go_wp2_with (first | (at_builtin; refine append_any rfl _ _ 24 rfl w.heap.size 5 i0 (.int .u8 0) 1 Try.underlying24 hi hz0 hz1 hz2 rfl _ X.length _ rfl HO.out a' ps[k].length c' (byt ps[k]) rfl (byt_len _) HNI.out HRD.out (byt_one _) (by unfold maxLen; omega) (by omega) hs ?_))
      intro v' w9 hown' hgrow
      have HN : Hid (w9.ownsRow w.heap.size 5 1 v' (catL (ps.take (k + 1))).length (byt (catL (ps.take (k + 1))))) := hid (by rw [HS.out, byt_append, List.length_append]; exact hown')
      have HB9 : Hid (Below w.heap.size w w9) := hid (HB.out.grown hgrow hs (fun p hp => (own_in HO.out hp).1))
      clear hown' hgrow HO
      go_wp2
      go_roundw
      case rel => exact ⟨k + 1, by omega, by go_num, HN.out, HB9.out⟩
      case measure => simp [intOf]; omega
    · obtain rfl : k = ps.length := by omega
      have hO := HO.out
      rw [List.take_length, HX.out] at hO
      obtain ⟨aX, cX, rfl, hRX⟩ := rd_own hO
      have HO2 := hid hO
      have HQ := hid (implCrc_any aX cX X wr hRX HXB.out (by omega))
      rw [show (crcFold X ^^^ 4294967295 : Nat) = crcM X from rfl] at HQ
      clear hO HO hRX
      have HC4 : Hid (U (crcM X : Int) = crcM X) := hid (U_nat _ (by have := HCL.out; omega))
      have hci : IntIn (crcM X : Int) := by have := HCL.out; unfold IntIn; omega
      have HCI := hid hci
      clear hci
      generalize hC : crcM X = C at HQ HC4 HCI
      have HC := hid hC
      clear hC
      go_wp2_with fail
      refine HQ.out.mono ?_
      rintro e w2 ⟨rfl, b2⟩
      have hs2 : w.heap.size ≤ w2.heap.size := Nat.le_trans hs b2.size
      have HO3 := hid (own_later HO2.out b2)
      have HB2 := hid (below_chain HB.out b2)
      clear b2
      go_wp2_with fail
      refine (app_u32 w.heap.size _ X.length X (C : Int) w2 HO3.out hs2 (by omega) HCI.out).mono ?_
      rintro e w3 ⟨v3, rfl, o3, b3⟩
      rw [HC4.out, ← HC.out] at o3
      have HO4 := hid o3
      have HB3 : Hid (Below w.heap.size w w3) := hid (HB2.out.trans b3)
      clear o3 b3
      go_wp2
      go_ret
      exact ⟨_, rfl, HO4.out, HB3.out⟩
end Go.Proofs.Ytcljakdcejhfiab
