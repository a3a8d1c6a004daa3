import Derived.Test.YtcljakdcejhfiacJEncodeMessage35
import Derived.Test.YtcljakdcejhfiacJEncodeMessage36
namespace Go.Proofs.Ytcljakdcejhfiac
open Go.RowKit
set_option maxHeartbeats 1000000 in
theorem lengthsOf_any (a : Option Addr) (cap : Nat) (bs : List (List Nat)) (w : World) (hr : RdSl cSS w bs (.slice a bs.length cap)) (ht : totL List.length bs ≤ 1048576) :
    Calls Try.prog 62 #[.slice a bs.length cap] w fun e w' => ∃ v, e = .returned v ∧ w'.ownsRow w.heap.size 5 1 v (4 * bs.length) (byt (lensM bs)) ∧ Below w.heap.size w w' := by
  have HR := hid hr
  have hlen : bs.length ≤ 1048576 ∧ tot bs ≤ 1048576 := by rw [totL_tot] at ht; omega
  clear hr
  go_enter Try.func62, Try.ntmps62
  go_wp2
  go_loopw [3, 8] (fun v i wr => ∃ k : Nat, k ≤ bs.length ∧ i = .int .i64 k ∧ wr.ownsRow w.heap.size 5 1 v (4 * k) (byt (lensM (bs.take k))) ∧ Below w.heap.size w wr) (fun _ i _ => bs.length - (intOf i).toNat)
  case atStart => exact ⟨0, Nat.zero_le _, rfl, by simpa [lensM, byt] using World.ownsRow_nil _ _ _ _, Below.refl _ _⟩
  case round =>
    obtain ⟨k, hk, rfl, how, hbe⟩ := hrel
    have HO := hid how
    have HB := hid hbe
    clear how hbe
    by_cases hlt : k < bs.length
    · obtain ⟨b, off, a', c', rfl, hcb, -⟩ := (HR.out.later HB.out).row hlt
      have hlk := len_le_tot bs k hlt
      have hki : (k : Int) < (bs.length : Int) := by omega
      have hs := HB.out.size
      have hu := u32_wrap bs[k].length (by omega)
      have HS : Hid (lensM (bs.take (k + 1)) = lensM (bs.take k) ++ digs (U (bs[k].length : Int)) 4) := hid (by rw [lensM_snoc bs k hlt, U_nat _ (by omega)])
      have HQ := hid (fun v (h : wr.ownsRow w.heap.size 5 1 v (4 * k) (byt (lensM (bs.take k)))) => app_u32 w.heap.size v (4 * k) (lensM (bs.take k)) (bs[k].length : Int) wr h hs (by omega) (by unfold IntIn; omega))
      go_wp2_with fail
      refine (HQ.out _ HO.out).mono ?_
      rintro e w2 ⟨v2, rfl, o2, b2⟩
      have HO2 : Hid (w2.ownsRow w.heap.size 5 1 v2 (4 * (k + 1)) (byt (lensM (bs.take (k + 1))))) := hid (by rw [HS.out]; exact o2)
      have HB2 : Hid (Below w.heap.size w w2) := hid (HB.out.trans b2)
      clear o2 b2 HQ HO
      go_wp2
      go_roundw
      case rel => exact ⟨k + 1, by omega, by go_num, HO2.out, HB2.out⟩
      case measure => simp [intOf]; omega
    · obtain rfl : k = bs.length := by omega
      have hO := HO.out
      rw [List.take_length] at hO
      have HO2 := hid hO
      clear hO HO
      go_wp2
      go_ret
      exact ⟨_, rfl, HO2.out, HB.out⟩
end Go.Proofs.Ytcljakdcejhfiac
