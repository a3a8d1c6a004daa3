import Derived.Test.YtcljakdcejhfiaaJPackInts11
import Derived.Test.YtcljakdcejhfiaaJPackInts12
import Derived.Test.YtcljakdcejhfiaaJPackInts19
namespace Go.Proofs.Ytcljakdcejhfiaa
open Go.RowKit
set_option maxHeartbeats 1000000 in
set_option maxRecDepth 100000 in
theorem specPki_i64 (a : Option Addr) (cap : Nat) (xs : List Int) (w : World) (hr : Rd w a (ints xs)) (hx : ∀ x ∈ xs, IntIn x) (hl : xs.length ≤ 1048576) :
    Calls Try.prog 33 #[.slice a xs.length cap, .int .i64 8] w (PkiPost w (pkiR 8 .i64 xs)) := by
  obtain ⟨i0, hi, hz0, hz1, hz2⟩ := info_parts infoByteP
  have HR := hid hr
  have HX := hid hx
  clear hr hx
  go_enter Try.func33, Try.ntmps33
  go_wp2_with fail
  refine (l1width_any 8 w).mono ?_
  rintro e w ⟨rfl, rfl⟩
  go_wp2
  go_loopw [6, 7] (fun v i wr => ∃ k : Nat, k ≤ xs.length ∧ i = .int .i64 k ∧ wr.ownsRow w.heap.size 5 1 v (8 * k) (byt (flat 8 (xs.take k))) ∧ (∀ x ∈ xs.take k, IntKind.i64.wrap x = x) ∧ Below w.heap.size w wr) (fun _ i _ => xs.length - (intOf i).toNat)
  case atStart => exact ⟨0, Nat.zero_le _, rfl, by simpa [byt, flat] using World.ownsRow_nil _ _ _ _, by simp, Below.refl _ _⟩
  case round =>
    obtain ⟨k, hk, rfl, how, hfit, hbe⟩ := hrel
    have HO := hid how
    have HB := hid hbe
    have HF := hid hfit
    clear how hbe hfit
    by_cases hlt : k < xs.length
    · obtain ⟨b, off, rfl, hcb⟩ : ∃ b off, a = some ⟨b, off, none⟩ ∧ wr.cell? ⟨b, off + k, none⟩ = some (.int .i64 xs[k]) := by
        rcases (HR.out.later HB.out) with h0 | ⟨b, off, rfl, hcb⟩
        · have : (ints xs).length = 0 := by rw [h0]; rfl
          rw [ints_len] at this; omega
        · exact ⟨b, off, rfl, rdInt hcb _ hlt⟩
      have HXK := hid (HX.out _ (List.getElem_mem hlt))
      have hki : (k : Int) < (xs.length : Int) := by omega
      go_wp2_with fail
      refine (l1fits_i64 xs[k] wr HXK.out).mono ?_
      rintro e wr ⟨rfl, rfl⟩
      by_cases hf : IntKind.i64.wrap xs[k] = xs[k]
      · have HF1 : Hid (∀ x ∈ xs.take (k + 1), IntKind.i64.wrap x = x) := hid (by
          intro x hx
          rw [List.take_succ_eq_append_getElem hlt] at hx
          rcases List.mem_append.1 hx with h | h
          · exact HF.out x h
          · rw [List.mem_singleton] at h; rw [h]; exact hf)
        rw [decide_eq_true hf]
        clear hf
        go_wp2_with fail
        refine (little_row xs[k] 8 wr (by omega) (by omega) HXK.out).mono ?_
        rintro e w2 ⟨g2, c2, rfl, o2, b2⟩
        have HO2 := hid (own_later HO.out b2)
        have HBB := hid (HB.out.trans (b2.mono HB.out.size))
        have HC2 := hid (fun j u (h : (byt (digs (U xs[k]) 8))[j]? = some u) => World.ownsRow.cells o2 (g := g2) rfl j u h)
        clear o2 b2
        go_wp2_with (first | (at_builtin; refine wpList_append_own _ rfl _ _ 22 rfl w.heap.size 5 i0 (.int .u8 0) 1 1 Try.underlying22 hi hz0 hz1 hz2 rfl (by decide) _ (8 * k) _ rfl HO2.out ⟨g2, 0, none⟩ 8 c2 (byt (digs (U xs[k]) 8)) rfl (by rw [byt_len, digs_len]) HC2.out (byt_one _) (by unfold maxLen; omega) (by omega) HBB.out.size ?_))
        intro v' w3 hown' hgrow _
        have HB3 : Hid (Below w.heap.size w w3) := hid (HBB.out.grown hgrow HBB.out.size (fun k h => (World.ownsRow.lt HO2.out k h).1))
        have HO3 : Hid (w3.ownsRow w.heap.size 5 1 v' (8 * (k + 1)) (byt (flat 8 (xs.take (k + 1))))) := hid (by
          rw [flat_snoc 8 xs k hlt, Nat.mul_add, Nat.mul_one, byt_append]; first | exact hown' | (rw [Nat.one_mul]; exact hown'))
        clear hown' hgrow
        go_wp2
        go_roundw
        case rel => exact ⟨k + 1, by omega, by go_num, HO3.out, HF1.out, HB3.out⟩
        case measure => simp [intOf]; omega
      · have HP := hid (pkiR_bad (W := 8) k hlt hf)
        rw [decide_eq_false hf]
        clear hf
        go_wp2
        go_ret2
        rw [HP.out]
        exact pkiPost_nil _ HB.out
    · obtain rfl : k = xs.length := by omega
      have hO := HO.out
      have hF := HF.out
      rw [List.take_length] at hO hF
      obtain ⟨a', c', rfl, _⟩ := rd_own hO
      have HO2 := hid hO
      have HP := hid (pkiR_ok (W := 8) hF)
      clear hO hF HO HF
      go_wp2
      go_ret2
      rw [HP.out]
      exact pkiPost_mk (flat_len 8 xs) HO2.out HB.out
end Go.Proofs.Ytcljakdcejhfiaa
