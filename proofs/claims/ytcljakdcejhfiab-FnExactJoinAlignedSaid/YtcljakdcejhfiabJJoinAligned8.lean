import Derived.Test.YtcljakdcejhfiabJJoinAligned2
import Derived.Test.YtcljakdcejhfiabJJoinAligned7
namespace Go.Proofs.Ytcljakdcejhfiab
open Go.RowKit
theorem infoSl : (Try.prog.info? 24).map (fun i => (i.zero, i.size, i.bytes)) = some (some (.slice none 0 0), 1, 24) := by kernel_rfl
theorem set_mid (vs : List Value) (z u : Value) (k m : Nat) (hk : vs.length = k) : (vs ++ List.replicate (m + 1) z).set k u = (vs ++ [u]) ++ List.replicate m z := by
  subst hk
  rw [List.set_append_right _ _ (Nat.le_refl _), Nat.sub_self, List.replicate_succ, List.set_cons_zero, List.append_assoc]
  rfl
set_option maxHeartbeats 1000000 in
theorem toByteSS_any (a : Option Addr) (cap : Nat) (xss : List (List Nat)) (w : World) (hr : RdSS w a xss) (hn : xss.length ≤ 1048576) (ht : tot xss ≤ 1048576) :
    Calls Try.prog 11 #[.slice a xss.length cap] w fun e w' => ∃ g, e = .returned (.slice (some ⟨g, 0, none⟩) xss.length xss.length) ∧ OwnSS w' w.heap.size w'.heap.size (.slice (some ⟨g, 0, none⟩) xss.length xss.length) xss ∧ Below w.heap.size w w' := by
  obtain ⟨i0, hi, hz0, hz1, hz2⟩ := info_parts infoSl
  have HR := hid hr
  clear hr
  go_enter Try.func11, Try.ntmps11
  go_wp2_with (first | (at_make; refine wpList_make_full _ rfl (.tmp 6) (.tmp 6) 22 rfl w.heap.size 24 i0 (.slice none 0 0) 1 Try.underlying22 hi hz0 hz1 .i64 .i64 _ _ xss.length rfl rfl rfl rfl (by rw [hz2]; omega) (by unfold maxLen; omega) (by simp) ?_))
  intro w1 ho hg1
  have HB1 : Hid (Below w.heap.size w w1) := hid ((Below.refl _ w).grown hg1 (Nat.le_refl _) (by intro k h; cases h))
  have HO1 := hid ho
  clear hg1 hi hz0 hz1 hz2 ho
  go_wp2
  go_loopw [4] (fun i wr => ∃ k : Nat, k ≤ xss.length ∧ i = .int .i64 k ∧ (∃ vs : List Value, vs.length = k ∧ wr.ownsRow w.heap.size 24 1 (.slice (some ⟨w.heap.size, 0, none⟩) xss.length xss.length) xss.length (vs ++ List.replicate (xss.length - k) (Value.slice none 0 0)) ∧ ∀ i, (h : i < k) → (h2 : i < xss.length) → Inner wr (w.heap.size + 1) wr.heap.size vs[i]? xss[i]) ∧ Below w.heap.size w wr) (fun i _ => xss.length - (intOf i).toNat)
  case atStart => exact ⟨0, Nat.zero_le _, rfl, ⟨[], rfl, by simpa [made_list] using HO1.out, fun i h => by omega⟩, HB1.out⟩
  case round =>
    obtain ⟨k, hk, rfl, hvs, hbe⟩ := hrel
    have HV := hid hvs
    have HB := hid hbe
    clear hvs hbe
    by_cases hlt : k < xss.length
    · obtain ⟨b, off, a', c', rfl, hcb, hrr, -⟩ := (HR.out.later HB.out).at_ hlt
      have HRR := hid hrr
      have hlk := len_le_tot xss k hlt
      have hki : (k : Int) < (xss.length : Int) := by omega
      clear hrr
      go_wp2_with fail
      refine (toByteS_any a' c' xss[k] wr HRR.out (by omega)).mono ?_
      rintro e w2 ⟨g2, rfl, o2, b2⟩
      obtain ⟨vs, hvl, hvo, hvi⟩ := HV.out
      have hvo2 := own_later hvo b2
      have hfz := hvo2.frozenAt k
      obtain ⟨o, hco⟩ := own_cell hvo2 hlt
      have hst := World.ownsRow.stored hvo2 k (.slice (some ⟨g2, 0, none⟩) xss[k].length xss[k].length)
      have hB : w.heap.size < wr.heap.size := (Own.block hvo).2
      have HN : Hid (∃ vs : List Value, vs.length = k + 1 ∧ (w2.setCell ⟨w.heap.size, k, none⟩ (.slice (some ⟨g2, 0, none⟩) xss[k].length xss[k].length)).ownsRow w.heap.size 24 1 (.slice (some ⟨w.heap.size, 0, none⟩) xss.length xss.length) xss.length (vs ++ List.replicate (xss.length - (k + 1)) (Value.slice none 0 0)) ∧ ∀ i, (h : i < k + 1) → (h2 : i < xss.length) → Inner (w2.setCell ⟨w.heap.size, k, none⟩ (.slice (some ⟨g2, 0, none⟩) xss[k].length xss[k].length)) (w.heap.size + 1) w2.heap.size vs[i]? xss[i]) := hid (by
        refine ⟨vs ++ [.slice (some ⟨g2, 0, none⟩) xss[k].length xss[k].length], by simp [hvl], ?_, ?_⟩
        · have h1 := hst.1
          rw [show xss.length - k = (xss.length - (k + 1)) + 1 from by omega, set_mid vs _ _ k _ hvl] at h1
          exact h1
        · intro i h1 h2
          by_cases e : i = k
          · subst e
            refine ⟨g2, xss[i].length, by simp [hvl], (own_in o2 (g := g2) rfl).2, ?_⟩
            exact own_marked (own_mono o2 (by omega)) hst.2 (fun q p hq hp => by have := own_in o2 hq; simp at hp; omega)
          · obtain ⟨g, c, e1, e0, e2⟩ := hvi i (by omega) h2
            refine ⟨g, c, by rw [List.getElem?_append_left (by omega)]; exact e1, by have := b2.size; omega, ?_⟩
            exact own_marked (own_later e2 b2) hst.2 (fun q p hq hp => by have := own_in e2 hq; simp at hp; omega))
      have HBB := hid ((HB.out.trans (b2.mono HB.out.size)).setCell (p := ⟨w.heap.size, k, none⟩) (Nat.le_refl _) (.slice (some ⟨g2, 0, none⟩) xss[k].length xss[k].length))
      clear hst hvo2 hvi hvo o2 b2
      go_wp2
      go_roundw
      case rel => exact ⟨k + 1, by omega, by go_num, by simpa using HN.out, HBB.out⟩
      case measure => simp [intOf]; omega
    · obtain rfl : k = xss.length := by omega
      obtain ⟨vs, hvl, hvo, hvi⟩ := HV.out
      rw [Nat.sub_self, List.replicate_zero, List.append_nil] at hvo
      have HF : Hid (OwnSS wr w.heap.size wr.heap.size (.slice (some ⟨w.heap.size, 0, none⟩) xss.length xss.length) xss) := hid ⟨vs, hvo, fun i h => by
        obtain ⟨g, c, e1, e0, e2⟩ := hvi i h h
        exact ⟨g, c, e1, e0, own_mono e2 (by omega)⟩⟩
      clear hvo hvi hvl
      go_wp2
      go_ret
      exact ⟨_, rfl, HF.out, HB.out⟩
end Go.Proofs.Ytcljakdcejhfiab
