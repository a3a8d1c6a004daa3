import Derived.Test.YtcljakdcejhfiacJLinkPush29
import Derived.Test.YtcljakdcejhfiacJLinkPush37
import Derived.Test.YtcljakdcejhfiacJLinkPush32
namespace Go.Proofs.Ytcljakdcejhfiac
open Go.RowKit
theorem isNilC (w : World) : (binOp .eql 37 (.slice none 0 0) (.slice none 0 0)).run Try.prog w = .ok (.bool true) w := by kernel_rfl
theorem notNilC (w : World) (ad : Addr) (n c : Nat) : (binOp .eql 37 (.slice (some ad) n c) (.slice none 0 0)).run Try.prog w = .ok (.bool false) w := by kernel_rfl
set_option maxRecDepth 100000 in
set_option maxHeartbeats 1000000 in
theorem bclone_any (a : Option Addr) (cap : Nat) (xs : List Nat) (w : World) (hr : RdSl cByte w xs (.slice a xs.length cap)) (hl : xs.length ≤ 1048576) :
    Calls Try.prog 133 #[.slice a xs.length cap] w fun e w' => ∃ v, e = .returned v ∧ w'.ownsRow w.heap.size 5 1 v xs.length (byt xs) ∧ Below w.heap.size w w' := by
  obtain ⟨i0, hi, hz0, hz1, hz2⟩ := info_parts infoByteT
  have HR := hid hr.rdB.1
  have HN := hid hr.nil0
  clear hr
  cases a with
  | none =>
    obtain ⟨e1, e2⟩ := HN.out rfl
    obtain rfl : xs = [] := List.length_eq_zero_iff.1 e1
    subst e2
    have hnl := isNilC w
    go_enter Try.func133, Try.ntmps133
    go_wp2
    go_ret
    exact ⟨_, rfl, World.ownsRow_nil _ _ _ _, Below.refl _ _⟩
  | some ad =>
    have HB0 := hid (below_new1 w (.cells #[] 5))
    have HO0 : Hid ((w.alloc (.cells #[] 5)).ownsRow w.heap.size 5 1 (.slice (some ⟨w.heap.size, 0, none⟩) 0 0) 0 []) := hid ⟨rfl, .inr ⟨w.heap.size, 0, #[], rfl, Nat.le_refl _, heap_alloc_new w _, Nat.le_refl _, Nat.zero_le _, rfl, rfl⟩⟩
    have HR0 := hid (HR.out.later HB0.out)
    have hnl := notNilC w ad xs.length cap
    go_enter Try.func133, Try.ntmps133
    go_wp2_with (first | (at_builtin; refine append_any rfl _ _ 37 rfl w.heap.size 5 i0 (.int .u8 0) 1 Try.underlying37 hi hz0 hz1 hz2 rfl _ 0 [] rfl HO0.out (some ad) xs.length cap (byt xs) rfl (byt_len _) HN.out HR0.out (byt_one _) (by unfold maxLen; omega) (by omega) (by simp) ?_))
    intro v' w1 hown hgrow
    have HB : Hid (Below w.heap.size w w1) := hid (HB0.out.grown hgrow (by simp) (fun k h => by simp [Value.ownBlock] at h; omega))
    have HO : Hid (w1.ownsRow w.heap.size 5 1 v' xs.length (byt xs)) := hid (by simpa using hown)
    clear hown hgrow
    go_wp2
    go_ret
    exact ⟨_, rfl, HO.out, HB.out⟩
end Go.Proofs.Ytcljakdcejhfiac
namespace Go.Proofs.Ytcljakdcejhfiac
open Go.RowKit
set_option maxRecDepth 100000 in
set_option maxHeartbeats 2000000 in
theorem pieceOf_any (b off cap : Nat) (xs : List Nat) (k : Nat) (w : World) (hr : RdSl cByte w xs (.slice (some ⟨b, off, none⟩) xs.length cap)) (hl : xs.length ≤ 1048576) (hk : k * 100 < xs.length) :
    Calls Try.prog 97 #[.slice (some ⟨b, off, none⟩) xs.length cap, .int .i64 k] w fun e w' => ∃ v, e = .returned v ∧ w'.ownsRow w.heap.size 5 1 v (pcs xs k).length (byt (pcs xs k)) ∧ Below w.heap.size w w' := by
  have hcap : xs.length ≤ cap ∧ cap ≤ maxLen := by obtain ⟨a', cap', e', g1, g2, _⟩ := hr; simp only [Value.slice.injEq] at e'; omega
  unfold maxLen at hcap
  have hpl := pcs_len xs k
  have hcut := rdB_cut hr (lo := k * 100) (n := (pcs xs k).length) (by rw [pcs_len]; omega)
  rw [show (xs.drop (k * 100)).take (pcs xs k).length = pcs xs k from by rw [pcs_len]; unfold pcs; apply List.ext_getElem? ; intro i; simp only [List.getElem?_take, List.getElem?_drop]; by_cases h1 : i < min 100 (xs.length - k * 100); rw [if_pos h1, if_pos (by omega)]; rw [if_neg h1]; split; rw [List.getElem?_eq_none (by omega)]; rfl] at hcut
  have hcl := bclone_any (some ⟨b, off + k * 100, none⟩) (cap - k * 100) (pcs xs k) w hcut (by omega)
  clear hcut hr
  have hne : ¬ (cap = k * 100) := by omega
  by_cases hb : k * 100 + 100 ≤ xs.length
  · have e1 : (pcs xs k).length = 100 := by omega
    rw [e1] at hcl
    have HP := hid e1
    have HCL := hid hcl
    have hbi : ((k : Int) * 100 + 100 : Int) ≤ (xs.length : Int) := by omega
    clear hpl e1 hcl
    go_enter Try.func97, Try.ntmps97
    go_wp2_with fail
    refine HCL.out.mono ?_
    rintro e w2 ⟨v2, rfl, o2, b2⟩
    have HO := hid o2
    have HB := hid b2
    clear o2 b2
    go_wp2
    go_ret
    exact ⟨v2, rfl, by rw [HP.out]; exact HO.out, HB.out⟩
  · have e1 : (pcs xs k).length = xs.length - k * 100 := by omega
    rw [e1] at hcl
    have HP := hid e1
    have HCL := hid hcl
    have hbi : (xs.length : Int) < ((k : Int) * 100 + 100 : Int) := by omega
    clear hpl e1 hcl hb
    go_enter Try.func97, Try.ntmps97
    go_wp2_with fail
    refine HCL.out.mono ?_
    rintro e w2 ⟨v2, rfl, o2, b2⟩
    have HO := hid o2
    have HB := hid b2
    clear o2 b2
    go_wp2
    go_ret
    exact ⟨v2, rfl, by rw [HP.out]; exact HO.out, HB.out⟩
end Go.Proofs.Ytcljakdcejhfiac
