import Derived.Test.YtmaccmgmcahopaaJBound15
import Derived.Test.YtmaccmgmcahopaaJBound31
import Derived.Test.YtmaccmgmcahopaaJBound33
namespace Go.Proofs.Ytmaccmgmcahopaa
open Go.RowKit
set_option maxRecDepth 100000 in
set_option maxHeartbeats 2000000 in
theorem pieceOf_any (b off cap : Nat) (xs : List Nat) (k : Nat) (w : World) (hr : RdSl cByte w xs (.slice (some ⟨b, off, none⟩) xs.length cap)) (hl : xs.length ≤ 1048576) (hk : k * 100 < xs.length) :
    Calls Try.prog 30 #[.slice (some ⟨b, off, none⟩) xs.length cap, .int .i64 k] w fun e w' => ∃ v, e = .returned v ∧ w'.ownsRow w.heap.size 5 1 v (pcs xs k).length (byt (pcs xs k)) ∧ Below w.heap.size w w' := by
  have hcap : xs.length ≤ cap ∧ cap ≤ maxLen := by obtain ⟨a', cap', e', g1, g2, _⟩ := hr; simp only [Value.slice.injEq] at e'; omega
  unfold maxLen at hcap
  have hpl := pcs_len xs k
  have hcut := rdB_cut hr (lo := k * 100) (n := (pcs xs k).length) (by rw [pcs_len]; omega)
  rw [show (xs.drop (k * 100)).take (pcs xs k).length = pcs xs k from by rw [pcs_len]; unfold pcs; apply List.ext_getElem? ; intro i; simp only [List.getElem?_take, List.getElem?_drop]; by_cases h1 : i < min 100 (xs.length - k * 100); rw [if_pos h1, if_pos (by omega)]; rw [if_neg h1]; split; rw [List.getElem?_eq_none (by omega)]; rfl] at hcut
  have hcl := bclone_any (some ⟨b, off + k * 100, none⟩) (cap - k * 100) (pcs xs k) w hcut (by omega)
  clear hcut hr
  have hne : ¬ (cap = k * 100) := by omega
  by_cases hb : k * 100 + 100 ≤ xs.length
  · have e1 : (pcs xs k).length = 100 := by omega
    rw [e1] at hcl
    have HP := hid e1
    have HCL := hid hcl
    have hbi : ((k : Int) * 100 + 100 : Int) ≤ (xs.length : Int) := by omega
    clear hpl e1 hcl
    go_enter Try.func30, Try.ntmps30
    go_wp2_with fail
    refine HCL.out.mono ?_
    rintro e w2 ⟨v2, rfl, o2, b2⟩
    have HO := hid o2
    have HB := hid b2
    clear o2 b2
    go_wp2
    go_ret
    exact ⟨v2, rfl, by rw [HP.out]; exact HO.out, HB.out⟩
  · have e1 : (pcs xs k).length = xs.length - k * 100 := by omega
    rw [e1] at hcl
    have HP := hid e1
    have HCL := hid hcl
    have hbi : (xs.length : Int) < ((k : Int) * 100 + 100 : Int) := by omega
    clear hpl e1 hcl hb
    go_enter Try.func30, Try.ntmps30
    go_wp2_with fail
    refine HCL.out.mono ?_
    rintro e w2 ⟨v2, rfl, o2, b2⟩
    have HO := hid o2
    have HB := hid b2
    clear o2 b2
    go_wp2
    go_ret
    exact ⟨v2, rfl, by rw [HP.out]; exact HO.out, HB.out⟩
end Go.Proofs.Ytmaccmgmcahopaa
namespace Go.Proofs.Ytmaccmgmcahopaa
open Go.RowKit
end Go.Proofs.Ytmaccmgmcahopaa
