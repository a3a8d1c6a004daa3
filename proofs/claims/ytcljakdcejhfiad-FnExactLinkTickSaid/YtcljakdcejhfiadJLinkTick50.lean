import Derived.Test.YtcljakdcejhfiadJLinkTick30
import Derived.Deep.RegionHeld3
namespace Go.Proofs.Ytcljakdcejhfiad
open Go.RowKit
set_option maxRecDepth 100000 in
set_option maxHeartbeats 4000000 in
theorem front_any (g : Nat) (a : Option Addr) (len cap : Nat) (w : World) (T : TypeId) (hk : w.heap[g]? = some (.cells #[.slice a len cap] T (0, 0))) (hc : len ≤ cap) :
    Calls Try.prog 66 #[.pointer (some ⟨g, 0, none⟩), .int .i64 8] w fun e w' => e = .returned (.slice a (min 8 len) cap) ∧ w' = w.drew := by
  have c0 := cell_of_row _ _ 0 _ _ _ hk
  simp only [List.getElem?_toArray, List.getElem?_cons_zero] at c0
  clear hk
  by_cases h8 : 8 ≤ len
  · have h8i : (8 : Int) ≤ (len : Int) := by omega
    have h8c : (8 : Int) ≤ (cap : Int) := by omega
    have HM : Hid (min 8 len = 8) := hid (by omega)
    rw [HM.out]
    clear h8 hc
    go_enter Try.func66, Try.ntmps66
    go_wp2
    go_region
    go_wp2
    go_ret
    exact ⟨rfl, rfl⟩
  · have h8i : (len : Int) < 8 := by omega
    have hci : (len : Int) ≤ (cap : Int) := by omega
    have HM : Hid (min 8 len = len) := hid (by omega)
    rw [HM.out]
    clear h8 hc
    go_enter Try.func66, Try.ntmps66
    go_wp2
    go_region
    go_wp2
    go_ret
    exact ⟨rfl, rfl⟩
end Go.Proofs.Ytcljakdcejhfiad
