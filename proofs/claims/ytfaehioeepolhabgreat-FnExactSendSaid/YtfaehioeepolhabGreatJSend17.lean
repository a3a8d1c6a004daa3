import Derived.Test.YtfaehioeepolhabGreatJSend15
import Derived.Test.YtfaehioeepolhabGreatJSend16
namespace Go.Proofs.YtfaehioeepolhabGreat
open Go.RowKit
theorem NRow.mono {B B' n : Nat} {w : World} {v : Value} (h : NRow B w v n) (hb : B' ≤ B) : NRow B' w v n := by
  obtain ⟨g, e, h⟩ := h
  exact ⟨g, e, own_mono h hb⟩
end Go.Proofs.YtfaehioeepolhabGreat
