import Derived.Test.YtfaehioeepolhabGreatJSend3
import Derived.Test.YtfaehioeepolhabGreatJSend4
import Derived.Laws.AppendOwnNone
import Derived.Test.YtfaehioeepolhabGreatJSend14
namespace Go.Proofs.YtfaehioeepolhabGreat
open Go.RowKit
end Go.Proofs.YtfaehioeepolhabGreat
namespace Go.Proofs.YtfaehioeepolhabGreat
open Go.RowKit
end Go.Proofs.YtfaehioeepolhabGreat
namespace Go.Proofs.YtfaehioeepolhabGreat
open Go.RowKit
def fcSame (W : World) : Fct := ⟨fun _ w => Below W.heap.size W w, fun _ _ _ h hb => below_chain h hb⟩
theorem Txts.kept {B : Nat} {w w' : World} {v : Value} {xss : List (List Nat)} (h : Txts B w v xss) (hk : ∀ (b : Nat) e n vs u, w.ownsRow B e 1 u n vs → (e = 87 ∨ e = 5) → u.ownBlock = some b → w'.heap[b]? = w.heap[b]?) : Txts B w' v xss := by
  obtain ⟨vals, ho, hi⟩ := h
  exact ⟨vals, ownsRow_kept ho (fun b hb => hk b _ _ _ _ ho (.inl rfl) hb), fun i h => by
    obtain ⟨u, h1, h2, h3⟩ := hi i h
    exact ⟨u, h1, ownsRow_kept h2 (fun b hb => hk b _ _ _ _ h2 (.inr rfl) hb), h3⟩⟩
end Go.Proofs.YtfaehioeepolhabGreat
