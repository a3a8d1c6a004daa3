import Derived.Test.YtfaehioeepolhaaJLinkTake25
import Derived.Test.YtfaehioeepolhaaJLinkTake11
import Derived.Test.YtfaehioeepolhaaJLinkTake27
import Derived.Test.YtfaehioeepolhaaJLinkTake5
namespace Go.Proofs.Ytfaehioeepolhaa
open Go.RowKit
def fcRowD (lo : Nat) (D : List Nat) : Fct := ⟨fun v w => w.ownsRow lo 5 1 v D.length (byt D), fun _ _ _ h hb => own_later h hb⟩
theorem box_far {w : World} {gm : Nat} {cs : Array Value} {t : TypeId} {B n s : Nat} {e : TypeId} {u : Value} {vs : List Value} {k : Nat} (hb : w.heap[gm]? = some (.cells cs t (0, 0))) (ho : w.ownsRow B e s u n vs) (hne : e ≠ t) (hk : u.ownBlock = some k) : k ≠ gm := by
  intro he
  subst he
  rcases ho.2 with ⟨rfl, _⟩ | ⟨g, cap, cur, rfl, _, hh, _⟩
  · simp [Value.ownBlock] at hk
  · simp [Value.ownBlock] at hk
    subst hk
    rw [hb] at hh
    simp at hh
    exact hne hh.2.symm
end Go.Proofs.Ytfaehioeepolhaa
