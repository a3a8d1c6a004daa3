import Derived.Test.YtfaehioeepolhaaGreatJPoll19
import Derived.Test.YtfaehioeepolhaaGreatJPoll9
import Derived.Test.YtfaehioeepolhaaGreatJPoll24
import Derived.Test.YtfaehioeepolhaaGreatJPoll6
import Derived.Test.YtfaehioeepolhaaGreatJPoll3
import Derived.Test.YtfaehioeepolhaaGreatJPoll5
import Derived.Laws.AppendOwnNone
namespace Go.Proofs.YtfaehioeepolhaaGreat
open Go.RowKit
theorem FRow.mono {B B' : Nat} {w : World} {v : Value} {fs : List PF} (h : FRow B w v fs) (hb : B' ≤ B) : FRow B' w v fs := by
  obtain ⟨vals, ho, hi⟩ := h
  exact ⟨vals, ⟨ho.1, ho.2.imp id (fun ⟨g, cap, cur, h1, h2, h3⟩ => ⟨g, cap, cur, h1, Nat.le_trans hb h2, h3⟩)⟩, fun i h => by obtain ⟨u, h1, h2, h3⟩ := hi i h; exact ⟨u, h1, own_mono h2 hb, h3⟩⟩
theorem FRow.kept {B : Nat} {w w' : World} {v : Value} {fs : List PF} (h : FRow B w v fs) (hk : ∀ (b : Nat) e s n vs u, w.ownsRow B e s u n vs → (e = 98 ∨ e = 5) → u.ownBlock = some b → w'.heap[b]? = w.heap[b]?) : FRow B w' v fs := by
  obtain ⟨vals, ho, hi⟩ := h
  exact ⟨vals, ownsRow_kept ho (fun b hb => hk b _ _ _ _ _ ho (.inl rfl) hb), fun i h => by
    obtain ⟨u, h1, h2, h3⟩ := hi i h
    exact ⟨u, h1, ownsRow_kept h2 (fun b hb => hk b _ _ _ _ _ h2 (.inr rfl) hb), h3⟩⟩
theorem nils_rd {B n : Nat} {w : World} {g : Nat} {e : TypeId} (h : w.ownsRow B e 1 (.slice (some ⟨g, 0, none⟩) n n) n (madeCells (Value.slice none 0 0).cells (n * 1)).toList) : RdSl cSSS w (List.replicate n []) (.slice (some ⟨g, 0, none⟩) n n) := by
  rw [Nat.mul_one, show (Value.slice none 0 0).cells = #[Value.slice none 0 0] from rfl, toList_madeCells_one] at h
  obtain ⟨hm, -⟩ : n ≤ maxLen ∧ True := by
    rcases h.2 with ⟨h0, _⟩ | ⟨g', cap, cur, h0, _, _, hn, hm, _⟩
    · cases h0
    · simp at h0; exact ⟨by omega, trivial⟩
  refine ⟨_, n, by simp, by simp, hm, (fun h => by cases h), .inr ⟨g, 0, rfl, fun i hi => ?_⟩⟩
  have hin : i < n := by simpa using hi
  refine ⟨[.slice none 0 0], ⟨_, rfl, ?_⟩, fun j hj => ?_⟩
  · rw [List.getElem_replicate]; exact RdSl.empty none
  · have hj0 : j = 0 := by simpa using hj
    subst hj0
    have := World.ownsRow.cellAt h i (by simpa using hin)
    rw [show 0 + (i * cSSS.n + 0) = i from by simp [cSl], this]
    simp [hin]
def NRow (B : Nat) (w : World) (v : Value) (n : Nat) : Prop := ∃ g, v = .slice (some ⟨g, 0, none⟩) n n ∧ w.ownsRow B 123 1 v n (madeCells (Value.slice none 0 0).cells (n * 1)).toList
theorem NRow.later {B n : Nat} {w w' : World} {v : Value} (h : NRow B w v n) (hb : Below w.heap.size w w') : NRow B w' v n := by
  obtain ⟨g, e, h⟩ := h
  exact ⟨g, e, own_later h hb⟩
theorem NRow.rd {B n : Nat} {w : World} {v : Value} (h : NRow B w v n) : RdSl cSSS w (List.replicate n []) v := by
  obtain ⟨g, rfl, h⟩ := h
  exact nils_rd h
theorem NRow.slice {B n : Nat} {w : World} {v : Value} (h : NRow B w v n) : ∃ a c, v = .slice a n c := by
  obtain ⟨g, rfl, -⟩ := h
  exact ⟨_, _, rfl⟩
end Go.Proofs.YtfaehioeepolhaaGreat
namespace Go.Proofs.YtfaehioeepolhaaGreat
open Go.RowKit
end Go.Proofs.YtfaehioeepolhaaGreat
namespace Go.Proofs.YtfaehioeepolhaaGreat
open Go.RowKit
end Go.Proofs.YtfaehioeepolhaaGreat
