import Derived.Test.YtcljakdcejhfiadJValidTable25
import Derived.Test.YtcljakdcejhfiadJValidTable32
namespace Go.Proofs.Ytcljakdcejhfiad
open Go.RowKit
def Gath (w wr : World) (v : Value) (xss : List (List Nat)) : Prop :=
  ∃ vals : List Value, wr.ownsRow w.heap.size 69 1 v xss.length vals ∧ ∀ i, (h : i < xss.length) → ∃ u, vals[i]? = some u ∧ RdSl cByte w xss[i] u
theorem Gath.nil (w : World) : Gath w w (.slice none 0 0) [] := ⟨[], World.ownsRow_nil _ _ _ _, fun i h => by simp at h⟩
theorem Gath.kept {w wr w' : World} {v : Value} {xss : List (List Nat)} (h : Gath w wr v xss) (hb : Below wr.heap.size wr w') : Gath w w' v xss := by
  obtain ⟨vals, ho, hi⟩ := h
  exact ⟨vals, own_later ho hb, hi⟩
theorem Gath.rd {w wr : World} {v : Value} {xss : List (List Nat)} (h : Gath w wr v xss) (hb : Below w.heap.size w wr) : RdSl cSS wr xss v := by
  obtain ⟨vals, ho, hi⟩ := h
  have hvl : vals.length = xss.length := by have := ho.1; omega
  rcases ho.2 with ⟨rfl, h0⟩ | ⟨g, cap, cur, rfl, hg, hh, hn, hm, r⟩
  · obtain rfl := List.length_eq_zero_iff.1 h0
    exact RdSl.empty none
  · refine ⟨_, cap, rfl, hn, hm, (fun h => by cases h), .inr ⟨g, 0, rfl, fun i h => ?_⟩⟩
    obtain ⟨u, hu, hr⟩ := hi i h
    refine ⟨[u], ⟨u, rfl, hr.later hb⟩, fun j hj => ?_⟩
    have hj0 : j = 0 := by simpa using hj
    subst hj0
    have := World.ownsRow.cellAt ho i (by omega)
    rw [show 0 + (i * cSS.n + 0) = i from by simp [cSl], this, hu]; rfl
theorem Gath.snoc {w w1 : World} {v' u : Value} {xss : List (List Nat)} {t : List Nat} {vals : List Value} (hl : vals.length = xss.length) (hi : ∀ i, (h : i < xss.length) → ∃ u, vals[i]? = some u ∧ RdSl cByte w xss[i] u)
    (ho : w1.ownsRow w.heap.size 69 1 v' (xss.length + 1) (vals ++ [u])) (hu : RdSl cByte w t u) : Gath w w1 v' (xss ++ [t]) := by
  refine ⟨vals ++ [u], by simpa using ho, fun i h => ?_⟩
  by_cases e : i < xss.length
  · obtain ⟨u', h1, h2⟩ := hi i e
    exact ⟨u', by rw [List.getElem?_append_left (by omega)]; exact h1, by rw [List.getElem_append_left e]; exact h2⟩
  · have hie : i = xss.length := by simp at h; omega
    subst hie
    exact ⟨u, by simp [← hl], by simpa using hu⟩
theorem infoSlG : (Try.prog.info? 69).map (fun i => (i.zero, i.size, i.bytes)) = some (some (.slice none 0 0), 1, 24) := by kernel_rfl
theorem nn_len (cs : List PC) : (nn cs).length ≤ cs.length := by unfold nn; rw [List.length_map]; exact List.length_filter_le _ _
end Go.Proofs.Ytcljakdcejhfiad
