import Derived.Test.YtcljakdcejhfiacJLinkAcked12
import Derived.Test.YtcljakdcejhfiacJLinkAcked14
import Derived.Test.YtcljakdcejhfiacJLinkAcked23
import Derived.Test.YtcljakdcejhfiacJLinkAcked27
import Derived.Laws.ResultCell
import Derived.Deep.Cut
import Derived.Deep.RegionHeld
namespace Go.Proofs.Ytcljakdcejhfiac
open Go.RowKit
theorem ownB_kept {w w' : World} {xs : List Nat} {v : Value} {bs : List Nat} (h : OwnSl cByte 5 w xs v bs) (hb : Below w.heap.size w w') : OwnSl cByte 5 w' xs v bs := h.kept (fun b hm => hb.block b (h.lt b hm))
def fcSameL (W : World) : Fct := ⟨fun _ w => Below W.heap.size W w, fun _ _ _ h hb => below_chain h hb⟩
def fcPk (lo : Nat) (p : PP) : Fct := ⟨fun v w => ∃ a c bk, v = .agg #[.int .i64 p.kind, .int .i64 p.epoch, .int .i64 p.seq, .int .i64 p.count, .bool p.last, .slice a p.data.length c] ∧ OwnSl cByte 5 w p.data (.slice a p.data.length c) bk ∧ (∀ b ∈ bk, lo ≤ b) ∧ bk.Nodup, fun _ _ _ ⟨a, c, bk, e, h1, h2, h3⟩ hb => ⟨a, c, bk, e, ownB_kept h1 hb, h2, h3⟩⟩
theorem MadeN.later {α : Type} {n : Nat} {c : Cod α} {e : TypeId} {w wr w2 : World} {xs : List α} {k : Nat} (hm : MadeN n c e w wr xs k) (b2 : Below wr.heap.size wr w2) : MadeN n c e w w2 xs k := by
  obtain ⟨vs, bss, how, hbl, hown, hin, hnn⟩ := hm
  refine ⟨vs, bss, ownsRow_kept how (fun b hb => b2.block b (World.ownsRow.lt how b hb).2), hbl, fun i h1 h2 => c.ownLater (hown i h1 h2) b2, fun b hb => ?_, hnn⟩
  have := hin b hb
  have := b2.size
  omega
theorem ownsRow_mono {w : World} {B B' n s : Nat} {e : TypeId} {v : Value} {vs : List Value} (h : w.ownsRow B e s v n vs) (hB : ∀ g, v.ownBlock = some g → B' ≤ g) : w.ownsRow B' e s v n vs := by
  refine ⟨h.1, ?_⟩
  rcases h.2 with h2 | ⟨g, cap, cur, rfl, hg, r⟩
  · exact .inl h2
  · exact .inr ⟨g, cap, cur, rfl, hB g rfl, r⟩
theorem part_left {vs cs : List Value} {n m i : Nat} (hv : vs.length = m * n) (hi : i < m) : part (vs ++ cs) n i = part vs n i := by
  have h : (i + 1) * n ≤ m * n := Nat.mul_le_mul_right _ hi
  rw [Nat.add_mul, Nat.one_mul] at h
  apply List.ext_getElem?
  intro j
  by_cases hj : j < n
  · rw [part_at hj, part_at hj, List.getElem?_append_left (by omega)]
  · rw [List.getElem?_eq_none (by simp [part]; omega), List.getElem?_eq_none (by simp [part]; omega)]
theorem part_last {vs cs : List Value} {n m : Nat} (hv : vs.length = m * n) (hc : cs.length = n) : part (vs ++ cs) n m = cs := by
  apply List.ext_getElem?
  intro j
  by_cases hj : j < n
  · rw [part_at hj, List.getElem?_append_right (by omega)]
    congr 1
    omega
  · rw [List.getElem?_eq_none (by simp [part]; omega), List.getElem?_eq_none (by omega)]
theorem OwnSl.grow {α : Type} {c : Cod α} {e : TypeId} {w : World} {xs : List α} {v : Value} {bs : List Nat} {B : Nat} {x : α} {cs : List Value} {bk : List Nat} (h : OwnSl c e w xs v bs) (hnd : bs.Nodup) (hB : ∀ b ∈ bs, B ≤ b) (hBs : B ≤ w.heap.size)
    (ho : c.own w x cs bk) (hbn : bk.Nodup) (hbB : ∀ b ∈ bk, B ≤ b) (hdis : ∀ b ∈ bk, b ∉ bs) :
    ∃ vals, w.ownsRow B e c.n v xs.length vals ∧ ∀ g cap w', w'.ownsRow B e c.n (.slice (some ⟨g, 0, none⟩) (xs.length + 1) cap) (xs.length + 1) (vals ++ cs) → w.grownBy w' v.ownBlock → (v.ownBlock = some g ∨ g = w.heap.size) →
      ∃ bs', OwnSl c e w' (xs ++ [x]) (.slice (some ⟨g, 0, none⟩) (xs ++ [x]).length cap) bs' ∧ bs'.Nodup ∧ (∀ b ∈ bs', B ≤ b ∧ (b ∈ bs ∨ b ∈ bk ∨ b = w.heap.size)) := by
  have hlt := c.lt ho
  rcases h with ⟨rfl, rfl, rfl⟩ | ⟨g0, cap0, vs, bss, rfl, hr, rfl, hbl, hi⟩
  · refine ⟨[], World.ownsRow_nil _ _ _ _, fun g cap w' hw hg hat => ?_⟩
    have hgs : g = w.heap.size := by
      rcases hat with h1 | h1
      · simp [Value.ownBlock] at h1
      · exact h1
    have hkeep : ∀ b ∈ bk, w'.heap[b]? = w.heap[b]? := fun b hb => hg.block b (hlt b hb) (by simp [Value.ownBlock])
    refine ⟨g :: List.flatten [bk], .inr ⟨g, cap, [] ++ cs, [bk], by simp, ?_, rfl, by simp, fun i h1 h2 => ?_⟩, ?_, ?_⟩
    · have := ownsRow_mono hw (B' := 0) (fun _ _ => Nat.zero_le _)
      simpa using this
    · obtain rfl : i = 0 := by simp at h1; omega
      have hp : part ([] ++ cs) c.n 0 = cs := part_last (m := 0) (by simp) (c.len (c.ownRd ho))
      rw [hp]
      simpa using c.kept ho hkeep
    · simp only [List.flatten_cons, List.flatten_nil, List.append_nil]
      exact List.nodup_cons.2 ⟨fun hb => by have := hlt g hb; omega, hbn⟩
    · intro b hb
      simp only [List.flatten_cons, List.flatten_nil, List.append_nil, List.mem_cons] at hb
      rcases hb with rfl | hb
      · exact ⟨by omega, .inr (.inr hgs)⟩
      · exact ⟨hbB b hb, .inr (.inl hb)⟩
  · have hng := (List.nodup_cons.1 hnd).1
    have hnf := (List.nodup_cons.1 hnd).2
    have hvl : vs.length = xs.length * c.n := hr.1
    refine ⟨vs, ownsRow_mono hr (fun g h => by simp [Value.ownBlock] at h; subst h; exact hB _ (by simp)), fun g cap w' hw hg hat => ?_⟩
    have hg0 : g0 < w.heap.size := (World.ownsRow.lt hr g0 rfl).2
    have hmem : ∀ i, (h : i < bss.length) → ∀ b ∈ bss[i], b ∈ List.flatten bss := fun i h b hb => List.mem_flatten.2 ⟨_, List.getElem_mem h, hb⟩
    have hfl : ∀ b ∈ List.flatten bss, b < w.heap.size := fun b hb => by
      obtain ⟨l, hl, hb⟩ := List.mem_flatten.1 hb
      obtain ⟨i, hi', rfl⟩ := List.getElem_of_mem hl
      exact c.lt (hi i (by omega) hi') b hb
    have hgn : g ∉ List.flatten bss ∧ g ∉ bk := by
      rcases hat with h1 | h1
      · simp [Value.ownBlock] at h1
        subst h1
        exact ⟨hng, fun hb => hdis _ hb (by simp)⟩
      · exact ⟨fun hb => by have := hfl g hb; omega, fun hb => by have := hlt g hb; omega⟩
    have kf : ∀ b ∈ List.flatten bss, w'.heap[b]? = w.heap[b]? := fun b hb => hg.block b (hfl b hb) (fun e => by simp [Value.ownBlock] at e; subst e; exact hng hb)
    have kb : ∀ b ∈ bk, w'.heap[b]? = w.heap[b]? := fun b hb => hg.block b (hlt b hb) (fun e => by simp [Value.ownBlock] at e; subst e; exact hdis _ hb (by simp))
    refine ⟨g :: List.flatten (bss ++ [bk]), .inr ⟨g, cap, vs ++ cs, bss ++ [bk], by simp, ?_, rfl, by simp [hbl], fun i h1 h2 => ?_⟩, ?_, ?_⟩
    · have := ownsRow_mono hw (B' := 0) (fun _ _ => Nat.zero_le _)
      simpa using this
    · by_cases he : i = xs.length
      · subst he
        rw [part_last hvl (c.len (c.ownRd ho))]
        have e1 : (xs ++ [x])[xs.length] = x := by simp
        have e2 : (bss ++ [bk])[xs.length] = bk := by simp [← hbl]
        rw [e1, e2]
        exact c.kept ho kb
      · have h1' : i < xs.length := by simp at h1; omega
        have h2' : i < bss.length := by omega
        rw [part_left hvl h1']
        have e1 : (xs ++ [x])[i] = xs[i] := List.getElem_append_left h1'
        have e2 : (bss ++ [bk])[i] = bss[i] := List.getElem_append_left h2'
        rw [e1, e2]
        exact c.kept (hi i h1' h2') (fun b hb => kf b (hmem i h2' b hb))
    · rw [List.flatten_append]
      simp only [List.flatten_cons, List.flatten_nil, List.append_nil]
      refine List.nodup_cons.2 ⟨fun hb => ?_, List.nodup_append.2 ⟨hnf, hbn, fun a ha b hb e => ?_⟩⟩
      · rcases List.mem_append.1 hb with h1 | h1
        · exact hgn.1 h1
        · exact hgn.2 h1
      · subst e
        exact hdis _ hb (List.mem_cons_of_mem _ ha)
    · intro b hb
      rw [List.flatten_append] at hb
      simp only [List.flatten_cons, List.flatten_nil, List.append_nil, List.mem_cons, List.mem_append] at hb
      rcases hb with rfl | hb | hb
      · rcases hat with h1 | h1
        · simp [Value.ownBlock] at h1
          subst h1
          exact ⟨hB _ (by simp), .inl (by simp)⟩
        · exact ⟨by omega, .inr (.inr h1)⟩
      · exact ⟨hB b (List.mem_cons_of_mem _ hb), .inl (List.mem_cons_of_mem _ hb)⟩
      · exact ⟨hbB b hb, .inr (.inl hb)⟩
theorem own_block_mem {α : Type} {c : Cod α} {e : TypeId} {w : World} {xs : List α} {v : Value} {bs : List Nat} {g : Nat} (h : OwnSl c e w xs v bs) (hg : v.ownBlock = some g) : g ∈ bs := by
  rcases h with ⟨rfl, _⟩ | ⟨g', cap, vs, bss, rfl, ho, rfl, hbl, hi⟩
  · simp [Value.ownBlock] at hg
  · simp [Value.ownBlock] at hg
    subst hg
    simp
theorem own_in7 {w : World} {B n s g : Nat} {e : TypeId} {v : Value} {vs : List Value} (h : w.ownsRow B e s v n vs) (hg : v.ownBlock = some g) : B ≤ g ∧ g < w.heap.size := World.ownsRow.lt h g hg
end Go.Proofs.Ytcljakdcejhfiac
