import Derived.Test.YtmaccmgmcahopaaJWindow10
import Derived.Test.YtmaccmgmcahopaaJWindow11
import Derived.Test.YtmaccmgmcahopaaJWindow12
import Derived.Test.YtmaccmgmcahopaaJWindow9
import Derived.Laws.ResultCell
import Derived.Deep.Cut
import Derived.Deep.RegionHeld
namespace Go.Proofs.Ytmaccmgmcahopaa
open Go.RowKit
theorem ownB_kept {w w' : World} {xs : List Nat} {v : Value} {bs : List Nat} (h : OwnSl cByte 5 w xs v bs) (hb : Below w.heap.size w w') : OwnSl cByte 5 w' xs v bs := h.kept (fun b hm => hb.block b (h.lt b hm))
def fcSameL (W : World) : Fct := ⟨fun _ w => Below W.heap.size W w, fun _ _ _ h hb => below_chain h hb⟩
def fcPk (lo : Nat) (p : PP) : Fct := ⟨fun v w => ∃ a c bk, v = .agg #[.int .i64 p.kind, .int .i64 p.epoch, .int .i64 p.seq, .int .i64 p.count, .bool p.last, .slice a p.data.length c] ∧ OwnSl cByte 5 w p.data (.slice a p.data.length c) bk ∧ (∀ b ∈ bk, lo ≤ b) ∧ bk.Nodup, fun _ _ _ ⟨a, c, bk, e, h1, h2, h3⟩ hb => ⟨a, c, bk, e, ownB_kept h1 hb, h2, h3⟩⟩
theorem MadeN.later {α : Type} {n : Nat} {c : Cod α} {e : TypeId} {w wr w2 : World} {xs : List α} {k : Nat} (hm : MadeN n c e w wr xs k) (b2 : Below wr.heap.size wr w2) : MadeN n c e w w2 xs k := by
  obtain ⟨vs, bss, how, hbl, hown, hin, hnn⟩ := hm
  refine ⟨vs, bss, ownsRow_kept how (fun b hb => b2.block b (World.ownsRow.lt how b hb).2), hbl, fun i h1 h2 => c.ownLater (hown i h1 h2) b2, fun b hb => ?_, hnn⟩
  have := hin b hb
  have := b2.size
  omega
theorem ownsRow_mono {w : World} {B B' n s : Nat} {e : TypeId} {v : Value} {vs : List Value} (h : w.ownsRow B e s v n vs) (hB : ∀ g, v.ownBlock = some g → B' ≤ g) : w.ownsRow B' e s v n vs := by
  refine ⟨h.1, ?_⟩
  rcases h.2 with h2 | ⟨g, cap, cur, rfl, hg, r⟩
  · exact .inl h2
  · exact .inr ⟨g, cap, cur, rfl, hB g rfl, r⟩
theorem part_left {vs cs : List Value} {n m i : Nat} (hv : vs.length = m * n) (hi : i < m) : part (vs ++ cs) n i = part vs n i := by
  have h : (i + 1) * n ≤ m * n := Nat.mul_le_mul_right _ hi
  rw [Nat.add_mul, Nat.one_mul] at h
  apply List.ext_getElem?
  intro j
  by_cases hj : j < n
  · rw [part_at hj, part_at hj, List.getElem?_append_left (by omega)]
  · rw [List.getElem?_eq_none (by simp [part]; omega), List.getElem?_eq_none (by simp [part]; omega)]
theorem part_last {vs cs : List Value} {n m : Nat} (hv : vs.length = m * n) (hc : cs.length = n) : part (vs ++ cs) n m = cs := by
  apply List.ext_getElem?
  intro j
  by_cases hj : j < n
  · rw [part_at hj, List.getElem?_append_right (by omega)]
    congr 1
    omega
  · rw [List.getElem?_eq_none (by simp [part]; omega), List.getElem?_eq_none (by omega)]
theorem OwnSl.grow {α : Type} {c : Cod α} {e : TypeId} {w : World} {xs : List α} {v : Value} {bs : List Nat} {B : Nat} {x : α} {cs : List Value} {bk : List Nat} (h : OwnSl c e w xs v bs) (hnd : bs.Nodup) (hB : ∀ b ∈ bs, B ≤ b) (hBs : B ≤ w.heap.size)
    (ho : c.own w x cs bk) (hbn : bk.Nodup) (hbB : ∀ b ∈ bk, B ≤ b) (hdis : ∀ b ∈ bk, b ∉ bs) :
    ∃ vals, w.ownsRow B e c.n v xs.length vals ∧ ∀ g cap w', w'.ownsRow B e c.n (.slice (some ⟨g, 0, none⟩) (xs.length + 1) cap) (xs.length + 1) (vals ++ cs) → w.grownBy w' v.ownBlock → (v.ownBlock = some g ∨ g = w.heap.size) →
      ∃ bs', OwnSl c e w' (xs ++ [x]) (.slice (some ⟨g, 0, none⟩) (xs ++ [x]).length cap) bs' ∧ bs'.Nodup ∧ (∀ b ∈ bs', B ≤ b ∧ (b ∈ bs ∨ b ∈ bk ∨ b = w.heap.size)) := by
  have hlt := c.lt ho
  rcases h with ⟨rfl, rfl, rfl⟩ | ⟨g0, cap0, vs, bss, rfl, hr, rfl, hbl, hi⟩
  · refine ⟨[], World.ownsRow_nil _ _ _ _, fun g cap w' hw hg hat => ?_⟩
    have hgs : g = w.heap.size := by
      rcases hat with h1 | h1
      · simp [Value.ownBlock] at h1
      · exact h1
    have hkeep : ∀ b ∈ bk, w'.heap[b]? = w.heap[b]? := fun b hb => hg.block b (hlt b hb) (by simp [Value.ownBlock])
    refine ⟨g :: List.flatten [bk], .inr ⟨g, cap, [] ++ cs, [bk], by simp, ?_, rfl, by simp, fun i h1 h2 => ?_⟩, ?_, ?_⟩
    · have := ownsRow_mono hw (B' := 0) (fun _ _ => Nat.zero_le _)
      simpa using this
    · obtain rfl : i = 0 := by simp at h1; omega
      have hp : part ([] ++ cs) c.n 0 = cs := part_last (m := 0) (by simp) (c.len (c.ownRd ho))
      rw [hp]
      simpa using c.kept ho hkeep
    · simp only [List.flatten_cons, List.flatten_nil, List.append_nil]
      exact List.nodup_cons.2 ⟨fun hb => by have := hlt g hb; omega, hbn⟩
    · intro b hb
      simp only [List.flatten_cons, List.flatten_nil, List.append_nil, List.mem_cons] at hb
      rcases hb with rfl | hb
      · exact ⟨by omega, .inr (.inr hgs)⟩
      · exact ⟨hbB b hb, .inr (.inl hb)⟩
  · have hng := (List.nodup_cons.1 hnd).1
    have hnf := (List.nodup_cons.1 hnd).2
    have hvl : vs.length = xs.length * c.n := hr.1
    refine ⟨vs, ownsRow_mono hr (fun g h => by simp [Value.ownBlock] at h; subst h; exact hB _ (by simp)), fun g cap w' hw hg hat => ?_⟩
    have hg0 : g0 < w.heap.size := (World.ownsRow.lt hr g0 rfl).2
    have hmem : ∀ i, (h : i < bss.length) → ∀ b ∈ bss[i], b ∈ List.flatten bss := fun i h b hb => List.mem_flatten.2 ⟨_, List.getElem_mem h, hb⟩
    have hfl : ∀ b ∈ List.flatten bss, b < w.heap.size := fun b hb => by
      obtain ⟨l, hl, hb⟩ := List.mem_flatten.1 hb
      obtain ⟨i, hi', rfl⟩ := List.getElem_of_mem hl
      exact c.lt (hi i (by omega) hi') b hb
    have hgn : g ∉ List.flatten bss ∧ g ∉ bk := by
      rcases hat with h1 | h1
      · simp [Value.ownBlock] at h1
        subst h1
        exact ⟨hng, fun hb => hdis _ hb (by simp)⟩
      · exact ⟨fun hb => by have := hfl g hb; omega, fun hb => by have := hlt g hb; omega⟩
    have kf : ∀ b ∈ List.flatten bss, w'.heap[b]? = w.heap[b]? := fun b hb => hg.block b (hfl b hb) (fun e => by simp [Value.ownBlock] at e; subst e; exact hng hb)
    have kb : ∀ b ∈ bk, w'.heap[b]? = w.heap[b]? := fun b hb => hg.block b (hlt b hb) (fun e => by simp [Value.ownBlock] at e; subst e; exact hdis _ hb (by simp))
    refine ⟨g :: List.flatten (bss ++ [bk]), .inr ⟨g, cap, vs ++ cs, bss ++ [bk], by simp, ?_, rfl, by simp [hbl], fun i h1 h2 => ?_⟩, ?_, ?_⟩
    · have := ownsRow_mono hw (B' := 0) (fun _ _ => Nat.zero_le _)
      simpa using this
    · by_cases he : i = xs.length
      · subst he
        rw [part_last hvl (c.len (c.ownRd ho))]
        have e1 : (xs ++ [x])[xs.length] = x := by simp
        have e2 : (bss ++ [bk])[xs.length] = bk := by simp [← hbl]
        rw [e1, e2]
        exact c.kept ho kb
      · have h1' : i < xs.length := by simp at h1; omega
        have h2' : i < bss.length := by omega
        rw [part_left hvl h1']
        have e1 : (xs ++ [x])[i] = xs[i] := List.getElem_append_left h1'
        have e2 : (bss ++ [bk])[i] = bss[i] := List.getElem_append_left h2'
        rw [e1, e2]
        exact c.kept (hi i h1' h2') (fun b hb => kf b (hmem i h2' b hb))
    · rw [List.flatten_append]
      simp only [List.flatten_cons, List.flatten_nil, List.append_nil]
      refine List.nodup_cons.2 ⟨fun hb => ?_, List.nodup_append.2 ⟨hnf, hbn, fun a ha b hb e => ?_⟩⟩
      · rcases List.mem_append.1 hb with h1 | h1
        · exact hgn.1 h1
        · exact hgn.2 h1
      · subst e
        exact hdis _ hb (List.mem_cons_of_mem _ ha)
    · intro b hb
      rw [List.flatten_append] at hb
      simp only [List.flatten_cons, List.flatten_nil, List.append_nil, List.mem_cons, List.mem_append] at hb
      rcases hb with rfl | hb | hb
      · rcases hat with h1 | h1
        · simp [Value.ownBlock] at h1
          subst h1
          exact ⟨hB _ (by simp), .inl (by simp)⟩
        · exact ⟨by omega, .inr (.inr h1)⟩
      · exact ⟨hB b (List.mem_cons_of_mem _ hb), .inl (List.mem_cons_of_mem _ hb)⟩
      · exact ⟨hbB b hb, .inr (.inl hb)⟩
theorem own_block_mem {α : Type} {c : Cod α} {e : TypeId} {w : World} {xs : List α} {v : Value} {bs : List Nat} {g : Nat} (h : OwnSl c e w xs v bs) (hg : v.ownBlock = some g) : g ∈ bs := by
  rcases h with ⟨rfl, _⟩ | ⟨g', cap, vs, bss, rfl, ho, rfl, hbl, hi⟩
  · simp [Value.ownBlock] at hg
  · simp [Value.ownBlock] at hg
    subst hg
    simp
theorem own_in7 {w : World} {B n s g : Nat} {e : TypeId} {v : Value} {vs : List Value} (h : w.ownsRow B e s v n vs) (hg : v.ownBlock = some g) : B ≤ g ∧ g < w.heap.size := World.ownsRow.lt h g hg
theorem results_cell_row_tmp2 {P : Program} {fn : Func} {p u v : Tmp} {ty : TypeId} (h : fn.results = #[.cell p ty, .tmp u, .tmp v]) (tmps : Array Value) (w : World) (g : Nat) (t : TypeId) (cs : Array Value) (fr : Nat × Nat) (d : TypeDesc)
    (hp : tmps.getD p undef = .pointer (some ⟨g, 0, none⟩)) (hg : w.heap[g]? = some (.cells cs t fr))
    (hu : P.underlying ty = some d) (hd : (match d with | .struct _ | .array _ _ => true | _ => false) = true) (hi : (P.info? ty).map (·.size) = some cs.size) :
    (results fn tmps).run P w = .ok (.tuple #[.agg cs, tmps.getD u undef, tmps.getD v undef]) w := by
  have hx : (results fn tmps).run P w = ((asAddr (tmps.getD p undef)).run P w).andThen fun a w₁ => ((loadVar ty a).run P w₁).andThen fun y w₂ => .ok (.tuple #[y, tmps.getD u undef, tmps.getD v undef]) w₂ := by
    simp only [results, h]
    simp [Sem.run_bind, Result.andThen]
  rw [hx, hp]
  simp [asAddr, run_loadVar_row w g t ty cs fr d hg hu hd hi]
end Go.Proofs.Ytmaccmgmcahopaa
namespace Go.Proofs.Ytmaccmgmcahopaa
open Go.RowKit
def fcSn (lo : Nat) (s : PW) : Fct := ⟨fun v w => ∃ a c bk, v = .agg #[.int .i64 s.pkt.kind, .int .i64 s.pkt.epoch, .int .i64 s.pkt.seq, .int .i64 s.pkt.count, .bool s.pkt.last, .slice a s.pkt.data.length c, .int .i64 s.at_] ∧ OwnSl cByte 5 w s.pkt.data (.slice a s.pkt.data.length c) bk ∧ (∀ b ∈ bk, lo ≤ b) ∧ bk.Nodup, fun _ _ _ ⟨a, c, bk, e, h1, h2, h3⟩ hb => ⟨a, c, bk, e, ownB_kept h1 hb, h2, h3⟩⟩
def fcMadeS (w : World) (xs : List PW) (k : Nat) : Fct := ⟨fun _ wx => MadeN 7 cSnt 63 w wx xs k, fun _ _ _ h hb => h.later hb⟩
end Go.Proofs.Ytmaccmgmcahopaa
namespace Go.Proofs.Ytmaccmgmcahopaa
open Go.RowKit
def OutBox (B gm : Nat) (e n t : Int) (xs : List PW) (w : World) : Prop :=
  ∃ a c bs, w.heap[gm]? = some (.cells #[.int .i64 e, .int .i64 n, .int .i64 t, .slice a xs.length c] 30 (0, 0)) ∧ OwnSl cSnt 63 w xs (.slice a xs.length c) bs ∧ bs.Nodup ∧ ∀ b ∈ bs, B ≤ b ∧ b ≠ gm
theorem OutBox.later {B gm : Nat} {e n t : Int} {xs : List PW} {w w' : World} (h : OutBox B gm e n t xs w) (hb : Below w.heap.size w w') : OutBox B gm e n t xs w' := by
  obtain ⟨a, c, bs, h1, h2, h3, h4⟩ := h
  exact ⟨a, c, bs, (hb.block _ (Array.getElem?_eq_some_iff.1 h1).1).trans h1, h2.kept (fun b hm => hb.block b (h2.lt b hm)), h3, h4⟩
def fcOneS (lo : Nat) (s : PW) : Fct := ⟨fun v w => ∃ g a c bk, v = .slice (some ⟨g, 0, none⟩) 1 1 ∧ w.heap[g]? = some (.cells #[.int .i64 s.pkt.kind, .int .i64 s.pkt.epoch, .int .i64 s.pkt.seq, .int .i64 s.pkt.count, .bool s.pkt.last, .slice a s.pkt.data.length c, .int .i64 s.at_] 63 (0, 0)) ∧ OwnSl cByte 5 w s.pkt.data (.slice a s.pkt.data.length c) bk ∧ (∀ b ∈ bk, lo ≤ b) ∧ bk.Nodup,
  fun _ _ _ ⟨g, a, c, bk, e, h0, h1, h2, h3⟩ hb => ⟨g, a, c, bk, e, (hb.block _ (Array.getElem?_eq_some_iff.1 h0).1).trans h0, ownB_kept h1 hb, h2, h3⟩⟩
def fcGotS (B gm : Nat) (e n t : Int) (acc : Value) (xs : List PW) : Fct := ⟨fun v w => w.heap[gm]? = some (.cells #[.int .i64 e, .int .i64 n, .int .i64 t, acc] 30 (0, 0)) ∧ ∃ a c bs, v = .slice a xs.length c ∧ OwnSl cSnt 63 w xs (.slice a xs.length c) bs ∧ bs.Nodup ∧ ∀ b ∈ bs, B ≤ b ∧ b ≠ gm,
  fun _ _ _ ⟨h1, a, c, bs, e, h2, h3⟩ hb => ⟨(hb.block _ (Array.getElem?_eq_some_iff.1 h1).1).trans h1, a, c, bs, e, h2.kept (fun b hm => hb.block b (h2.lt b hm)), h3⟩⟩
def fcPutS (B gm : Nat) (e n t : Int) (xs : List PW) : Fct := ⟨fun _ w => OutBox B gm e n t xs w, fun _ _ _ h hb => h.later hb⟩
theorem outBox_put {B gm : Nat} {e n t : Int} {acc : Value} {xs : List PW} {w : World} {a : Option Addr} {c : Nat} {bs : List Nat} (h : w.heap[gm]? = some (.cells #[.int .i64 e, .int .i64 n, .int .i64 t, acc] 30 (0, 0))) (ho : OwnSl cSnt 63 w xs (.slice a xs.length c) bs) (hn : bs.Nodup) (hb : ∀ b ∈ bs, B ≤ b ∧ b ≠ gm) :
    OutBox B gm e n t xs (w.setCell ⟨gm, 3, none⟩ (.slice a xs.length c)) :=
  ⟨a, c, bs, heap_setCell_same _ _ 3 _ _ _ h, ho.kept (fun b hm => Below.heap_setCell _ ⟨gm, 3, none⟩ _ _ (hb b hm).2), hn, hb⟩
end Go.Proofs.Ytmaccmgmcahopaa
namespace Go.Proofs.Ytmaccmgmcahopaa
open Go.RowKit
theorem filter_seq (q : Int) : ∀ (l : List PW) (b : Int), (∀ i, (h : i < l.length) → l[i].pkt.seq = b + i) → l.filter (fun s => decide (q ≤ s.pkt.seq)) = l.drop (q - b).toNat
  | [], b, _ => by simp
  | x :: l, b, h => by
    have h0 := h 0 (by simp)
    simp only [List.getElem_cons_zero, Int.natCast_zero, Int.add_zero] at h0
    have ih := filter_seq q l (b + 1) (fun i hi => by
      have := h (i + 1) (by simpa using hi)
      simp only [List.getElem_cons_succ] at this
      rw [this]; push_cast; omega)
    by_cases hq : q ≤ b
    · have e1 : (q - b).toNat = 0 := by omega
      have e2 : (q - (b + 1)).toNat = 0 := by omega
      rw [List.filter_cons_of_pos (by rw [h0]; simpa using hq), ih, e1, e2, List.drop_zero, List.drop_zero]
    · rw [List.filter_cons_of_neg (by rw [h0]; simpa using hq), ih, show (q - b).toNat = (q - (b + 1)).toNat + 1 from by omega, List.drop_succ_cons]
def ackP (q : Int) (s : PW) : Bool := decide (q ≤ s.pkt.seq)
def ackK (o : PO) (q : Int) (k : Nat) : List PW := (o.wait.take k).filter (ackP q)
theorem ackK_yes {o : PO} {q : Int} {k : Nat} (hk : k < o.wait.length) (h : q ≤ o.wait[k].pkt.seq) : ackK o q (k + 1) = ackK o q k ++ [o.wait[k]] := by
  unfold ackK
  rw [List.take_succ_eq_append_getElem hk, List.filter_append, List.filter_cons_of_pos (by unfold ackP; simpa using h)]; rfl
theorem ackK_no {o : PO} {q : Int} {k : Nat} (hk : k < o.wait.length) (h : ¬ q ≤ o.wait[k].pkt.seq) : ackK o q (k + 1) = ackK o q k := by
  unfold ackK
  rw [List.take_succ_eq_append_getElem hk, List.filter_append, List.filter_cons_of_neg (by unfold ackP; simpa using h)]; simp
theorem ackK_len (o : PO) (q : Int) (k : Nat) : (ackK o q k).length ≤ o.wait.length := by
  unfold ackK
  exact Nat.le_trans (List.length_filter_le _ _) (by simp; omega)
abbrev AckOK (o : PO) (q : Int) : Prop := outOK o = true ∧ 0 ≤ q ∧ q ≤ o.next
def noOut : PO := ⟨0, 0, 0, []⟩
def ackD (o : PO) (q : Int) : Nat := (q - (o.next - o.wait.length)).toNat
def ackO (o : PO) (q : Int) : PO := if AckOK o q then ⟨o.epoch, o.next, o.now, o.wait.drop (ackD o q)⟩ else noOut
def ackC (o : PO) (q : Int) : Int := if AckOK o q then 0 else 1
theorem ack_no {o : PO} {q : Int} (h : ¬ AckOK o q) : ackO o q = noOut ∧ ackC o q = 1 := by unfold ackO ackC; rw [if_neg h, if_neg h]; exact ⟨rfl, rfl⟩
theorem ack_yes {o : PO} {q : Int} (h : AckOK o q) : ackO o q = ⟨o.epoch, o.next, o.now, o.wait.drop (ackD o q)⟩ ∧ ackC o q = 0 := by unfold ackO ackC; rw [if_pos h, if_pos h]; exact ⟨rfl, rfl⟩
theorem ackK_all {o : PO} {q : Int} (h : AckOK o q) : ackK o q o.wait.length = o.wait.drop (ackD o q) := by
  obtain ⟨h1, h2⟩ := outOK_of h.1
  unfold ackK ackD
  rw [List.take_length]
  refine filter_seq q o.wait (o.next - o.wait.length) (fun i hi => ?_)
  have h3 := h2 i hi
  unfold outW at h3
  rw [Bool.and_eq_true] at h3
  exact (of_decide_eq_true h3.2).1
def IoPost (w : World) (R : PO) (C : Int) (e : Ending) (w' : World) : Prop :=
  ∃ a c ys d bs, e = .returned (.tuple #[.agg #[.int .i64 R.epoch, .int .i64 R.next, .int .i64 R.now, .slice a R.wait.length c], .int .i64 C]) ∧ R.wait = ys.drop d ∧ OwnCut cSnt 63 w' ys d a c bs ∧ (∀ b ∈ bs, w.heap.size ≤ b) ∧ bs.Nodup ∧ totL wN ys ≤ 1048576 ∧ Below w.heap.size w w'
theorem ioPost_nil {w w' : World} {R : PO} {C C' : Int} (hb : Below w.heap.size w w') (hp : R = noOut) (hC : C = C') : IoPost w R C (.returned (.tuple #[.agg #[.int .i64 0, .int .i64 0, .int .i64 0, .slice none 0 0], .int .i64 C'])) w' := by
  subst hp hC
  exact ⟨none, 0, [], 0, [], rfl, rfl, ⟨Nat.le_refl _, Nat.le_refl _, Nat.zero_le _, fun _ => rfl, .slice none 0 0, .inl ⟨rfl, rfl, rfl⟩, fun h => by simp at h⟩, by simp, by simp, by simp [totL], hb⟩
end Go.Proofs.Ytmaccmgmcahopaa
