import Derived.Test.YtfaehioeepolhaaGreatJPoll9
import Derived.Test.YtfaehioeepolhaaGreatJPoll10
import Derived.Test.YtfaehioeepolhaaGreatJPoll16
import Derived.Test.YtfaehioeepolhaaGreatJPoll15
import Derived.Laws.ResultCell
import Derived.Deep.Cut
import Derived.Deep.RegionHeld
import Derived.Test.YtfaehioeepolhaaGreatJPoll11
import Derived.Test.YtfaehioeepolhaaGreatJPoll13
namespace Go.Proofs.YtfaehioeepolhaaGreat
open Go.RowKit
theorem ownB_kept {w w' : World} {xs : List Nat} {v : Value} {bs : List Nat} (h : OwnSl cByte 5 w xs v bs) (hb : Below w.heap.size w w') : OwnSl cByte 5 w' xs v bs := h.kept (fun b hm => hb.block b (h.lt b hm))
def fcSameL (W : World) : Fct := ⟨fun _ w => Below W.heap.size W w, fun _ _ _ h hb => below_chain h hb⟩
def fcPk (lo : Nat) (p : PP) : Fct := ⟨fun v w => ∃ a c bk, v = .agg #[.int .i64 p.kind, .int .i64 p.epoch, .int .i64 p.seq, .int .i64 p.count, .bool p.last, .slice a p.data.length c] ∧ OwnSl cByte 5 w p.data (.slice a p.data.length c) bk ∧ (∀ b ∈ bk, lo ≤ b) ∧ bk.Nodup, fun _ _ _ ⟨a, c, bk, e, h1, h2, h3⟩ hb => ⟨a, c, bk, e, ownB_kept h1 hb, h2, h3⟩⟩
theorem MadeN.later {α : Type} {n : Nat} {c : Cod α} {e : TypeId} {w wr w2 : World} {xs : List α} {k : Nat} (hm : MadeN n c e w wr xs k) (b2 : Below wr.heap.size wr w2) : MadeN n c e w w2 xs k := by
  obtain ⟨vs, bss, how, hbl, hown, hin, hnn⟩ := hm
  refine ⟨vs, bss, ownsRow_kept how (fun b hb => b2.block b (World.ownsRow.lt how b hb).2), hbl, fun i h1 h2 => c.ownLater (hown i h1 h2) b2, fun b hb => ?_, hnn⟩
  have := hin b hb
  have := b2.size
  omega
theorem ownsRow_mono {w : World} {B B' n s : Nat} {e : TypeId} {v : Value} {vs : List Value} (h : w.ownsRow B e s v n vs) (hB : ∀ g, v.ownBlock = some g → B' ≤ g) : w.ownsRow B' e s v n vs := by
  refine ⟨h.1, ?_⟩
  rcases h.2 with h2 | ⟨g, cap, cur, rfl, hg, r⟩
  · exact .inl h2
  · exact .inr ⟨g, cap, cur, rfl, hB g rfl, r⟩
theorem part_left {vs cs : List Value} {n m i : Nat} (hv : vs.length = m * n) (hi : i < m) : part (vs ++ cs) n i = part vs n i := by
  have h : (i + 1) * n ≤ m * n := Nat.mul_le_mul_right _ hi
  rw [Nat.add_mul, Nat.one_mul] at h
  apply List.ext_getElem?
  intro j
  by_cases hj : j < n
  · rw [part_at hj, part_at hj, List.getElem?_append_left (by omega)]
  · rw [List.getElem?_eq_none (by simp [part]; omega), List.getElem?_eq_none (by simp [part]; omega)]
theorem part_last {vs cs : List Value} {n m : Nat} (hv : vs.length = m * n) (hc : cs.length = n) : part (vs ++ cs) n m = cs := by
  apply List.ext_getElem?
  intro j
  by_cases hj : j < n
  · rw [part_at hj, List.getElem?_append_right (by omega)]
    congr 1
    omega
  · rw [List.getElem?_eq_none (by simp [part]; omega), List.getElem?_eq_none (by omega)]
theorem OwnSl.grow {α : Type} {c : Cod α} {e : TypeId} {w : World} {xs : List α} {v : Value} {bs : List Nat} {B : Nat} {x : α} {cs : List Value} {bk : List Nat} (h : OwnSl c e w xs v bs) (hnd : bs.Nodup) (hB : ∀ b ∈ bs, B ≤ b) (hBs : B ≤ w.heap.size)
    (ho : c.own w x cs bk) (hbn : bk.Nodup) (hbB : ∀ b ∈ bk, B ≤ b) (hdis : ∀ b ∈ bk, b ∉ bs) :
    ∃ vals, w.ownsRow B e c.n v xs.length vals ∧ ∀ g cap w', w'.ownsRow B e c.n (.slice (some ⟨g, 0, none⟩) (xs.length + 1) cap) (xs.length + 1) (vals ++ cs) → w.grownBy w' v.ownBlock → (v.ownBlock = some g ∨ g = w.heap.size) →
      ∃ bs', OwnSl c e w' (xs ++ [x]) (.slice (some ⟨g, 0, none⟩) (xs ++ [x]).length cap) bs' ∧ bs'.Nodup ∧ (∀ b ∈ bs', B ≤ b ∧ (b ∈ bs ∨ b ∈ bk ∨ b = w.heap.size)) := by
  have hlt := c.lt ho
  rcases h with ⟨rfl, rfl, rfl⟩ | ⟨g0, cap0, vs, bss, rfl, hr, rfl, hbl, hi⟩
  · refine ⟨[], World.ownsRow_nil _ _ _ _, fun g cap w' hw hg hat => ?_⟩
    have hgs : g = w.heap.size := by
      rcases hat with h1 | h1
      · simp [Value.ownBlock] at h1
      · exact h1
    have hkeep : ∀ b ∈ bk, w'.heap[b]? = w.heap[b]? := fun b hb => hg.block b (hlt b hb) (by simp [Value.ownBlock])
    refine ⟨g :: List.flatten [bk], .inr ⟨g, cap, [] ++ cs, [bk], by simp, ?_, rfl, by simp, fun i h1 h2 => ?_⟩, ?_, ?_⟩
    · have := ownsRow_mono hw (B' := 0) (fun _ _ => Nat.zero_le _)
      simpa using this
    · obtain rfl : i = 0 := by simp at h1; omega
      have hp : part ([] ++ cs) c.n 0 = cs := part_last (m := 0) (by simp) (c.len (c.ownRd ho))
      rw [hp]
      simpa using c.kept ho hkeep
    · simp only [List.flatten_cons, List.flatten_nil, List.append_nil]
      exact List.nodup_cons.2 ⟨fun hb => by have := hlt g hb; omega, hbn⟩
    · intro b hb
      simp only [List.flatten_cons, List.flatten_nil, List.append_nil, List.mem_cons] at hb
      rcases hb with rfl | hb
      · exact ⟨by omega, .inr (.inr hgs)⟩
      · exact ⟨hbB b hb, .inr (.inl hb)⟩
  · have hng := (List.nodup_cons.1 hnd).1
    have hnf := (List.nodup_cons.1 hnd).2
    have hvl : vs.length = xs.length * c.n := hr.1
    refine ⟨vs, ownsRow_mono hr (fun g h => by simp [Value.ownBlock] at h; subst h; exact hB _ (by simp)), fun g cap w' hw hg hat => ?_⟩
    have hg0 : g0 < w.heap.size := (World.ownsRow.lt hr g0 rfl).2
    have hmem : ∀ i, (h : i < bss.length) → ∀ b ∈ bss[i], b ∈ List.flatten bss := fun i h b hb => List.mem_flatten.2 ⟨_, List.getElem_mem h, hb⟩
    have hfl : ∀ b ∈ List.flatten bss, b < w.heap.size := fun b hb => by
      obtain ⟨l, hl, hb⟩ := List.mem_flatten.1 hb
      obtain ⟨i, hi', rfl⟩ := List.getElem_of_mem hl
      exact c.lt (hi i (by omega) hi') b hb
    have hgn : g ∉ List.flatten bss ∧ g ∉ bk := by
      rcases hat with h1 | h1
      · simp [Value.ownBlock] at h1
        subst h1
        exact ⟨hng, fun hb => hdis _ hb (by simp)⟩
      · exact ⟨fun hb => by have := hfl g hb; omega, fun hb => by have := hlt g hb; omega⟩
    have kf : ∀ b ∈ List.flatten bss, w'.heap[b]? = w.heap[b]? := fun b hb => hg.block b (hfl b hb) (fun e => by simp [Value.ownBlock] at e; subst e; exact hng hb)
    have kb : ∀ b ∈ bk, w'.heap[b]? = w.heap[b]? := fun b hb => hg.block b (hlt b hb) (fun e => by simp [Value.ownBlock] at e; subst e; exact hdis _ hb (by simp))
    refine ⟨g :: List.flatten (bss ++ [bk]), .inr ⟨g, cap, vs ++ cs, bss ++ [bk], by simp, ?_, rfl, by simp [hbl], fun i h1 h2 => ?_⟩, ?_, ?_⟩
    · have := ownsRow_mono hw (B' := 0) (fun _ _ => Nat.zero_le _)
      simpa using this
    · by_cases he : i = xs.length
      · subst he
        rw [part_last hvl (c.len (c.ownRd ho))]
        have e1 : (xs ++ [x])[xs.length] = x := by simp
        have e2 : (bss ++ [bk])[xs.length] = bk := by simp [← hbl]
        rw [e1, e2]
        exact c.kept ho kb
      · have h1' : i < xs.length := by simp at h1; omega
        have h2' : i < bss.length := by omega
        rw [part_left hvl h1']
        have e1 : (xs ++ [x])[i] = xs[i] := List.getElem_append_left h1'
        have e2 : (bss ++ [bk])[i] = bss[i] := List.getElem_append_left h2'
        rw [e1, e2]
        exact c.kept (hi i h1' h2') (fun b hb => kf b (hmem i h2' b hb))
    · rw [List.flatten_append]
      simp only [List.flatten_cons, List.flatten_nil, List.append_nil]
      refine List.nodup_cons.2 ⟨fun hb => ?_, List.nodup_append.2 ⟨hnf, hbn, fun a ha b hb e => ?_⟩⟩
      · rcases List.mem_append.1 hb with h1 | h1
        · exact hgn.1 h1
        · exact hgn.2 h1
      · subst e
        exact hdis _ hb (List.mem_cons_of_mem _ ha)
    · intro b hb
      rw [List.flatten_append] at hb
      simp only [List.flatten_cons, List.flatten_nil, List.append_nil, List.mem_cons, List.mem_append] at hb
      rcases hb with rfl | hb | hb
      · rcases hat with h1 | h1
        · simp [Value.ownBlock] at h1
          subst h1
          exact ⟨hB _ (by simp), .inl (by simp)⟩
        · exact ⟨by omega, .inr (.inr h1)⟩
      · exact ⟨hB b (List.mem_cons_of_mem _ hb), .inl (List.mem_cons_of_mem _ hb)⟩
      · exact ⟨hbB b hb, .inr (.inl hb)⟩
theorem own_block_mem {α : Type} {c : Cod α} {e : TypeId} {w : World} {xs : List α} {v : Value} {bs : List Nat} {g : Nat} (h : OwnSl c e w xs v bs) (hg : v.ownBlock = some g) : g ∈ bs := by
  rcases h with ⟨rfl, _⟩ | ⟨g', cap, vs, bss, rfl, ho, rfl, hbl, hi⟩
  · simp [Value.ownBlock] at hg
  · simp [Value.ownBlock] at hg
    subst hg
    simp
theorem own_in7 {w : World} {B n s g : Nat} {e : TypeId} {v : Value} {vs : List Value} (h : w.ownsRow B e s v n vs) (hg : v.ownBlock = some g) : B ≤ g ∧ g < w.heap.size := World.ownsRow.lt h g hg
theorem results_cell_row_tmp2 {P : Program} {fn : Func} {p u v : Tmp} {ty : TypeId} (h : fn.results = #[.cell p ty, .tmp u, .tmp v]) (tmps : Array Value) (w : World) (g : Nat) (t : TypeId) (cs : Array Value) (fr : Nat × Nat) (d : TypeDesc)
    (hp : tmps.getD p undef = .pointer (some ⟨g, 0, none⟩)) (hg : w.heap[g]? = some (.cells cs t fr))
    (hu : P.underlying ty = some d) (hd : (match d with | .struct _ | .array _ _ => true | _ => false) = true) (hi : (P.info? ty).map (·.size) = some cs.size) :
    (results fn tmps).run P w = .ok (.tuple #[.agg cs, tmps.getD u undef, tmps.getD v undef]) w := by
  have hx : (results fn tmps).run P w = ((asAddr (tmps.getD p undef)).run P w).andThen fun a w₁ => ((loadVar ty a).run P w₁).andThen fun y w₂ => .ok (.tuple #[y, tmps.getD u undef, tmps.getD v undef]) w₂ := by
    simp only [results, h]
    simp [Sem.run_bind, Result.andThen]
  rw [hx, hp]
  simp [asAddr, run_loadVar_row w g t ty cs fr d hg hu hd hi]
end Go.Proofs.YtfaehioeepolhaaGreat
namespace Go.Proofs.YtfaehioeepolhaaGreat
open Go.RowKit
def fcAggI (lo : Nat) (e x : Int) (D : List Nat) : Fct := ⟨fun v w => ∃ a c, v = .agg #[.int .i64 e, .int .i64 x, .slice none 0 0, .slice a D.length c] ∧ w.ownsRow lo 5 1 (.slice a D.length c) D.length (byt D), fun _ _ _ ⟨a, c, e, h⟩ hb => ⟨a, c, e, own_later h hb⟩⟩
def fcNewI (lo : Nat) : Fct := ⟨fun v w => ∃ g, v = .pointer (some ⟨g, 0, none⟩) ∧ lo ≤ g ∧ w.heap[g]? = some (.cells #[.int .i64 0, .int .i64 0, .slice none 0 0, .slice none 0 0] 37 (0, 0)), fun _ _ _ ⟨g, e, l, h⟩ hb => ⟨g, e, l, (hb.block _ (Array.getElem?_eq_some_iff.1 h).1).trans h⟩⟩
def niH (lo : Nat) (e x : Int) (D : List Nat) (y : Nat → Bool) (t : Nat → Value) (w : World) : Prop := y 9 = true → ∃ g a c, t 8 = .pointer (some ⟨g, 0, none⟩) ∧ lo ≤ g ∧ w.heap[g]? = some (.cells #[.int .i64 e, .int .i64 x, .slice none 0 0, .slice a D.length c] 37 (0, 0)) ∧ w.ownsRow lo 5 1 (.slice a D.length c) D.length (byt D) ∧ ∀ x, (Value.slice a D.length c).ownBlock = some x → x ≠ g
set_option linter.unusedVariables false in
def niT (lo gO : Nat) (e x : Int) (pv : Value) (D : List Nat) : Nat → FX
  | 0 => FX.eq (.pointer (some ⟨gO, 0, none⟩))
  | 1 => FX.eq (.int .i64 e)
  | 2 => FX.eq (.pointer (some ⟨gO, 1, none⟩))
  | 3 => FX.eq (.int .i64 x)
  | 4 => FX.eq (.pointer (some ⟨gO, 3, none⟩))
  | 5 => FX.eq (pv)
  | 6 => FX.pre [9] (fcRowD lo D)
  | 7 => FX.pre [9] (fcAggI lo e x D)
  | 8 => FX.pre [9] (fcNewI lo)
  | 9 => FX.is Fct.any
  | _ => FX.eq undef
def InBox (B gm : Nat) (e x : Int) (pv : Value) (D us : List Nat) (xs : List PP) (w : World) : Prop :=
  ∃ a c bs, w.heap[gm]? = some (.cells #[.int .i64 e, .int .i64 x, .slice a xs.length c, pv] 37 (0, 0)) ∧ OwnSl cByte 5 w D pv us ∧ OwnSl cPkt 120 w xs (.slice a xs.length c) bs ∧ bs.Nodup ∧ (∀ b ∈ bs, B ≤ b) ∧ B ≤ w.heap.size
theorem InBox.later {B gm : Nat} {e x : Int} {pv : Value} {D us : List Nat} {xs : List PP} {w w' : World} (h : InBox B gm e x pv D us xs w) (hb : Below w.heap.size w w') : InBox B gm e x pv D us xs w' := by
  obtain ⟨a, c, bs, h1, h0, h2, h3, h4, h5⟩ := h
  exact ⟨a, c, bs, (hb.block _ (Array.getElem?_eq_some_iff.1 h1).1).trans h1, h0.kept (fun b hm => hb.block b (h0.lt b hm)), h2.kept (fun b hm => hb.block b (h2.lt b hm)), h3, h4, Nat.le_trans h5 hb.size⟩
def fcOneP (lo : Nat) (p : PP) : Fct := ⟨fun v w => ∃ g a c bk, v = .slice (some ⟨g, 0, none⟩) 1 1 ∧ w.heap[g]? = some (.cells #[.int .i64 p.kind, .int .i64 p.epoch, .int .i64 p.seq, .int .i64 p.count, .bool p.last, .slice a p.data.length c] 120 (0, 0)) ∧ OwnSl cByte 5 w p.data (.slice a p.data.length c) bk ∧ (∀ b ∈ bk, lo ≤ b) ∧ bk.Nodup,
  fun _ _ _ ⟨g, a, c, bk, e, h0, h1, h2, h3⟩ hb => ⟨g, a, c, bk, e, (hb.block _ (Array.getElem?_eq_some_iff.1 h0).1).trans h0, ownB_kept h1 hb, h2, h3⟩⟩
def fcGotP (B gm : Nat) (e x : Int) (pv : Value) (D us : List Nat) (acc : Value) (xs : List PP) : Fct := ⟨fun v w => w.heap[gm]? = some (.cells #[.int .i64 e, .int .i64 x, acc, pv] 37 (0, 0)) ∧ OwnSl cByte 5 w D pv us ∧ ∃ a c bs, v = .slice a xs.length c ∧ OwnSl cPkt 120 w xs (.slice a xs.length c) bs ∧ bs.Nodup ∧ (∀ b ∈ bs, B ≤ b) ∧ B ≤ w.heap.size,
  fun _ _ _ ⟨h1, h0, a, c, bs, e, h2, h3, h4, h5⟩ hb => ⟨(hb.block _ (Array.getElem?_eq_some_iff.1 h1).1).trans h1, h0.kept (fun b hm => hb.block b (h0.lt b hm)), a, c, bs, e, h2.kept (fun b hm => hb.block b (h2.lt b hm)), h3, h4, Nat.le_trans h5 hb.size⟩⟩
def fcPutP (B gm : Nat) (e x : Int) (pv : Value) (D us : List Nat) (xs : List PP) : Fct := ⟨fun _ w => InBox B gm e x pv D us xs w, fun _ _ _ h hb => h.later hb⟩
theorem inBox_put {B gm : Nat} {e x : Int} {pv acc : Value} {D us : List Nat} {xs : List PP} {w : World} {a : Option Addr} {c : Nat} {bs : List Nat} (h : w.heap[gm]? = some (.cells #[.int .i64 e, .int .i64 x, acc, pv] 37 (0, 0))) (h0 : OwnSl cByte 5 w D pv us) (ho : OwnSl cPkt 120 w xs (.slice a xs.length c) bs) (hn : bs.Nodup) (hb : ∀ b ∈ bs, B ≤ b) (h5 : B ≤ w.heap.size) (hg : gm < B) (hu : ∀ b ∈ us, b < B ∧ b ≠ gm) :
    InBox B gm e x pv D us xs (w.setCell ⟨gm, 2, none⟩ (.slice a xs.length c)) :=
  ⟨a, c, bs, heap_setCell_same _ _ 2 _ _ _ h, h0.kept (fun b hm => Below.heap_setCell _ ⟨gm, 2, none⟩ _ _ (hu b hm).2), ho.kept (fun b hm => Below.heap_setCell _ ⟨gm, 2, none⟩ _ _ (by have := hb b hm; simp only []; omega)), hn, hb, by simpa using h5⟩
set_option linter.unusedVariables false in
def shT (B lo gm gO bb off c n k : Nat) (p : PP) (an : Option Addr) (cn : Nat) (acc : Value) (e x : Int) (pv : Value) (D : List Nat) (us : List Nat) (xs : List PP) : Nat → FX
  | 0 => FX.eq (.pointer (some ⟨gm, 2, none⟩))
  | 1 => FX.eq (acc)
  | 2 => FX.eq (.pointer (some ⟨gO, 2, none⟩))
  | 3 => FX.eq (.slice (some ⟨bb, off, none⟩) n c)
  | 4 => FX.eq (.int .i64 (k : Int))
  | 5 => FX.eq (.pointer (some ⟨bb, off + k * 6, none⟩))
  | 6 => FX.eq (.agg #[.int .i64 p.kind, .int .i64 p.epoch, .int .i64 p.seq, .int .i64 p.count, .bool p.last, .slice an p.data.length cn])
  | 7 => FX.pre [9, 11] (fcPk lo p)
  | 8 => FX.pre [9, 11] (fcOneP lo p)
  | 9 => FX.pre [11] (fcGotP B gm e x pv D us acc (xs ++ [p]))
  | 10 => FX.eq (.pointer (some ⟨gm, 2, none⟩))
  | 11 => FX.is (fcPutP B gm e x pv D us (xs ++ [p]))
  | _ => FX.eq undef
end Go.Proofs.YtfaehioeepolhaaGreat
namespace Go.Proofs.YtfaehioeepolhaaGreat
open Go.RowKit
set_option maxRecDepth 100000 in
set_option maxHeartbeats 2000000 in
theorem l5packet_any (p : PP) (a : Option Addr) (c : Nat) (w : World) (hr : RdSl cByte w p.data (.slice a p.data.length c)) (hl : p.data.length ≤ 1048576) :
    Calls Tryz.prog 172 #[.agg #[.int .i64 p.kind, .int .i64 p.epoch, .int .i64 p.seq, .int .i64 p.count, .bool p.last, .slice a p.data.length c]] w fun e w' => ∃ a2 c2 bk, e = .returned (.agg #[.int .i64 p.kind, .int .i64 p.epoch, .int .i64 p.seq, .int .i64 p.count, .bool p.last, .slice a2 p.data.length c2]) ∧ OwnSl cByte 5 w' p.data (.slice a2 p.data.length c2) bk ∧ (∀ b ∈ bk, w.heap.size ≤ b) ∧ bk.Nodup ∧ Below w.heap.size w w' := by
  have HR := hid hr
  have HBY : Hid (∀ x ∈ p.data, x < 256) := hid (by obtain ⟨_, _, _, _, _, _, _, h⟩ := hr.bytes; exact h)
  clear hr
  go_enter Tryz.func172, Tryz.ntmps172
  go_wp2_with fail
  refine (l1copy_any a c p.data _ (HR.out.later (below_new2 _ _ _)) hl).mono ?_
  rintro e w2 ⟨v2, rfl, o2, b2⟩
  obtain ⟨a2, c2, rfl, -⟩ := rd_own o2
  have hg := fun g h => own_in (g := g) o2 h
  rw [size2] at hg b2
  obtain ⟨k0, k1⟩ := heap2 _ _ b2
  have c00 := cell_of_row w2 _ 0 _ _ _ k0
  have f00 := frozen_of_row w2 _ 0 _ _ k0
  have c10 := cell_of_row w2 _ 0 _ _ _ k1
  have f10 := frozen_of_row w2 _ 0 _ _ k1
  have c01 := cell_of_row w2 _ 1 _ _ _ k0
  have f01 := frozen_of_row w2 _ 1 _ _ k0
  have c11 := cell_of_row w2 _ 1 _ _ _ k1
  have f11 := frozen_of_row w2 _ 1 _ _ k1
  have c02 := cell_of_row w2 _ 2 _ _ _ k0
  have f02 := frozen_of_row w2 _ 2 _ _ k0
  have c12 := cell_of_row w2 _ 2 _ _ _ k1
  have f12 := frozen_of_row w2 _ 2 _ _ k1
  have c03 := cell_of_row w2 _ 3 _ _ _ k0
  have f03 := frozen_of_row w2 _ 3 _ _ k0
  have c13 := cell_of_row w2 _ 3 _ _ _ k1
  have f13 := frozen_of_row w2 _ 3 _ _ k1
  have c04 := cell_of_row w2 _ 4 _ _ _ k0
  have f04 := frozen_of_row w2 _ 4 _ _ k0
  have c14 := cell_of_row w2 _ 4 _ _ _ k1
  have f14 := frozen_of_row w2 _ 4 _ _ k1
  have c05 := cell_of_row w2 _ 5 _ _ _ k0
  have f05 := frozen_of_row w2 _ 5 _ _ k0
  have c15 := cell_of_row w2 _ 5 _ _ _ k1
  have f15 := frozen_of_row w2 _ 5 _ _ k1
  simp only [List.getElem?_toArray, List.getElem?_cons_zero, List.getElem?_cons_succ] at c00 c10 c01 c11 c02 c12 c03 c13 c04 c14 c05 c15
  have K1 := hid k1
  have HB : Hid (Below w.heap.size w w2) := hid ((below_new2 w _ _).trans (b2.mono (by omega)))
  have HO := hid (ownSl_bytes o2 HBY.out)
  have HG : Hid (∀ b ∈ (Value.slice a2 p.data.length c2).ownBlock.toList, w.heap.size + 2 ≤ b) := hid (fun b hb => (hg b (by simpa using hb)).1)
  have HN : Hid ((Value.slice a2 p.data.length c2).ownBlock.toList.Nodup) := hid (by cases (Value.slice a2 p.data.length c2).ownBlock <;> simp)
  generalize (Value.slice a2 p.data.length c2).ownBlock.toList = bk at *
  have h01 : w.heap.size + 1 ≠ w.heap.size := by omega
  clear k0 k1 b2 o2 hg
  go_wp2
  refine bodyPost_ret (results_cell_row rfl _ _ (w.heap.size + 1) 120 #[.int .i64 p.kind, .int .i64 p.epoch, .int .i64 p.seq, .int .i64 p.count, .bool p.last, .slice a2 p.data.length c2] (0, 0) _ rfl (set6 ((Below.heap_setCell _ ⟨w.heap.size, 5, none⟩ _ _ h01).trans K1.out)) Tryz.underlying120 rfl (by kernel_rfl)) rfl ?_
  refine ⟨a2, c2, bk, rfl, HO.out.kept (fun b hb => ?_), fun b hb => by have := HG.out b hb; omega, HN.out, set6b (HB.out.setCell (p := ⟨w.heap.size, 5, none⟩) (by simp only []; omega) _) (by omega)⟩
  have := HG.out b hb
  exact (set6o (by omega)).trans (Below.heap_setCell _ ⟨w.heap.size, 5, none⟩ _ _ (by simp only []; omega))
end Go.Proofs.YtfaehioeepolhaaGreat
