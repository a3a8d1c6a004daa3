import Derived.Test.YtmaccmgmcahopaaJWindow32
namespace Go.Proofs.Ytmaccmgmcahopaa
open Go.RowKit
def TkGot (B gm : Nat) (e x : Int) (pv : Value) (pt : List Nat) (ms : List (List Nat)) (mv v : Value) (w : World) : Prop :=
  ∃ us vs, w.heap[gm]? = some (.cells #[.int .i64 e, .int .i64 x, .slice none 0 0, pv] 48 (0, 0)) ∧ OwnSl cByte 5 w pt v us ∧ OwnSl cSS 22 w ms mv vs ∧ (us ++ vs).Nodup ∧ ∀ b ∈ us ++ vs, B ≤ b ∧ b ≠ gm
theorem TkGot.later {B gm : Nat} {e x : Int} {pv : Value} {pt : List Nat} {ms : List (List Nat)} {mv v : Value} {w w' : World} (h : TkGot B gm e x pv pt ms mv v w) (hb : Below w.heap.size w w') : TkGot B gm e x pv pt ms mv v w' := by
  obtain ⟨us, vs, h1, h2, h3, h4, h5⟩ := h
  exact ⟨us, vs, (hb.block _ (Array.getElem?_eq_some_iff.1 h1).1).trans h1, h2.kept (fun b hm => hb.block b (h2.lt b hm)), h3.kept (fun b hm => hb.block b (h3.lt b hm)), h4, h5⟩
def fcTkGot (B gm : Nat) (e x : Int) (pv : Value) (pt : List Nat) (ms : List (List Nat)) (mv : Value) : Fct := ⟨fun v w => ∃ a c, v = .slice a pt.length c ∧ TkGot B gm e x pv pt ms mv v w, fun _ _ _ ⟨a, c, e, h⟩ hb => ⟨a, c, e, h.later hb⟩⟩
def TkSt (B gm : Nat) (e x : Int) (pt : List Nat) (ms : List (List Nat)) (mv : Value) (w : World) : Prop := ∃ a c, TkGot B gm e x (.slice a pt.length c) pt ms mv (.slice a pt.length c) w
theorem TkSt.later {B gm : Nat} {e x : Int} {pt : List Nat} {ms : List (List Nat)} {mv : Value} {w w' : World} (h : TkSt B gm e x pt ms mv w) (hb : Below w.heap.size w w') : TkSt B gm e x pt ms mv w' := by
  obtain ⟨a, c, h⟩ := h
  exact ⟨a, c, h.later hb⟩
def fcTkSt (B gm : Nat) (e x : Int) (pt : List Nat) (ms : List (List Nat)) (mv : Value) : Fct := ⟨fun _ w => TkSt B gm e x pt ms mv w, fun _ _ _ h hb => h.later hb⟩
theorem TkGot.put {B gm : Nat} {e x : Int} {pv : Value} {pt : List Nat} {ms : List (List Nat)} {mv : Value} {a : Option Addr} {c n : Nat} {w : World} (h : TkGot B gm e x pv pt ms mv (.slice a n c) w) (hn : n = pt.length) : TkSt B gm e x pt ms mv (w.setCell ⟨gm, 3, none⟩ (.slice a n c)) := by
  obtain ⟨us, vs, h1, h2, h3, h4, h5⟩ := h
  subst hn
  exact ⟨a, c, us, vs, heap_setCell_same _ _ 3 _ _ _ h1, h2.kept (fun b hm => Below.heap_setCell _ ⟨gm, 3, none⟩ _ _ (h5 b (List.mem_append_left _ hm)).2), h3.kept (fun b hm => Below.heap_setCell _ ⟨gm, 3, none⟩ _ _ (h5 b (List.mem_append_right _ hm)).2), h4, h5⟩
theorem TkSt.next {B gm : Nat} {e x : Int} {pt : List Nat} {ms : List (List Nat)} {mv : Value} {w : World} (h : TkSt B gm e x pt ms mv w) (y : Int) : TkSt B gm e y pt ms mv (w.setCell ⟨gm, 1, none⟩ (.int .i64 y)) := by
  obtain ⟨a, c, us, vs, h1, h2, h3, h4, h5⟩ := h
  exact ⟨a, c, us, vs, heap_setCell_same _ _ 1 _ _ _ h1, h2.kept (fun b hm => Below.heap_setCell _ ⟨gm, 1, none⟩ _ _ (h5 b (List.mem_append_left _ hm)).2), h3.kept (fun b hm => Below.heap_setCell _ ⟨gm, 1, none⟩ _ _ (h5 b (List.mem_append_right _ hm)).2), h4, h5⟩
theorem TkGot.row {B gm : Nat} {e x : Int} {pv : Value} {pt : List Nat} {ms : List (List Nat)} {mv v : Value} {w : World} (h : TkGot B gm e x pv pt ms mv v w) : w.ownsRow B 5 1 v pt.length (byt pt) ∧ ∀ x ∈ pt, x < 256 := by
  obtain ⟨us, vs, h1, h2, h3, h4, h5⟩ := h
  refine ⟨ownsRow_mono h2.bytes.1 (fun g hg => (h5 g (List.mem_append_left _ (own_block_mem h2 hg))).1), h2.bytes.2.2⟩
def AllSt (V1 : World) (xs : List PP) (v : Value) (w : World) : Prop := (∃ bs, OwnSl cPkt 35 w xs v bs ∧ bs.Nodup ∧ ∀ b ∈ bs, V1.heap.size ≤ b) ∧ Below V1.heap.size V1 w
theorem AllSt.later {V1 : World} {xs : List PP} {v : Value} {w w' : World} (h : AllSt V1 xs v w) (hb : Below w.heap.size w w') : AllSt V1 xs v w' := by
  obtain ⟨⟨bs, h1, h2, h3⟩, h4⟩ := h
  exact ⟨⟨bs, h1.kept (fun b hm => hb.block b (h1.lt b hm)), h2, h3⟩, below_chain h4 hb⟩
theorem AllSt.add {V1 : World} {xs : List PP} {v : Value} {wq w2 : World} (h : AllSt V1 xs v wq) (hq : Below wq.heap.size wq w2) {x : PP} {a2 : Option Addr} {c2 : Nat} {bk : List Nat} (ho : OwnSl cByte 5 w2 x.data (.slice a2 x.data.length c2) bk) (hl : ∀ b ∈ bk, wq.heap.size ≤ b) (hn : bk.Nodup) (hi : PPIn x) :
    ∃ vals, (w2.alloc (.cells #[.int .i64 x.kind, .int .i64 x.epoch, .int .i64 x.seq, .int .i64 x.count, .bool x.last, .slice a2 x.data.length c2] 35)).ownsRow V1.heap.size 35 6 v xs.length vals ∧
      ∀ g' cap' w9, w9.ownsRow V1.heap.size 35 6 (.slice (some ⟨g', 0, none⟩) (xs.length + 1) cap') (xs.length + 1) (vals ++ [.int .i64 x.kind, .int .i64 x.epoch, .int .i64 x.seq, .int .i64 x.count, .bool x.last, .slice a2 x.data.length c2]) → (w2.alloc (.cells #[.int .i64 x.kind, .int .i64 x.epoch, .int .i64 x.seq, .int .i64 x.count, .bool x.last, .slice a2 x.data.length c2] 35)).grownBy w9 v.ownBlock → (v.ownBlock = some g' ∨ g' = (w2.alloc (.cells #[.int .i64 x.kind, .int .i64 x.epoch, .int .i64 x.seq, .int .i64 x.count, .bool x.last, .slice a2 x.data.length c2] 35)).heap.size) →
        AllSt V1 (xs ++ [x]) (.slice (some ⟨g', 0, none⟩) (xs.length + 1) cap') w9 := by
  have hb1 := below_new1 w2 (.cells #[.int .i64 x.kind, .int .i64 x.epoch, .int .i64 x.seq, .int .i64 x.count, .bool x.last, .slice a2 x.data.length c2] 35)
  have h4 := ((h.later hq).later hb1).2
  have hsz := h4.size
  obtain ⟨⟨bsq, g1, g2, g3⟩, g4⟩ := h
  have k1 := (g1.kept (fun b hm => hq.block b (g1.lt b hm))).kept (fun b hm => hb1.block b (Nat.lt_of_lt_of_le (g1.lt b hm) hq.size))
  obtain ⟨vals, hv, hgr⟩ := k1.grow (B := V1.heap.size) (x := x) g2 g3 hsz (cPkt_own (p := x) (ho.kept (fun b hm => hb1.block b (ho.lt b hm))) hi) hn (fun b hb => Nat.le_trans g4.size (hl b hb)) (fun b hb hc => by have := g1.lt b hc; have := hl b hb; omega)
  refine ⟨vals, hv, fun g' cap' w9 hown hgrow hat => ?_⟩
  obtain ⟨bs9, q1, q2, q3⟩ := hgr g' cap' w9 hown hgrow hat
  have hlen : (xs ++ [x]).length = xs.length + 1 := by simp
  rw [hlen] at q1
  exact ⟨⟨bs9, q1, q2, fun b hb => (q3 b hb).1⟩, h4.grown hgrow hsz (fun y hy => g3 y (own_block_mem g1 hy))⟩
set_option linter.unusedVariables false in

def tkT (B gm bb off n c : Nat) (pv pd : Value) (e x : Int) (P : List Nat) (ms : List (List Nat)) (mv : Value) : Nat → FX
  | 0 => FX.eq (.pointer (some ⟨gm, 3, none⟩))
  | 1 => FX.eq pv
  | 2 => FX.eq (.slice (some ⟨bb, off, none⟩) n c)
  | 3 => FX.eq (.pointer (some ⟨bb, off, none⟩))
  | 4 => FX.eq (.pointer (some ⟨bb, off + 5, none⟩))
  | 5 => FX.eq pd
  | 6 => FX.pre [8] (fcTkGot B gm e x pv P ms mv)
  | 7 => FX.eq (.pointer (some ⟨gm, 3, none⟩))
  | 8 => FX.is (fcTkSt B gm e x P ms mv)
  | _ => FX.eq undef
end Go.Proofs.Ytmaccmgmcahopaa
