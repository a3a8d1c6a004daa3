import Derived.Test.YtfaehioeepolhaaJLinkTake30
namespace Go.Proofs.Ytfaehioeepolhaa
open Go.RowKit
theorem infoTs : (Try.prog.info? 23).map (fun i => (i.zero, i.size, i.bytes)) = some (some (.slice none 0 0), 1, 24) := by kernel_rfl
def TkGot (B gm : Nat) (e x : Int) (pv : Value) (pt : List Nat) (ms : List (List Nat)) (mv v : Value) (w : World) : Prop :=
  ∃ us vs, w.heap[gm]? = some (.cells #[.int .i64 e, .int .i64 x, .slice none 0 0, pv] 32 (0, 0)) ∧ OwnSl cByte 5 w pt v us ∧ OwnSl cSS 23 w ms mv vs ∧ (us ++ vs).Nodup ∧ ∀ b ∈ us ++ vs, B ≤ b ∧ b ≠ gm
theorem TkGot.later {B gm : Nat} {e x : Int} {pv : Value} {pt : List Nat} {ms : List (List Nat)} {mv v : Value} {w w' : World} (h : TkGot B gm e x pv pt ms mv v w) (hb : Below w.heap.size w w') : TkGot B gm e x pv pt ms mv v w' := by
  obtain ⟨us, vs, h1, h2, h3, h4, h5⟩ := h
  exact ⟨us, vs, (hb.block _ (Array.getElem?_eq_some_iff.1 h1).1).trans h1, h2.kept (fun b hm => hb.block b (h2.lt b hm)), h3.kept (fun b hm => hb.block b (h3.lt b hm)), h4, h5⟩
def fcTkGot (B gm : Nat) (e x : Int) (pv : Value) (pt : List Nat) (ms : List (List Nat)) (mv : Value) : Fct := ⟨fun v w => ∃ a c, v = .slice a pt.length c ∧ TkGot B gm e x pv pt ms mv v w, fun _ _ _ ⟨a, c, e, h⟩ hb => ⟨a, c, e, h.later hb⟩⟩
def TkSt (B gm : Nat) (e x : Int) (pt : List Nat) (ms : List (List Nat)) (mv : Value) (w : World) : Prop := ∃ a c, TkGot B gm e x (.slice a pt.length c) pt ms mv (.slice a pt.length c) w
theorem TkSt.later {B gm : Nat} {e x : Int} {pt : List Nat} {ms : List (List Nat)} {mv : Value} {w w' : World} (h : TkSt B gm e x pt ms mv w) (hb : Below w.heap.size w w') : TkSt B gm e x pt ms mv w' := by
  obtain ⟨a, c, h⟩ := h
  exact ⟨a, c, h.later hb⟩
def fcTkSt (B gm : Nat) (e x : Int) (pt : List Nat) (ms : List (List Nat)) (mv : Value) : Fct := ⟨fun _ w => TkSt B gm e x pt ms mv w, fun _ _ _ h hb => h.later hb⟩
theorem TkGot.put {B gm : Nat} {e x : Int} {pv : Value} {pt : List Nat} {ms : List (List Nat)} {mv : Value} {a : Option Addr} {c n : Nat} {w : World} (h : TkGot B gm e x pv pt ms mv (.slice a n c) w) (hn : n = pt.length) : TkSt B gm e x pt ms mv (w.setCell ⟨gm, 3, none⟩ (.slice a n c)) := by
  obtain ⟨us, vs, h1, h2, h3, h4, h5⟩ := h
  subst hn
  exact ⟨a, c, us, vs, heap_setCell_same _ _ 3 _ _ _ h1, h2.kept (fun b hm => Below.heap_setCell _ ⟨gm, 3, none⟩ _ _ (h5 b (List.mem_append_left _ hm)).2), h3.kept (fun b hm => Below.heap_setCell _ ⟨gm, 3, none⟩ _ _ (h5 b (List.mem_append_right _ hm)).2), h4, h5⟩
theorem TkSt.next {B gm : Nat} {e x : Int} {pt : List Nat} {ms : List (List Nat)} {mv : Value} {w : World} (h : TkSt B gm e x pt ms mv w) (y : Int) : TkSt B gm e y pt ms mv (w.setCell ⟨gm, 1, none⟩ (.int .i64 y)) := by
  obtain ⟨a, c, us, vs, h1, h2, h3, h4, h5⟩ := h
  exact ⟨a, c, us, vs, heap_setCell_same _ _ 1 _ _ _ h1, h2.kept (fun b hm => Below.heap_setCell _ ⟨gm, 1, none⟩ _ _ (h5 b (List.mem_append_left _ hm)).2), h3.kept (fun b hm => Below.heap_setCell _ ⟨gm, 1, none⟩ _ _ (h5 b (List.mem_append_right _ hm)).2), h4, h5⟩
theorem TkGot.row {B gm : Nat} {e x : Int} {pv : Value} {pt : List Nat} {ms : List (List Nat)} {mv v : Value} {w : World} (h : TkGot B gm e x pv pt ms mv v w) : w.ownsRow B 5 1 v pt.length (byt pt) ∧ ∀ x ∈ pt, x < 256 := by
  obtain ⟨us, vs, h1, h2, h3, h4, h5⟩ := h
  refine ⟨ownsRow_mono h2.bytes.1 (fun g hg => (h5 g (List.mem_append_left _ (own_block_mem h2 hg))).1), h2.bytes.2.2⟩
theorem TkGot.app {B gm : Nat} {e x : Int} {pv : Value} {pt D : List Nat} {ms : List (List Nat)} {mv v : Value} {w w' : World} {g n m cap : Nat} (h : TkGot B gm e x pv pt ms mv v w) (hD : ∀ x ∈ D, x < 256) (hn : n = pt.length) (hm : m = D.length) (hgm : gm < w.heap.size) (hB : B ≤ w.heap.size)
    (ho : w'.ownsRow B 5 1 (.slice (some ⟨g, 0, none⟩) (n + m) cap) (n + m) (byt pt ++ byt D)) (hg : w.grownBy w' v.ownBlock) (hat : v.ownBlock = some g ∨ g = w.heap.size) : TkGot B gm e x pv (pt ++ D) ms mv (.slice (some ⟨g, 0, none⟩) (n + m) cap) w' := by
  obtain ⟨us, vs, h1, h2, h3, h4, h5⟩ := h
  obtain ⟨hu, hv, hd⟩ := List.nodup_append.1 h4
  subst hn hm
  have hmem : ∀ y, v.ownBlock = some y → y ∈ us := fun y hy => own_block_mem h2 hy
  have o2 := ownSl_bytes (xs := pt ++ D) (w := w') (v := .slice (some ⟨g, 0, none⟩) (pt.length + D.length) cap) (by
    have := ownsRow_mono ho (B' := 0) (fun _ _ => Nat.zero_le _)
    simpa [byt] using this) (fun y hy => by
      rcases List.mem_append.1 hy with hy | hy
      · exact h2.bytes.2.2 y hy
      · exact hD y hy)
  have hgv : ∀ b ∈ vs, b ≠ g := fun b hb e => by
    subst e
    rcases hat with h | h
    · exact hd b (hmem b h) b hb rfl
    · have := h3.lt b hb; omega
  refine ⟨_, vs, (hg.block _ hgm (fun e => (h5 gm (List.mem_append_left _ (hmem gm e.symm))).2 rfl)).trans h1, o2, h3.kept (fun b hb => hg.block b (h3.lt b hb) (fun e => hd b (hmem b e.symm) b hb rfl)), ?_, ?_⟩
  · refine List.nodup_append.2 ⟨by simp [Value.ownBlock], hv, fun a ha b hb e => ?_⟩
    simp [Value.ownBlock] at ha
    subst ha
    exact hgv b hb e.symm
  · intro b hb
    rcases List.mem_append.1 hb with hb | hb
    · simp [Value.ownBlock] at hb
      subst hb
      rcases hat with h | h
      · exact h5 b (List.mem_append_left _ (hmem b h))
      · exact ⟨by omega, by omega⟩
    · exact h5 b (List.mem_append_right _ hb)
theorem TkGot.emit {B gm : Nat} {e x : Int} {pv : Value} {pt : List Nat} {ms : List (List Nat)} {mv : Value} {a : Option Addr} {c : Nat} {w : World} (h : TkGot B gm e x pv pt ms mv (.slice a pt.length c) w) (hB : B ≤ w.heap.size) (hgm : gm < w.heap.size) :
    ∃ vals, (w.alloc (.cells #[.slice a pt.length c] 23)).ownsRow B 23 1 mv ms.length vals ∧
      ∀ g' cap' w9, w9.ownsRow B 23 1 (.slice (some ⟨g', 0, none⟩) (ms.length + 1) cap') (ms.length + 1) (vals ++ [.slice a pt.length c]) → (w.alloc (.cells #[.slice a pt.length c] 23)).grownBy w9 mv.ownBlock → (mv.ownBlock = some g' ∨ g' = (w.alloc (.cells #[.slice a pt.length c] 23)).heap.size) →
        TkGot B gm e x pv [] (ms ++ [pt]) (.slice (some ⟨g', 0, none⟩) (ms.length + 1) cap') (.slice none 0 0) w9 := by
  obtain ⟨us, vs, h1, h2, h3, h4, h5⟩ := h
  obtain ⟨hu, hv, hd⟩ := List.nodup_append.1 h4
  have hb1 := below_new1 w (.cells #[.slice a pt.length c] 23)
  have h2' := h2.kept (w' := w.alloc (.cells #[.slice a pt.length c] 23)) (fun b hm => hb1.block b (h2.lt b hm))
  have h3' := h3.kept (w' := w.alloc (.cells #[.slice a pt.length c] 23)) (fun b hm => hb1.block b (h3.lt b hm))
  have h1' := (hb1.block _ hgm).trans h1
  have hsz : (w.alloc (.cells #[.slice a pt.length c] 23)).heap.size = w.heap.size + 1 := by simp
  obtain ⟨vals, ho, hgr⟩ := h3'.grow (B := B) (x := pt) (cs := [.slice a pt.length c]) (bk := us) hv (fun b hb => (h5 b (List.mem_append_right _ hb)).1) (by omega) ⟨_, rfl, h2'⟩ hu (fun b hb => (h5 b (List.mem_append_left _ hb)).1) (fun b hb hc => hd b hb b hc rfl)
  refine ⟨vals, ho, fun g' cap' w9 hown hgrow hat => ?_⟩
  obtain ⟨bs9, q1, q2, q3⟩ := hgr g' cap' w9 hown hgrow hat
  have hl : (ms ++ [pt]).length = ms.length + 1 := by simp
  rw [hl] at q1
  refine ⟨[], bs9, (hgrow.block _ (by omega) (fun e => (h5 gm (List.mem_append_right _ (own_block_mem h3 e.symm))).2 rfl)).trans h1', .inl ⟨rfl, rfl, rfl⟩, q1, by simpa using q2, fun b hb => ?_⟩
  have hb' : b ∈ bs9 := by simpa using hb
  refine ⟨(q3 b hb').1, fun e => ?_⟩
  subst e
  rcases (q3 b hb').2 with h | h | h
  · exact (h5 b (List.mem_append_right _ h)).2 rfl
  · exact (h5 b (List.mem_append_left _ h)).2 rfl
  · omega
def AllSt (V1 : World) (xs : List PP) (v : Value) (w : World) : Prop := (∃ bs, OwnSl cPkt 37 w xs v bs ∧ bs.Nodup ∧ ∀ b ∈ bs, V1.heap.size ≤ b) ∧ Below V1.heap.size V1 w
theorem AllSt.later {V1 : World} {xs : List PP} {v : Value} {w w' : World} (h : AllSt V1 xs v w) (hb : Below w.heap.size w w') : AllSt V1 xs v w' := by
  obtain ⟨⟨bs, h1, h2, h3⟩, h4⟩ := h
  exact ⟨⟨bs, h1.kept (fun b hm => hb.block b (h1.lt b hm)), h2, h3⟩, below_chain h4 hb⟩
theorem AllSt.add {V1 : World} {xs : List PP} {v : Value} {wq w2 : World} (h : AllSt V1 xs v wq) (hq : Below wq.heap.size wq w2) {x : PP} {a2 : Option Addr} {c2 : Nat} {bk : List Nat} (ho : OwnSl cByte 5 w2 x.data (.slice a2 x.data.length c2) bk) (hl : ∀ b ∈ bk, wq.heap.size ≤ b) (hn : bk.Nodup) (hi : PPIn x) :
    ∃ vals, (w2.alloc (.cells #[.int .i64 x.kind, .int .i64 x.epoch, .int .i64 x.seq, .int .i64 x.count, .bool x.last, .slice a2 x.data.length c2] 37)).ownsRow V1.heap.size 37 6 v xs.length vals ∧
      ∀ g' cap' w9, w9.ownsRow V1.heap.size 37 6 (.slice (some ⟨g', 0, none⟩) (xs.length + 1) cap') (xs.length + 1) (vals ++ [.int .i64 x.kind, .int .i64 x.epoch, .int .i64 x.seq, .int .i64 x.count, .bool x.last, .slice a2 x.data.length c2]) → (w2.alloc (.cells #[.int .i64 x.kind, .int .i64 x.epoch, .int .i64 x.seq, .int .i64 x.count, .bool x.last, .slice a2 x.data.length c2] 37)).grownBy w9 v.ownBlock → (v.ownBlock = some g' ∨ g' = (w2.alloc (.cells #[.int .i64 x.kind, .int .i64 x.epoch, .int .i64 x.seq, .int .i64 x.count, .bool x.last, .slice a2 x.data.length c2] 37)).heap.size) →
        AllSt V1 (xs ++ [x]) (.slice (some ⟨g', 0, none⟩) (xs.length + 1) cap') w9 := by
  have hb1 := below_new1 w2 (.cells #[.int .i64 x.kind, .int .i64 x.epoch, .int .i64 x.seq, .int .i64 x.count, .bool x.last, .slice a2 x.data.length c2] 37)
  have h4 := ((h.later hq).later hb1).2
  have hsz := h4.size
  obtain ⟨⟨bsq, g1, g2, g3⟩, g4⟩ := h
  have k1 := (g1.kept (fun b hm => hq.block b (g1.lt b hm))).kept (fun b hm => hb1.block b (Nat.lt_of_lt_of_le (g1.lt b hm) hq.size))
  obtain ⟨vals, hv, hgr⟩ := k1.grow (B := V1.heap.size) (x := x) g2 g3 hsz (cPkt_own (p := x) (ho.kept (fun b hm => hb1.block b (ho.lt b hm))) hi) hn (fun b hb => Nat.le_trans g4.size (hl b hb)) (fun b hb hc => by have := g1.lt b hc; have := hl b hb; omega)
  refine ⟨vals, hv, fun g' cap' w9 hown hgrow hat => ?_⟩
  obtain ⟨bs9, q1, q2, q3⟩ := hgr g' cap' w9 hown hgrow hat
  have hlen : (xs ++ [x]).length = xs.length + 1 := by simp
  rw [hlen] at q1
  exact ⟨⟨bs9, q1, q2, fun b hb => (q3 b hb).1⟩, h4.grown hgrow hsz (fun y hy => g3 y (own_block_mem g1 hy))⟩
theorem RdSl.rest1 {α : Type} {c : Cod α} {w : World} {xs : List α} {b off n cap : Nat} {a' : Option Addr} (h : RdSl c w xs (.slice (some ⟨b, off, none⟩) n cap)) (hn : 0 < xs.length) (ha : ¬ cap = 1 → a' = some ⟨b, off + c.n, none⟩) : RdSl c w (xs.drop 1) (.slice a' (n - 1) (cap - 1)) := by
  obtain ⟨a1, cap1, e, h1, h2, h3, h4⟩ := h
  simp only [Value.slice.injEq] at e
  obtain ⟨rfl, rfl, rfl⟩ := e
  refine ⟨a', cap - 1, by simp, by simp; omega, by omega, fun hnn => ?_, ?_⟩
  · by_cases hc : cap = 1
    · omega
    · rw [ha hc] at hnn; cases hnn
  · by_cases hc : cap = 1
    · exact .inl (List.drop_eq_nil_of_le (by omega))
    · refine .inr ⟨b, off + c.n, ha hc, fun i hi => ?_⟩
      rcases h4 with h0 | ⟨b1, off1, e1, hat⟩
      · subst h0; simp at hn
      · simp only [Option.some.injEq, Addr.mk.injEq, and_true] at e1
        obtain ⟨rfl, rfl⟩ := e1
        have hi' : i + 1 < xs.length := by simp at hi; omega
        obtain ⟨es, he, hcs⟩ := hat (i + 1) hi'
        refine ⟨es, by simpa using he, fun j hj => ?_⟩
        have := hcs j hj
        rw [show off + c.n + (i * c.n + j) = off + ((i + 1) * c.n + j) from by rw [Nat.add_mul, Nat.one_mul]; omega]
        exact this
theorem dat_cells {w : World} {xs : List Nat} {a : Option Addr} {n c : Nat} (h : RdSl cByte w xs (.slice a n c)) (hp : 1 ≤ xs.length) : ∃ ad, a = some ad ∧ ∀ j u, (byt xs)[j]? = some u → w.cell? (ad.add j) = some u := by
  obtain ⟨a', c', e, -, -, -, hr, -⟩ := h.bytes
  simp only [Value.slice.injEq] at e
  obtain ⟨rfl, -, -⟩ := e
  rcases hr with h0 | ⟨b, off, rfl, hc⟩
  · have : xs = [] := by simpa [byt] using h0
    subst this; simp at hp
  · refine ⟨_, rfl, fun j u hu => ?_⟩
    obtain ⟨hj, e⟩ := List.getElem?_eq_some_iff.1 hu
    rw [addr_add0, hc j hj, e]
set_option linter.unusedVariables false in

def tkT (B gm bb off n c : Nat) (pv pd : Value) (e x : Int) (P : List Nat) (ms : List (List Nat)) (mv : Value) : Nat → FX
  | 0 => FX.eq (.pointer (some ⟨gm, 3, none⟩))
  | 1 => FX.eq pv
  | 2 => FX.eq (.slice (some ⟨bb, off, none⟩) n c)
  | 3 => FX.eq (.pointer (some ⟨bb, off, none⟩))
  | 4 => FX.eq (.pointer (some ⟨bb, off + 5, none⟩))
  | 5 => FX.eq pd
  | 6 => FX.pre [8] (fcTkGot B gm e x pv P ms mv)
  | 7 => FX.eq (.pointer (some ⟨gm, 3, none⟩))
  | 8 => FX.is (fcTkSt B gm e x P ms mv)
  | _ => FX.eq undef
def slLen : Value → Nat
  | .slice _ n _ => n
  | _ => 0
def SkPost2 (w : World) (R : PI) (G : List (List Nat)) (C : Int) (e : Ending) (w' : World) : Prop :=
  ∃ a c b d v, e = .returned (.tuple #[.agg #[.int .i64 R.epoch, .int .i64 R.expect, .slice a R.held.length c, .slice b R.part.length d], v, .int .i64 C]) ∧ (∀ W : World, (∀ x, w.heap.size ≤ x → x < w'.heap.size → W.heap[x]? = w'.heap[x]?) → RdIn W R a c b d ∧ RdSl cSS W G v) ∧ Below w.heap.size w w'
theorem set4_size {w : World} {g : Nat} {x0 x1 x2 x3 : Value} : ((((w.setCell ⟨g, 0, none⟩ x0).setCell ⟨g, 1, none⟩ x1).setCell ⟨g, 2, none⟩ x2).setCell ⟨g, 3, none⟩ x3).heap.size = w.heap.size := by simp
def IkPost (w : World) (R : PI) (G : List (List Nat)) (C : Int) (e : Ending) (w' : World) : Prop :=
  ∃ a c b d v bs ds us, e = .returned (.tuple #[.agg #[.int .i64 R.epoch, .int .i64 R.expect, .slice a R.held.length c, .slice b R.part.length d], v, .int .i64 C]) ∧ OwnIn w' R a c b d bs ds ∧ OwnSl cSS 23 w' G v us ∧ (bs ++ (ds ++ us)).Nodup ∧ (∀ x ∈ bs ++ (ds ++ us), w.heap.size ≤ x) ∧ Below w.heap.size w w'
theorem IkPost.sk {w : World} {R : PI} {G : List (List Nat)} {C : Int} {e : Ending} {w' : World} (h : IkPost w R G C e w') : SkPost2 w R G C e w' := by
  obtain ⟨a, c, b, d, v, bs, ds, us, rfl, h1, h2, h3, h4, h5⟩ := h
  refine ⟨a, c, b, d, v, rfl, fun W hW => ⟨⟨(h1.f.kept (fun x hx => hW x (h4 x (List.mem_append_left _ hx)) (h1.f.lt x hx))).rd, (h1.t.kept (fun x hx => hW x (h4 x (List.mem_append_right _ (List.mem_append_left _ hx))) (h1.t.lt x hx))).rd⟩, (h2.kept (fun x hx => hW x (h4 x (List.mem_append_right _ (List.mem_append_right _ hx))) (h2.lt x hx))).rd⟩, h5⟩
end Go.Proofs.Ytfaehioeepolhaa
