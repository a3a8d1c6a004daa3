import Derived.Test.YtcljakdcejhfiadJLinkTick29
namespace Go.Proofs.Ytcljakdcejhfiad
open Go.RowKit
theorem infoTk : (Try.prog.info? 69).map (fun i => (i.zero, i.size, i.bytes)) = some (some (.slice none 0 0), 1, 24) := by kernel_rfl
def TSt (V1 : World) (gm : Nat) (o : PO) (t : Int) (a2 : Option Addr) (c2 : Nat) (bs : List Nat) (k : Nat) (v : Value) (w : World) : Prop :=
  w.heap[gm]? = some (.cells #[.int .i64 o.epoch, .int .i64 o.next, .int .i64 t, .slice a2 o.wait.length c2] 44 (0, 0)) ∧ OwnSl cSnt 101 w (tickK o t k) (.slice a2 o.wait.length c2) bs ∧ (∃ us, OwnSl cSS 69 w (gramK o t k) v us ∧ us.Nodup ∧ ∀ b ∈ us, gm < b) ∧ Below V1.heap.size V1 w
theorem TSt.later {V1 : World} {gm : Nat} {o : PO} {t : Int} {a2 : Option Addr} {c2 : Nat} {bs : List Nat} {k : Nat} {v : Value} {w w' : World} (h : TSt V1 gm o t a2 c2 bs k v w) (hb : Below w.heap.size w w') : TSt V1 gm o t a2 c2 bs k v w' := by
  obtain ⟨h1, h2, ⟨us, h3, h4, h5⟩, h6⟩ := h
  exact ⟨(hb.block _ (Array.getElem?_eq_some_iff.1 h1).1).trans h1, h2.kept (fun b hm => hb.block b (h2.lt b hm)), ⟨us, h3.kept (fun b hm => hb.block b (h3.lt b hm)), h4, h5⟩, below_chain h6 hb⟩
theorem TSt.skip {V1 : World} {gm : Nat} {o : PO} {t : Int} {a2 : Option Addr} {c2 : Nat} {bs : List Nat} {k : Nat} {v : Value} {w : World} (h : TSt V1 gm o t a2 c2 bs k v w) (hlt : k < o.wait.length) (hd : dueB t o.wait[k] = false) : TSt V1 gm o t a2 c2 bs (k + 1) v w := by
  obtain ⟨h1, h2, h3, h6⟩ := h
  exact ⟨h1, by rw [tickK_no o t k hlt hd]; exact h2, by rw [gramK_no o t k hlt hd]; exact h3, h6⟩
theorem TSt.here {V1 : World} {gm : Nat} {o : PO} {t : Int} {a2 : Option Addr} {c2 : Nat} {bs : List Nat} {k : Nat} {v : Value} {w : World} (h : TSt V1 gm o t a2 c2 bs k v w) (hnd : bs.Nodup) (hlt : k < o.wait.length) :
    ∃ g a c, a2 = some ⟨g, 0, none⟩ ∧ g ∈ bs ∧ (∀ j, w.frozen? ⟨g, j, none⟩ = false) ∧ (∀ j, j < 7 → w.cell? ⟨g, k * 7 + j, none⟩ = [.int .i64 o.wait[k].pkt.kind, .int .i64 o.wait[k].pkt.epoch, .int .i64 o.wait[k].pkt.seq, .int .i64 o.wait[k].pkt.count, .bool o.wait[k].pkt.last, .slice a o.wait[k].pkt.data.length c, .int .i64 o.wait[k].at_][j]?) ∧ RdSl cByte w o.wait[k].pkt.data (.slice a o.wait[k].pkt.data.length c) := by
  obtain ⟨-, h2, -, -⟩ := h
  have hk : k < (tickK o t k).length := by rw [tickK_len o t k (by omega)]; exact hlt
  obtain ⟨g, cap, cs, bk, hv, hc, -, -, -, hcell, -⟩ := h2.focus2 hnd hk
  rw [tickK_at o t k hlt] at hc
  obtain ⟨a, c, rfl, hd, -, -⟩ := cSnt_owned hc
  simp only [Value.slice.injEq] at hv
  obtain ⟨rfl, -, rfl⟩ := hv
  refine ⟨g, a, c, rfl, own_block_mem h2 rfl, fun j => ?_, fun j hj => by have := hcell j hj; rw [show cSnt.n = 7 from rfl] at this; exact this, hd.rd⟩
  exact h2.frozenAt j
theorem TSt.send {V1 : World} {gm : Nat} {o : PO} {t : Int} {a2 : Option Addr} {c2 : Nat} {bs : List Nat} {k : Nat} {v : Value} {wr wq W2 : World} (h : TSt V1 gm o t a2 c2 bs k v wr) (hq : Below wr.heap.size wr wq) (hlt : k < o.wait.length) (hd : dueB t o.wait[k] = true) (hnd : bs.Nodup) (hb : ∀ b ∈ bs, V1.heap.size ≤ b ∧ b < gm) (hgm : V1.heap.size ≤ gm) (hti : IntIn t)
    {g : Nat} (ha : a2 = some ⟨g, 0, none⟩) {aW : Option Addr} {cW : Nat} (hW : W2.ownsRow wq.heap.size 5 1 (.slice aW (pktR o.wait[k].pkt).length cW) (pktR o.wait[k].pkt).length (byt (pktR o.wait[k].pkt))) (hby : ∀ x ∈ pktR o.wait[k].pkt, x < 256) (b2 : Below wq.heap.size (wq.setCell ⟨g, k * 7 + 6, none⟩ (.int .i64 t)) W2) :
    ∃ vals, (W2.alloc (.cells #[.slice aW (pktR o.wait[k].pkt).length cW] 69)).ownsRow V1.heap.size 69 1 v (gramK o t k).length vals ∧
      ∀ g' cap' w9, w9.ownsRow V1.heap.size 69 1 (.slice (some ⟨g', 0, none⟩) ((gramK o t k).length + 1) cap') ((gramK o t k).length + 1) (vals ++ [.slice aW (pktR o.wait[k].pkt).length cW]) → (W2.alloc (.cells #[.slice aW (pktR o.wait[k].pkt).length cW] 69)).grownBy w9 v.ownBlock → (v.ownBlock = some g' ∨ g' = (W2.alloc (.cells #[.slice aW (pktR o.wait[k].pkt).length cW] 69)).heap.size) → TSt V1 gm o t a2 c2 bs (k + 1) (.slice (some ⟨g', 0, none⟩) ((gramK o t k).length + 1) cap') w9 := by
  obtain ⟨h1, h2, ⟨us, h3, h4, h5⟩, h6⟩ := h.later hq
  subst ha
  have hk : k < (tickK o t k).length := by rw [tickK_len o t k (by omega)]; exact hlt
  have hgb : g ∈ bs := own_block_mem h2 rfl
  have hst := h2.store hnd hk (k * 7 + 6) 6 [.int .i64 t] rfl (by show 6 + 1 ≤ 7; omega) ⟨o.wait[k].pkt, t⟩ (fun cs bk w' ho hk' => by
    rw [tickK_at o t k hlt] at ho
    obtain ⟨a1, c1, rfl, hd1, hin1, hat1⟩ := cSnt_owned ho
    exact cSnt_own (s := ⟨o.wait[k].pkt, t⟩) (hd1.kept hk') hin1 hti)
  rw [tickK_yes o t k hlt hd] at hst
  have hsq : ∀ x, x ≠ g → (wq.setCell ⟨g, k * 7 + 6, none⟩ (.int .i64 t)).heap[x]? = wq.heap[x]? := fun x hx => Below.heap_setCell _ ⟨g, k * 7 + 6, none⟩ _ _ hx
  have hsz : (wq.setCell ⟨g, k * 7 + 6, none⟩ (.int .i64 t)).heap.size = wq.heap.size := by simp
  have b2' : Below (wq.setCell ⟨g, k * 7 + 6, none⟩ (.int .i64 t)).heap.size (wq.setCell ⟨g, k * 7 + 6, none⟩ (.int .i64 t)) W2 := by rw [hsz]; exact b2
  have b3 := below_chain b2' (below_new1 W2 (.cells #[.slice aW (pktR o.wait[k].pkt).length cW] 69))
  rw [hsz] at b3
  have hgu : ∀ b ∈ us, b ≠ g := fun b hu e => by have := h5 b hu; have := (hb g hgb).2; omega
  have h3' : OwnSl cSS 69 (W2.alloc (.cells #[.slice aW (pktR o.wait[k].pkt).length cW] 69)) (gramK o t k) v us := h3.kept (fun b hu => (b3.block b (h3.lt b hu)).trans (hsq b (hgu b hu)))
  have h2' : OwnSl cSnt 101 (W2.alloc (.cells #[.slice aW (pktR o.wait[k].pkt).length cW] 69)) (tickK o t (k + 1)) (.slice (some ⟨g, 0, none⟩) o.wait.length c2) bs := hst.1.kept (fun b hm => b3.block b (h2.lt b hm))
  have h1' := (b3.block _ (Array.getElem?_eq_some_iff.1 h1).1).trans ((hsq gm (fun e => by have := (hb g hgb).2; omega)).trans h1)
  have hWo := (ownSl_bytes hW hby).kept (w' := W2.alloc (.cells #[.slice aW (pktR o.wait[k].pkt).length cW] 69)) (fun b hm => (below_new1 W2 _).block b ((ownSl_bytes hW hby).lt b hm))
  have hWl : ∀ b ∈ (Value.slice aW (pktR o.wait[k].pkt).length cW).ownBlock.toList, wq.heap.size ≤ b := fun b hm => (own_in hW (by simpa using hm)).1
  have hgl : gm < wq.heap.size := (Array.getElem?_eq_some_iff.1 h1).1
  have hVq := h6.size
  have h6' : Below V1.heap.size V1 (W2.alloc (.cells #[.slice aW (pktR o.wait[k].pkt).length cW] 69)) := (h6.setCell (p := ⟨g, k * 7 + 6, none⟩) (hb g hgb).1 _).trans (b3.mono hVq)
  obtain ⟨vals, ho, hgr⟩ := h3'.grow (B := V1.heap.size) (x := pktR o.wait[k].pkt) (cs := [.slice aW (pktR o.wait[k].pkt).length cW]) h4 (fun b hu => by have := h5 b hu; omega) h6'.size ⟨_, rfl, hWo⟩ (by cases (Value.slice aW (pktR o.wait[k].pkt).length cW).ownBlock <;> simp) (fun b hm => by have := hWl b hm; omega) (fun b hm hu => by have := hWl b hm; have := h3.lt b hu; omega)
  refine ⟨vals, ho, fun g' cap' w9 hown hgrow hat => ?_⟩
  obtain ⟨us9, q1, q2, q3⟩ := hgr g' cap' w9 hown hgrow hat
  have hvu : ∀ x, v.ownBlock = some x → x ∈ us := fun x hx => own_block_mem h3 hx
  rw [← gramK_yes o t k hlt hd] at q1
  have hl9 : (gramK o t (k + 1)).length = (gramK o t k).length + 1 := by rw [gramK_yes o t k hlt hd]; simp
  rw [hl9] at q1
  have hws : wq.heap.size ≤ (W2.alloc (.cells #[.slice aW (pktR o.wait[k].pkt).length cW] 69)).heap.size := by have := b3.size; rw [hsz] at this; exact this
  refine ⟨(hgrow.block _ (Array.getElem?_eq_some_iff.1 h1').1 (fun e => by have := h5 gm (hvu gm e.symm); omega)).trans h1', h2'.kept (fun b hm => hgrow.block b (h2'.lt b hm) (fun e => by have := h5 b (hvu b e.symm); have := (hb b hm).2; omega)), ⟨us9, q1, q2, fun b hm => ?_⟩, h6'.grown hgrow h6'.size (fun p hp => by have := h5 p (hvu p hp); omega)⟩
  rcases (q3 b hm).2 with h | h | h
  · exact h5 b h
  · have := hWl b h; omega
  · omega
theorem tick_rd {V1 : World} {gm : Nat} {o : PO} {t : Int} {g : Nat} {c2 : Nat} {bs : List Nat} {k : Nat} {v : Value} {wr wq : World} {a : Option Addr} {c : Nat} {u : Value} (h : TSt V1 gm o t (some ⟨g, 0, none⟩) c2 bs k v wr) (hnd : bs.Nodup) (_hb : ∀ b ∈ bs, V1.heap.size ≤ b ∧ b < gm) (hlt : k < o.wait.length) (hd5 : wr.cell? ⟨g, k * 7 + 5, none⟩ = some (.slice a o.wait[k].pkt.data.length c)) (_hg : g ∈ bs) (hq : Below wr.heap.size wr wq) : RdSl cByte (wq.setCell ⟨g, k * 7 + 6, none⟩ u) o.wait[k].pkt.data (.slice a o.wait[k].pkt.data.length c) := by
  obtain ⟨-, h2, -, -⟩ := h
  have hk : k < (tickK o t k).length := by rw [tickK_len o t k (by omega)]; exact hlt
  obtain ⟨g1, cap, cs, bk, hv, hc, -, -, hng, hcell, -⟩ := h2.focus2 hnd hk
  rw [tickK_at o t k hlt] at hc
  obtain ⟨a1, c1, rfl, hd, -, -⟩ := cSnt_owned hc
  simp only [Value.slice.injEq, Option.some.injEq, Addr.mk.injEq, and_true] at hv
  obtain ⟨rfl, -, rfl⟩ := hv
  have h5 := hcell 5 (by decide)
  rw [show cSnt.n = 7 from rfl, hd5] at h5
  simp only [List.getElem?_cons_zero, List.getElem?_cons_succ, Option.some.injEq, Value.slice.injEq, true_and] at h5
  obtain ⟨rfl, rfl⟩ := h5
  refine (hd.kept (fun b hm => (Below.heap_setCell _ ⟨g, k * 7 + 6, none⟩ _ _ (fun e => by simp only [] at e; subst e; exact hng hm)).trans (hq.block b (hd.lt b hm)))).rd
def StPost (w : World) (R : PO) (G : List (List Nat)) (C : Int) (e : Ending) (w' : World) : Prop :=
  ∃ a c v, e = .returned (.tuple #[.agg #[.int .i64 R.epoch, .int .i64 R.next, .int .i64 R.now, .slice a R.wait.length c], v, .int .i64 C]) ∧ RdSl cSnt w' R.wait (.slice a R.wait.length c) ∧ RdSl cSS w' G v ∧ Below w.heap.size w w'
def ItPost (w : World) (R : PO) (G : List (List Nat)) (C : Int) (e : Ending) (w' : World) : Prop :=
  ∃ a c v bs us, e = .returned (.tuple #[.agg #[.int .i64 R.epoch, .int .i64 R.next, .int .i64 R.now, .slice a R.wait.length c], v, .int .i64 C]) ∧ OwnSl cSnt 101 w' R.wait (.slice a R.wait.length c) bs ∧ OwnSl cSS 69 w' G v us ∧ bs.Nodup ∧ us.Nodup ∧ (∀ b ∈ bs, w.heap.size ≤ b ∧ b ∉ us) ∧ (∀ b ∈ us, w.heap.size ≤ b) ∧ Below w.heap.size w w'
theorem itPost_nil {w w' : World} {R : PO} {G : List (List Nat)} {C C' : Int} (hb : Below w.heap.size w w') (hp : R = noOut) (hG : G = []) (hC : C = C') : ItPost w R G C (.returned (.tuple #[.agg #[.int .i64 0, .int .i64 0, .int .i64 0, .slice none 0 0], .slice none 0 0, .int .i64 C'])) w' := by
  subst hp hC hG
  exact ⟨none, 0, _, [], [], rfl, .inl ⟨rfl, rfl, rfl⟩, .inl ⟨rfl, rfl, rfl⟩, by simp, by simp, by simp, by simp, hb⟩
end Go.Proofs.Ytcljakdcejhfiad
