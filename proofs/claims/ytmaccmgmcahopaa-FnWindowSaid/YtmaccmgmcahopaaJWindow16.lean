import Derived.Test.YtmaccmgmcahopaaJWindow10
import Derived.Test.YtmaccmgmcahopaaJWindow15
import Derived.Test.YtmaccmgmcahopaaJWindow14
import Derived.Test.YtmaccmgmcahopaaJWindow6
namespace Go.Proofs.Ytmaccmgmcahopaa
open Go.RowKit
def dPush (o : PO) (m : List Nat) : PO := if pushC o m = 0 then pushO o m else o
def dTick (o : PO) : PO := if tickC o = 0 then tickO o else o
def dTicks : Nat → PO → PO
  | 0, o => o
  | n + 1, o => dTick (dTicks n o)
def dAckQ (o : PO) : Int := o.next - ((o.wait.length / 2 : Nat) : Int)
def dAck (v : Nat) (o : PO) : PO := if v % 5 = 1 then (if ackC o (dAckQ o) = 0 then ackO o (dAckQ o) else o) else o
def dV (xs : List Nat) (j : Nat) : Nat := nxt xs (j + 1 + nxt xs j % 16)
def dMsg (xs : List Nat) (j : Nat) : List Nat := if dV xs j % 3 = 0 then List.replicate (1 + dV xs j * 3) (dV xs j) else 1 :: drawn xs j 16
def dOne (xs : List Nat) (s : PO × Nat) : PO × Nat := (dAck (dV xs s.2) (dTicks (dV xs s.2 % 4) (dPush s.1 (dMsg xs s.2))), s.2 + 1 + nxt xs s.2 % 16 + 1)
def dO0 (k : Nat) : PO := ⟨1 + ((k % 3 : Nat) : Int), if k = 250 then 999999999995 else ((k % 7 : Nat) : Int), if k = 251 then 999999999 else ((k % 20 : Nat) : Int), []⟩
def dIter (xs : List Nat) (s : PO × Nat) : Nat → PO × Nat
  | 0 => s
  | n + 1 => dOne xs (dIter xs s n)
def dOut (xs : List Nat) (j : Nat) : PO × Nat := dIter xs (dO0 (nxt xs j), j + 1 + 1) (nxt xs (j + 1) % 4)
theorem dMsg_lt {xs : List Nat} (h : ∀ x ∈ xs, x < 256) (j : Nat) : (∀ x ∈ dMsg xs j, x < 256) ∧ (dMsg xs j).length ≤ 1000 := by
  have hv : dV xs j < 256 := nxt_lt h _
  unfold dMsg
  split
  · exact ⟨fun x hx => by rw [List.eq_of_mem_replicate hx]; exact hv, by rw [List.length_replicate]; omega⟩
  · refine ⟨fun x hx => ?_, by rw [List.length_cons, drawn_len]; omega⟩
    rcases List.mem_cons.1 hx with rfl | hx
    · omega
    · exact drawn_lt h j 16 x hx
theorem ackO_tot {o : PO} {q : Int} (h : totL wN o.wait ≤ 1048576) : totL wN (ackO o q).wait ≤ 1048576 := by
  unfold ackO
  split
  · unfold totL at *
    dsimp only
    have h1 : ((o.wait.drop (ackD o q)).map wN).sum ≤ (o.wait.map wN).sum := by
      conv => rhs; rw [← List.take_append_drop (ackD o q) o.wait]
      rw [List.map_append, List.sum_append]
      omega
    have h2 : (o.wait.drop (ackD o q)).length ≤ o.wait.length := by rw [List.length_drop]; omega
    omega
  · simp [noOut, totL]
def NxOK (o : PO) : Prop := 0 ≤ o.next ∧ o.next ≤ 1000000000000 ∧ 1 ≤ o.epoch ∧ o.epoch ≤ 3 ∧ 0 ≤ o.now ∧ o.now ≤ 1000000000
theorem dPush_nx {o : PO} {m : List Nat} (h : NxOK o) : NxOK (dPush o m) := by
  unfold dPush
  split
  · rename_i hc
    unfold pushC at hc
    split at hc
    · rename_i h1
      split at hc
      · omega
      · rename_i h2
        split at hc
        · omega
        · rename_i h3
          rw [(push_yes h1 h2 h3).1]
          unfold PushEnd at h3
          unfold NxOK at *
          dsimp only
          omega
    · omega
  · exact h
theorem dTick_nx {o : PO} (h : NxOK o) : NxOK (dTick o) := by
  unfold dTick
  split
  · rename_i hc
    unfold tickC at hc
    split at hc
    · rename_i h1
      split at hc
      · omega
      · rename_i h2
        rw [(tick_yes h1 h2).1]
        unfold NxOK at *
        dsimp only
        omega
    · omega
  · exact h
theorem dTicks_nx {o : PO} (h : NxOK o) : ∀ n, NxOK (dTicks n o)
  | 0 => h
  | n + 1 => dTick_nx (dTicks_nx h n)
theorem dAck_nx {o : PO} {v : Nat} (h : NxOK o) : NxOK (dAck v o) := by
  unfold dAck
  split
  · split
    · rename_i hc
      unfold ackC at hc
      split at hc
      · rename_i h1
        rw [(ack_yes h1).1]
        exact h
      · omega
    · exact h
  · exact h
theorem dIter_nx {xs : List Nat} {s : PO × Nat} (h : NxOK s.1) : ∀ n, NxOK (dIter xs s n).1
  | 0 => h
  | n + 1 => dAck_nx (dTicks_nx (dPush_nx (dIter_nx h n)) _)
theorem dO0_nx (k : Nat) : NxOK (dO0 k) := by
  unfold NxOK dO0
  dsimp only
  refine ⟨?_, ?_, by omega, by omega, ?_, ?_⟩ <;> split <;> omega
theorem dOut_nx (xs : List Nat) (j : Nat) : NxOK (dOut xs j).1 := dIter_nx (dO0_nx _) _
structure DoF (w : World) (gR go : Nat) (A : List Nat) (a : Option Addr) (c : Nat) (xs : List Nat) (j : Nat) (o : PO) (ao : Option Addr) (co : Nat) (bs : List Nat) (wr : World) : Prop where
  bx : wr.heap[go]? = some (.cells #[.int .i64 o.epoch, .int .i64 o.next, .int .i64 o.now, .slice ao o.wait.length co] 30 (0, 0))
  own : OwnSl cSnt 63 wr o.wait (.slice ao o.wait.length co) bs
  nd : bs.Nodup
  far : ∀ b ∈ bs, w.heap.size ≤ b ∧ b ≠ go ∧ b ∉ A
  rdr : Rdr wr gR a c xs j
  gro : w.grownBy wr (some gR)
  tot : totL wN o.wait ≤ 1048576
  al : ∀ g ∈ A, w.heap.size ≤ g ∧ g < wr.heap.size ∧ g ≠ go
  lo : w.heap.size ≤ go
  lr : gR < w.heap.size
  hab : ∀ x, a = some x → xs ≠ [] → x.block < w.heap.size
def DoSt (w : World) (gR go : Nat) (A : List Nat) (a : Option Addr) (c : Nat) (xs : List Nat) (j : Nat) (o : PO) (wr : World) : Prop := ∃ ao co bs, DoF w gR go A a c xs j o ao co bs wr
theorem grown_later {w wr w' : World} {g : Option Nat} (h : w.grownBy wr g) (hb : Below wr.heap.size wr w') : w.grownBy w' g := ⟨hb.os.trans h.os, hb.tape.trans h.tape, hb.output.trans h.output, Nat.le_trans h.size hb.size, fun i hi hne => (hb.block i (Nat.lt_of_lt_of_le hi h.size)).trans (h.block i hi hne)⟩
theorem rdr_later {wr w' : World} {gR c j : Nat} {a : Option Addr} {xs : List Nat} (h : Rdr wr gR a c xs j) (hb : Below wr.heap.size wr w') : Rdr w' gR a c xs j := ⟨(hb.block gR (lt_of_block h.cells)).trans h.cells, h.rd.later hb, h.apart⟩
theorem set4_grown (w : World) (g : Nat) (x y z u : Value) : w.grownBy ((((w.setCell ⟨g, 0, none⟩ x).setCell ⟨g, 1, none⟩ y).setCell ⟨g, 2, none⟩ z).setCell ⟨g, 3, none⟩ u) (some g) :=
  (((set_grown w g 0 x).trans (set_grown _ g 1 y)).trans (set_grown _ g 2 z)).trans (set_grown _ g 3 u)
section
variable {w wr w' : World} {gR go c j : Nat} {A : List Nat} {a : Option Addr} {xs : List Nat} {o : PO}
theorem DoSt.later (h : DoSt w gR go A a c xs j o wr) (hb : Below wr.heap.size wr w') : DoSt w gR go A a c xs j o w' := by
  obtain ⟨ao, co, bs, h⟩ := h
  exact ⟨ao, co, bs, (hb.block _ (Array.getElem?_eq_some_iff.1 h.bx).1).trans h.bx, h.own.kept (fun b hm => hb.block b (h.own.lt b hm)), h.nd, h.far, rdr_later h.rdr hb, grown_later h.gro hb, h.tot, fun g hg => ⟨(h.al g hg).1, Nat.lt_of_lt_of_le (h.al g hg).2.1 hb.size, (h.al g hg).2.2⟩, h.lo, h.lr, h.hab⟩
theorem DoSt.next (h : DoSt w gR go A a c xs j o wr) {j' : Nat} (hr : Rdr w' gR a c xs j') (hg : wr.grownBy w' (some gR)) : DoSt w gR go A a c xs j' o w' := by
  obtain ⟨ao, co, bs, h⟩ := h
  have hlr := h.lr
  have hlo := h.lo
  exact ⟨ao, co, bs, (hg.block _ (Array.getElem?_eq_some_iff.1 h.bx).1 (fun e => by simp at e; omega)).trans h.bx, h.own.kept (fun b hm => hg.block b (h.own.lt b hm) (fun e => by simp at e; have := (h.far b hm).1; omega)), h.nd, h.far, hr, grown_next h.gro hg (fun p hp => by simp at hp; omega), h.tot, fun g hm => ⟨(h.al g hm).1, Nat.lt_of_lt_of_le (h.al g hm).2.1 hg.size, (h.al g hm).2.2⟩, hlo, hlr, h.hab⟩
theorem DoSt.fresh (h : DoSt w gR go A a c xs j o wr) {b : Nat} (hb : wr.heap.size ≤ b) : w.heap.size ≤ b ∧ b ≠ go ∧ b ∉ A := by
  obtain ⟨ao, co, bs, h⟩ := h
  have h1 := (Array.getElem?_eq_some_iff.1 h.bx).1
  have h2 := h.gro.size
  exact ⟨by omega, by omega, fun hA => by have := (h.al b hA).2.1; omega⟩
theorem DoSt.set4k (h : DoSt w gR go A a c xs j o wr) {g : Nat} (hg : w.heap.size ≤ g) (x y z u : Value) : Rdr ((((wr.setCell ⟨g, 0, none⟩ x).setCell ⟨g, 1, none⟩ y).setCell ⟨g, 2, none⟩ z).setCell ⟨g, 3, none⟩ u) gR a c xs j ∧ w.grownBy ((((wr.setCell ⟨g, 0, none⟩ x).setCell ⟨g, 1, none⟩ y).setCell ⟨g, 2, none⟩ z).setCell ⟨g, 3, none⟩ u) (some gR) := by
  obtain ⟨ao, co, bs, h⟩ := h
  have hlr := h.lr
  refine ⟨h.rdr.kept (set4_grown wr g x y z u) (fun e => by simp at e; omega) (fun q h1 h2 e => by have := h.hab q h1 h2; simp at e; omega), grown_next h.gro (set4_grown wr g x y z u) (fun p hp => by simp at hp; omega)⟩
theorem DoSt.setO (h : DoSt w gR go A a c xs j o wr) {o' : PO} {a' : Option Addr} {c' : Nat} {bs' : List Nat} (hn : OwnSl cSnt 63 wr o'.wait (.slice a' o'.wait.length c') bs') (hd : bs'.Nodup) (hf : ∀ b ∈ bs', w.heap.size ≤ b ∧ b ≠ go ∧ b ∉ A) (ht : totL wN o'.wait ≤ 1048576) :
    DoSt w gR go A a c xs j o' ((((wr.setCell ⟨go, 0, none⟩ (.int .i64 o'.epoch)).setCell ⟨go, 1, none⟩ (.int .i64 o'.next)).setCell ⟨go, 2, none⟩ (.int .i64 o'.now)).setCell ⟨go, 3, none⟩ (.slice a' o'.wait.length c')) := by
  have hk := fun x y z u => h.set4k (g := go) (by obtain ⟨_, _, _, h⟩ := h; exact h.lo) x y z u
  obtain ⟨ao, co, bs, h⟩ := h
  exact ⟨a', c', bs', set4 h.bx, hn.kept (fun b hb => set4o (hf b hb).2.1), hd, hf, (hk _ _ _ _).1, (hk _ _ _ _).2, ht, fun g hg => ⟨(h.al g hg).1, by simpa using (h.al g hg).2.1, (h.al g hg).2.2⟩, h.lo, h.lr, h.hab⟩
theorem DoSt.setA (h : DoSt w gR go A a c xs j o wr) {g : Nat} (hg : g ∈ A) (x y z u : Value) : DoSt w gR go A a c xs j o ((((wr.setCell ⟨g, 0, none⟩ x).setCell ⟨g, 1, none⟩ y).setCell ⟨g, 2, none⟩ z).setCell ⟨g, 3, none⟩ u) := by
  have hk := h.set4k (g := g) (by obtain ⟨_, _, _, h⟩ := h; exact (h.al g hg).1) x y z u
  obtain ⟨ao, co, bs, h⟩ := h
  exact ⟨ao, co, bs, (set4o (h.al g hg).2.2.symm).trans h.bx, h.own.kept (fun b hb => set4o (fun e => (h.far b hb).2.2 (e ▸ hg))), h.nd, h.far, hk.1, hk.2, h.tot, fun g hg => ⟨(h.al g hg).1, by simpa using (h.al g hg).2.1, (h.al g hg).2.2⟩, h.lo, h.lr, h.hab⟩
theorem DoSt.addA (h : DoSt w gR go A a c xs j o wr) {o1 : Obj} : DoSt w gR go (wr.heap.size :: A) a c xs j o (wr.alloc o1) := by
  have h2 := h.later (below_new1 wr o1)
  have hf := h.fresh (Nat.le_refl _)
  obtain ⟨ao, co, bs, h⟩ := h
  have hb := below_new1 wr o1
  refine ⟨ao, co, bs, (hb.block _ (Array.getElem?_eq_some_iff.1 h.bx).1).trans h.bx, h.own.kept (fun b hm => hb.block b (h.own.lt b hm)), h.nd, fun b hb' => ⟨(h.far b hb').1, (h.far b hb').2.1, fun hm => ?_⟩, rdr_later h.rdr hb, grown_later h.gro hb, h.tot, fun g hg => ?_, h.lo, h.lr, h.hab⟩
  · rcases List.mem_cons.1 hm with rfl | hm
    · have := h.own.lt _ hb'; omega
    · exact (h.far b hb').2.2 hm
  · rcases List.mem_cons.1 hg with rfl | hg
    · exact ⟨hf.1, by simp, hf.2.1⟩
    · exact ⟨(h.al g hg).1, Nat.lt_of_lt_of_le (h.al g hg).2.1 hb.size, (h.al g hg).2.2⟩
theorem DoSt.subA (h : DoSt w gR go A a c xs j o wr) {A' : List Nat} (hA : ∀ g ∈ A', g ∈ A) : DoSt w gR go A' a c xs j o wr := by
  obtain ⟨ao, co, bs, h⟩ := h
  exact ⟨ao, co, bs, h.bx, h.own, h.nd, fun b hb => ⟨(h.far b hb).1, (h.far b hb).2.1, fun hm => (h.far b hb).2.2 (hA b hm)⟩, h.rdr, h.gro, h.tot, fun g hg => h.al g (hA g hg), h.lo, h.lr, h.hab⟩
theorem DoSt.set1 (h : DoSt w gR go A a c xs j o wr) {o' : PO} (i : Nat) (v : Value) (hw : o'.wait = o.wait) (hcs : ∀ ao co, (#[.int .i64 o.epoch, .int .i64 o.next, .int .i64 o.now, .slice ao o.wait.length co] : Array Value).setIfInBounds i v = #[.int .i64 o'.epoch, .int .i64 o'.next, .int .i64 o'.now, .slice ao o'.wait.length co]) : DoSt w gR go A a c xs j o' (wr.setCell ⟨go, i, none⟩ v) := by
  obtain ⟨ao, co, bs, h⟩ := h
  have hlr := h.lr
  have hlo := h.lo
  have hb := heap_setCell_same wr go i _ _ v h.bx
  rw [hcs] at hb
  refine ⟨ao, co, bs, hb, ?_, h.nd, h.far, h.rdr.kept (set_grown wr go i v) (fun e => by simp at e; omega) (fun x h1 h2 e => by have := h.hab x h1 h2; simp at e; omega), grown_next h.gro (set_grown wr go i v) (fun p hp => by simp at hp; omega), by rw [hw]; exact h.tot, fun g hg => ⟨(h.al g hg).1, by simpa using (h.al g hg).2.1, (h.al g hg).2.2⟩, hlo, hlr, h.hab⟩
  rw [hw]
  exact h.own.kept (fun b hm => Below.heap_setCell wr ⟨go, i, none⟩ v b (h.far b hm).2.1)
end
def DoPost (w : World) (gR : Nat) (a : Option Addr) (c : Nat) (xs : List Nat) (R : PO × Nat) (e : Ending) (w' : World) : Prop :=
  ∃ ao co bs, e = .returned (.agg #[.int .i64 R.1.epoch, .int .i64 R.1.next, .int .i64 R.1.now, .slice ao R.1.wait.length co]) ∧ OwnSl cSnt 63 w' R.1.wait (.slice ao R.1.wait.length co) bs ∧ bs.Nodup ∧ (∀ b ∈ bs, w.heap.size ≤ b) ∧ Rdr w' gR a c xs R.2 ∧ w.grownBy w' (some gR) ∧ totL wN R.1.wait ≤ 1048576
theorem OwnSl.storeE {α : Type} {c : Cod α} {e : TypeId} {w : World} {xs : List α} {g n cap : Nat} {bs : List Nat} (h : OwnSl c e w xs (.slice (some ⟨g, 0, none⟩) n cap) bs) (hnd : bs.Nodup) {k : Nat} (hk : k < xs.length) (off j0 : Nat) (us : List Value) (hoff : off = k * c.n + j0) (hj : j0 + us.length ≤ c.n) (y : α)
    (hy : ∀ cs bk w', c.own w xs[k] cs bk → (∀ b ∈ bk, w'.heap[b]? = w.heap[b]?) → ∃ bk', (∀ b ∈ bk', b ∈ bk) ∧ c.own w' y (setAll cs j0 us) bk') :
    ∃ bs', OwnSl c e (wsetAll w g off us) (xs.set k y) (.slice (some ⟨g, 0, none⟩) n cap) bs' ∧ (∀ b ∈ bs', b ∈ bs) ∧ Only bs w (wsetAll w g off us) := by
  rcases h with ⟨h0, _⟩ | ⟨g', cap', vs, bss, ev, ho, hb, hbl, hi⟩
  · cases h0
  simp only [Value.slice.injEq, Option.some.injEq, Addr.mk.injEq, and_true] at ev
  obtain ⟨rfl, rfl, rfl⟩ := ev
  subst hoff hb
  have hvl : vs.length = xs.length * c.n := ho.1
  have hng := (List.nodup_cons.1 hnd).1
  have keep : ∀ j, j ≠ g → (wsetAll w g (k * c.n + j0) us).heap[j]? = w.heap[j]? := fun j hj => wsetAll_other us w g _ hj
  have hmem : ∀ i, (h2 : i < bss.length) → ∀ b ∈ bss[i], b ≠ g := fun i h2 b hb e => hng (e ▸ List.mem_flatten.2 ⟨_, List.getElem_mem h2, hb⟩)
  have hkb : k < bss.length := by omega
  obtain ⟨bk', hsub, hbk⟩ := hy _ _ (wsetAll w g (k * c.n + j0) us) (hi k hk hkb) (fun b hb => keep b (hmem k hkb b hb))
  refine ⟨g :: List.flatten (bss.set k bk'), .inr ⟨g, cap, _, bss.set k bk', by simp, by rw [List.length_set]; exact wsetAll_owns us w vs (k * c.n + j0) ho, rfl, by simpa using hbl, fun i h1 h2 => ?_⟩, fun b hb => ?_, (wsetAll_only us w _).mono (by simp)⟩
  rotate_left
  · rcases List.mem_cons.1 hb with rfl | hb
    · simp
    · obtain ⟨l, hl, hbl2⟩ := List.mem_flatten.1 hb
      rcases List.mem_or_eq_of_mem_set hl with hl | hl
      · exact List.mem_cons_of_mem _ (List.mem_flatten.2 ⟨l, hl, hbl2⟩)
      · rw [hl] at hbl2; exact List.mem_cons_of_mem _ (List.mem_flatten.2 ⟨_, List.getElem_mem hkb, hsub b hbl2⟩)
  have h1' : i < xs.length := by simpa using h1
  by_cases ei : i = k
  · subst ei
    rw [List.getElem_set_self, part_setAll hvl h1' hj, List.getElem_set_self]
    exact hbk
  · have h2' : i < bss.length := by simpa using h2
    rw [List.getElem_set_ne (fun h => ei h.symm), part_setAllo hvl hk hj ei, List.getElem_set_ne (fun h => ei h.symm)]
    exact c.kept (hi i h1' h2') (fun b hb => keep b (hmem i h2' b hb))
theorem modify_set {α : Type} (f : α → α) : ∀ (l : List α) (i : Nat) (h : i < l.length), l.modify i f = l.set i (f l[i])
  | [], _, h => by simp at h
  | x :: l, 0, _ => by simp
  | x :: l, i + 1, h => by simpa using modify_set f l i (by simpa using h)
def spS (o : PO) (k : Nat) (s : PW) : PW :=
  if k = 3 then ⟨s.pkt, o.now + 1⟩ else if k = 4 then ⟨s.pkt, -2⟩
  else if k = 5 then ⟨⟨s.pkt.kind, s.pkt.epoch, s.pkt.seq, s.pkt.count, s.pkt.last, []⟩, s.at_⟩
  else if k = 6 then ⟨⟨s.pkt.kind, s.pkt.epoch, s.pkt.seq, 1, s.pkt.last, s.pkt.data⟩, s.at_⟩
  else ⟨⟨4, s.pkt.epoch, s.pkt.seq, s.pkt.count, s.pkt.last, s.pkt.data⟩, s.at_⟩
def spoilO (o : PO) (k v : Nat) : PO :=
  if k = 0 then ⟨o.epoch, if o.wait.length = 0 then -1 else o.next + 1, o.now, o.wait⟩
  else if k = 1 then ⟨if o.wait.length = 0 then 0 else o.epoch + 1, o.next, o.now, o.wait⟩
  else if k = 2 then ⟨o.epoch, o.next, 1000000001, o.wait⟩
  else if o.wait.length = 0 then ⟨o.epoch, o.next, -1, o.wait⟩
  else ⟨o.epoch, o.next, o.now, o.wait.modify (v % o.wait.length) (spS o k)⟩
end Go.Proofs.Ytmaccmgmcahopaa
