import Derived.Test.YtfppfjklakdlfaaDoorJForms1
import Derived.Test.YtfppfjklakdlfaaDoorJForms4
import Derived.Test.YtfppfjklakdlfaaDoorJForms17
import Derived.Test.YtfppfjklakdlfaaDoorJForms16
import Derived.Test.YtfppfjklakdlfaaDoorJForms7
import Derived.Test.YtfppfjklakdlfaaDoorJForms2
import Derived.Handy
namespace Go.Proofs.YtfppfjklakdlfaaDoor
open Go.RowKit
structure DSt (wb : World) (gM gR : Nat) (a : Option Addr) (c : Nat) (xs : List Nat) (j : Nat) (t : TypeId) (cs : Array Value) (wr : World) : Prop where
  box : wr.heap[gM]? = some (.cells cs t (0, 0))
  rdr : Rdr wr gR a c xs j
  gro : wb.grownBy wr (some gR)
theorem set_grown (w : World) (g i : Nat) (v : Value) : w.grownBy (w.setCell ⟨g, i, none⟩ v) (some g) :=
  ⟨rfl, rfl, rfl, by simp [World.setCell], fun k _ hk => heap_setCell_other w ⟨g, i, none⟩ k _ (fun e => hk (by simp [e]))⟩
theorem DSt.next {wb wr w' : World} {gM gR c j j' : Nat} {a : Option Addr} {xs : List Nat} {t : TypeId} {cs : Array Value} (h : DSt wb gM gR a c xs j t cs wr) (hM : wb.heap.size ≤ gM) (hR : gR < wb.heap.size) (hr : Rdr w' gR a c xs j') (hg : wr.grownBy w' (some gR)) : DSt wb gM gR a c xs j' t cs w' :=
  ⟨(hg.block gM (Array.getElem?_eq_some_iff.1 h.box).1 (fun e => by simp at e; omega)).trans h.box, hr, grown_next h.gro hg (fun p hp => by simp at hp; omega)⟩
theorem DSt.set {wb wr : World} {gM gR c j : Nat} {a : Option Addr} {xs : List Nat} {t : TypeId} {cs cs' : Array Value} (h : DSt wb gM gR a c xs j t cs wr) (hM : wb.heap.size ≤ gM) (hR : gR < wb.heap.size) (hab : ∀ x, a = some x → xs ≠ [] → x.block < wb.heap.size) (i : Nat) (v : Value) (hcs : cs.setIfInBounds i v = cs') : DSt wb gM gR a c xs j t cs' (wr.setCell ⟨gM, i, none⟩ v) := by
  subst hcs
  refine ⟨heap_setCell_same wr gM i cs t v h.box, h.rdr.kept (set_grown wr gM i v) (fun e => by simp at e; omega) (fun x h1 h2 e => by have := hab x h1 h2; simp at e; omega), grown_next h.gro (set_grown wr gM i v) (fun p hp => by simp at hp; omega)⟩
theorem DSt.grow {wb wr w' : World} {gM gR c j : Nat} {a : Option Addr} {xs : List Nat} {t : TypeId} {cs : Array Value} (h : DSt wb gM gR a c xs j t cs wr) (hR : gR < wb.heap.size) (hab : ∀ x, a = some x → xs ≠ [] → x.block < wb.heap.size) {row : Option Nat} (hg : wr.grownBy w' row) (h1 : ∀ p, row = some p → wb.heap.size ≤ p ∧ p ≠ gM) : DSt wb gM gR a c xs j t cs w' :=
  ⟨(hg.block gM (Array.getElem?_eq_some_iff.1 h.box).1 (fun e => (h1 _ e.symm).2 rfl)).trans h.box, h.rdr.kept hg (fun e => by have := (h1 _ e).1; omega) (fun x h2 h3 e => by have := hab x h2 h3; have := (h1 _ e).1; omega), grown_next h.gro hg (fun p hp => .inr (h1 p hp).1)⟩
theorem DSt.later {wb wr w' : World} {gM gR c j : Nat} {a : Option Addr} {xs : List Nat} {t : TypeId} {cs : Array Value} (h : DSt wb gM gR a c xs j t cs wr) (hb : Below wr.heap.size wr w') : DSt wb gM gR a c xs j t cs w' :=
  ⟨(hb.block gM (Array.getElem?_eq_some_iff.1 h.box).1).trans h.box, ⟨(hb.block gR (lt_of_block h.rdr.cells)).trans h.rdr.cells, h.rdr.rd.later hb, h.rdr.apart⟩, ⟨hb.os.trans h.gro.os, hb.tape.trans h.gro.tape, hb.output.trans h.gro.output, Nat.le_trans h.gro.size hb.size, fun i hi hne => (hb.block i (Nat.lt_of_lt_of_le hi h.gro.size)).trans (h.gro.block i hi hne)⟩⟩
theorem txts_grown {B g : Nat} {w w' : World} {v : Value} {bs : List (List Nat)} (h : Txts B w v bs) (hg : w.grownBy w' (some g)) (hB : g < B) : Txts B w' v bs := by
  obtain ⟨vals, ho, hi⟩ := h
  exact ⟨vals, own_marked ho hg (fun k p e f => by have := own_in ho e; simp at f; omega), fun i h => by obtain ⟨u, h1, h2, h3⟩ := hi i h; exact ⟨u, h1, own_marked h2 hg (fun k p e f => by have := own_in h2 e; simp at f; omega), h3⟩⟩
theorem dnext {wb wr : World} {gM gR c j : Nat} {a : Option Addr} {xs : List Nat} {t : TypeId} {cs : Array Value} (h : DSt wb gM gR a c xs j t cs wr) (hM : wb.heap.size ≤ gM) (hR : gR < wb.heap.size) (hl : xs.length ≤ 1048576) (hx : ∀ x ∈ xs, x < 256) :
    Calls Tryd.prog 38 #[.pointer (some ⟨gR, 0, none⟩)] wr fun e w' => e = .returned (.int .i64 ((nxt xs j : Nat) : Int)) ∧ DSt wb gM gR a c xs (j + 1) t cs w' ∧ wr.grownBy w' (some gR) := by
  refine (next_any gR c j a xs wr h.rdr hl hx).mono ?_
  rintro e w' ⟨rfl, h1, h2⟩
  exact ⟨rfl, h.next hM hR h1 h2, h2⟩
end Go.Proofs.YtfppfjklakdlfaaDoor
namespace Go.Proofs.YtfppfjklakdlfaaDoor
open Go.RowKit
abbrev mBx (K F C : Int) (v : Value) : Array Value := #[.int .i64 K, .int .i64 F, .int .i64 C, v]
def dgA (wb : World) (gR : Nat) (a : Option Addr) (c : Nat) (xs : List Nat) (j : Nat) (K F C : Int) (v : Value) (bs : List (List Nat)) (w : World) : Prop := DSt wb wb.heap.size gR a c xs j 25 (mBx K F C v) w ∧ Txts wb.heap.size w v bs
def d10H (wb : World) (gR : Nat) (a : Option Addr) (c : Nat) (xs : List Nat) (j j' : Nat) (K F C : Int) (v : Value) (bs : List (List Nat)) (ys : List Nat) (y : Nat → Bool) (t : Nat → Value) (w : World) : Prop :=
  (y 3 = false → dgA wb gR a c xs j K F C v bs w) ∧
  (y 3 = true → y 5 = false → dgA wb gR a c xs j' K F C v bs w ∧ ∃ a9 c9, t 3 = .slice a9 ys.length c9 ∧ w.ownsRow wb.heap.size 5 1 (.slice a9 ys.length c9) ys.length (byt ys) ∧ (y 4 = true → ∃ g, t 4 = .slice (some ⟨g, 0, none⟩) 1 1 ∧ w.cell? ⟨g, 0, none⟩ = some (.slice a9 ys.length c9))) ∧
  (y 5 = true → y 7 = false → DSt wb wb.heap.size gR a c xs j' 25 (mBx K F C v) w ∧ Txts wb.heap.size w (t 5) (bs ++ [ys])) ∧
  (y 7 = true → ∃ v', dgA wb gR a c xs j' K F C v' (bs ++ [ys]) w)
section
variable {wb : World} {gR : Nat} {a : Option Addr} {c : Nat} {xs : List Nat} {j j' : Nat} {K F C : Int} {v : Value} {bs : List (List Nat)} {ys : List Nat} {y : Nat → Bool} {t : Nat → Value} {w w' : World}
theorem dgA_drew (h : dgA wb gR a c xs j K F C v bs w) : dgA wb gR a c xs j K F C v bs w.drew :=
  ⟨⟨h.1.box, ⟨h.1.rdr.cells, h.1.rdr.rd, h.1.rdr.apart⟩, ⟨h.1.gro.os, h.1.gro.tape, h.1.gro.output, h.1.gro.size, h.1.gro.block⟩⟩, h.2.later (Below.refl _ _).drew⟩
theorem d10H_start (h : dgA wb gR a c xs j K F C v bs w) : d10H wb gR a c xs j j' K F C v bs ys (fun _ => false) t w :=
  ⟨fun _ => h, (fun h => by cases h), (fun h => by cases h), (fun h => by cases h)⟩
theorem d10H.plain (h : d10H wb gR a c xs j j' K F C v bs ys y t w) (i : Nat) (hi : i = 0 ∨ i = 1 ∨ i = 2 ∨ i = 6) (u : Value) : d10H wb gR a c xs j j' K F C v bs ys (fun k => k == i || y k) (upd t i u) w := by
  have e : ∀ k, k ≠ i → (k == i || y k) = y k := fun k hk => by simp [hk]
  have e3 : upd t i u 3 = t 3 := by simp only [upd]; rw [if_neg (by omega)]
  have e4 : upd t i u 4 = t 4 := by simp only [upd]; rw [if_neg (by omega)]
  have e5 : upd t i u 5 = t 5 := by simp only [upd]; rw [if_neg (by omega)]
  unfold d10H
  simp only [e 3 (by omega), e 4 (by omega), e 5 (by omega), e 7 (by omega), e3, e4, e5]
  exact h
theorem d10H.box (h : d10H wb gR a c xs j j' K F C v bs ys y t w) (h5 : y 5 = false) : w.heap[wb.heap.size]? = some (.cells (mBx K F C v) 25 (0, 0)) := by
  cases h3 : y 3 with
  | false => exact (h.1 h3).1.box
  | true => exact (h.2.1 h3 h5).1.1.box
theorem d10H.op3 (h : d10H wb gR a c xs j j' K F C v bs ys y t w) (hR : gR < wb.heap.size) (h3 : y 3 = false) (h4 : y 4 = false) (h5 : y 5 = false) (h7 : y 7 = false) (a9 : Option Addr) (c9 : Nat) (ho : w'.ownsRow w.heap.size 5 1 (.slice a9 ys.length c9) ys.length (byt ys)) (hr : Rdr w' gR a c xs j') (hg : w.grownBy w' (some gR)) : d10H wb gR a c xs j j' K F C v bs ys (fun k => k == 3 || y k) (upd t 3 (.slice a9 ys.length c9)) w' := by
  obtain ⟨hd, htx⟩ := h.1 h3
  refine ⟨fun q => by simp at q, fun _ _ => ⟨⟨hd.next (Nat.le_refl _) hR hr hg, txts_grown htx hg hR⟩, a9, c9, by simp [upd], own_mono ho hd.gro.size, fun q => by simp [h4] at q⟩, fun q => by simp [h5] at q, fun q => by simp [h7] at q⟩
theorem d10H.op4 (h : d10H wb gR a c xs j j' K F C v bs ys y t w) (hR : gR < wb.heap.size) (hab : ∀ x, a = some x → xs ≠ [] → x.block < wb.heap.size) (h3 : y 3 = true) (h5 : y 5 = false) (h7 : y 7 = false) (e : TypeId) (u : Value) (hu : u = t 3) : d10H wb gR a c xs j j' K F C v bs ys (fun k => k == 4 || y k) (upd t 4 (.slice (some ⟨w.heap.size, 0, none⟩) 1 1)) (w.alloc (.cells #[u] e)) := by
  obtain ⟨⟨hd, htx⟩, a9, c9, e3, ho, -⟩ := h.2.1 h3 h5
  have hb := below_new1 w (.cells #[u] e)
  have p0 := cell_of_row _ _ 0 _ _ _ (heap_alloc_new w (.cells #[u] e))
  simp only [List.getElem?_toArray, List.getElem?_cons_zero] at p0
  refine ⟨fun q => by simp [h3] at q, fun _ _ => ⟨⟨hd.grow hR hab (World.grownBy_alloc w _ none) (by simp), htx.later hb⟩, a9, c9, by simp [upd, e3], own_later ho hb, fun _ => ⟨w.heap.size, by simp [upd], by rw [p0, hu, e3]⟩⟩, fun q => by simp [h5] at q, fun q => by simp [h7] at q⟩
theorem d10H.op5 (h : d10H wb gR a c xs j j' K F C v bs ys y t w) (hR : gR < wb.heap.size) (hab : ∀ x, a = some x → xs ≠ [] → x.block < wb.heap.size) (h3 : y 3 = true) (h5 : y 5 = false) (h7 : y 7 = false) (hyb : ∀ x ∈ ys, x < 256) {vals : List Value} {u u' : Value} (ho : w.ownsRow wb.heap.size 22 1 v bs.length vals) (hi : ∀ i, (h : i < bs.length) → ∃ u, vals[i]? = some u ∧ w.ownsRow wb.heap.size 5 1 u bs[i].length (byt bs[i]) ∧ ∀ x ∈ bs[i], x < 256) (hu : w.ownsRow wb.heap.size 5 1 u ys.length (byt ys)) (ho1 : w'.ownsRow wb.heap.size 22 1 u' (bs.length + 1) (vals ++ [u])) (hg : w.grownBy w' v.ownBlock) : d10H wb gR a c xs j j' K F C v bs ys (fun k => k == 5 || y k) (upd t 5 u') w' := by
  obtain ⟨⟨hd, htx⟩, a9, c9, e3, -, -⟩ := h.2.1 h3 h5
  refine ⟨fun q => by simp [h3] at q, fun _ q => by simp at q, fun _ _ => ⟨hd.grow hR hab hg (fun p hp => ⟨(own_in ho hp).1, fun e => boxY_far hd.box ho (by decide) (by rw [hp, e])⟩), by simpa [upd] using Txts.snoc ho hi hu hyb ho1 hg⟩, fun q => by simp [h7] at q⟩
theorem d10H.op7 (h : d10H wb gR a c xs j j' K F C v bs ys y t w) (hR : gR < wb.heap.size) (hab : ∀ x, a = some x → xs ≠ [] → x.block < wb.heap.size) (h3 : y 3 = true) (h5 : y 5 = true) (h7 : y 7 = false) (u : Value) : d10H wb gR a c xs j j' K F C v bs ys (fun k => k == 7 || y k) (upd t 7 u) (w.setCell ⟨wb.heap.size, 3, none⟩ (t 5)) := by
  obtain ⟨hd, htx⟩ := h.2.2.1 h5 h7
  refine ⟨fun q => by simp [h3] at q, fun _ q => by simp [h5] at q, fun _ q => by simp at q, fun _ => ⟨t 5, hd.set (Nat.le_refl _) hR hab 3 _ (by simp [mBx]), ?_⟩⟩
  exact txts_far hd.box htx (fun p hp => heap_setCell_other w ⟨wb.heap.size, 3, none⟩ p _ (fun e => hp e))
end
set_option linter.unusedVariables false in
def d10T (gM gR : Nat) (av : Option Addr) (n cv : Nat) : Nat → FX
  | 0 => FX.eq (.pointer (some ⟨gM, 3, none⟩))
  | 1 => FX.eq (.slice av n cv)
  | 2 => FX.eq (.pointer (some ⟨gR, 0, none⟩))
  | 6 => FX.eq (.pointer (some ⟨gM, 3, none⟩))
  | _ => FX.is Fct.any
end Go.Proofs.YtfppfjklakdlfaaDoor
namespace Go.Proofs.YtfppfjklakdlfaaDoor
open Go.RowKit
theorem infoByteL : (Tryd.prog.info? 5).map (fun i => (i.zero, i.size, i.bytes)) = some (some (.int .u8 0), 1, 1) := by kernel_rfl
set_option maxRecDepth 100000 in
set_option maxHeartbeats 1000000 in
theorem fill_any (x n : Nat) (w : World) (hn : n ≤ 1048576) :
    Calls Tryd.prog 40 #[.int .u8 (x : Int), .int .i64 (n : Int)] w fun e w' => ∃ a c, e = .returned (.slice a n c) ∧ w'.ownsRow w.heap.size 5 1 (.slice a n c) n (byt (List.replicate n x)) ∧ Below w.heap.size w w' := by
  obtain ⟨i0, hi, hz0, hz1, hz2⟩ := info_parts infoByteL
  go_enter Tryd.func40, Tryd.ntmps40
  go_wp2
  go_loopw [5, 6] (fun v i wr => ∃ k : Nat, k ≤ n ∧ i = .int .i64 k ∧ wr.ownsRow w.heap.size 5 1 v k (byt (List.replicate k x)) ∧ Below w.heap.size w wr) (fun _ i _ => n - (intOf i).toNat)
  case atStart => exact ⟨0, Nat.zero_le _, rfl, World.ownsRow_nil _ _ _ _, Below.refl _ _⟩
  case round =>
    obtain ⟨k, hk, rfl, how, hbe⟩ := hrel
    have HO := hid how
    have HB := hid hbe
    clear how hbe
    by_cases hlt : k < n
    · have hki : (k : Int) < (n : Int) := by omega
      have hs := HB.out.size
      have HR1 : Hid (byt (List.replicate (k + 1) x) = byt (List.replicate k x) ++ [.int .u8 (x : Int)]) := hid (by rw [List.replicate_succ']; simp [byt])
      go_wp2_with (first | (at_builtin; refine wpList_append_own _ rfl _ _ 22 rfl w.heap.size 5 i0 (.int .u8 0) 1 1 Tryd.underlying22 hi hz0 hz1 hz2 rfl (by decide) _ k _ rfl (HO.out.alloc _) ⟨wr.heap.size, 0, none⟩ 1 1 [.int .u8 (x : Int)] rfl rfl (cell_one_new _ _ _) (one_cell rfl) (by unfold maxLen; omega) (by omega) (by simp; omega) ?_))
      intro v' w3 hown' hgrow _
      have HB3 : Hid (Below w.heap.size w w3) := hid ((HB.out.alloc hs _).grown hgrow (by simp; omega) (fun p hp => (own_in HO.out hp).1))
      have HO3 : Hid (w3.ownsRow w.heap.size 5 1 v' (k + 1) (byt (List.replicate (k + 1) x))) := hid (by rw [HR1.out]; exact hown')
      clear hown' hgrow
      go_wp2
      go_roundw
      case rel => exact ⟨k + 1, by omega, by go_num, HO3.out, HB3.out⟩
      case measure => simp [intOf]; omega
    · obtain rfl : k = n := by omega
      obtain ⟨a', c', e', -⟩ := rd_own HO.out
      subst e'
      go_wp2
      go_ret
      exact ⟨a', c', rfl, HO.out, HB.out⟩
end Go.Proofs.YtfppfjklakdlfaaDoor
namespace Go.Proofs.YtfppfjklakdlfaaDoor
open Go.RowKit
theorem set6 {w : World} {g : Nat} {e : TypeId} {a b c d i j x y z u p q : Value} (h : w.heap[g]? = some (.cells #[a, b, c, d, i, j] e (0, 0))) :
    ((((((w.setCell ⟨g, 0, none⟩ x).setCell ⟨g, 1, none⟩ y).setCell ⟨g, 2, none⟩ z).setCell ⟨g, 3, none⟩ u).setCell ⟨g, 4, none⟩ p).setCell ⟨g, 5, none⟩ q).heap[g]? = some (.cells #[x, y, z, u, p, q] e (0, 0)) := by
  have h1 := heap_setCell_same w g 0 _ e x h
  have h2 := heap_setCell_same _ g 1 _ e y h1
  have h3 := heap_setCell_same _ g 2 _ e z h2
  have h4 := heap_setCell_same _ g 3 _ e u h3
  have h5 := heap_setCell_same _ g 4 _ e p h4
  have h6 := heap_setCell_same _ g 5 _ e q h5
  rw [h6]; rfl
theorem set6o {w : World} {g k : Nat} {x y z u p q : Value} (h : k ≠ g) : ((((((w.setCell ⟨g, 0, none⟩ x).setCell ⟨g, 1, none⟩ y).setCell ⟨g, 2, none⟩ z).setCell ⟨g, 3, none⟩ u).setCell ⟨g, 4, none⟩ p).setCell ⟨g, 5, none⟩ q).heap[k]? = w.heap[k]? := by
  rw [Below.heap_setCell _ _ _ _ h, Below.heap_setCell _ _ _ _ h, Below.heap_setCell _ _ _ _ h, Below.heap_setCell _ _ _ _ h, Below.heap_setCell _ _ _ _ h, Below.heap_setCell _ _ _ _ h]
theorem set6b {B : Nat} {a w : World} {g : Nat} {x y z u p q : Value} (h : Below B a w) (hg : B ≤ g) : Below B a ((((((w.setCell ⟨g, 0, none⟩ x).setCell ⟨g, 1, none⟩ y).setCell ⟨g, 2, none⟩ z).setCell ⟨g, 3, none⟩ u).setCell ⟨g, 4, none⟩ p).setCell ⟨g, 5, none⟩ q) :=
  (((((h.setCell (p := ⟨g, 0, none⟩) hg _).setCell (p := ⟨g, 1, none⟩) hg _).setCell (p := ⟨g, 2, none⟩) hg _).setCell (p := ⟨g, 3, none⟩) hg _).setCell (p := ⟨g, 4, none⟩) hg _).setCell (p := ⟨g, 5, none⟩) hg _
structure PPIn (p : PP) : Prop where
  kind : IntIn p.kind
  epoch : IntIn p.epoch
  seq : IntIn p.seq
  count : IntIn p.count
end Go.Proofs.YtfppfjklakdlfaaDoor
