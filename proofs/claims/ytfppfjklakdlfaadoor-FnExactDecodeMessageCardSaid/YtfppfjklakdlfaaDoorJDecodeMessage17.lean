import Derived.Test.YtfppfjklakdlfaaDoorJDecodeMessage0
import Derived.Test.YtfppfjklakdlfaaDoorJDecodeMessage6
import Derived.Test.YtfppfjklakdlfaaDoorJDecodeMessage13
import Derived.Test.YtfppfjklakdlfaaDoorJDecodeMessage16
namespace Go.Proofs.YtfppfjklakdlfaaDoor
open Go.RowKit
theorem set4 {w : World} {g : Nat} {e : TypeId} {a b c d x y z u : Value} (h : w.heap[g]? = some (.cells #[a, b, c, d] e (0, 0))) :
    ((((w.setCell ⟨g, 0, none⟩ x).setCell ⟨g, 1, none⟩ y).setCell ⟨g, 2, none⟩ z).setCell ⟨g, 3, none⟩ u).heap[g]? = some (.cells #[x, y, z, u] e (0, 0)) := by
  have h1 := heap_setCell_same w g 0 _ e x h
  have h2 := heap_setCell_same _ g 1 _ e y h1
  have h3 := heap_setCell_same _ g 2 _ e z h2
  have h4 := heap_setCell_same _ g 3 _ e u h3
  rw [h4]; rfl
theorem set4o {w : World} {g k : Nat} {x y z u : Value} (h : k ≠ g) : ((((w.setCell ⟨g, 0, none⟩ x).setCell ⟨g, 1, none⟩ y).setCell ⟨g, 2, none⟩ z).setCell ⟨g, 3, none⟩ u).heap[k]? = w.heap[k]? := by
  rw [Below.heap_setCell _ _ _ _ h, Below.heap_setCell _ _ _ _ h, Below.heap_setCell _ _ _ _ h, Below.heap_setCell _ _ _ _ h]
theorem set4b {B : Nat} {a w : World} {g : Nat} {x y z u : Value} (h : Below B a w) (hg : B ≤ g) : Below B a ((((w.setCell ⟨g, 0, none⟩ x).setCell ⟨g, 1, none⟩ y).setCell ⟨g, 2, none⟩ z).setCell ⟨g, 3, none⟩ u) :=
  (((h.setCell (p := ⟨g, 0, none⟩) hg _).setCell (p := ⟨g, 1, none⟩) hg _).setCell (p := ⟨g, 2, none⟩) hg _).setCell (p := ⟨g, 3, none⟩) hg _
end Go.Proofs.YtfppfjklakdlfaaDoor
namespace Go.Proofs.YtfppfjklakdlfaaDoor
open Go.RowKit
structure PMIn (m : PM) : Prop where
  kind : IntIn m.kind
  field : IntIn m.field
  count : IntIn m.count
set_option maxHeartbeats 1000000 in
theorem eqMessage_any (m : PM) (a b : Option Addr) (c d : Nat) (w : World) (h1 : RdSl cSS w m.bufs (.slice a m.bufs.length c)) (h2 : RdSl cSS w m.bufs (.slice b m.bufs.length d)) (ht : totL List.length m.bufs ≤ 1048576) :
    Calls Tryd.prog 8 #[.agg #[.int .i64 m.kind, .int .i64 m.field, .int .i64 m.count, .slice a m.bufs.length c], .agg #[.int .i64 m.kind, .int .i64 m.field, .int .i64 m.count, .slice b m.bufs.length d]] w fun e w' => e = .returned (.bool true) ∧ Below w.heap.size w w' := by
  have H1 := hid h1
  have H2 := hid h2
  clear h1 h2
  go_enter Tryd.func8, Tryd.ntmps8
  go_wp2_with fail
  refine (eqSS_any a b c d m.bufs _ (H1.out.later (below_new2 _ _ _)) (H2.out.later (below_new2 _ _ _)) ht).mono ?_
  rintro e w2 ⟨rfl, b2⟩
  have HB : Hid (Below w.heap.size w w2) := hid ((below_new2 w _ _).trans (b2.mono (by simp; omega)))
  clear b2
  go_wp2
  go_ret
  exact ⟨rfl, HB.out⟩
set_option maxHeartbeats 1000000 in
theorem markMessage_any (m : PM) (v : Value) (bs : List Nat) (k : Nat) (w : World) (ho : OwnSl cSS 22 w m.bufs v bs) (hnd : bs.Nodup) (hn : m.bufs.length ≤ 1048576) (ht : tot m.bufs ≤ 1048576) (hm : k ≤ 1073741824) :
    Calls Tryd.prog 11 #[.agg #[.int .i64 m.kind, .int .i64 m.field, .int .i64 m.count, v], .int .i64 k] w fun e w' => e = .returned (.int .i64 ((k + tot m.bufs : Nat) : Int)) ∧ OwnSl cSS 22 w' (mkSS k m.bufs) v bs ∧ Only bs w w' := by
  obtain ⟨a, c, rfl, -⟩ := id ho.rd
  have HO := hid ho
  have HL := hid ho.lt
  have HN := hid hnd
  clear ho hnd
  go_enter Tryd.func11, Tryd.ntmps11
  go_wp2_with fail
  refine (markSS_any _ m.bufs bs k _ (HO.out.kept (fun b hb => (below_new1 w _).block b (HL.out b hb))) HN.out hn ht hm).mono ?_
  rintro e w2 ⟨rfl, o2, on2⟩
  have HO2 := hid o2
  have HON : Hid (Only bs w w2) := hid ((Only.of_below (below_new1 w _)).trans on2)
  clear o2 on2
  go_wp2
  go_ret
  exact ⟨rfl, HO2.out, HON.out⟩
set_option maxHeartbeats 1000000 in
theorem heldMessage_any (m : PM) (a : Option Addr) (c : Nat) (k : Nat) (w : World) (hr : RdSl cSS w (mkSS k m.bufs) (.slice a m.bufs.length c)) (hn : m.bufs.length ≤ 1048576) (ht : tot m.bufs ≤ 1048576) (hm : k ≤ 1073741824) :
    Calls Tryd.prog 12 #[.agg #[.int .i64 m.kind, .int .i64 m.field, .int .i64 m.count, .slice a m.bufs.length c], .int .i64 k] w fun e w' => e = .returned (.int .i64 ((k + tot m.bufs : Nat) : Int)) ∧ Below w.heap.size w w' := by
  have HR := hid hr
  clear hr
  go_enter Tryd.func12, Tryd.ntmps12
  go_wp2_with fail
  refine (heldSS_any a c m.bufs k _ (HR.out.later (below_new1 _ _)) hn ht hm).mono ?_
  rintro e w2 ⟨rfl, b2⟩
  have HB : Hid (Below w.heap.size w w2) := hid ((below_new1 w _).trans (b2.mono (by simp)))
  clear b2
  go_wp2
  go_ret
  exact ⟨rfl, HB.out⟩
end Go.Proofs.YtfppfjklakdlfaaDoor
