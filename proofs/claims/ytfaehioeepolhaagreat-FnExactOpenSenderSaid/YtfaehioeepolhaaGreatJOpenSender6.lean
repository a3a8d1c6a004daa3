import Derived.Test.YtfaehioeepolhaaGreatJOpenSender1
import Derived.Test.YtfaehioeepolhaaGreatJOpenSender3
import Derived.Handy
import Derived.Deep.RegionHeld
namespace Go.Proofs.YtfaehioeepolhaaGreat
open Go.RowKit
structure PC where
  null : Bool
  num : Int
  text : List Nat
def cCell : Cod PC := cMap (cPair cBool (cPair cInt (cSl cByte 5))) fun f => (f.null, f.num, f.text)
theorem cCell_rd {w : World} {f : PC} {cs : List Value} (h : cCell.rd w f cs) : ∃ v, cs = [.bool f.null, .int .i64 f.num, v] ∧ RdSl cByte w f.text v ∧ IntIn f.num := by
  obtain ⟨c1, c2, rfl, h0, c3, c4, rfl, ⟨rfl, h2⟩, v, rfl, h3⟩ := h
  have h0 : c1 = [.bool f.null] := h0
  subst h0
  exact ⟨v, rfl, h3, h2⟩
theorem cCell_mk {w : World} {f : PC} {v : Value} (h1 : RdSl cByte w f.text v) (h2 : IntIn f.num) : cCell.rd w f [.bool f.null, .int .i64 f.num, v] :=
  ⟨[_], _, rfl, rfl, [_], _, rfl, ⟨rfl, h2⟩, v, rfl, h1⟩
theorem cCell_own {w : World} {f : PC} {v : Value} {bs : List Nat} (h1 : OwnSl cByte 5 w f.text v bs) (h2 : IntIn f.num) : cCell.own w f [.bool f.null, .int .i64 f.num, v] bs :=
  ⟨[_], _, [], bs, rfl, rfl, ⟨rfl, rfl⟩, [_], _, [], bs, rfl, rfl, ⟨rfl, h2, rfl⟩, v, rfl, h1⟩
theorem cCell_owned {w : World} {f : PC} {cs : List Value} {bs : List Nat} (h : cCell.own w f cs bs) : ∃ v, cs = [.bool f.null, .int .i64 f.num, v] ∧ OwnSl cByte 5 w f.text v bs ∧ IntIn f.num := by
  obtain ⟨c1, c2, b1, b2, rfl, rfl, ⟨h0, rfl⟩, c3, c4, b3, b4, rfl, rfl, ⟨rfl, h2, rfl⟩, v, rfl, h3⟩ := h
  have h0 : c1 = [.bool f.null] := h0
  subst h0
  exact ⟨v, rfl, by simpa using h3, h2⟩
theorem cCell_shape {w : World} {f : PC} {cs : List Value} (h : cCell.rd w f cs) : ∃ a cap, cs = [.bool f.null, .int .i64 f.num, .slice a f.text.length cap] := by
  obtain ⟨v, rfl, ⟨a, cap, rfl, _⟩, _⟩ := cCell_rd h
  exact ⟨a, cap, rfl⟩
end Go.Proofs.YtfaehioeepolhaaGreat
namespace Go.Proofs.YtfaehioeepolhaaGreat
open Go.RowKit
end Go.Proofs.YtfaehioeepolhaaGreat
namespace Go.Proofs.YtfaehioeepolhaaGreat
open Go.RowKit
theorem infoImCell : (Tryz.prog.info? 157).map (fun i => (i.zero, i.size, i.bytes)) = some (some (.agg #[.bool false, .int .i64 0, .slice none 0 0]), 3, 40) := by kernel_rfl
end Go.Proofs.YtfaehioeepolhaaGreat
namespace Go.Proofs.YtfaehioeepolhaaGreat
open Go.RowKit
end Go.Proofs.YtfaehioeepolhaaGreat
namespace Go.Proofs.YtfaehioeepolhaaGreat
open Go.RowKit
set_option maxHeartbeats 1000000 in
theorem eqCell_law : EqLaw Tryz.prog 177 cCell (fun f : PC => f.text.length) := by
  intro w x cs cs' h1 h2 ht
  obtain ⟨a1, c1, rfl⟩ := cCell_shape h1
  obtain ⟨a2, c2, rfl⟩ := cCell_shape h2
  have r1 : Rd w a1 (byt x.text) := by
    obtain ⟨v, e, hv, _⟩ := cCell_rd h1
    obtain ⟨a', cap', rfl, _, _, _, hr, _⟩ := hv.bytes
    simp at e; rw [e.1]; exact hr
  have r2 : Rd w a2 (byt x.text) := by
    obtain ⟨v, e, hv, _⟩ := cCell_rd h2
    obtain ⟨a', cap', rfl, _, _, _, hr, _⟩ := hv.bytes
    simp at e; rw [e.1]; exact hr
  simp only [val]
  clear h1 h2
  go_enter Tryz.func177, Tryz.ntmps177
  go_wp2_with fail
  refine (eqByteS_any a1 a2 c1 c2 _ x.text _ (r1.later (below_new2 _ _ _)) (r2.later (below_new2 _ _ _)) rfl (by have h : x.text.length ≤ 1048576 := ht; omega)).mono ?_
  rintro e w2 ⟨rfl, b2⟩
  rw [size2] at b2
  obtain ⟨k0, k1⟩ := heap2 _ _ b2
  have p0 := cell_of_row w2 _ 0 _ _ _ k0
  have p1 := cell_of_row w2 _ 1 _ _ _ k0
  have q0 := cell_of_row w2 _ 0 _ _ _ k1
  have q1 := cell_of_row w2 _ 1 _ _ _ k1
  simp at p0 p1 q0 q1
  have HB : Hid (Below w.heap.size w w2) := hid ((below_new2 w _ _).trans (b2.mono (by omega)))
  clear k0 k1 b2 r1 r2
  go_wp2
  go_ret
  exact ⟨rfl, HB.out⟩
set_option maxHeartbeats 2000000 in
theorem eqCellS_any (a1 a2 : Option Addr) (c1 c2 : Nat) (xs : List PC) (w : World) (h1 : RdSl cCell w xs (.slice a1 xs.length c1)) (h2 : RdSl cCell w xs (.slice a2 xs.length c2)) (ht : totL (fun f : PC => f.text.length) xs ≤ 1048576) :
    Calls Tryz.prog 131 #[.slice a1 xs.length c1, .slice a2 xs.length c2] w fun e w' => e = .returned (.bool true) ∧ Below w.heap.size w w' := by
  have H1 := hid h1
  have H2 := hid h2
  clear h1 h2
  have hlen : xs.length ≤ 1048576 := by unfold totL at ht; omega
  go_enter Tryz.func131, Tryz.ntmps131
  go_wp2
  go_loopw [5] (fun i wr => ∃ k : Nat, k ≤ xs.length ∧ i = .int .i64 k ∧ Below w.heap.size w wr) (fun i _ => xs.length - (intOf i).toNat)
  case atStart => exact ⟨0, Nat.zero_le _, rfl, Below.refl _ _⟩
  case round =>
    obtain ⟨k, hk, rfl, hbe⟩ := hrel
    have HB := hid hbe
    clear hbe
    by_cases hlt : k < xs.length
    · obtain ⟨b1, o1, x0, x1, x2, rfl, hes1, d0, d1, d2⟩ := (H1.out.later HB.out).at3 rfl hlt
      obtain ⟨b2, o2, y0, y1, y2, rfl, hes2, g0, g1, g2⟩ := (H2.out.later HB.out).at3 rfl hlt
      have HQ : Hid (Calls Tryz.prog 177 #[.agg #[x0, x1, x2], .agg #[y0, y1, y2]] wr.drew fun e w' => e = .returned (.bool true) ∧ Hid (Below w.heap.size w w') ∧ w'.cell? ⟨b1, o1 + k * 3, none⟩ = some x0 ∧ w'.cell? ⟨b1, o1 + k * 3 + 1, none⟩ = some x1 ∧ w'.cell? ⟨b1, o1 + k * 3 + 2, none⟩ = some x2 ∧ w'.cell? ⟨b2, o2 + k * 3, none⟩ = some y0 ∧ w'.cell? ⟨b2, o2 + k * 3 + 1, none⟩ = some y1 ∧ w'.cell? ⟨b2, o2 + k * 3 + 2, none⟩ = some y2) := hid (by
        refine (eqCell_law wr.drew xs[k] _ _ (cCell.later hes1 (Below.refl _ _).drew) (cCell.later hes2 (Below.refl _ _).drew) (by have := tot_at (fun f : PC => f.text.length) xs k hlt; unfold totL at ht; simp only [] at this ⊢; omega)).mono ?_
        rintro e w' ⟨rfl, b⟩
        have kp : ∀ p v, wr.cell? p = some v → w'.cell? p = some v := fun p v h => (b.cell (World.block_lt_of_cell? _ _ h)).trans h
        exact ⟨rfl, hid (HB.out.drew.trans (b.mono HB.out.size)), kp _ _ d0, kp _ _ d1, kp _ _ d2, kp _ _ g0, kp _ _ g1, kp _ _ g2⟩)
      have hki : (k : Int) < (xs.length : Int) := by omega
      clear hes1 hes2
      go_wp2
      go_region_held (fun w' => w'.cell? ⟨b1, o1 + k * 3, none⟩ = some x0 ∧ w'.cell? ⟨b1, o1 + k * 3 + 1, none⟩ = some x1 ∧ w'.cell? ⟨b1, o1 + k * 3 + 2, none⟩ = some x2 ∧ w'.cell? ⟨b2, o2 + k * 3, none⟩ = some y0 ∧ w'.cell? ⟨b2, o2 + k * 3 + 1, none⟩ = some y1 ∧ w'.cell? ⟨b2, o2 + k * 3 + 2, none⟩ = some y2) (go_keep) (first | (go_at_call 177; refine HQ.out.mono ?_; rintro e w' ⟨rfl, hw', hd0, hd1, hd2, hg0, hg1, hg2⟩))
      go_wp2
      go_roundw
      case rel => exact ⟨k + 1, by omega, by go_num, hw'.out⟩
      case measure => simp [intOf]; omega
    · obtain rfl : k = xs.length := by omega
      go_wp2
      go_ret
      exact ⟨rfl, HB.out⟩
end Go.Proofs.YtfaehioeepolhaaGreat
namespace Go.Proofs.YtfaehioeepolhaaGreat
open Go.RowKit
structure PT where
  rows : Int
  cells : List PC
def cTable : Cod PT := cMap (cPair cInt (cSl cCell 157)) fun f => (f.rows, f.cells)
abbrev totT (t : PT) : Nat := totL (fun f : PC => f.text.length) t.cells
theorem cTable_rd {w : World} {t : PT} {cs : List Value} (h : cTable.rd w t cs) : ∃ v, cs = [.int .i64 t.rows, v] ∧ RdSl cCell w t.cells v ∧ IntIn t.rows := by
  obtain ⟨c1, c2, rfl, ⟨rfl, h2⟩, v, rfl, h3⟩ := h
  exact ⟨v, rfl, h3, h2⟩
theorem cTable_own {w : World} {t : PT} {v : Value} {bs : List Nat} (h1 : OwnSl cCell 157 w t.cells v bs) (h2 : IntIn t.rows) : cTable.own w t [.int .i64 t.rows, v] bs :=
  ⟨[_], _, [], bs, rfl, rfl, ⟨rfl, h2, rfl⟩, v, rfl, h1⟩
theorem cTable_shape {w : World} {f : PT} {cs : List Value} (h : cTable.rd w f cs) : ∃ a cap, cs = [.int .i64 f.rows, .slice a f.cells.length cap] ∧ RdSl cCell w f.cells (.slice a f.cells.length cap) ∧ IntIn f.rows := by
  obtain ⟨v, rfl, hv, hi⟩ := cTable_rd h
  obtain ⟨a, cap, rfl, _⟩ := id hv
  exact ⟨a, cap, rfl, hv, hi⟩
theorem set2b {B : Nat} {a w : World} {g : Nat} {x y : Value} (h : Below B a w) (hg : B ≤ g) : Below B a ((w.setCell ⟨g, 0, none⟩ x).setCell ⟨g, 1, none⟩ y) :=
  (h.setCell (p := ⟨g, 0, none⟩) hg _).setCell (p := ⟨g, 1, none⟩) hg _
set_option maxHeartbeats 1000000 in
theorem eqTable_law : EqLaw Tryz.prog 79 cTable totT := by
  intro w t cs cs' h1 h2 ht
  obtain ⟨a1, c1, rfl, hv1, hi⟩ := cTable_shape h1
  obtain ⟨a2, c2, rfl, hv2, -⟩ := cTable_shape h2
  simp only [val]
  have H1 := hid hv1
  have H2 := hid hv2
  clear h1 h2 hv1 hv2
  go_enter Tryz.func79, Tryz.ntmps79
  go_wp2_with fail
  refine (eqCellS_any a1 a2 c1 c2 t.cells _ (H1.out.later (below_new2 _ _ _)) (H2.out.later (below_new2 _ _ _)) ht).mono ?_
  rintro e w2 ⟨rfl, b2⟩
  have HB : Hid (Below w.heap.size w w2) := hid ((below_new2 w _ _).trans (b2.mono (by simp; omega)))
  clear b2
  go_wp2
  go_ret
  exact ⟨rfl, HB.out⟩
end Go.Proofs.YtfaehioeepolhaaGreat
