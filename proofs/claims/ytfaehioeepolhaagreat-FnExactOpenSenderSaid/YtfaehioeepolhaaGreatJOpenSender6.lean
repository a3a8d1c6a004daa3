/- Cel, CelTo, SlToCell, SlSzCell, SlEqCell, Tab. -/
import Derived.Test.YtfaehioeepolhaaGreatJOpenSender1
import Derived.Test.YtfaehioeepolhaaGreatJOpenSender3
import Derived.Handy
import Derived.Deep.RegionHeld
/- Cells in memory. -/
namespace Go.Proofs.YtfaehioeepolhaaGreat
open Go.RowKit

structure PC where
  null : Bool
  num : Int
  text : List Nat
deriving DecidableEq

def cCell : Cod PC := cMap (cPair cBool (cPair cInt (cSl cByte 5))) fun f => (f.null, f.num, f.text)

theorem cCell_rd {w : World} {f : PC} {cs : List Value} (h : cCell.rd w f cs) : ∃ v, cs = [.bool f.null, .int .i64 f.num, v] ∧ RdSl cByte w f.text v ∧ IntIn f.num := by
  obtain ⟨c1, c2, rfl, h0, c3, c4, rfl, ⟨rfl, h2⟩, v, rfl, h3⟩ := h
  have h0 : c1 = [.bool f.null] := h0
  subst h0
  exact ⟨v, rfl, h3, h2⟩
theorem cCell_mk {w : World} {f : PC} {v : Value} (h1 : RdSl cByte w f.text v) (h2 : IntIn f.num) : cCell.rd w f [.bool f.null, .int .i64 f.num, v] :=
  ⟨[_], _, rfl, rfl, [_], _, rfl, ⟨rfl, h2⟩, v, rfl, h1⟩
theorem cCell_own {w : World} {f : PC} {v : Value} {bs : List Nat} (h1 : OwnSl cByte 5 w f.text v bs) (h2 : IntIn f.num) : cCell.own w f [.bool f.null, .int .i64 f.num, v] bs :=
  ⟨[_], _, [], bs, rfl, rfl, ⟨rfl, rfl⟩, [_], _, [], bs, rfl, rfl, ⟨rfl, h2, rfl⟩, v, rfl, h1⟩
theorem cCell_owned {w : World} {f : PC} {cs : List Value} {bs : List Nat} (h : cCell.own w f cs bs) : ∃ v, cs = [.bool f.null, .int .i64 f.num, v] ∧ OwnSl cByte 5 w f.text v bs ∧ IntIn f.num := by
  obtain ⟨c1, c2, b1, b2, rfl, rfl, ⟨h0, rfl⟩, c3, c4, b3, b4, rfl, rfl, ⟨rfl, h2, rfl⟩, v, rfl, h3⟩ := h
  have h0 : c1 = [.bool f.null] := h0
  subst h0
  exact ⟨v, rfl, by simpa using h3, h2⟩
theorem cCell_shape {w : World} {f : PC} {cs : List Value} (h : cCell.rd w f cs) : ∃ a cap, cs = [.bool f.null, .int .i64 f.num, .slice a f.text.length cap] := by
  obtain ⟨v, rfl, ⟨a, cap, rfl, _⟩, _⟩ := cCell_rd h
  exact ⟨a, cap, rfl⟩

end Go.Proofs.YtfaehioeepolhaaGreat

/- laws.toCell. -/
namespace Go.Proofs.YtfaehioeepolhaaGreat
open Go.RowKit

set_option maxHeartbeats 400000 in
theorem toCell_any (f : PC) (v0 : Value) (w : World) (hv : RdSl cByte w f.text v0) (hn : f.text.length ≤ 1048576) :
    Calls Tryz.prog 179 #[.agg #[.bool f.null, .int .i64 f.num, v0]] w fun e w' => ∃ v bs, e = .returned (.agg #[.bool f.null, .int .i64 f.num, v]) ∧ OwnSl cByte 5 w' f.text v bs ∧ (∀ b ∈ bs, w.heap.size ≤ b) ∧ bs.Nodup ∧ Below w.heap.size w w' := by
  obtain ⟨a, cap, rfl, hcap, hml, hnone, hrd, hby⟩ := hv.bytes
  have HRD := hid hrd
  clear hrd hv
  go_enter Tryz.func179, Tryz.ntmps179
  go_wp2_with fail
  refine (toByteS_any a cap f.text _ (HRD.out.later (below_new3 _ _ _ _)) (by omega)).mono ?_
  rintro e w2 ⟨g2, rfl, o2, b2⟩
  have hg := own_in o2 (g := g2) rfl
  rw [size3] at hg b2
  obtain ⟨k0, k1, k2⟩ := heap3 _ _ _ b2
  have c10 := cell_of_row w2 _ 0 _ _ _ k1
  have c11 := cell_of_row w2 _ 1 _ _ _ k1
  have c12 := cell_of_row w2 _ 2 _ _ _ k1
  have f10 := frozen_of_row w2 _ 0 _ _ k1
  have f11 := frozen_of_row w2 _ 1 _ _ k1
  have f12 := frozen_of_row w2 _ 2 _ _ k1
  have c20 := cell_of_row w2 _ 0 _ _ _ k2
  have c21 := cell_of_row w2 _ 1 _ _ _ k2
  have c22 := cell_of_row w2 _ 2 _ _ _ k2
  have f22 := frozen_of_row w2 _ 2 _ _ k2
  simp at c10 c11 c12 c20 c21 c22
  have K1 := hid k1
  clear k0 k1 k2
  go_wp2
  have hb : Below w.heap.size w w2 := (below_new3 w _ _ _).trans (b2.mono (by omega))
  have h12 : w.heap.size + 1 ≠ w.heap.size + 1 + 1 := by omega
  refine bodyPost_ret (results_cell_row rfl _ _ (w.heap.size + 1) 157 #[.bool f.null, .int .i64 f.num, .slice (some ⟨g2, 0, none⟩) f.text.length f.text.length] (0, 0) _ rfl (set3 ((Below.heap_setCell _ ⟨w.heap.size + 1 + 1, 2, none⟩ _ _ h12).trans K1.out)) Tryz.underlying157 rfl (by kernel_rfl)) rfl ?_
  refine ⟨_, [g2], rfl, ?_, by simp; omega, by simp, ?_⟩
  · refine OwnSl.kept (ownSl_bytes o2 hby) (fun b hb => ?_)
    simp at hb
    subst hb
    have hb2 : b ≠ w.heap.size + 1 + 1 := by omega
    exact (set3o (by omega)).trans (Below.heap_setCell _ ⟨w.heap.size + 1 + 1, 2, none⟩ _ _ hb2)
  · exact set3b (hb.setCell (p := ⟨w.heap.size + 1 + 1, 2, none⟩) (by simp only []; omega) _) (by omega)

theorem toCell_law : ToLaw Tryz.prog 179 cCell (fun f => f.text.length) := by
  intro w f cs h ht
  obtain ⟨v, rfl, hv, h1⟩ := cCell_rd h
  refine (toCell_any f v w hv ht).mono ?_
  rintro e w' ⟨v', bs, rfl, ho, hb, hn, hbe⟩
  exact ⟨_, bs, rfl, cCell_own ho h1, hb, hn, hbe⟩

end Go.Proofs.YtfaehioeepolhaaGreat

/- laws.toCellS: a slice of three-celled things copied. -/
namespace Go.Proofs.YtfaehioeepolhaaGreat
open Go.RowKit

theorem infoImCell : (Tryz.prog.info? 157).map (fun i => (i.zero, i.size, i.bytes)) = some (some (.agg #[.bool false, .int .i64 0, .slice none 0 0]), 3, 40) := by kernel_rfl

set_option maxHeartbeats 1000000 in
theorem toCellS_any (a : Option Addr) (cap : Nat) (xs : List PC) (w : World) (hr : RdSl cCell w xs (.slice a xs.length cap)) (ht : totL (fun f : PC => f.text.length) xs ≤ 1048576) :
    Calls Tryz.prog 138 #[.slice a xs.length cap] w fun e w' => ∃ v bs, e = .returned v ∧ OwnSl cCell 157 w' xs v bs ∧ (∀ b ∈ bs, w.heap.size ≤ b) ∧ bs.Nodup ∧ Below w.heap.size w w' := by
  obtain ⟨i0, hi, hz0, hz1, hz2⟩ := info_parts infoImCell
  have HR := hid hr
  clear hr
  have hlen : xs.length ≤ 1048576 := by unfold totL at ht; omega
  go_enter Tryz.func138, Tryz.ntmps138
  go_wp2_with (first | (at_make; refine wpList_make_full _ rfl (.tmp 6) (.tmp 6) 109 rfl w.heap.size 157 i0 (.agg #[.bool false, .int .i64 0, .slice none 0 0]) 3 Tryz.underlying109 hi hz0 hz1 .i64 .i64 _ _ xs.length rfl rfl rfl rfl (by rw [hz2]; omega) (by unfold maxLen; omega) (by simp) ?_))
  intro w1 ho hg1
  have HB1 : Hid (Below w.heap.size w w1) := hid ((Below.refl _ w).grown hg1 (Nat.le_refl _) (by intro k h; cases h))
  have HM : Hid (Made3 cCell 157 w w1 xs 0) := hid ⟨_, [], ho, rfl, fun i h h2 => by simp at h2, by simp, by simp⟩
  clear hg1 hi hz0 hz1 hz2 ho
  go_wp2
  go_loopw [4] (fun i wr => ∃ k : Nat, k ≤ xs.length ∧ i = .int .i64 k ∧ Made3 cCell 157 w wr xs k ∧ Below w.heap.size w wr) (fun i _ => xs.length - (intOf i).toNat)
  case atStart => exact ⟨0, Nat.zero_le _, rfl, HM.out, HB1.out⟩
  case round =>
    obtain ⟨k, hk, rfl, hm, hbe⟩ := hrel
    have HV := hid hm
    have HB := hid hbe
    clear hm hbe
    by_cases hlt : k < xs.length
    · obtain ⟨b, off, v0, v1, v2, rfl, hes, d0, d1, d2⟩ := (HR.out.later HB.out).at3 rfl hlt
      have HE := hid hes
      have hki : (k : Int) < (xs.length : Int) := by omega
      clear hes
      go_wp2_with fail
      refine (toCell_law wr xs[k] _ HE.out (by have := tot_at (fun f : PC => f.text.length) xs k hlt; unfold totL at ht; simp only [] at this ⊢; omega)).mono ?_
      rintro e w2 ⟨cs', bs, rfl, o2, hbs, hnd, b2⟩
      obtain ⟨ax, cx, rfl⟩ := cCell_shape (cCell.ownRd o2)
      simp only [val]
      have HN : Hid (Made3 cCell 157 w (((w2.setCell ⟨w.heap.size, k * 3, none⟩ (.bool xs[k].null)).setCell ⟨w.heap.size, k * 3 + 1, none⟩ (.int .i64 xs[k].num)).setCell ⟨w.heap.size, k * 3 + 2, none⟩ (.slice ax xs[k].text.length cx)) xs (k + 1)) := hid (HV.out.step hlt b2 o2 hbs hnd)
      have HBB : Hid (Below w.heap.size w (((w2.setCell ⟨w.heap.size, k * 3, none⟩ (.bool xs[k].null)).setCell ⟨w.heap.size, k * 3 + 1, none⟩ (.int .i64 xs[k].num)).setCell ⟨w.heap.size, k * 3 + 2, none⟩ (.slice ax xs[k].text.length cx))) := hid ((((HB.out.trans (b2.mono HB.out.size)).setCell (p := ⟨w.heap.size, k * 3, none⟩) (Nat.le_refl _) _).setCell (p := ⟨w.heap.size, k * 3 + 1, none⟩) (Nat.le_refl _) _).setCell (p := ⟨w.heap.size, k * 3 + 2, none⟩) (Nat.le_refl _) _)
      obtain ⟨vs, hvl, how2⟩ := HV.out.row b2
      have f0 := how2.frozenAt (k * 3)
      have f1 := how2.frozenAt (k * 3 + 1)
      have f2 := how2.frozenAt (k * 3 + 2)
      have q0 := how2.cellAt (k * 3) (by omega)
      have q1 := how2.cellAt (k * 3 + 1) (by omega)
      have q2 := how2.cellAt (k * 3 + 2) (by omega)
      rw [List.getElem?_eq_getElem (by omega)] at q0 q1 q2
      generalize vs[k * 3] = y0 at q0
      generalize vs[k * 3 + 1] = y1 at q1
      generalize vs[k * 3 + 2] = y2 at q2
      clear o2 hbs hnd b2 how2 hvl
      go_wp2
      go_roundw
      case rel => exact ⟨k + 1, by omega, by go_num, HN.out, HBB.out⟩
      case measure => simp [intOf]; omega
    · obtain rfl : k = xs.length := by omega
      obtain ⟨bs, h1, h2, h3⟩ := HV.out.done rfl
      have HF := hid h1
      clear h1
      go_wp2
      go_ret
      exact ⟨_, bs, rfl, HF.out, h2, h3, HB.out⟩

theorem toCellS_law : ToLaw Tryz.prog 138 (cSl cCell 157) (totL (fun f : PC => f.text.length)) := by
  intro w xs cs h ht
  obtain ⟨v, rfl, hv⟩ := h
  obtain ⟨a, cap, rfl, _⟩ := id hv
  refine (toCellS_any a cap xs w hv ht).mono ?_
  rintro e w' ⟨v', bs, rfl, ho, hb, hn, hbe⟩
  exact ⟨[v'], bs, rfl, ⟨v', rfl, ho⟩, hb, hn, hbe⟩

end Go.Proofs.YtfaehioeepolhaaGreat

/- laws.szCell, szCellS. -/
namespace Go.Proofs.YtfaehioeepolhaaGreat
open Go.RowKit

set_option maxHeartbeats 400000 in
theorem szCell_law : SzLaw Tryz.prog 178 cCell (fun f : PC => f.text.length) := by
  intro w x cs l hrd h0 h1
  obtain ⟨a, cap, rfl⟩ := cCell_shape hrd
  have hm : x.text.length ≤ maxLen := by
    obtain ⟨v, e, ⟨a', cap', rfl, h2, h3, _⟩, _⟩ := cCell_rd hrd
    omega
  simp only [val]
  by_cases hneg : rest l x.text.length < 0
  · have hm1 := rest_neg1 hneg
    go_enter Tryz.func178, Tryz.ntmps178
    go_wp2_with fail
    refine (szBytes_any a _ cap l _ hm h0 h1).mono ?_
    rintro e w2 ⟨rfl, rfl⟩
    have HM := hid hm1
    clear hm1
    generalize hr : rest l x.text.length = r at *
    go_wp2
    go_ret
    exact ⟨by show _ = Ending.returned (.int .i64 (rest l x.text.length)); rw [hr, HM.out]; rfl, below_new1 _ _⟩
  · go_enter Tryz.func178, Tryz.ntmps178
    go_wp2_with fail
    refine (szBytes_any a _ cap l _ hm h0 h1).mono ?_
    rintro e w2 ⟨rfl, rfl⟩
    generalize hr : rest l x.text.length = r at *
    go_wp2
    go_ret
    exact ⟨by show _ = Ending.returned (.int .i64 (rest l x.text.length)); rw [hr]; rfl, below_new1 _ _⟩

set_option maxHeartbeats 1000000 in
theorem szCellS_any (a : Option Addr) (cap : Nat) (xs : List PC) (l : Int) (w : World) (hr : RdSl cCell w xs (.slice a xs.length cap)) (h0 : 0 ≤ l) (h1 : l ≤ 1048576) :
    Calls Tryz.prog 134 #[.slice a xs.length cap, .int .i64 l] w fun e w' => e = .returned (.int .i64 (rest l (totL (fun f : PC => f.text.length) xs))) ∧ Below w.heap.size w w' := by
  have hml : xs.length ≤ maxLen := by
    obtain ⟨a', cap', e', g1, g2, _⟩ := hr
    omega
  unfold maxLen at hml
  have HR := hid hr
  clear hr
  by_cases hbig : l - (xs.length : Int) < 0
  · have HM : Hid (rest l (totL (fun f : PC => f.text.length) xs) = -1) := hid (by unfold rest totL; rw [if_pos (by omega)])
    go_enter Tryz.func134, Tryz.ntmps134
    go_wp2
    go_ret
    exact ⟨by rw [HM.out]; rfl, Below.refl _ _⟩
  · go_enter Tryz.func134, Tryz.ntmps134
    go_wp2
    go_loopw [1, 5] (fun q i wr => ∃ k : Nat, k ≤ xs.length ∧ i = .int .i64 k ∧ q = .int .i64 (rest l (xs.length + ((xs.take k).map (fun f : PC => f.text.length)).sum)) ∧ 0 ≤ rest l (xs.length + ((xs.take k).map (fun f : PC => f.text.length)).sum) ∧ Below w.heap.size w wr) (fun _ i _ => xs.length - (intOf i).toNat)
    case atStart => exact ⟨0, Nat.zero_le _, rfl, by simp [rest]; omega, by simp [rest]; omega, Below.refl _ _⟩
    case round =>
      obtain ⟨k, hk, rfl, rfl, hle, hbe⟩ := hrel
      have HB := hid hbe
      clear hbe
      by_cases hlt : k < xs.length
      · obtain ⟨b, off, v0, v1, v2, rfl, hes, d0, d1, d2⟩ := (HR.out.later HB.out).at3 rfl hlt
        have HE := hid hes
        have hki : (k : Int) < (xs.length : Int) := by omega
        have HS := hid (sum_snoc (fun f : PC => f.text.length) xs k hlt)
        have HT := hid (rest_two (m := (fun f : PC => f.text.length) xs[k]) hle)
        have HNG : Hid (rest l (xs.length + ((xs.take (k + 1)).map (fun f : PC => f.text.length)).sum) < 0 → rest l (totL (fun f : PC => f.text.length) xs) = -1) := hid (fun h => by
          have h2 := sum_take (fun f : PC => f.text.length) xs (k + 1)
          have h3 := rest_neg (m := totL (fun f : PC => f.text.length) xs - (xs.length + ((xs.take (k + 1)).map (fun f : PC => f.text.length)).sum)) h
          unfold totL at *
          rw [show xs.length + ((xs.take (k + 1)).map (fun f : PC => f.text.length)).sum + (xs.length + (xs.map (fun f : PC => f.text.length)).sum - (xs.length + ((xs.take (k + 1)).map (fun f : PC => f.text.length)).sum)) = xs.length + (xs.map (fun f : PC => f.text.length)).sum from by omega] at h3
          exact h3)
        have hup := rest_le (n := xs.length + ((xs.take k).map (fun f : PC => f.text.length)).sum) h1
        clear hes
        generalize hq : rest l (xs.length + ((xs.take k).map (fun f : PC => f.text.length)).sum) = q at *
        go_wp2_with fail
        refine (szCell_law wr xs[k] _ q HE.out hle hup).mono ?_
        rintro e w2 ⟨rfl, b2⟩
        have HB2 := hid (HB.out.trans (b2.mono HB.out.size))
        clear b2
        have HQ : Hid (rest q ((fun f : PC => f.text.length) xs[k]) = rest l (xs.length + ((xs.take (k + 1)).map (fun f : PC => f.text.length)).sum)) := hid (by rw [HT.out, HS.out, Nat.add_assoc])
        generalize rest q ((fun f : PC => f.text.length) xs[k]) = r at *
        by_cases hneg : r < 0
        · have hz := HNG.out (by rw [← HQ.out]; exact hneg)
          have HZ := hid hz
          clear hz
          go_wp2
          go_ret
          exact ⟨by rw [HZ.out]; rfl, HB2.out⟩
        · go_wp2
          go_roundw
          case rel => exact ⟨k + 1, by omega, by go_num, by rw [HQ.out], by rw [← HQ.out]; omega, HB2.out⟩
          case measure => simp [intOf]; omega
      · obtain rfl : k = xs.length := by omega
        have HF : Hid (rest l (xs.length + ((xs.take xs.length).map (fun f : PC => f.text.length)).sum) = rest l (totL (fun f : PC => f.text.length) xs)) := hid (by rw [List.take_length]; rfl)
        rw [HF.out]
        go_wp2
        go_ret
        exact ⟨rfl, HB.out⟩

theorem szCellS_law : SzLaw Tryz.prog 134 (cSl cCell 157) (totL (fun f : PC => f.text.length)) := by
  intro w xs cs l h h0 h1
  obtain ⟨v, rfl, hv⟩ := h
  obtain ⟨a, cap, rfl, _⟩ := id hv
  exact szCellS_any a cap xs l w hv h0 h1

end Go.Proofs.YtfaehioeepolhaaGreat

/- laws.eqCell, eqCellS: two that are alike. -/
namespace Go.Proofs.YtfaehioeepolhaaGreat
open Go.RowKit

set_option maxHeartbeats 1000000 in
theorem eqCell_law : EqLaw Tryz.prog 177 cCell (fun f : PC => f.text.length) := by
  intro w x cs cs' h1 h2 ht
  obtain ⟨a1, c1, rfl⟩ := cCell_shape h1
  obtain ⟨a2, c2, rfl⟩ := cCell_shape h2
  have r1 : Rd w a1 (byt x.text) := by
    obtain ⟨v, e, hv, _⟩ := cCell_rd h1
    obtain ⟨a', cap', rfl, _, _, _, hr, _⟩ := hv.bytes
    simp at e; rw [e.1]; exact hr
  have r2 : Rd w a2 (byt x.text) := by
    obtain ⟨v, e, hv, _⟩ := cCell_rd h2
    obtain ⟨a', cap', rfl, _, _, _, hr, _⟩ := hv.bytes
    simp at e; rw [e.1]; exact hr
  simp only [val]
  clear h1 h2
  go_enter Tryz.func177, Tryz.ntmps177
  go_wp2_with fail
  refine (eqByteS_any a1 a2 c1 c2 _ x.text _ (r1.later (below_new2 _ _ _)) (r2.later (below_new2 _ _ _)) rfl (by have h : x.text.length ≤ 1048576 := ht; omega)).mono ?_
  rintro e w2 ⟨rfl, b2⟩
  rw [size2] at b2
  obtain ⟨k0, k1⟩ := heap2 _ _ b2
  have p0 := cell_of_row w2 _ 0 _ _ _ k0
  have p1 := cell_of_row w2 _ 1 _ _ _ k0
  have q0 := cell_of_row w2 _ 0 _ _ _ k1
  have q1 := cell_of_row w2 _ 1 _ _ _ k1
  simp at p0 p1 q0 q1
  have HB : Hid (Below w.heap.size w w2) := hid ((below_new2 w _ _).trans (b2.mono (by omega)))
  clear k0 k1 b2 r1 r2
  go_wp2
  go_ret
  exact ⟨rfl, HB.out⟩

set_option maxHeartbeats 2000000 in
theorem eqCellS_any (a1 a2 : Option Addr) (c1 c2 : Nat) (xs : List PC) (w : World) (h1 : RdSl cCell w xs (.slice a1 xs.length c1)) (h2 : RdSl cCell w xs (.slice a2 xs.length c2)) (ht : totL (fun f : PC => f.text.length) xs ≤ 1048576) :
    Calls Tryz.prog 131 #[.slice a1 xs.length c1, .slice a2 xs.length c2] w fun e w' => e = .returned (.bool true) ∧ Below w.heap.size w w' := by
  have H1 := hid h1
  have H2 := hid h2
  clear h1 h2
  have hlen : xs.length ≤ 1048576 := by unfold totL at ht; omega
  go_enter Tryz.func131, Tryz.ntmps131
  go_wp2
  go_loopw [5] (fun i wr => ∃ k : Nat, k ≤ xs.length ∧ i = .int .i64 k ∧ Below w.heap.size w wr) (fun i _ => xs.length - (intOf i).toNat)
  case atStart => exact ⟨0, Nat.zero_le _, rfl, Below.refl _ _⟩
  case round =>
    obtain ⟨k, hk, rfl, hbe⟩ := hrel
    have HB := hid hbe
    clear hbe
    by_cases hlt : k < xs.length
    · obtain ⟨b1, o1, x0, x1, x2, rfl, hes1, d0, d1, d2⟩ := (H1.out.later HB.out).at3 rfl hlt
      obtain ⟨b2, o2, y0, y1, y2, rfl, hes2, g0, g1, g2⟩ := (H2.out.later HB.out).at3 rfl hlt
      have HQ : Hid (Calls Tryz.prog 177 #[.agg #[x0, x1, x2], .agg #[y0, y1, y2]] wr.drew fun e w' => e = .returned (.bool true) ∧ Hid (Below w.heap.size w w') ∧ w'.cell? ⟨b1, o1 + k * 3, none⟩ = some x0 ∧ w'.cell? ⟨b1, o1 + k * 3 + 1, none⟩ = some x1 ∧ w'.cell? ⟨b1, o1 + k * 3 + 2, none⟩ = some x2 ∧ w'.cell? ⟨b2, o2 + k * 3, none⟩ = some y0 ∧ w'.cell? ⟨b2, o2 + k * 3 + 1, none⟩ = some y1 ∧ w'.cell? ⟨b2, o2 + k * 3 + 2, none⟩ = some y2) := hid (by
        refine (eqCell_law wr.drew xs[k] _ _ (cCell.later hes1 (Below.refl _ _).drew) (cCell.later hes2 (Below.refl _ _).drew) (by have := tot_at (fun f : PC => f.text.length) xs k hlt; unfold totL at ht; simp only [] at this ⊢; omega)).mono ?_
        rintro e w' ⟨rfl, b⟩
        have kp : ∀ p v, wr.cell? p = some v → w'.cell? p = some v := fun p v h => (b.cell (World.block_lt_of_cell? _ _ h)).trans h
        exact ⟨rfl, hid (HB.out.drew.trans (b.mono HB.out.size)), kp _ _ d0, kp _ _ d1, kp _ _ d2, kp _ _ g0, kp _ _ g1, kp _ _ g2⟩)
      have hki : (k : Int) < (xs.length : Int) := by omega
      clear hes1 hes2
      go_wp2
      go_region_held (fun w' => w'.cell? ⟨b1, o1 + k * 3, none⟩ = some x0 ∧ w'.cell? ⟨b1, o1 + k * 3 + 1, none⟩ = some x1 ∧ w'.cell? ⟨b1, o1 + k * 3 + 2, none⟩ = some x2 ∧ w'.cell? ⟨b2, o2 + k * 3, none⟩ = some y0 ∧ w'.cell? ⟨b2, o2 + k * 3 + 1, none⟩ = some y1 ∧ w'.cell? ⟨b2, o2 + k * 3 + 2, none⟩ = some y2) (go_keep) (first | (go_at_call 177; refine HQ.out.mono ?_; rintro e w' ⟨rfl, hw', hd0, hd1, hd2, hg0, hg1, hg2⟩))
      go_wp2
      go_roundw
      case rel => exact ⟨k + 1, by omega, by go_num, hw'.out⟩
      case measure => simp [intOf]; omega
    · obtain rfl : k = xs.length := by omega
      go_wp2
      go_ret
      exact ⟨rfl, HB.out⟩

theorem eqCellS_law : EqLaw Tryz.prog 131 (cSl cCell 157) (totL (fun f : PC => f.text.length)) := by
  intro w xs cs cs' h1 h2 ht
  obtain ⟨v, rfl, hv⟩ := h1
  obtain ⟨a, cap, rfl, _⟩ := id hv
  obtain ⟨v', rfl, hv'⟩ := h2
  obtain ⟨a', cap', rfl, _⟩ := id hv'
  exact eqCellS_any a a' cap cap' xs w hv hv' ht

end Go.Proofs.YtfaehioeepolhaaGreat

/- Tables: in memory, and laws.toTable, szTable, eqTable. -/
namespace Go.Proofs.YtfaehioeepolhaaGreat
open Go.RowKit

structure PT where
  rows : Int
  cells : List PC
deriving DecidableEq

def cTable : Cod PT := cMap (cPair cInt (cSl cCell 157)) fun f => (f.rows, f.cells)
abbrev totT (t : PT) : Nat := totL (fun f : PC => f.text.length) t.cells

theorem cTable_rd {w : World} {t : PT} {cs : List Value} (h : cTable.rd w t cs) : ∃ v, cs = [.int .i64 t.rows, v] ∧ RdSl cCell w t.cells v ∧ IntIn t.rows := by
  obtain ⟨c1, c2, rfl, ⟨rfl, h2⟩, v, rfl, h3⟩ := h
  exact ⟨v, rfl, h3, h2⟩
theorem cTable_own {w : World} {t : PT} {v : Value} {bs : List Nat} (h1 : OwnSl cCell 157 w t.cells v bs) (h2 : IntIn t.rows) : cTable.own w t [.int .i64 t.rows, v] bs :=
  ⟨[_], _, [], bs, rfl, rfl, ⟨rfl, h2, rfl⟩, v, rfl, h1⟩
theorem cTable_shape {w : World} {f : PT} {cs : List Value} (h : cTable.rd w f cs) : ∃ a cap, cs = [.int .i64 f.rows, .slice a f.cells.length cap] ∧ RdSl cCell w f.cells (.slice a f.cells.length cap) ∧ IntIn f.rows := by
  obtain ⟨v, rfl, hv, hi⟩ := cTable_rd h
  obtain ⟨a, cap, rfl, _⟩ := id hv
  exact ⟨a, cap, rfl, hv, hi⟩

theorem set2b {B : Nat} {a w : World} {g : Nat} {x y : Value} (h : Below B a w) (hg : B ≤ g) : Below B a ((w.setCell ⟨g, 0, none⟩ x).setCell ⟨g, 1, none⟩ y) :=
  (h.setCell (p := ⟨g, 0, none⟩) hg _).setCell (p := ⟨g, 1, none⟩) hg _
theorem set2o {w : World} {g k : Nat} {x y : Value} (h : k ≠ g) : ((w.setCell ⟨g, 0, none⟩ x).setCell ⟨g, 1, none⟩ y).heap[k]? = w.heap[k]? := by
  rw [Below.heap_setCell _ _ _ _ h, Below.heap_setCell _ _ _ _ h]

set_option maxHeartbeats 1000000 in
theorem toTable_law : ToLaw Tryz.prog 91 cTable totT := by
  intro w t cs h ht
  obtain ⟨a, cap, rfl, hv, hi⟩ := cTable_shape h
  simp only [val]
  have HV := hid hv
  clear h hv
  go_enter Tryz.func91, Tryz.ntmps91
  go_wp2_with fail
  refine (toCellS_any a cap t.cells _ (HV.out.later (below_new3 _ _ _ _)) ht).mono ?_
  rintro e w2 ⟨v, bs, rfl, o2, hbs, hnd, b2⟩
  obtain ⟨a2, c2, rfl, -⟩ := id o2.rd
  rw [size3] at hbs b2
  obtain ⟨k0, k1, k2⟩ := heap3 _ _ _ b2
  have c10 := cell_of_row w2 _ 0 _ _ _ k1
  have c11 := cell_of_row w2 _ 1 _ _ _ k1
  have f10 := frozen_of_row w2 _ 0 _ _ k1
  have f11 := frozen_of_row w2 _ 1 _ _ k1
  have c20 := cell_of_row w2 _ 0 _ _ _ k2
  have c21 := cell_of_row w2 _ 1 _ _ _ k2
  have f21 := frozen_of_row w2 _ 1 _ _ k2
  simp at c10 c11 c20 c21
  have K1 := hid k1
  have HO := hid o2
  have HBS := hid hbs
  have HB : Hid (Below w.heap.size w w2) := hid ((below_new3 w _ _ _).trans (b2.mono (by omega)))
  clear k0 k1 k2 o2 hbs b2
  go_wp2
  have h12 : w.heap.size + 1 ≠ w.heap.size + 1 + 1 := by omega
  refine bodyPost_ret (results_cell_row rfl _ _ (w.heap.size + 1) 111 #[.int .i64 t.rows, .slice a2 t.cells.length c2] (0, 0) _ rfl (set2 ((Below.heap_setCell _ ⟨w.heap.size + 1 + 1, 1, none⟩ _ _ h12).trans K1.out)) Tryz.underlying111 rfl (by kernel_rfl)) rfl ?_
  refine ⟨[.int .i64 t.rows, .slice a2 t.cells.length c2], bs, rfl, ?_, fun b hb => by have := HBS.out b hb; omega, hnd, ?_⟩
  · refine cTable_own (OwnSl.kept HO.out (fun b hb => ?_)) hi
    have := HBS.out b hb
    have hb2 : b ≠ w.heap.size + 1 + 1 := by omega
    exact (set2o (by omega)).trans (Below.heap_setCell _ ⟨w.heap.size + 1 + 1, 1, none⟩ _ _ hb2)
  · exact set2b (HB.out.setCell (p := ⟨w.heap.size + 1 + 1, 1, none⟩) (by simp only []; omega) _) (by omega)

set_option maxHeartbeats 1000000 in
theorem szTable_law : SzLaw Tryz.prog 85 cTable totT := by
  intro w t cs l h h0 h1
  obtain ⟨a, cap, rfl, hv, hi⟩ := cTable_shape h
  simp only [val]
  have HV := hid hv
  clear h hv
  have hm1 : rest l (totT t) < 0 → rest l (totT t) = -1 := rest_neg1
  go_enter Tryz.func85, Tryz.ntmps85
  go_wp2_with fail
  refine (szCellS_any a cap t.cells l _ (HV.out.later (below_new1 _ _)) h0 h1).mono ?_
  rintro e w2 ⟨rfl, b2⟩
  have HB : Hid (Below w.heap.size w w2) := hid ((below_new1 w _).trans (b2.mono (by simp)))
  have HM := hid hm1
  clear b2 hm1
  have HT : Hid (rest l (totL (fun f : PC => f.text.length) t.cells) = rest l (totT t)) := hid rfl
  rw [HT.out]
  generalize hrr : rest l (totT t) = r at *
  by_cases hneg : r < 0
  · go_wp2
    go_ret
    exact ⟨by rw [hrr, HM.out hneg]; rfl, HB.out⟩
  · go_wp2
    go_ret
    exact ⟨by rw [hrr]; rfl, HB.out⟩

set_option maxHeartbeats 1000000 in
theorem eqTable_law : EqLaw Tryz.prog 79 cTable totT := by
  intro w t cs cs' h1 h2 ht
  obtain ⟨a1, c1, rfl, hv1, hi⟩ := cTable_shape h1
  obtain ⟨a2, c2, rfl, hv2, -⟩ := cTable_shape h2
  simp only [val]
  have H1 := hid hv1
  have H2 := hid hv2
  clear h1 h2 hv1 hv2
  go_enter Tryz.func79, Tryz.ntmps79
  go_wp2_with fail
  refine (eqCellS_any a1 a2 c1 c2 t.cells _ (H1.out.later (below_new2 _ _ _)) (H2.out.later (below_new2 _ _ _)) ht).mono ?_
  rintro e w2 ⟨rfl, b2⟩
  have HB : Hid (Below w.heap.size w w2) := hid ((below_new2 w _ _).trans (b2.mono (by simp; omega)))
  clear b2
  go_wp2
  go_ret
  exact ⟨rfl, HB.out⟩

end Go.Proofs.YtfaehioeepolhaaGreat
