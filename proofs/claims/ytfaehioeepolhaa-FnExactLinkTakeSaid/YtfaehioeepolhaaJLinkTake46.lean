import Derived.Test.YtfaehioeepolhaaJLinkTake45
import Derived.Test.YtfaehioeepolhaaJLinkTake37
import Derived.Test.YtfaehioeepolhaaJLinkTake38
import Derived.Deep.LoopGhost
import Derived.Deep.DeepCutAuto
namespace Go.Proofs.Ytfaehioeepolhaa
open Go.RowKit Go.Maps Go.WideMaps
set_option linter.unusedVariables false in
def toT (W : World) (lo gO gR : Nat) (e x : Int) (hv pv : Value) (D : List Nat) : Nat → FX
  | 0 => FX.eq (.pointer (some ⟨gO, 0, none⟩))
  | 1 => FX.eq (.int .i64 e)
  | 2 => FX.eq (.pointer (some ⟨gO, 1, none⟩))
  | 3 => FX.eq (.int .i64 x)
  | 4 => FX.eq (.pointer (some ⟨gO, 3, none⟩))
  | 5 => FX.eq (pv)
  | 6 => FX.pre [8] (fcRowD lo D)
  | 7 => FX.pre [8] (fcAggH lo e x hv D)
  | 8 => FX.is (fcBoxH W lo gR e x hv D)
  | _ => FX.eq undef
theorem TkSt.grown {B gm m : Nat} {e x : Int} {pt : List Nat} {ms : List (List Nat)} {mv : Value} {w w' : World} (h : TkSt B gm e x pt ms mv w) (hg : w.grownBy w' (some m)) (hm : m < B) (hne : m ≠ gm) : TkSt B gm e x pt ms mv w' := by
  obtain ⟨a, c, us, vs, h1, h2, h3, h4, h5⟩ := h
  have hk : ∀ b ∈ us ++ vs, b < w.heap.size → w'.heap[b]? = w.heap[b]? := fun b hb hl => hg.block b hl (fun e => by have := (h5 b hb).1; simp at e; omega)
  exact ⟨a, c, us, vs, (hg.block _ (Array.getElem?_eq_some_iff.1 h1).1 (fun e => hne (by simpa using e.symm))).trans h1, h2.kept (fun b hb => hk b (List.mem_append_left _ hb) (h2.lt b hb)), h3.kept (fun b hb => hk b (List.mem_append_right _ hb) (h3.lt b hb)), h4, h5⟩
def ToPost (w0 : World) (s : PI) (p : PP) (e : Ending) (w' : World) : Prop :=
  Below w0.heap.size w0 w' ∧ ((takeD s p = none ∧ e = .returned (.tuple #[.agg #[.int .i64 0, .int .i64 0, .slice none 0 0, .slice none 0 0], .slice none 0 0, .bool false])) ∨ ∃ d, takeD s p = some d ∧ ∃ a c b c2 v bs ds us, e = .returned (.tuple #[.agg #[.int .i64 s.epoch, .int .i64 (s.expect + (d : Int)), .slice a ((takeAll s p).drop d).length c, .slice b (ptK s (takeAll s p) d).1.length c2], v, .bool true]) ∧
    OwnIn w' ⟨s.epoch, s.expect + (d : Int), (takeAll s p).drop d, (ptK s (takeAll s p) d).1⟩ a c b c2 bs ds ∧ OwnSl cSS 23 w' (ptK s (takeAll s p) d).2 v us ∧ (bs ++ (ds ++ us)).Nodup ∧ ∀ x ∈ bs ++ (ds ++ us), w0.heap.size ≤ x)
set_option maxRecDepth 100000 in
set_option maxHeartbeats 16000000 in
theorem takeOut_any (s : PI) (p : PP) (a b : Option Addr) (c d m n : Nat) (L : List PP) (w0 w : World) (hr : RdIn w0 s a c b d) (hmp : PkMap w0 w m n L) (hb0 : Below w0.heap.size w0 w) (hmw : w0.heap.size ≤ m) (hTK : takeOK s p = true) (hOB : oldB s p = false) (hL : ∀ t, findS L t = findS (takeAll s p) t) (hLm : ∀ y ∈ L, y ∈ takeAll s p) (hlen : s.held.length ≤ 1048576) :
    Calls Try.prog 32 #[.agg #[.int .i64 s.epoch, .int .i64 s.expect, .slice a s.held.length c, .slice b s.part.length d], .map (some m)] w (ToPost w0 s p) := by
  have HRT := hid (hr.t.later hb0)
  have HBY : Hid (∀ x ∈ s.part, x < 256) := hid (by obtain ⟨_, _, _, _, _, _, _, h⟩ := hr.t.bytes; exact h)
  have HMP := hid hmp
  have HB0 := hid hb0
  have HTK := hid hTK
  have HOB := hid hOB
  have HL := hid hL
  have HLM := hid hLm
  have HDA := hid (takeAll_data hTK)
  have HASC := hid (all_asc hTK hOB)
  have HAIN : Hid (∀ x ∈ takeAll s p, s.expect ≤ x.seq ∧ x.seq < s.expect + 8) := hid (fun x hx => all_in hTK hOB hx)
  have hinh := (inOK_of (takeOK_of hTK).1).1
  have hex0 : 0 ≤ s.expect := hinh.2.2.1
  have hex1 : s.expect ≤ 1000000000000 := hinh.2.2.2.1
  have hpt : s.part.length ≤ 20000 := hinh.2.2.2.2
  have hp20 : s.part.length ≤ 1048576 := by omega
  have HLN := hid (takeAll_len s p)
  clear hr hmp hb0 hTK hOB hL hLm hinh
  have HK0 : Hid (((w.alloc (.cells #[.int .i64 s.epoch, .int .i64 s.expect, .slice a s.held.length c, .slice b s.part.length d] 32)).alloc (.cells #[.int .i64 0, .int .i64 0, .slice none 0 0, .slice none 0 0] 32)).heap[w.heap.size]? = some (.cells #[.int .i64 s.epoch, .int .i64 s.expect, .slice a s.held.length c, .slice b s.part.length d] 32 (0, 0))) := hid (heap2 _ _ (Below.refl _ _)).1
  have HK1 : Hid (((w.alloc (.cells #[.int .i64 s.epoch, .int .i64 s.expect, .slice a s.held.length c, .slice b s.part.length d] 32)).alloc (.cells #[.int .i64 0, .int .i64 0, .slice none 0 0, .slice none 0 0] 32)).heap[w.heap.size + 1]? = some (.cells #[.int .i64 0, .int .i64 0, .slice none 0 0, .slice none 0 0] 32 (0, 0))) := hid (heap2 _ _ (Below.refl _ _)).2
  have HB1 := hid (below_new2 w (.cells #[.int .i64 s.epoch, .int .i64 s.expect, .slice a s.held.length c, .slice b s.part.length d] 32) (.cells #[.int .i64 0, .int .i64 0, .slice none 0 0, .slice none 0 0] 32))
  have HSZ := hid (size2 w (.cells #[.int .i64 s.epoch, .int .i64 s.expect, .slice a s.held.length c, .slice b s.part.length d] 32) (.cells #[.int .i64 0, .int .i64 0, .slice none 0 0, .slice none 0 0] 32))
  go_enter Try.func32, Try.ntmps32
  go_upto_region 1 with fail
  generalize ((w.alloc (.cells #[.int .i64 s.epoch, .int .i64 s.expect, .slice a s.held.length c, .slice b s.part.length d] 32)).alloc (.cells #[.int .i64 0, .int .i64 0, .slice none 0 0, .slice none 0 0] 32)) = W1 at *
  have HG1 : Hid (w.heap.size + 1 < W1.heap.size) := hid (by have := HSZ.out; omega)
  have c00 := cell_of_row _ _ 0 _ _ _ HK0.out
  have c01 := cell_of_row _ _ 1 _ _ _ HK0.out
  have c03 := cell_of_row _ _ 3 _ _ _ HK0.out
  simp only [List.getElem?_toArray, List.getElem?_cons_zero, List.getElem?_cons_succ] at c00 c01 c03
  refine region_turns (n := 9) (by kernel_rfl) (by kernel_rfl) ?_ (fun t => { tmps := #[.agg #[.int .i64 s.epoch, .int .i64 s.expect, .slice a s.held.length c, .slice b s.part.length d], .map (some m), .pointer (some ⟨w.heap.size, 0, none⟩), undef, .pointer (some ⟨w.heap.size + 1, 0, none⟩), .slice none 0 0, .bool false, undef, undef, t 0, t 1, t 2, t 3, t 4, t 5, t 6, t 7, undef, undef, undef, undef, undef, undef, undef, undef, undef, undef, undef, undef, undef, undef, undef, undef, undef, undef, undef, undef, undef, undef, undef, undef, undef, undef, undef, undef, undef, undef, undef, undef, undef, undef, undef, undef, undef, undef, undef, undef, undef, undef], defers := [] }) (toT W1 W1.heap.size w.heap.size (w.heap.size + 1) s.epoch s.expect (.slice none 0 0) (.slice b s.part.length d) s.part) [8] (fcSameL W1) w W1 (fun k => if k = 6 then [8] else if k = 7 then [8] else []) (fun k => !(k == 6 || k == 7 || k == 8)) (by kernel_rfl) (fun j hj => by rcases (by omega : j = 0 ∨ j = 1 ∨ j = 2 ∨ j = 3 ∨ j = 4 ∨ j = 5 ∨ j = 6 ∨ j = 7 ∨ j = 8) with rfl | rfl | rfl | rfl | rfl | rfl | rfl | rfl | rfl <;> rfl) (fun j hj hp => by rcases (by omega : j = 0 ∨ j = 1 ∨ j = 2 ∨ j = 3 ∨ j = 4 ∨ j = 5 ∨ j = 6 ∨ j = 7 ∨ j = 8) with rfl | rfl | rfl | rfl | rfl | rfl | rfl | rfl | rfl <;> first | rfl | (exact absurd hp (by decide))) (fun j => ([undef, undef, undef, undef, undef, undef, undef, undef, undef] : List Value).getD j undef) HB1.out (Below.refl _ _) ?_ ?_
  · rfl
  · intro i hi x t wx hxi hsh h0 hbx hgx hdp hall
    rcases (by omega : i = 0 ∨ i = 1 ∨ i = 2 ∨ i = 3 ∨ i = 4 ∨ i = 5 ∨ i = 6 ∨ i = 7 ∨ i = 8) with rfl | rfl | rfl | rfl | rfl | rfl | rfl | rfl | rfl
    · 
      try dsimp only
      clear h0
      refine wpOp_step rfl (fun K' hK => ?_)
      go_simp
      exact hK _ _ ⟨.pointer (some ⟨w.heap.size, 0, none⟩), (by simp [upd]), FX.eq_mk rfl, fun _ => Below.refl _ _, hbx⟩
    · 
      try dsimp only
      have x0 := depX hdp 0 (by kernel_rfl)
      have d0 := hall 0 (by omega) x0
      have e0 : t 0 = .pointer (some ⟨w.heap.size, 0, none⟩) := d0.1
      rw [e0]
      have y8 := notYet hsh hxi 8 (by kernel_rfl)
      have hz : Below W1.heap.size W1 wx := hgx (by simp [y8])
      have c00 := (hz.cell (World.block_lt_of_cell? _ _ c00)).trans c00
      clear y8 hz
      clear h0
      refine wpOp_step rfl (fun K' hK => ?_)
      go_simp
      exact hK _ _ ⟨.int .i64 s.epoch, (by simp [upd, e0]), FX.eq_mk rfl, fun _ => Below.refl _ _, hbx⟩
    · 
      try dsimp only
      clear h0
      refine wpOp_step rfl (fun K' hK => ?_)
      go_simp
      exact hK _ _ ⟨.pointer (some ⟨w.heap.size, 1, none⟩), (by simp [upd]), FX.eq_mk rfl, fun _ => Below.refl _ _, hbx⟩
    · 
      try dsimp only
      have x2 := depX hdp 2 (by kernel_rfl)
      have d2 := hall 2 (by omega) x2
      have e2 : t 2 = .pointer (some ⟨w.heap.size, 1, none⟩) := d2.1
      rw [e2]
      have y8 := notYet hsh hxi 8 (by kernel_rfl)
      have hz : Below W1.heap.size W1 wx := hgx (by simp [y8])
      have c01 := (hz.cell (World.block_lt_of_cell? _ _ c01)).trans c01
      clear y8 hz
      clear h0
      refine wpOp_step rfl (fun K' hK => ?_)
      go_simp
      exact hK _ _ ⟨.int .i64 s.expect, (by simp [upd, e2]), FX.eq_mk rfl, fun _ => Below.refl _ _, hbx⟩
    · 
      try dsimp only
      clear h0
      refine wpOp_step rfl (fun K' hK => ?_)
      go_simp
      exact hK _ _ ⟨.pointer (some ⟨w.heap.size, 3, none⟩), (by simp [upd]), FX.eq_mk rfl, fun _ => Below.refl _ _, hbx⟩
    · 
      try dsimp only
      have x4 := depX hdp 4 (by kernel_rfl)
      have d4 := hall 4 (by omega) x4
      have e4 : t 4 = .pointer (some ⟨w.heap.size, 3, none⟩) := d4.1
      rw [e4]
      have y8 := notYet hsh hxi 8 (by kernel_rfl)
      have hz : Below W1.heap.size W1 wx := hgx (by simp [y8])
      have c03 := (hz.cell (World.block_lt_of_cell? _ _ c03)).trans c03
      clear y8 hz
      clear h0
      refine wpOp_step rfl (fun K' hK => ?_)
      go_simp
      exact hK _ _ ⟨.slice b s.part.length d, (by simp [upd, e4]), FX.eq_mk rfl, fun _ => Below.refl _ _, hbx⟩
    · 
      try dsimp only
      have x5 := depX hdp 5 (by kernel_rfl)
      have d5 := hall 5 (by omega) x5
      have e5 : t 5 = .slice b s.part.length d := d5.1
      rw [e5]
      have y8 := notYet hsh hxi 8 (by kernel_rfl)
      have hz : Below W1.heap.size W1 wx := hgx (by simp [y8])
      have hsz := hz.size
      clear h0
      refine wpOp_step rfl (fun K' hK => ?_)
      go_simp
      refine (bclone_any b d s.part wx ((HRT.out.later HB1.out).later hz) hp20).mono ?_
      rintro e w2 ⟨v2, rfl, o2, b2⟩
      exact hK _ _ ⟨v2, (by simp [upd, e5]), FX.pre_mk (own_mono o2 hsz), fun _ => b2, below_chain hbx b2⟩
    · 
      try dsimp only
      have x1 := depX hdp 1 (by kernel_rfl)
      have d1 := hall 1 (by omega) x1
      have e1 : t 1 = .int .i64 s.epoch := d1.1
      have x3 := depX hdp 3 (by kernel_rfl)
      have d3 := hall 3 (by omega) x3
      have e3 : t 3 = .int .i64 s.expect := d3.1
      have x6 := depX hdp 6 (by kernel_rfl)
      have d6 := hall 6 (by omega) x6
      rw [e1, e3]
      have y8 := notYet hsh hxi 8 (by kernel_rfl)
      have f6 : wx.ownsRow W1.heap.size 5 1 (t 6) s.part.length (byt s.part) := FX.pre_of d6 y8
      obtain ⟨ad, cd, ed, -⟩ := rd_own f6
      rw [ed]
      clear y8
      clear h0
      refine wpOp_step rfl (fun K' hK => ?_)
      go_simp
      exact hK _ _ ⟨.agg #[.int .i64 s.epoch, .int .i64 s.expect, .slice none 0 0, .slice ad s.part.length cd], (by simp [upd, ed, e1, e3]), FX.pre_mk ⟨ad, cd, rfl, ed ▸ f6⟩, fun _ => Below.refl _ _, hbx⟩
    · 
      try dsimp only
      have x7 := depX hdp 7 (by kernel_rfl)
      have d7 := hall 7 (by omega) x7
      obtain ⟨ad, cd, eb, hrow⟩ : (fcAggH W1.heap.size s.epoch s.expect (.slice none 0 0) s.part).p (t 7) wx := FX.pre_of d7 hxi
      have hz : Below W1.heap.size W1 wx := hgx (by simp [hxi])
      rw [eb]
      have hb1 := (hz.block _ HG1.out).trans HK1.out
      have g0 := cell_of_row wx _ 0 _ _ _ hb1
      have g1 := cell_of_row wx _ 1 _ _ _ hb1
      have g2 := cell_of_row wx _ 2 _ _ _ hb1
      have g3 := cell_of_row wx _ 3 _ _ _ hb1
      have z0 := frozen_of_row wx _ 0 _ _ hb1
      have z1 := frozen_of_row wx _ 1 _ _ hb1
      have z2 := frozen_of_row wx _ 2 _ _ hb1
      have z3 := frozen_of_row wx _ 3 _ _ hb1
      simp only [List.getElem?_toArray, List.getElem?_cons_zero, List.getElem?_cons_succ] at g0 g1 g2 g3
      have HB1X := hid hb1
      have HRW := hid hrow
      have HZ := hid hz
      clear hb1 hrow hz
      clear h0
      refine wpOp_step rfl (fun K' hK => ?_)
      go_simp
      exact hK _ _ ⟨undef, (by simp [upd, eb]), FX.is_mk ⟨by simp; exact HZ.out.size, fun k h1 h2 => (set4o h1).trans (HZ.out.block k h2), ad, cd, set4 HB1X.out, ownsRow_kept HRW.out (fun x hx => set4o (by have := (own_in HRW.out hx).1; have := HG1.out; omega))⟩, fun h => absurd (by simp) h, set4b hbx (by omega)⟩
  · intro x t wx hx hbx hall
    obtain ⟨hsx, hkx, ad, cd, hbx9, hrow9⟩ : (fcBoxH W1 W1.heap.size (w.heap.size + 1) s.epoch s.expect (.slice none 0 0) s.part).p (t 8) wx := FX.is_of (hall 8 (by omega))
    have o9 := ownSl_bytes hrow9 HBY.out
    have n9 : (Value.slice ad s.part.length cd).ownBlock.toList.Nodup := by cases (Value.slice ad s.part.length cd).ownBlock <;> simp
    have l9 : ∀ y ∈ (Value.slice ad s.part.length cd).ownBlock.toList, W1.heap.size ≤ y ∧ y ≠ w.heap.size + 1 := fun y hy => by
      have := (own_in hrow9 (by simpa using hy)).1
      have := HG1.out
      exact ⟨by omega, by omega⟩
    have HT0 : Hid (TkSt W1.heap.size (w.heap.size + 1) s.epoch s.expect s.part [] (.slice none 0 0) wx) := hid ⟨ad, cd, _, [], hbx9, o9, .inl ⟨rfl, rfl, rfl⟩, by simpa using n9, fun y hy => l9 y (by simpa using hy)⟩
    have hml := HMP.out.lt
    have HM0 : Hid (PkMap w0 wx m n L) := hid ((HMP.out.later HB1.out).kept (hkx m (by omega) (by have := HG1.out; omega)))
    have HB2 : Hid (Below w0.heap.size w0 wx) := hid (HB0.out.trans (hbx.mono HB0.out.size))
    have HSX := hid hsx
    have hw01 := HB0.out.size
    clear hall hbx hx hkx hbx9 hrow9 o9 n9 l9 hsx c00 c01 c03
    try dsimp only
    generalize hl : takeAll s p = l at *
    have HTD : Hid (takeD s p = runT s l l.length 0) := hid (by rw [← hl]; rfl)
    have HLE := hid hl
    clear hl
    generalize t 0 = v0
    generalize t 1 = v1
    generalize t 2 = v2
    generalize t 3 = v3
    generalize t 4 = v4
    generalize t 5 = v5
    generalize t 6 = v6
    generalize t 7 = v7
    go_wp2
    go_loopg [5, 7, 8] l.length (fun g mv _ _ wr => ∃ k : Nat, k + g = l.length ∧ (∀ i, (hi : i < l.length) → i < k → l[i].seq = s.expect + (i : Int)) ∧ (∃ Lk, PkMap w0 wr m n Lk ∧ (∀ t, s.expect + (k : Int) ≤ t → findS Lk t = findS l t) ∧ ∀ y ∈ Lk, y ∈ l) ∧ TkSt W1.heap.size (w.heap.size + 1) s.epoch (s.expect + (k : Int)) (ptK s l k).1 (ptK s l k).2 mv wr ∧ Below w0.heap.size w0 wr ∧ W1.heap.size ≤ wr.heap.size ∧ runT s l (l.length - k) k = takeD s p ∧ (ptK s l k).1.length ≤ 20000)
    case atStart => exact ⟨0, by omega, fun i _ h => absurd h (by omega), ⟨L, HM0.out, fun t _ => HL.out t, HLM.out⟩, by simpa [ptK_zero] using HT0.out, HB2.out, HSX.out, by rw [HTD.out]; rfl, hpt⟩
    case round =>
      obtain ⟨k, hkg, hpre, ⟨Lk, hmk, hfk, hmem⟩, hst, hbe, hszr, hrun, hpb⟩ := hrel
      have HPRE := hid hpre
      have HMK := hid hmk
      have HFK := hid hfk
      have HMEM := hid hmem
      have HBR := hid hbe
      have HRUN := hid hrun
      obtain ⟨aP, cP, hgot⟩ := hst
      obtain ⟨us0, vs0, hbx, -⟩ := id hgot
      have HG := hid hgot
      have HBG := hid hbx
      have HKG := hid hkg
      have y0 := cell_of_row _ _ 0 _ _ _ hbx
      have zy0 := frozen_of_row _ _ 0 _ _ hbx
      have y1 := cell_of_row _ _ 1 _ _ _ hbx
      have zy1 := frozen_of_row _ _ 1 _ _ hbx
      have y2 := cell_of_row _ _ 2 _ _ _ hbx
      have zy2 := frozen_of_row _ _ 2 _ _ hbx
      have y3 := cell_of_row _ _ 3 _ _ _ hbx
      have zy3 := frozen_of_row _ _ 3 _ _ hbx
      simp only [List.getElem?_toArray, List.getElem?_cons_zero, List.getElem?_cons_succ] at y0 y1 y2 y3
      clear hpre hmk hfk hmem hbe hrun hgot hbx hkg
      have hkb : (k : Int) ≤ 1048577 := by have := HKG.out; have := HLN.out; omega
      have HKEY := hid (keyI (n := s.expect + (k : Int)) ⟨by omega, by omega⟩)
      obtain ⟨D, hown, hisM, hDD, hNN⟩ := HMK.out.look
      have HOWN := hid hown
      have HDD := hid hDD
      have HNN := hid (hNN (s.expect + (k : Int)))
      clear hown hDD hNN hisM
      have hnx := find_next HASC.out (fun x hx => (HAIN.out x hx).1) HPRE.out
      by_cases hgo : ∃ hkl : k < l.length, l[k].seq = s.expect + (k : Int)
      · obtain ⟨hkl, hsq⟩ := hgo
        have hfind : findS Lk (s.expect + (k : Int)) = some l[k] := (HFK.out _ (Int.le_refl _)).trans (hnx.1 hkl hsq)
        obtain ⟨hhas, an, cn, hat, hrd, hin⟩ := (HDD.out (s.expect + (k : Int))).2 _ hfind
        have HRG := hid (runT_go s l k hkl)
        have HRB := hid (runT_bad s l k hkl)
        have HPL := hid (ptK_last s l k hkl)
        have HPM := hid (ptK_more s l k hkl)
        have HPMS := hid (ptK_msgs s l k (by omega))
        have hdx := dataB_of (HDA.out l[k] (List.getElem_mem _))
        have HPRE2 : Hid (∀ i, (hi : i < l.length) → i < k + 1 → l[i].seq = s.expect + (i : Int)) := hid (fun i hi h => by
          by_cases e : i = k
          · subst e; exact hsq
          · exact HPRE.out i hi (by omega))
        generalize hpt' : (ptK s l k).1 = pt at *
        generalize hms' : (ptK s l k).2 = ms at *
        generalize l[k] = px at *
        have HHAS := hid hhas
        have HAT := hid hat
        have HRD := hid hrd
        have HIN := hid hin
        have HSQ := hid hsq
        have hp1 := hdx.1
        have hp2 := hdx.2.1
        clear hhas hat hrd hin hsq hdx hfind hnx hpt' hms'
        have HBX := hid (below_new1 wr (.cells #[.int .i64 px.kind, .int .i64 px.epoch, .int .i64 px.seq, .int .i64 px.count, .bool px.last, .slice an px.data.length cn] 37))
        have HKF : Hid ((wr.alloc (.cells #[.int .i64 px.kind, .int .i64 px.epoch, .int .i64 px.seq, .int .i64 px.count, .bool px.last, .slice an px.data.length cn] 37)).heap[wr.heap.size]? = some (.cells #[.int .i64 px.kind, .int .i64 px.epoch, .int .i64 px.seq, .int .i64 px.count, .bool px.last, .slice an px.data.length cn] 37 (0, 0))) := hid (heap_alloc_new wr _)
        go_upto_region 6 with (first | (at_lookup; refine wpList_lookup_held _ rfl _ _ 54 rfl 3 37 keyedI Try.underlying54 (zeroPk _) m n D rfl HOWN.out _ _ rfl HKEY.out _ _ HAT.out HHAS.out ?_))
        generalize (wr.alloc (.cells #[.int .i64 px.kind, .int .i64 px.epoch, .int .i64 px.seq, .int .i64 px.count, .bool px.last, .slice an px.data.length cn] 37)) = W2 at *
        obtain ⟨g1, rfl⟩ : ∃ g1, gk = g1 + 1 := ⟨gk - 1, by have := HKG.out; omega⟩
        have hwr2 : wr.heap.size < W2.heap.size := (Array.getElem?_eq_some_iff.1 HKF.out).1
        have HB2' : Hid (Below w0.heap.size w0 W2) := hid (below_chain HBR.out HBX.out)
        have HG2 := hid (HG.out.later HBX.out)
        have b2 := hid ((HBX.out.block _ (Array.getElem?_eq_some_iff.1 HBG.out).1).trans HBG.out)
        have HOW2 : Hid (W2.ownsMap Try.prog 3 anyElem m n D) := hid (by
          obtain ⟨es, clock, h1, r⟩ := HOWN.out
          exact ⟨es, clock, (HBX.out.block m (Array.getElem?_eq_some_iff.1 h1).1).trans h1, r⟩)
        clear y0 zy0 y1 zy1 y2 zy2 y3 zy3
        have y0 := cell_of_row _ _ 0 _ _ _ b2.out
        have zy0 := frozen_of_row _ _ 0 _ _ b2.out
        have y1 := cell_of_row _ _ 1 _ _ _ b2.out
        have zy1 := frozen_of_row _ _ 1 _ _ b2.out
        have y2 := cell_of_row _ _ 2 _ _ _ b2.out
        have zy2 := frozen_of_row _ _ 2 _ _ b2.out
        have y3 := cell_of_row _ _ 3 _ _ _ b2.out
        have zy3 := frozen_of_row _ _ 3 _ _ b2.out
        simp only [List.getElem?_toArray, List.getElem?_cons_zero, List.getElem?_cons_succ] at y0 y1 y2 y3
    
        go_upto_region 7 with (first | (at_delete; refine wpList_delete_own _ rfl _ _ 54 3 rfl 37 keyedI Try.underlying54 anyElem m n D rfl HOW2.out _ _ rfl HKEY.out ?_; intro w3 hown3 hturn3))
        have hg3 := hturn3.grown
        have HM3 : Hid (PkMap w0 w3 m n (Lk.filter fun x => decide (x.seq ≠ s.expect + (k : Int)))) := hid (PkMap.del HDD.out hown3)
        have HT3 : Hid (TkSt W1.heap.size (w.heap.size + 1) s.epoch (s.expect + (k : Int)) pt ms u5 w3) := hid (TkSt.grown ⟨aP, cP, HG2.out⟩ hg3 (by have := HG1.out; omega) (by omega))
        have HB3 : Hid (Below w0.heap.size w0 w3) := hid (HB2'.out.grown hg3 HB2'.out.size (fun j hj => by cases hj; exact hmw))
        have HK3 : Hid (w3.heap[wr.heap.size]? = some (.cells #[.int .i64 px.kind, .int .i64 px.epoch, .int .i64 px.seq, .int .i64 px.count, .bool px.last, .slice an px.data.length cn] 37 (0, 0))) := hid ((hg3.block _ hwr2 (by intro e; have := HG1.out; simp at e; omega)).trans HKF.out)
        have hs3 : wr.heap.size < w3.heap.size := Nat.lt_of_lt_of_le hwr2 hg3.size
        clear hown3 hturn3 hg3 y0 zy0 y1 zy1 y2 zy2 y3 zy3 HKF HG2 b2 HOW2 HB2' HG HBG HMK HOWN
        obtain ⟨ad, had, hcells⟩ := dat_cells HRD.out hp1
        subst had
        clear hcells
        obtain ⟨a7, c7, us7, vs7, hb7, -⟩ := id HT3.out
        have HB7 := hid hb7
        clear hb7
        have hg1 := HG1.out
        have y0 := cell_of_row _ _ 0 _ _ _ HB7.out
        have zy0 := frozen_of_row _ _ 0 _ _ HB7.out
        have y1 := cell_of_row _ _ 1 _ _ _ HB7.out
        have zy1 := frozen_of_row _ _ 1 _ _ HB7.out
        have y2 := cell_of_row _ _ 2 _ _ _ HB7.out
        have zy2 := frozen_of_row _ _ 2 _ _ HB7.out
        have y3 := cell_of_row _ _ 3 _ _ _ HB7.out
        have zy3 := frozen_of_row _ _ 3 _ _ HB7.out
        simp only [List.getElem?_toArray, List.getElem?_cons_zero, List.getElem?_cons_succ] at y0 y1 y2 y3
    
        have HT4 : Hid (TkSt W1.heap.size (w.heap.size + 1) s.epoch (s.expect + (k : Int) + 1) pt ms u5 (w3.setCell ⟨w.heap.size + 1, 1, none⟩ (.int .i64 (s.expect + (k : Int) + 1)))) := hid (HT3.out.next _)
        have HB4 : Hid (Below w0.heap.size w0 (w3.setCell ⟨w.heap.size + 1, 1, none⟩ (.int .i64 (s.expect + (k : Int) + 1)))) := hid (HB3.out.setCell (p := ⟨w.heap.size + 1, 1, none⟩) (by simp only []; omega) _)
        have HM4 : Hid (PkMap w0 (w3.setCell ⟨w.heap.size + 1, 1, none⟩ (.int .i64 (s.expect + (k : Int) + 1))) m n (Lk.filter fun x => decide (x.seq ≠ s.expect + (k : Int)))) := hid (HM3.out.kept (Below.heap_setCell _ _ _ _ (by simp only []; omega)))
        have HK4 : Hid ((w3.setCell ⟨w.heap.size + 1, 1, none⟩ (.int .i64 (s.expect + (k : Int) + 1))).heap[wr.heap.size]? = some (.cells #[.int .i64 px.kind, .int .i64 px.epoch, .int .i64 px.seq, .int .i64 px.count, .bool px.last, .slice (some ad) px.data.length cn] 37 (0, 0))) := hid ((Below.heap_setCell _ _ _ _ (by simp only []; omega)).trans HK3.out)
        have hs4 : W1.heap.size < (w3.setCell ⟨w.heap.size + 1, 1, none⟩ (.int .i64 (s.expect + (k : Int) + 1))).heap.size := by simp; omega
        have HS1 := hid hg1
        clear hg1
        go_upto_region 8 with fail
        generalize (w3.setCell ⟨w.heap.size + 1, 1, none⟩ (.int .i64 (s.expect + (k : Int) + 1))) = W4 at *
        clear y0 zy0 y1 zy1 y2 zy2 y3 zy3
        obtain ⟨a8, c8, hg8⟩ := id HT4.out
        obtain ⟨us8, vs8, hb8, -⟩ := id hg8
        have HG8 := hid hg8
        have HROW := hid hg8.row.1
        have HB8 := hid hb8
        clear hg8 hb8
        obtain ⟨ad2, had2, hcells⟩ := dat_cells (HRD.out.later HB4.out) hp1
        simp only [Option.some.injEq] at had2
        subst had2
        have HCL := hid hcells
        have HDB : Hid (∀ x ∈ px.data, x < 256) := hid (by obtain ⟨_, _, _, _, _, _, _, h⟩ := HRD.out.bytes; exact h)
        clear hcells
        have HGW : Hid (w.heap.size + 1 < W4.heap.size) := hid (Array.getElem?_eq_some_iff.1 HB8.out).1
        have HWR : Hid (wr.heap.size < W4.heap.size) := hid (Array.getElem?_eq_some_iff.1 HK4.out).1
        obtain ⟨j0, hj0, jz0, jz1, jz2⟩ := info_parts infoByteM
        have y0 := cell_of_row _ _ 0 _ _ _ HB8.out
        have zy0 := frozen_of_row _ _ 0 _ _ HB8.out
        have y1 := cell_of_row _ _ 1 _ _ _ HB8.out
        have zy1 := frozen_of_row _ _ 1 _ _ HB8.out
        have y2 := cell_of_row _ _ 2 _ _ _ HB8.out
        have zy2 := frozen_of_row _ _ 2 _ _ HB8.out
        have y3 := cell_of_row _ _ 3 _ _ _ HB8.out
        have zy3 := frozen_of_row _ _ 3 _ _ HB8.out
        simp only [List.getElem?_toArray, List.getElem?_cons_zero, List.getElem?_cons_succ] at y0 y1 y2 y3
        have e0 := cell_of_row _ _ 0 _ _ _ HK4.out
        have e1 := cell_of_row _ _ 1 _ _ _ HK4.out
        have e2 := cell_of_row _ _ 2 _ _ _ HK4.out
        have e3 := cell_of_row _ _ 3 _ _ _ HK4.out
        have e4 := cell_of_row _ _ 4 _ _ _ HK4.out
        have e5 := cell_of_row _ _ 5 _ _ _ HK4.out
        simp only [List.getElem?_toArray, List.getElem?_cons_zero, List.getElem?_cons_succ] at e0 e1 e2 e3 e4 e5
    
        go_wp2_with (first | (at_builtin; refine wpList_append_lies _ rfl (.tmp 41) (.tmp 43) 23 rfl W1.heap.size 5 j0 (.int .u8 0) 1 1 Try.underlying23 hj0 jz0 jz1 jz2 rfl (by decide) (.slice a8 pt.length c8) pt.length (byt pt) rfl HROW.out ad px.data.length cn (byt px.data) rfl (by rw [byt_len, Nat.mul_one]) HCL.out (byt_one _) (by omega) (by unfold maxLen; omega) (by omega) (by omega) _ rfl ?_))
        intro g9 cap9 w9 hown hgrow hat hlt9
        have HGA := hid (HG8.out.app HDB.out rfl rfl HGW.out (by omega) hown hgrow hat)
        have HK9 := hid ((hgrow.block _ HWR.out (fun e => box_far HK4.out HROW.out (by decide) e.symm rfl)).trans HK4.out)
        have HM9 := hid (HM4.out.kept (hgrow.block m HM4.out.lt (fun e => by have := (own_in7 HROW.out e.symm).1; have := HS1.out; omega)))
        have HB9 := hid (HB4.out.grown hgrow HB4.out.size (fun q hq => by have := (own_in7 HROW.out hq).1; have := HS1.out; omega))
        have hs9 : W1.heap.size < w9.heap.size := by have := hgrow.size; omega
        clear hown hgrow hat hlt9 y0 zy0 y1 zy1 y2 zy2 y3 zy3 e0 e1 e2 e3 e4 e5 hj0 jz0 jz1 jz2
        obtain ⟨us9, vs9, hb9, -⟩ := id HGA.out
        have y0 := cell_of_row _ _ 0 _ _ _ hb9
        have zy0 := frozen_of_row _ _ 0 _ _ hb9
        have y1 := cell_of_row _ _ 1 _ _ _ hb9
        have zy1 := frozen_of_row _ _ 1 _ _ hb9
        have y2 := cell_of_row _ _ 2 _ _ _ hb9
        have zy2 := frozen_of_row _ _ 2 _ _ hb9
        have y3 := cell_of_row _ _ 3 _ _ _ hb9
        have zy3 := frozen_of_row _ _ 3 _ _ hb9
        simp only [List.getElem?_toArray, List.getElem?_cons_zero, List.getElem?_cons_succ] at y0 y1 y2 y3
    
        clear hb9
        have HP6 : Hid (TkSt W1.heap.size (w.heap.size + 1) s.epoch (s.expect + (k : Int) + 1) (pt ++ px.data) ms u5 (w9.setCell ⟨w.heap.size + 1, 3, none⟩ (.slice (some ⟨g9, 0, none⟩) (pt.length + px.data.length) cap9))) := hid (HGA.out.put (by simp))
        have HB6 := hid (HB9.out.setCell (p := ⟨w.heap.size + 1, 3, none⟩) (by have := HS1.out; simp only []; omega) (.slice (some ⟨g9, 0, none⟩) (pt.length + px.data.length) cap9))
        have HM6 := hid (HM9.out.kept (Below.heap_setCell w9 ⟨w.heap.size + 1, 3, none⟩ (.slice (some ⟨g9, 0, none⟩) (pt.length + px.data.length) cap9) m (by simp only []; omega)))
        have HK6 := hid ((Below.heap_setCell w9 ⟨w.heap.size + 1, 3, none⟩ (.slice (some ⟨g9, 0, none⟩) (pt.length + px.data.length) cap9) wr.heap.size (by have := HS1.out; simp only []; omega)).trans HK9.out)
        have hs6 : W1.heap.size < (w9.setCell ⟨w.heap.size + 1, 3, none⟩ (.slice (some ⟨g9, 0, none⟩) (pt.length + px.data.length) cap9)).heap.size := by simpa using hs9
        go_upto_region 9 with fail
        generalize (w9.setCell ⟨w.heap.size + 1, 3, none⟩ (.slice (some ⟨g9, 0, none⟩) (pt.length + px.data.length) cap9)) = W6 at *
        clear y0 zy0 y1 zy1 y2 zy2 y3 zy3
        have hlp : (pt ++ px.data).length = pt.length + px.data.length := List.length_append
        have HLP := hid hlp
        clear hlp
        generalize hp2e : pt ++ px.data = p2 at *
        clear hp2e
        obtain ⟨a6, c6, hg6⟩ := id HP6.out
        obtain ⟨us6, vs6, hb6, -⟩ := id hg6
        have HG6 := hid hg6
        have HX6 := hid hb6
        clear hg6 hb6
        have y0 := cell_of_row _ _ 0 _ _ _ HX6.out
        have zy0 := frozen_of_row _ _ 0 _ _ HX6.out
        have y1 := cell_of_row _ _ 1 _ _ _ HX6.out
        have zy1 := frozen_of_row _ _ 1 _ _ HX6.out
        have y2 := cell_of_row _ _ 2 _ _ _ HX6.out
        have zy2 := frozen_of_row _ _ 2 _ _ HX6.out
        have y3 := cell_of_row _ _ 3 _ _ _ HX6.out
        have zy3 := frozen_of_row _ _ 3 _ _ HX6.out
        simp only [List.getElem?_toArray, List.getElem?_cons_zero, List.getElem?_cons_succ] at y0 y1 y2 y3
        have e0 := cell_of_row _ _ 0 _ _ _ HK6.out
        have e1 := cell_of_row _ _ 1 _ _ _ HK6.out
        have e2 := cell_of_row _ _ 2 _ _ _ HK6.out
        have e3 := cell_of_row _ _ 3 _ _ _ HK6.out
        have e4 := cell_of_row _ _ 4 _ _ _ HK6.out
        have e5 := cell_of_row _ _ 5 _ _ _ HK6.out
        simp only [List.getElem?_toArray, List.getElem?_cons_zero, List.getElem?_cons_succ] at e0 e1 e2 e3 e4 e5
    
        by_cases hbig : 20000 < p2.length
        · have hbt : decide ((20000 : Int) < (p2.length : Int)) = true := decide_eq_true (by omega)
          have HNO : Hid (takeD s p = none) := hid (by rw [← HRUN.out]; exact HRB.out HSQ.out (by have := HLP.out; omega))
          clear hbig
          repeat go_step
          change bodyPost Try.prog Try.f32 (ToPost w0 s p) Exit.ret _ _
          refine bodyPost_ret (results_cell_row_tmp2 rfl _ _ (w.heap.size + 1) 32 #[.int .i64 0, .int .i64 0, .slice none 0 0, .slice none 0 0] (0, 0) _ rfl (set4 HX6.out) Try.underlying32 rfl (by kernel_rfl)) rfl ?_
          exact ⟨set4b HB6.out (by have := HS1.out; omega), .inl ⟨HNO.out, rfl⟩⟩
        · have hbt : decide ((20000 : Int) < (p2.length : Int)) = false := decide_eq_false (by omega)
          have hp2b : p2.length ≤ 20000 := by omega
          clear hbig
          have HGO : Hid (runT s l (l.length - (k + 1)) (k + 1) = takeD s p) := hid (by rw [← HRUN.out]; exact (HRG.out HSQ.out (by have := HLP.out; omega)).symm)
          have HFN : Hid (∀ t, s.expect + ((k + 1 : Nat) : Int) ≤ t → findS (Lk.filter fun x => decide (x.seq ≠ s.expect + (k : Int))) t = findS l t) := hid (fun t ht => (findS_left Lk _ t (by omega)).trans (HFK.out t (by omega)))
          have HMN : Hid (∀ y ∈ Lk.filter fun x => decide (x.seq ≠ s.expect + (k : Int)), y ∈ l) := hid (fun y hy => HMEM.out y (List.mem_filter.1 hy).1)
          cases hlast : px.last with
          | true =>
            rw [hlast] at e4
            have HQ := hid (HPL.out hlast)
            clear hlast
            obtain ⟨vals, ho, hem⟩ := HG6.out.emit (by omega) (Array.getElem?_eq_some_iff.1 HX6.out).1
            have HO := hid ho
            have HEM := hid hem
            have HONE := hid (heap_alloc_new W6 (.cells #[.slice a6 p2.length c6] 23))
            obtain ⟨m0, hm0, mz0, mz1, mz2⟩ := info_parts infoTs
            have hml2 : ms.length ≤ 1048577 := by have := HPMS.out; omega
            clear ho hem
            go_wp2_with (first | (at_builtin; refine wpList_append_lies _ rfl (.tmp 53) (.tmp 56) 33 rfl W1.heap.size 23 m0 (.slice none 0 0) 1 24 Try.underlying33 hm0 mz0 mz1 mz2 rfl (by decide) u5 ms.length vals rfl HO.out ⟨W6.heap.size, 0, none⟩ 1 1 [.slice a6 p2.length c6] rfl rfl (World.news_of_block HONE.out) (by simp [Value.oneCell']) (by omega) (by unfold maxLen; omega) (by omega) (by simp; omega) _ rfl ?_))
            intro g10 cap10 w10 hown hgrow hat hlt9
            have HT10 := hid (HEM.out g10 cap10 w10 hown hgrow (by simpa using hat))
            have HB6A := hid (below_new1 W6 (.cells #[.slice a6 p2.length c6] 23))
            have HB10 := hid ((below_chain HB6.out HB6A.out).grown hgrow (below_chain HB6.out HB6A.out).size (fun q hq => by have := (own_in7 HO.out hq).1; have := HS1.out; omega))
            have HM10 := hid (HM6.out.kept ((hgrow.block m (Nat.lt_of_lt_of_le HM6.out.lt HB6A.out.size) (fun e => by have := (own_in7 HO.out e.symm).1; have := HS1.out; omega)).trans (HB6A.out.block m HM6.out.lt)))
            have hs10 : W1.heap.size < w10.heap.size := by have := hgrow.size; have := HB6A.out.size; omega
            clear hown hgrow hat hlt9 HEM HO HONE y0 zy0 y1 zy1 y2 zy2 y3 zy3 e0 e1 e2 e3 e4 e5 hm0 mz0 mz1 mz2
            obtain ⟨us10, vs10, hb10, -⟩ := id HT10.out
            have y0 := cell_of_row _ _ 0 _ _ _ hb10
            have zy0 := frozen_of_row _ _ 0 _ _ hb10
            have y1 := cell_of_row _ _ 1 _ _ _ hb10
            have zy1 := frozen_of_row _ _ 1 _ _ hb10
            have y2 := cell_of_row _ _ 2 _ _ _ hb10
            have zy2 := frozen_of_row _ _ 2 _ _ hb10
            have y3 := cell_of_row _ _ 3 _ _ _ hb10
            have zy3 := frozen_of_row _ _ 3 _ _ hb10
            simp only [List.getElem?_toArray, List.getElem?_cons_zero, List.getElem?_cons_succ] at y0 y1 y2 y3
            clear hb10
            have HT11 : Hid (TkSt W1.heap.size (w.heap.size + 1) s.epoch (s.expect + (k : Int) + 1) [] (ms ++ [p2]) (.slice (some ⟨g10, 0, none⟩) (ms.length + 1) cap10) (w10.setCell ⟨w.heap.size + 1, 3, none⟩ (.slice none 0 0))) := hid (HT10.out.put rfl)
            have HB11 := hid (HB10.out.setCell (p := ⟨w.heap.size + 1, 3, none⟩) (by have := HS1.out; simp only []; omega) (.slice none 0 0))
            have HM11 := hid (HM10.out.kept (Below.heap_setCell w10 ⟨w.heap.size + 1, 3, none⟩ (.slice none 0 0) m (by simp only []; omega)))
            have hs11 : W1.heap.size ≤ (w10.setCell ⟨w.heap.size + 1, 3, none⟩ (.slice none 0 0)).heap.size := by simp; omega
            repeat go_step
            go_roundg g1
            case measure => omega
            case rel => exact ⟨k + 1, by have := HKG.out; omega, HPRE2.out, ⟨_, HM11.out, HFN.out, HMN.out⟩, by rw [HQ.out, show s.expect + ((k + 1 : Nat) : Int) = s.expect + (k : Int) + 1 from by omega]; exact HT11.out, HB11.out, hs11, HGO.out, by rw [HQ.out]; first | exact hp2b | simp⟩
          | false =>
            rw [hlast] at e4
            have HQ := hid (HPM.out hlast)
            clear hlast
            repeat go_step
            go_roundg g1
            case measure => omega
            case rel => exact ⟨k + 1, by have := HKG.out; omega, HPRE2.out, ⟨_, HM6.out, HFN.out, HMN.out⟩, by rw [HQ.out, show s.expect + ((k + 1 : Nat) : Int) = s.expect + (k : Int) + 1 from by omega]; exact HP6.out, HB6.out, by omega, HGO.out, by rw [HQ.out]; first | exact hp2b | simp⟩
      · have hno : ∀ hkl : k < l.length, ¬ l[k].seq = s.expect + (k : Int) := fun hkl e => hgo ⟨hkl, e⟩
        have hfind : findS Lk (s.expect + (k : Int)) = none := (HFK.out _ (Int.le_refl _)).trans (hnx.2 hno)
        have HHAS := hid ((HDD.out (s.expect + (k : Int))).1 hfind)
        have HAT := hid (HNN.out hfind)
        have HORD := hid (ord_left HASC.out HAIN.out HPRE.out HFK.out)
        have HTE : Hid (takeD s p = some k) := hid (by
          rw [← HRUN.out]
          by_cases hkl : k < l.length
          · exact runT_stop s l k hkl (hno hkl)
          · exact runT_end s l k (by omega))
        clear hgo hno hfind hnx
        generalize hpt' : (ptK s l k).1 = pt at *
        generalize hms' : (ptK s l k).2 = ms at *
        have HPT := hid hpt'
        have HMS := hid hms'
        clear hpt' hms'
        have HBX := hid (below_new1 wr (.cells #[.int .i64 0, .int .i64 0, .int .i64 0, .int .i64 0, .bool false, .slice none 0 0] 37))
        go_upto_region 4 with (first | (at_lookup; refine wpList_lookup_held _ rfl _ _ 54 rfl 3 37 keyedI Try.underlying54 (zeroPk _) m n D rfl HOWN.out _ _ rfl HKEY.out _ _ HAT.out HHAS.out ?_))
        generalize (wr.alloc (.cells #[.int .i64 0, .int .i64 0, .int .i64 0, .int .i64 0, .bool false, .slice none 0 0] 37)) = W2 at *
        have hs2 : W1.heap.size ≤ W2.heap.size := Nat.le_trans hszr HBX.out.size
        have HM2 := hid (HMK.out.later HBX.out)
        have HB2' : Hid (Below w0.heap.size w0 W2) := hid (below_chain HBR.out HBX.out)
        have HG2 := hid (HG.out.later HBX.out)
        have b2 := hid ((HBX.out.block _ (Array.getElem?_eq_some_iff.1 HBG.out).1).trans HBG.out)
        clear y0 zy0 y1 zy1 y2 zy2 y3 zy3
        have y0 := cell_of_row _ _ 0 _ _ _ b2.out
        have zy0 := frozen_of_row _ _ 0 _ _ b2.out
        have y1 := cell_of_row _ _ 1 _ _ _ b2.out
        have zy1 := frozen_of_row _ _ 1 _ _ b2.out
        have y2 := cell_of_row _ _ 2 _ _ _ b2.out
        have zy2 := frozen_of_row _ _ 2 _ _ b2.out
        have y3 := cell_of_row _ _ 3 _ _ _ b2.out
        have zy3 := frozen_of_row _ _ 3 _ _ b2.out
        simp only [List.getElem?_toArray, List.getElem?_cons_zero, List.getElem?_cons_succ] at y0 y1 y2 y3
    
        go_wp2_with fail
        refine (inOrder_any Lk m n (s.expect + (k : Int)) w0 W2 HM2.out HB2'.out (by omega) (by omega) (fun y hy => by have := dataB_of (HDA.out y (HMEM.out y hy)); omega)).mono ?_
        rintro e w3 ⟨v3, rfl, hall3⟩
        rw [HORD.out] at hall3
        obtain ⟨⟨bs3, o3, m3, l3⟩, bl3⟩ := hall3
        obtain ⟨a3, c3, e3, -⟩ := id o3.rd
        obtain ⟨n3, hn3⟩ : ∃ n3, n3 = (l.drop k).length := ⟨_, rfl⟩
        rw [← hn3] at e3
        subst e3
        have HNL := hid hn3
        clear hn3
        have b3 := hid ((bl3.block _ (Array.getElem?_eq_some_iff.1 b2.out).1).trans b2.out)
        have b4 : Hid ((w3.setCell ⟨w.heap.size + 1, 2, none⟩ (.slice a3 n3 c3)).heap[w.heap.size + 1]? = some (.cells #[.int .i64 s.epoch, .int .i64 (s.expect + (k : Int)), .slice a3 n3 c3, .slice aP pt.length cP] 32 (0, 0))) := hid (heap_setCell_same _ _ 2 _ _ (.slice a3 n3 c3) b3.out)
        have HOT : Hid (∀ x, x ≠ w.heap.size + 1 → (w3.setCell ⟨w.heap.size + 1, 2, none⟩ (.slice a3 n3 c3)).heap[x]? = w3.heap[x]?) := hid (fun x hx => Below.heap_setCell _ _ _ _ hx)
        have HB5 : Hid (Below w0.heap.size w0 (w3.setCell ⟨w.heap.size + 1, 2, none⟩ (.slice a3 n3 c3))) := hid ((below_chain HB2'.out bl3).setCell (p := ⟨w.heap.size + 1, 2, none⟩) (by simp only []; omega) _)
        have HO3 := hid o3
        have HN3 := hid m3
        have HL3 := hid l3
        have HBL3 := hid bl3
        clear o3 m3 l3 bl3 y0 zy0 y1 zy1 y2 zy2 y3 zy3
        have y0 := cell_of_row _ _ 0 _ _ _ b3.out
        have zy0 := frozen_of_row _ _ 0 _ _ b3.out
        have y1 := cell_of_row _ _ 1 _ _ _ b3.out
        have zy1 := frozen_of_row _ _ 1 _ _ b3.out
        have y2 := cell_of_row _ _ 2 _ _ _ b3.out
        have zy2 := frozen_of_row _ _ 2 _ _ b3.out
        have y3 := cell_of_row _ _ 3 _ _ _ b3.out
        have zy3 := frozen_of_row _ _ 3 _ _ b3.out
        simp only [List.getElem?_toArray, List.getElem?_cons_zero, List.getElem?_cons_succ] at y0 y1 y2 y3
    
        go_upto_region 5 with fail
        generalize (w3.setCell ⟨w.heap.size + 1, 2, none⟩ (.slice a3 n3 c3)) = W5 at *
        clear y0 zy0 y1 zy1 y2 zy2 y3 zy3
        have y0 := cell_of_row _ _ 0 _ _ _ b4.out
        have zy0 := frozen_of_row _ _ 0 _ _ b4.out
        have y1 := cell_of_row _ _ 1 _ _ _ b4.out
        have zy1 := frozen_of_row _ _ 1 _ _ b4.out
        have y2 := cell_of_row _ _ 2 _ _ _ b4.out
        have zy2 := frozen_of_row _ _ 2 _ _ b4.out
        have y3 := cell_of_row _ _ 3 _ _ _ b4.out
        have zy3 := frozen_of_row _ _ 3 _ _ b4.out
        simp only [List.getElem?_toArray, List.getElem?_cons_zero, List.getElem?_cons_succ] at y0 y1 y2 y3
    
        repeat go_step
        change bodyPost Try.prog Try.f32 (ToPost w0 s p) Exit.ret _ _
        refine bodyPost_ret (results_cell_row_tmp2 rfl _ _ (w.heap.size + 1) 32 #[.int .i64 s.epoch, .int .i64 (s.expect + (k : Int)), .slice a3 n3 c3, .slice aP pt.length cP] (0, 0) _ rfl (set4 b4.out) Try.underlying32 rfl (by kernel_rfl)) rfl ?_
        refine ⟨set4b HB5.out (by omega), .inr ⟨k, HTE.out, ?_⟩⟩
        have hnl := HNL.out
        subst hnl
        rw [HLE.out, HPT.out, HMS.out]
        obtain ⟨us, vs, -, hpo, hmo, hnd, hbd⟩ := HG2.out
        have hg1 := HG1.out
        have hk3 : ∀ b ∈ us ++ vs, b < W2.heap.size → ((((W5.setCell ⟨w.heap.size + 1, 0, none⟩ (.int .i64 s.epoch)).setCell ⟨w.heap.size + 1, 1, none⟩ (.int .i64 (s.expect + (k : Int)))).setCell ⟨w.heap.size + 1, 2, none⟩ (.slice a3 (l.drop k).length c3)).setCell ⟨w.heap.size + 1, 3, none⟩ (.slice aP pt.length cP)).heap[b]? = W2.heap[b]? := fun b hb hl => (set4o (hbd b hb).2).trans ((HOT.out b (hbd b hb).2).trans (HBL3.out.block b hl))
        refine ⟨a3, c3, aP, cP, _, bs3, us, vs, rfl, ⟨HO3.out.kept (fun b hb => (set4o (by have := HL3.out b hb; omega)).trans (HOT.out b (by have := HL3.out b hb; omega))), hpo.kept (fun b hb => hk3 b (List.mem_append_left _ hb) (hpo.lt b hb))⟩, hmo.kept (fun b hb => hk3 b (List.mem_append_right _ hb) (hmo.lt b hb)), ?_, ?_⟩
        · refine List.nodup_append.2 ⟨HN3.out, hnd, fun x hx y hy e => ?_⟩
          have h1 := HL3.out x hx
          have h2 : y < W2.heap.size := by
            rcases List.mem_append.1 hy with h | h
            · exact hpo.lt y h
            · exact hmo.lt y h
          omega
        · intro x hx
          rcases List.mem_append.1 hx with h | h
          · have := HL3.out x h; omega
          · have := (hbd x h).1; omega
end Go.Proofs.Ytfaehioeepolhaa
