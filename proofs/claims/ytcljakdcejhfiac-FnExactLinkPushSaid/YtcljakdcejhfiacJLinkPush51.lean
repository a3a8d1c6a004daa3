import Derived.Test.YtcljakdcejhfiacJLinkPush28
import Derived.Test.YtcljakdcejhfiacJLinkPush37
import Derived.Test.YtcljakdcejhfiacJLinkPush38
namespace Go.Proofs.Ytcljakdcejhfiac
open Go.RowKit
def fcOneQ (s : PW) (a : Option Addr) (c : Nat) (bk : List Nat) : Fct := ⟨fun v w => ∃ g, v = .slice (some ⟨g, 0, none⟩) 1 1 ∧ w.heap[g]? = some (.cells #[.int .i64 s.pkt.kind, .int .i64 s.pkt.epoch, .int .i64 s.pkt.seq, .int .i64 s.pkt.count, .bool s.pkt.last, .slice a s.pkt.data.length c, .int .i64 s.at_] 85 (0, 0)) ∧ OwnSl cByte 5 w s.pkt.data (.slice a s.pkt.data.length c) bk,
  fun _ _ _ ⟨g, e, h0, h1⟩ hb => ⟨g, e, (hb.block _ (Array.getElem?_eq_some_iff.1 h0).1).trans h0, ownB_kept h1 hb⟩⟩
def fcGotQ (W1 : World) (us : List Nat) (gq : Nat) (acc : Value) (bk : List Nat) (xs : List PW) : Fct := ⟨fun v w => w.heap[gq]? = some (.cells #[acc] 126 (0, 0)) ∧ Only us W1 w ∧ ∃ a c bs, v = .slice a xs.length c ∧ OwnSl cSnt 85 w xs (.slice a xs.length c) bs ∧ bs.Nodup ∧ ∀ b ∈ bs, (b ∈ us ∨ b ∈ bk ∨ W1.heap.size ≤ b) ∧ b ≠ gq,
  fun _ _ _ ⟨h1, h0, a, c, bs, e, h2, h3⟩ hb => ⟨(hb.block _ (Array.getElem?_eq_some_iff.1 h1).1).trans h1, h0.trans (Only.of_below hb), a, c, bs, e, h2.kept (fun b hm => hb.block b (h2.lt b hm)), h3⟩⟩
def PutQ (W1 : World) (us : List Nat) (gq : Nat) (bk : List Nat) (xs : List PW) (w : World) : Prop := Only (gq :: us) W1 w ∧ ∃ a c bs, w.heap[gq]? = some (.cells #[.slice a xs.length c] 126 (0, 0)) ∧ OwnSl cSnt 85 w xs (.slice a xs.length c) bs ∧ bs.Nodup ∧ ∀ b ∈ bs, (b ∈ us ∨ b ∈ bk ∨ W1.heap.size ≤ b) ∧ b ≠ gq
def fcPutQ (W1 : World) (us : List Nat) (gq : Nat) (bk : List Nat) (xs : List PW) : Fct := ⟨fun _ w => PutQ W1 us gq bk xs w,
  fun _ _ _ ⟨h0, a, c, bs, h1, h2, h3⟩ hb => ⟨h0.trans (Only.of_below hb), a, c, bs, (hb.block _ (Array.getElem?_eq_some_iff.1 h1).1).trans h1, h2.kept (fun b hm => hb.block b (h2.lt b hm)), h3⟩⟩
theorem putQ_mk {W1 : World} {us : List Nat} {gq : Nat} {acc : Value} {bk : List Nat} {xs : List PW} {w : World} {a : Option Addr} {c : Nat} {bs : List Nat} (h : w.heap[gq]? = some (.cells #[acc] 126 (0, 0))) (hon : Only us W1 w) (ho : OwnSl cSnt 85 w xs (.slice a xs.length c) bs) (hn : bs.Nodup) (hb : ∀ b ∈ bs, (b ∈ us ∨ b ∈ bk ∨ W1.heap.size ≤ b) ∧ b ≠ gq) :
    PutQ W1 us gq bk xs (w.setCell ⟨gq, 0, none⟩ (.slice a xs.length c)) :=
  ⟨(hon.mono (fun x hx => List.mem_cons_of_mem _ hx)).trans ⟨rfl, rfl, rfl, by simp, fun i _ hn => Below.heap_setCell _ ⟨gq, 0, none⟩ _ _ (fun e => hn (by simp [e]))⟩, a, c, bs, heap_setCell_same _ _ 0 _ _ _ h, ho.kept (fun b hm => Below.heap_setCell _ ⟨gq, 0, none⟩ _ _ (hb b hm).2), hn, hb⟩
set_option linter.unusedVariables false in
def qpT (W1 : World) (us : List Nat) (gq : Nat) (acc : Value) (s : PW) (an : Option Addr) (cn : Nat) (bk : List Nat) (xs : List PW) : Nat → FX
  | 0 => FX.eq (.pointer (some ⟨gq, 0, none⟩))
  | 1 => FX.eq (.pointer (some ⟨gq, 0, none⟩))
  | 2 => FX.eq (.pointer (some ⟨gq, 0, none⟩))
  | 3 => FX.eq (.pointer (some ⟨gq, 0, none⟩))
  | 4 => FX.eq (acc)
  | 5 => FX.eq (.agg #[.int .i64 s.pkt.kind, .int .i64 s.pkt.epoch, .int .i64 s.pkt.seq, .int .i64 s.pkt.count, .bool s.pkt.last, .slice an s.pkt.data.length cn, .int .i64 s.at_])
  | 6 => FX.pre [7, 10] (fcOneQ s an cn bk)
  | 7 => FX.pre [10] (fcGotQ W1 us gq acc bk (xs ++ [s]))
  | 8 => FX.eq (.pointer (some ⟨gq, 0, none⟩))
  | 9 => FX.eq (.pointer (some ⟨gq, 0, none⟩))
  | 10 => FX.is (fcPutQ W1 us gq bk (xs ++ [s]))
  | _ => FX.eq undef
set_option maxRecDepth 100000 in
set_option maxHeartbeats 8000000 in
theorem put_any (gq : Nat) (aA : Option Addr) (cA : Nat) (xs : List PW) (us : List Nat) (s : PW) (an : Option Addr) (cn : Nat) (bk : List Nat) (Wb w : World) (hWb : Below Wb.heap.size Wb w) (hkq : w.heap[gq]? = some (.cells #[.slice aA xs.length cA] 126 (0, 0)))
    (hox : OwnSl cSnt 85 w xs (.slice aA xs.length cA) us) (hnb : us.Nodup) (hbb : ∀ b ∈ us, Wb.heap.size ≤ b ∧ b ≠ gq) (hda : OwnSl cByte 5 w s.pkt.data (.slice an s.pkt.data.length cn) bk) (hdn : bk.Nodup) (hdl : ∀ b ∈ bk, Wb.heap.size ≤ b ∧ b ≠ gq) (hdis : ∀ b ∈ bk, b ∉ us)
    (hok : PPIn s.pkt ∧ IntIn s.at_) (hx : xs.length ≤ 1048576) (hgq : Wb.heap.size ≤ gq) :
    Calls Try.prog 98 #[.pointer (some ⟨gq, 0, none⟩), .agg #[.int .i64 s.pkt.kind, .int .i64 s.pkt.epoch, .int .i64 s.pkt.seq, .int .i64 s.pkt.count, .bool s.pkt.last, .slice an s.pkt.data.length cn, .int .i64 s.at_]] w fun e w' => e = .returned (.tuple #[]) ∧ ∃ a c bs, w'.heap[gq]? = some (.cells #[.slice a (xs ++ [s]).length c] 126 (0, 0)) ∧ OwnSl cSnt 85 w' (xs ++ [s]) (.slice a (xs ++ [s]).length c) bs ∧ bs.Nodup ∧ (∀ b ∈ bs, (b ∈ us ∨ b ∈ bk ∨ w.heap.size ≤ b) ∧ b ≠ gq) ∧ Only (gq :: us) w w' ∧ Below Wb.heap.size Wb w' := by
  obtain ⟨i0, hi0, hz0, hz1, hz2⟩ := info_parts infoImSent
  have hlt := (Array.getElem?_eq_some_iff.1 hkq).1
  have HB01 := hid (below_new1 w (.cells #[.int .i64 s.pkt.kind, .int .i64 s.pkt.epoch, .int .i64 s.pkt.seq, .int .i64 s.pkt.count, .bool s.pkt.last, .slice an s.pkt.data.length cn, .int .i64 s.at_] 85))
  have HSZ1 : Hid (w.heap.size ≤ (w.alloc (.cells #[.int .i64 s.pkt.kind, .int .i64 s.pkt.epoch, .int .i64 s.pkt.seq, .int .i64 s.pkt.count, .bool s.pkt.last, .slice an s.pkt.data.length cn, .int .i64 s.at_] 85)).heap.size) := hid (by simp)
  have HWB1 := hid (below_chain hWb HB01.out)
  have HKQ := hid (box_laterP2 hkq HB01.out)
  have HOX := hid (hox.kept (w' := w.alloc (.cells #[.int .i64 s.pkt.kind, .int .i64 s.pkt.epoch, .int .i64 s.pkt.seq, .int .i64 s.pkt.count, .bool s.pkt.last, .slice an s.pkt.data.length cn, .int .i64 s.at_] 85)) (fun b hb => HB01.out.block b (hox.lt b hb)))
  have HNB := hid hnb
  have HBB := hid hbb
  have HDA := hid (ownB_kept hda HB01.out)
  have HDN := hid hdn
  have HDL := hid hdl
  have HDIS := hid hdis
  have HOK := hid hok
  have HGQ := hid hgq
  have HKI : Hid ((w.alloc (.cells #[.int .i64 s.pkt.kind, .int .i64 s.pkt.epoch, .int .i64 s.pkt.seq, .int .i64 s.pkt.count, .bool s.pkt.last, .slice an s.pkt.data.length cn, .int .i64 s.at_] 85)).heap[w.heap.size]? = some (.cells #[.int .i64 s.pkt.kind, .int .i64 s.pkt.epoch, .int .i64 s.pkt.seq, .int .i64 s.pkt.count, .bool s.pkt.last, .slice an s.pkt.data.length cn, .int .i64 s.at_] 85 (0, 0))) := hid (heap_alloc_new w _)
  clear hkq hox hnb hbb hda hdn hdl hdis hok hgq hWb
  go_enter Try.func98, Try.ntmps98
  go_wp2_with fail
  generalize (w.alloc (.cells #[.int .i64 s.pkt.kind, .int .i64 s.pkt.epoch, .int .i64 s.pkt.seq, .int .i64 s.pkt.count, .bool s.pkt.last, .slice an s.pkt.data.length cn, .int .i64 s.at_] 85)) = W1 at *
  have g0 := cell_of_row _ _ 0 _ _ _ HKQ.out
  have d0 := cell_of_row _ _ 0 _ _ _ HKI.out
  have d1 := cell_of_row _ _ 1 _ _ _ HKI.out
  have d2 := cell_of_row _ _ 2 _ _ _ HKI.out
  have d3 := cell_of_row _ _ 3 _ _ _ HKI.out
  have d4 := cell_of_row _ _ 4 _ _ _ HKI.out
  have d5 := cell_of_row _ _ 5 _ _ _ HKI.out
  have d6 := cell_of_row _ _ 6 _ _ _ HKI.out
  simp only [List.getElem?_toArray, List.getElem?_cons_zero, List.getElem?_cons_succ] at g0 d0 d1 d2 d3 d4 d5 d6
  refine region_turns (n := 11) (by kernel_rfl) (by kernel_rfl) ?_ (fun t => { tmps := #[.pointer (some ⟨gq, 0, none⟩), .agg #[.int .i64 s.pkt.kind, .int .i64 s.pkt.epoch, .int .i64 s.pkt.seq, .int .i64 s.pkt.count, .bool s.pkt.last, .slice an s.pkt.data.length cn, .int .i64 s.at_], undef, .pointer (some ⟨w.heap.size, 0, none⟩), t 0, t 1, t 2, t 3, t 4, t 5, t 6, t 7, t 8, t 9], defers := [] }) (qpT W1 us gq (.slice aA xs.length cA) s an cn bk xs) [7, 10] (fcSameL W1) Wb W1 (fun k => if k = 6 then [7, 10] else if k = 7 then [10] else []) (fun k => !(k == 6 || k == 7 || k == 10)) (by kernel_rfl) (fun j hj => by rcases (by omega : j = 0 ∨ j = 1 ∨ j = 2 ∨ j = 3 ∨ j = 4 ∨ j = 5 ∨ j = 6 ∨ j = 7 ∨ j = 8 ∨ j = 9 ∨ j = 10) with rfl | rfl | rfl | rfl | rfl | rfl | rfl | rfl | rfl | rfl | rfl <;> rfl) (fun j hj hp => by rcases (by omega : j = 0 ∨ j = 1 ∨ j = 2 ∨ j = 3 ∨ j = 4 ∨ j = 5 ∨ j = 6 ∨ j = 7 ∨ j = 8 ∨ j = 9 ∨ j = 10) with rfl | rfl | rfl | rfl | rfl | rfl | rfl | rfl | rfl | rfl | rfl <;> first | rfl | (exact absurd hp (by decide))) (fun j => ([undef, undef, undef, undef, undef, undef, undef, undef, undef, undef, undef] : List Value).getD j undef) HWB1.out (Below.refl _ _) ?_ ?_
  · rfl
  · intro i hi x t wx hxi hsh h0 hbx hgx hdp hall
    rcases (by omega : i = 0 ∨ i = 1 ∨ i = 2 ∨ i = 3 ∨ i = 4 ∨ i = 5 ∨ i = 6 ∨ i = 7 ∨ i = 8 ∨ i = 9 ∨ i = 10) with rfl | rfl | rfl | rfl | rfl | rfl | rfl | rfl | rfl | rfl | rfl
    · 
      try dsimp only
      clear h0
      refine wpOp_step rfl (fun K' hK => ?_)
      go_simp
      exact hK _ _ ⟨.pointer (some ⟨gq, 0, none⟩), (by simp [upd]), FX.eq_mk rfl, fun _ => Below.refl _ _, hbx⟩
    · 
      try dsimp only
      clear h0
      refine wpOp_step rfl (fun K' hK => ?_)
      go_simp
      exact hK _ _ ⟨.pointer (some ⟨gq, 0, none⟩), (by simp [upd]), FX.eq_mk rfl, fun _ => Below.refl _ _, hbx⟩
    · 
      try dsimp only
      have x1 := depX hdp 1 (by kernel_rfl)
      have d1 := hall 1 (by omega) x1
      have e1 : t 1 = .pointer (some ⟨gq, 0, none⟩) := d1.1
      rw [e1]
      clear h0
      refine wpOp_step rfl (fun K' hK => ?_)
      go_simp
      exact hK _ _ ⟨.pointer (some ⟨gq, 0, none⟩), (by simp [upd, e1]), FX.eq_mk rfl, fun _ => Below.refl _ _, hbx⟩
    · 
      try dsimp only
      have x2 := depX hdp 2 (by kernel_rfl)
      have d2 := hall 2 (by omega) x2
      have e2 : t 2 = .pointer (some ⟨gq, 0, none⟩) := d2.1
      rw [e2]
      clear h0
      refine wpOp_step rfl (fun K' hK => ?_)
      go_simp
      exact hK _ _ ⟨.pointer (some ⟨gq, 0, none⟩), (by simp [upd, e2]), FX.eq_mk rfl, fun _ => Below.refl _ _, hbx⟩
    · 
      try dsimp only
      have x3 := depX hdp 3 (by kernel_rfl)
      have d3 := hall 3 (by omega) x3
      have e3 : t 3 = .pointer (some ⟨gq, 0, none⟩) := d3.1
      rw [e3]
      have y7 := notYet hsh hxi 7 (by kernel_rfl)
      have y10 := notYet hsh hxi 10 (by kernel_rfl)
      have hz : Below W1.heap.size W1 wx := hgx (by simp [y7, y10])
      have g0 := (hz.cell (World.block_lt_of_cell? _ _ g0)).trans g0
      clear y7 y10 hz
      clear h0
      refine wpOp_step rfl (fun K' hK => ?_)
      go_simp
      exact hK _ _ ⟨.slice aA xs.length cA, (by simp [upd, e3]), FX.eq_mk rfl, fun _ => Below.refl _ _, hbx⟩
    · 
      try dsimp only
      have y7 := notYet hsh hxi 7 (by kernel_rfl)
      have y10 := notYet hsh hxi 10 (by kernel_rfl)
      have hz : Below W1.heap.size W1 wx := hgx (by simp [y7, y10])
      have d0 := (hz.cell (World.block_lt_of_cell? _ _ d0)).trans d0
      have d1 := (hz.cell (World.block_lt_of_cell? _ _ d1)).trans d1
      have d2 := (hz.cell (World.block_lt_of_cell? _ _ d2)).trans d2
      have d3 := (hz.cell (World.block_lt_of_cell? _ _ d3)).trans d3
      have d4 := (hz.cell (World.block_lt_of_cell? _ _ d4)).trans d4
      have d5 := (hz.cell (World.block_lt_of_cell? _ _ d5)).trans d5
      have d6 := (hz.cell (World.block_lt_of_cell? _ _ d6)).trans d6
      clear y7 y10 hz
      clear h0
      refine wpOp_step rfl (fun K' hK => ?_)
      go_simp
      exact hK _ _ ⟨.agg #[.int .i64 s.pkt.kind, .int .i64 s.pkt.epoch, .int .i64 s.pkt.seq, .int .i64 s.pkt.count, .bool s.pkt.last, .slice an s.pkt.data.length cn, .int .i64 s.at_], (by simp [upd]), FX.eq_mk rfl, fun _ => Below.refl _ _, hbx⟩
    · 
      try dsimp only
      have x5 := depX hdp 5 (by kernel_rfl)
      have d5 := hall 5 (by omega) x5
      have e5 : t 5 = .agg #[.int .i64 s.pkt.kind, .int .i64 s.pkt.epoch, .int .i64 s.pkt.seq, .int .i64 s.pkt.count, .bool s.pkt.last, .slice an s.pkt.data.length cn, .int .i64 s.at_] := d5.1
      rw [e5]
      have y7 := notYet hsh hxi 7 (by kernel_rfl)
      have y10 := notYet hsh hxi 10 (by kernel_rfl)
      have hz : Below W1.heap.size W1 wx := hgx (by simp [y7, y10])
      have r8 := ownB_kept HDA.out hz
      clear y7 y10 hz
      clear h0
      refine wpOp_step rfl (fun K' hK => ?_)
      go_simp
      exact hK _ _ ⟨.slice (some ⟨wx.heap.size, 0, none⟩) 1 1, (by simp [upd, e5]), FX.pre_mk ⟨wx.heap.size, rfl, heap_alloc_new wx _, ownB_kept r8 (below_new1 _ _)⟩, fun _ => below_new1 _ _, below_chain hbx (below_new1 _ _)⟩
    · 
      try dsimp only
      have x4 := depX hdp 4 (by kernel_rfl)
      have d4 := hall 4 (by omega) x4
      have e4 : t 4 = .slice aA xs.length cA := d4.1
      have x6 := depX hdp 6 (by kernel_rfl)
      have d6 := hall 6 (by omega) x6
      rw [e4]
      have y10 := notYet hsh hxi 10 (by kernel_rfl)
      obtain ⟨g16, e6, h16, r8⟩ : (fcOneQ s an cn bk).p (t 6) wx := FX.pre_of2 d6 hxi y10
      rw [e6]
      have hz : Below W1.heap.size W1 wx := hgx (by simp [hxi, y10])
      have hox := HOX.out.kept (w' := wx) (fun b hb => hz.block b (HOX.out.lt b hb))
      have hkm := (hz.block _ (Array.getElem?_eq_some_iff.1 HKQ.out).1).trans HKQ.out
      obtain ⟨vals, ho, hgrowS⟩ := hox.grow HNB.out (fun b hb => (HBB.out b hb).1) hbx.size (cSnt_own (s := s) r8 HOK.out.1 HOK.out.2) HDN.out (fun b hb => (HDL.out b hb).1) HDIS.out
      clear h0
      refine wpOp_step rfl (fun K' hK => ?_)
      refine step_append_lies _ rfl (.tmp 8) (.tmp 10) 27 rfl Wb.heap.size 85 i0 (.agg #[.int .i64 0, .int .i64 0, .int .i64 0, .int .i64 0, .bool false, .slice none 0 0, .int .i64 0]) 7 72 Try.underlying27 hi0 hz0 hz1 hz2 rfl (by decide) (.slice aA xs.length cA) xs.length vals rfl ho ⟨g16, 0, none⟩ 1 1 [.int .i64 s.pkt.kind, .int .i64 s.pkt.epoch, .int .i64 s.pkt.seq, .int .i64 s.pkt.count, .bool s.pkt.last, .slice an s.pkt.data.length cn, .int .i64 s.at_] rfl rfl (World.news_of_block h16) (by simp [Value.oneCell']) (by omega) (by unfold maxLen; omega) (by omega) hbx.size _ rfl ?_
      intro g' cap' w9 hown hgrow hat hlt9
      obtain ⟨bs9, q1, q2, q3⟩ := hgrowS g' cap' w9 hown hgrow hat
      have hne : (Value.slice aA xs.length cA).ownBlock ≠ some gq := fun e => (HBB.out _ (own_block_mem HOX.out e)).2 rfl
      have hon : Only us W1 w9 := (Only.of_below hz).trans ((only_of_grown hgrow).mono (fun x hx => by simp only [Option.mem_toList] at hx; exact own_block_mem HOX.out hx))
      exact hK _ _ ⟨.slice (some ⟨g', 0, none⟩) (xs.length + 1) cap', (by simp [upd, e4, e6, Act.put]), FX.pre_mk ⟨(hgrow.block _ (Array.getElem?_eq_some_iff.1 hkm).1 (fun e => hne e.symm)).trans hkm, hon, some ⟨g', 0, none⟩, cap', bs9, by simp, q1, q2, fun b hb => ⟨by rcases (q3 b hb).2 with h | h | h; exact .inl h; exact .inr (.inl h); exact .inr (.inr (by have := hz.size; omega)), fun e => by subst e; rcases (q3 _ hb).2 with h | h | h; exact (HBB.out _ h).2 rfl; exact (HDL.out _ h).2 rfl; exact absurd (Array.getElem?_eq_some_iff.1 hkm).1 (by omega)⟩⟩, fun h => absurd (by simp) h, hbx.grown hgrow hbx.size (fun p hp => (own_in7 ho hp).1)⟩
    · 
      try dsimp only
      have x0 := depX hdp 0 (by kernel_rfl)
      have d0 := hall 0 (by omega) x0
      have e0 : t 0 = .pointer (some ⟨gq, 0, none⟩) := d0.1
      rw [e0]
      clear h0
      refine wpOp_step rfl (fun K' hK => ?_)
      go_simp
      exact hK _ _ ⟨.pointer (some ⟨gq, 0, none⟩), (by simp [upd, e0]), FX.eq_mk rfl, fun _ => Below.refl _ _, hbx⟩
    · 
      try dsimp only
      have x8 := depX hdp 8 (by kernel_rfl)
      have d8 := hall 8 (by omega) x8
      have e8 : t 8 = .pointer (some ⟨gq, 0, none⟩) := d8.1
      rw [e8]
      clear h0
      refine wpOp_step rfl (fun K' hK => ?_)
      go_simp
      exact hK _ _ ⟨.pointer (some ⟨gq, 0, none⟩), (by simp [upd, e8]), FX.eq_mk rfl, fun _ => Below.refl _ _, hbx⟩
    · 
      try dsimp only
      have x9 := depX hdp 9 (by kernel_rfl)
      have d9 := hall 9 (by omega) x9
      have e9 : t 9 = .pointer (some ⟨gq, 0, none⟩) := d9.1
      have x7 := depX hdp 7 (by kernel_rfl)
      have d7 := hall 7 (by omega) x7
      rw [e9]
      obtain ⟨hbm, hon, a17, c17, bs17, e7, o17, n17, b17⟩ : (fcGotQ W1 us gq (.slice aA xs.length cA) bk (xs ++ [s])).p (t 7) wx := FX.pre_of d7 hxi
      rw [e7]
      have k3 := cell_of_row wx _ 0 _ _ _ hbm
      have z3 := frozen_of_row wx _ 0 _ _ hbm
      simp only [List.getElem?_toArray, List.getElem?_cons_zero] at k3
      have HPUT := hid (putQ_mk hbm hon o17 n17 b17)
      rw [show (xs ++ [s]).length = xs.length + 1 from by simp] at HPUT
      clear hbm o17 n17 b17 hon
      clear h0
      refine wpOp_step rfl (fun K' hK => ?_)
      go_simp
      exact hK _ _ ⟨undef, (by simp [upd, e9, e7]), FX.is_mk HPUT.out, fun h => absurd (by simp) h, hbx.setCell (p := ⟨gq, 0, none⟩) HGQ.out _⟩
  · intro x t wx hx hbx hall
    obtain ⟨hon, a9, c9, bs9, hk9, o9, n9, b9⟩ : (fcPutQ W1 us gq bk (xs ++ [s])).p (t 10) wx := FX.is_of (hall 10 (by omega))
    have HON := hid hon
    have HK9 := hid hk9
    have HO9 := hid o9
    have HN9 := hid n9
    have HB9 := hid b9
    have HBX := hid hbx
    clear hall hbx hon hk9 o9 n9 b9
    try dsimp only
    go_wp2
    go_end0
    exact ⟨rfl, a9, c9, bs9, HK9.out, HO9.out, HN9.out, fun b hb => ⟨by rcases (HB9.out b hb).1 with h | h | h; exact .inl h; exact .inr (.inl h); exact .inr (.inr (Nat.le_trans HSZ1.out h)), (HB9.out b hb).2⟩, (Only.of_below HB01.out).trans HON.out, HBX.out⟩
end Go.Proofs.Ytcljakdcejhfiac
