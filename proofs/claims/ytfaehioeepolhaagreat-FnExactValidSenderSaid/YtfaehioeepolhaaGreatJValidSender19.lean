import Derived.Test.YtfaehioeepolhaaGreatJValidSender17
import Derived.Test.YtfaehioeepolhaaGreatJValidSender18
import Derived.Deep.Cut
namespace Go.Proofs.YtfaehioeepolhaaGreat
open Go.RowKit
theorem set7 {w : World} {g : Nat} {e : TypeId} {a0 a1 a2 a3 a4 a5 a6 x0 x1 x2 x3 x4 x5 x6 : Value} (h : w.heap[g]? = some (.cells #[a0, a1, a2, a3, a4, a5, a6] e (0, 0))) :
    (((((((w.setCell ⟨g, 0, none⟩ x0).setCell ⟨g, 1, none⟩ x1).setCell ⟨g, 2, none⟩ x2).setCell ⟨g, 3, none⟩ x3).setCell ⟨g, 4, none⟩ x4).setCell ⟨g, 5, none⟩ x5).setCell ⟨g, 6, none⟩ x6).heap[g]? = some (.cells #[x0, x1, x2, x3, x4, x5, x6] e (0, 0)) := by
  have h1 := heap_setCell_same w g 0 _ e x0 h
  have h2 := heap_setCell_same _ g 1 _ e x1 h1
  have h3 := heap_setCell_same _ g 2 _ e x2 h2
  have h4 := heap_setCell_same _ g 3 _ e x3 h3
  have h5 := heap_setCell_same _ g 4 _ e x4 h4
  have h6 := heap_setCell_same _ g 5 _ e x5 h5
  have h7 := heap_setCell_same _ g 6 _ e x6 h6
  rw [h7]; rfl
theorem set7o {w : World} {g k : Nat} {x0 x1 x2 x3 x4 x5 x6 : Value} (h : k ≠ g) : (((((((w.setCell ⟨g, 0, none⟩ x0).setCell ⟨g, 1, none⟩ x1).setCell ⟨g, 2, none⟩ x2).setCell ⟨g, 3, none⟩ x3).setCell ⟨g, 4, none⟩ x4).setCell ⟨g, 5, none⟩ x5).setCell ⟨g, 6, none⟩ x6).heap[k]? = w.heap[k]? := by
  rw [Below.heap_setCell _ _ _ _ h, Below.heap_setCell _ _ _ _ h, Below.heap_setCell _ _ _ _ h, Below.heap_setCell _ _ _ _ h, Below.heap_setCell _ _ _ _ h, Below.heap_setCell _ _ _ _ h, Below.heap_setCell _ _ _ _ h]
theorem set7b {B : Nat} {a w : World} {g : Nat} {x0 x1 x2 x3 x4 x5 x6 : Value} (h : Below B a w) (hg : B ≤ g) : Below B a (((((((w.setCell ⟨g, 0, none⟩ x0).setCell ⟨g, 1, none⟩ x1).setCell ⟨g, 2, none⟩ x2).setCell ⟨g, 3, none⟩ x3).setCell ⟨g, 4, none⟩ x4).setCell ⟨g, 5, none⟩ x5).setCell ⟨g, 6, none⟩ x6) :=
  by have := wsetAll_below [x0, x1, x2, x3, x4, x5, x6] w g 0 h hg; rw [wset7] at this; simpa using this
structure PW where
  pkt : PP
  at_ : Int
def cSnt : Cod PW := cMap (cPair cPkt cInt) fun s => (s.pkt, s.at_)
theorem cSnt_rd {w : World} {s : PW} {cs : List Value} (h : cSnt.rd w s cs) : ∃ a cap, cs = [.int .i64 s.pkt.kind, .int .i64 s.pkt.epoch, .int .i64 s.pkt.seq, .int .i64 s.pkt.count, .bool s.pkt.last, .slice a s.pkt.data.length cap, .int .i64 s.at_] ∧ RdSl cByte w s.pkt.data (.slice a s.pkt.data.length cap) ∧ PPIn s.pkt ∧ IntIn s.at_ := by
  obtain ⟨c1, c2, rfl, h1, rfl, h2⟩ := h
  obtain ⟨a, cap, rfl, h3, h4⟩ := cPkt_rd h1
  exact ⟨a, cap, rfl, h3, h4, h2⟩
theorem cSnt_own {w : World} {s : PW} {v : Value} {bs : List Nat} (h : OwnSl cByte 5 w s.pkt.data v bs) (hi : PPIn s.pkt) (h2 : IntIn s.at_) : cSnt.own w s [.int .i64 s.pkt.kind, .int .i64 s.pkt.epoch, .int .i64 s.pkt.seq, .int .i64 s.pkt.count, .bool s.pkt.last, v, .int .i64 s.at_] bs :=
  ⟨_, _, bs, [], rfl, by simp, cPkt_own h hi, rfl, h2, rfl⟩
theorem cSnt_shape {w : World} {s : PW} {cs : List Value} (h : cSnt.rd w s cs) : ∃ a cap, cs = [.int .i64 s.pkt.kind, .int .i64 s.pkt.epoch, .int .i64 s.pkt.seq, .int .i64 s.pkt.count, .bool s.pkt.last, .slice a s.pkt.data.length cap, .int .i64 s.at_] := by
  obtain ⟨a, cap, rfl, _⟩ := cSnt_rd h
  exact ⟨a, cap, rfl⟩
def wN (s : PW) : Nat := s.pkt.data.length
set_option maxHeartbeats 1000000 in
theorem szSent_law : SzLaw Tryz.prog 143 cSnt wN := by
  intro w x cs l hrd h0 h1
  obtain ⟨a, cap, rfl, hv, hi, -⟩ := cSnt_rd hrd
  have HQ := hid (szPacket_law (w.alloc (.cells #[.int .i64 x.pkt.kind, .int .i64 x.pkt.epoch, .int .i64 x.pkt.seq, .int .i64 x.pkt.count, .bool x.pkt.last, .slice a x.pkt.data.length cap, .int .i64 x.at_] 171)) x.pkt _ l (cPkt_mk (hv.later (below_new1 _ _)) hi) h0 h1)
  simp only [val] at HQ
  have HB0 := hid (below_new1 w (.cells #[.int .i64 x.pkt.kind, .int .i64 x.pkt.epoch, .int .i64 x.pkt.seq, .int .i64 x.pkt.count, .bool x.pkt.last, .slice a x.pkt.data.length cap, .int .i64 x.at_] 171))
  clear hrd hv hi
  simp only [val]
  rw [show wN x = pN x.pkt from rfl]
  by_cases hneg : rest l (pN x.pkt) < 0
  · have HM := hid (rest_neg1 hneg)
    generalize hr : rest l (pN x.pkt) = r at *
    clear hr
    go_enter Tryz.func143, Tryz.ntmps143
    go_wp2_with fail
    refine HQ.out.mono ?_
    rintro e w2 ⟨rfl, b2⟩
    have HB := hid (below_chain HB0.out b2)
    clear b2
    go_wp2
    go_ret
    exact ⟨by rw [HM.out]; rfl, HB.out⟩
  · generalize hr : rest l (pN x.pkt) = r at *
    clear hr
    go_enter Tryz.func143, Tryz.ntmps143
    go_wp2_with fail
    refine HQ.out.mono ?_
    rintro e w2 ⟨rfl, b2⟩
    have HB := hid (below_chain HB0.out b2)
    clear b2
    go_wp2
    go_ret
    exact ⟨rfl, HB.out⟩
set_option maxHeartbeats 2000000 in
theorem eqSent_law : EqLaw Tryz.prog 159 cSnt wN := by
  intro w x cs cs' h1 h2 ht
  obtain ⟨a1, c1, rfl, r1, hi, -⟩ := cSnt_rd h1
  obtain ⟨a2, c2, rfl, r2, -, -⟩ := cSnt_rd h2
  have HQ := hid (eqPacket_law ((w.alloc (.cells #[.int .i64 x.pkt.kind, .int .i64 x.pkt.epoch, .int .i64 x.pkt.seq, .int .i64 x.pkt.count, .bool x.pkt.last, .slice a1 x.pkt.data.length c1, .int .i64 x.at_] 137)).alloc (.cells #[.int .i64 x.pkt.kind, .int .i64 x.pkt.epoch, .int .i64 x.pkt.seq, .int .i64 x.pkt.count, .bool x.pkt.last, .slice a2 x.pkt.data.length c2, .int .i64 x.at_] 137)) x.pkt _ _ (cPkt_mk (r1.later (below_new2 _ _ _)) hi) (cPkt_mk (r2.later (below_new2 _ _ _)) hi) ht)
  simp only [val] at HQ
  have b1 : (x.at_ != x.at_) = false := by simp
  have HB0 := hid (below_new2 w (.cells #[.int .i64 x.pkt.kind, .int .i64 x.pkt.epoch, .int .i64 x.pkt.seq, .int .i64 x.pkt.count, .bool x.pkt.last, .slice a1 x.pkt.data.length c1, .int .i64 x.at_] 137) (.cells #[.int .i64 x.pkt.kind, .int .i64 x.pkt.epoch, .int .i64 x.pkt.seq, .int .i64 x.pkt.count, .bool x.pkt.last, .slice a2 x.pkt.data.length c2, .int .i64 x.at_] 137))
  simp only [val]
  clear h1 h2 ht r1 r2 hi
  go_enter Tryz.func159, Tryz.ntmps159
  go_wp2_with fail
  refine HQ.out.mono ?_
  rintro e w2 ⟨rfl, b2⟩
  have b2' := b2
  rw [size2] at b2'
  obtain ⟨k0, k1⟩ := heap2 _ _ b2'
  have p6 := cell_of_row w2 _ 6 _ _ _ k0
  have q6 := cell_of_row w2 _ 6 _ _ _ k1
  simp only [List.getElem?_toArray, List.getElem?_cons_zero, List.getElem?_cons_succ] at p6 q6
  have HB := hid (below_chain HB0.out b2)
  clear b2 b2' k0 k1
  go_wp2
  go_ret
  exact ⟨rfl, HB.out⟩
set_option maxRecDepth 100000 in
set_option maxHeartbeats 4000000 in
theorem toSent_law : ToLaw Tryz.prog 149 cSnt wN := by
  intro w s cs h ht
  obtain ⟨a, cap, rfl, hr, hin, hat⟩ := cSnt_rd h
  have hl3 : Below w.heap.size w (((w.alloc (.cells #[.int .i64 s.pkt.kind, .int .i64 s.pkt.epoch, .int .i64 s.pkt.seq, .int .i64 s.pkt.count, .bool s.pkt.last, .slice a s.pkt.data.length cap, .int .i64 s.at_] 171)).alloc (.cells #[.int .i64 0, .int .i64 0, .int .i64 0, .int .i64 0, .bool false, .slice none 0 0, .int .i64 0] 137)).alloc (.cells #[.int .i64 0, .int .i64 0, .int .i64 0, .int .i64 0, .bool false, .slice none 0 0, .int .i64 0] 137)) := below_new3 w _ _ _
  have HQ := hid (toPacket_law (((w.alloc (.cells #[.int .i64 s.pkt.kind, .int .i64 s.pkt.epoch, .int .i64 s.pkt.seq, .int .i64 s.pkt.count, .bool s.pkt.last, .slice a s.pkt.data.length cap, .int .i64 s.at_] 171)).alloc (.cells #[.int .i64 0, .int .i64 0, .int .i64 0, .int .i64 0, .bool false, .slice none 0 0, .int .i64 0] 137)).alloc (.cells #[.int .i64 0, .int .i64 0, .int .i64 0, .int .i64 0, .bool false, .slice none 0 0, .int .i64 0] 137)) s.pkt _ (cPkt_mk (hr.later hl3) hin) ht)
  simp only [val] at HQ
  have HIN := hid hin
  have HAT := hid hat
  have HL3 := hid hl3
  simp only [val]
  clear h ht hr hin hat hl3
  go_enter Tryz.func149, Tryz.ntmps149
  go_wp2_with fail
  refine HQ.out.mono ?_
  rintro e w2 ⟨cs2, bs, he, o2, hbs, hnd, b2⟩
  obtain ⟨a2, c2, rfl, o3, -⟩ := cPkt_owned o2
  subst he
  have b2' := b2
  rw [size3] at b2' hbs
  obtain ⟨k0, k1, k2⟩ := heap3 _ _ _ b2'
  have c06 := cell_of_row w2 _ 6 _ _ _ k0
  have c10 := cell_of_row w2 _ 0 _ _ _ k1
  have f10 := frozen_of_row w2 _ 0 _ _ k1
  have c20 := cell_of_row w2 _ 0 _ _ _ k2
  have f20 := frozen_of_row w2 _ 0 _ _ k2
  have c11 := cell_of_row w2 _ 1 _ _ _ k1
  have f11 := frozen_of_row w2 _ 1 _ _ k1
  have c21 := cell_of_row w2 _ 1 _ _ _ k2
  have f21 := frozen_of_row w2 _ 1 _ _ k2
  have c12 := cell_of_row w2 _ 2 _ _ _ k1
  have f12 := frozen_of_row w2 _ 2 _ _ k1
  have c22 := cell_of_row w2 _ 2 _ _ _ k2
  have f22 := frozen_of_row w2 _ 2 _ _ k2
  have c13 := cell_of_row w2 _ 3 _ _ _ k1
  have f13 := frozen_of_row w2 _ 3 _ _ k1
  have c23 := cell_of_row w2 _ 3 _ _ _ k2
  have f23 := frozen_of_row w2 _ 3 _ _ k2
  have c14 := cell_of_row w2 _ 4 _ _ _ k1
  have f14 := frozen_of_row w2 _ 4 _ _ k1
  have c24 := cell_of_row w2 _ 4 _ _ _ k2
  have f24 := frozen_of_row w2 _ 4 _ _ k2
  have c15 := cell_of_row w2 _ 5 _ _ _ k1
  have f15 := frozen_of_row w2 _ 5 _ _ k1
  have c25 := cell_of_row w2 _ 5 _ _ _ k2
  have f25 := frozen_of_row w2 _ 5 _ _ k2
  have c16 := cell_of_row w2 _ 6 _ _ _ k1
  have f16 := frozen_of_row w2 _ 6 _ _ k1
  have c26 := cell_of_row w2 _ 6 _ _ _ k2
  have f26 := frozen_of_row w2 _ 6 _ _ k2
  simp only [List.getElem?_toArray, List.getElem?_cons_zero, List.getElem?_cons_succ] at c06 c10 c20 c11 c21 c12 c22 c13 c23 c14 c24 c15 c25 c16 c26
  have h12 : w.heap.size + 1 ≠ w.heap.size + 1 + 1 := by omega
  have HKO : Hid ((((((((w2.setCell ⟨w.heap.size + 1 + 1, 0, none⟩ (.int .i64 s.pkt.kind)).setCell ⟨w.heap.size + 1 + 1, 1, none⟩ (.int .i64 s.pkt.epoch)).setCell ⟨w.heap.size + 1 + 1, 2, none⟩ (.int .i64 s.pkt.seq)).setCell ⟨w.heap.size + 1 + 1, 3, none⟩ (.int .i64 s.pkt.count)).setCell ⟨w.heap.size + 1 + 1, 4, none⟩ (.bool s.pkt.last)).setCell ⟨w.heap.size + 1 + 1, 5, none⟩ (.slice a2 s.pkt.data.length c2)).setCell ⟨w.heap.size + 1 + 1, 6, none⟩ (.int .i64 s.at_)).heap[w.heap.size + 1 + 1]? = some (.cells #[.int .i64 s.pkt.kind, .int .i64 s.pkt.epoch, .int .i64 s.pkt.seq, .int .i64 s.pkt.count, .bool s.pkt.last, .slice a2 s.pkt.data.length c2, .int .i64 s.at_] 137 (0, 0))) := hid (set7 k2)
  have HKR : Hid ((((((((w2.setCell ⟨w.heap.size + 1 + 1, 0, none⟩ (.int .i64 s.pkt.kind)).setCell ⟨w.heap.size + 1 + 1, 1, none⟩ (.int .i64 s.pkt.epoch)).setCell ⟨w.heap.size + 1 + 1, 2, none⟩ (.int .i64 s.pkt.seq)).setCell ⟨w.heap.size + 1 + 1, 3, none⟩ (.int .i64 s.pkt.count)).setCell ⟨w.heap.size + 1 + 1, 4, none⟩ (.bool s.pkt.last)).setCell ⟨w.heap.size + 1 + 1, 5, none⟩ (.slice a2 s.pkt.data.length c2)).setCell ⟨w.heap.size + 1 + 1, 6, none⟩ (.int .i64 s.at_)).heap[w.heap.size + 1]? = some (.cells #[.int .i64 0, .int .i64 0, .int .i64 0, .int .i64 0, .bool false, .slice none 0 0, .int .i64 0] 137 (0, 0))) := hid ((set7o h12).trans k1)
  have HBW : Hid (Below w.heap.size w (((((((w2.setCell ⟨w.heap.size + 1 + 1, 0, none⟩ (.int .i64 s.pkt.kind)).setCell ⟨w.heap.size + 1 + 1, 1, none⟩ (.int .i64 s.pkt.epoch)).setCell ⟨w.heap.size + 1 + 1, 2, none⟩ (.int .i64 s.pkt.seq)).setCell ⟨w.heap.size + 1 + 1, 3, none⟩ (.int .i64 s.pkt.count)).setCell ⟨w.heap.size + 1 + 1, 4, none⟩ (.bool s.pkt.last)).setCell ⟨w.heap.size + 1 + 1, 5, none⟩ (.slice a2 s.pkt.data.length c2)).setCell ⟨w.heap.size + 1 + 1, 6, none⟩ (.int .i64 s.at_))) := hid (set7b (below_chain HL3.out b2) (by omega))
  have HOW : Hid (OwnSl cByte 5 (((((((w2.setCell ⟨w.heap.size + 1 + 1, 0, none⟩ (.int .i64 s.pkt.kind)).setCell ⟨w.heap.size + 1 + 1, 1, none⟩ (.int .i64 s.pkt.epoch)).setCell ⟨w.heap.size + 1 + 1, 2, none⟩ (.int .i64 s.pkt.seq)).setCell ⟨w.heap.size + 1 + 1, 3, none⟩ (.int .i64 s.pkt.count)).setCell ⟨w.heap.size + 1 + 1, 4, none⟩ (.bool s.pkt.last)).setCell ⟨w.heap.size + 1 + 1, 5, none⟩ (.slice a2 s.pkt.data.length c2)).setCell ⟨w.heap.size + 1 + 1, 6, none⟩ (.int .i64 s.at_)) s.pkt.data (.slice a2 s.pkt.data.length c2) bs) := hid (o3.kept (fun b hb => set7o (by have := hbs b hb; omega)))
  have HBS := hid hbs
  have HND := hid hnd
  clear k0 k1 k2 b2 b2' o2 o3 hbs hnd
  go_upto_region 4 with fail
  generalize (((((((w2.setCell ⟨w.heap.size + 1 + 1, 0, none⟩ (.int .i64 s.pkt.kind)).setCell ⟨w.heap.size + 1 + 1, 1, none⟩ (.int .i64 s.pkt.epoch)).setCell ⟨w.heap.size + 1 + 1, 2, none⟩ (.int .i64 s.pkt.seq)).setCell ⟨w.heap.size + 1 + 1, 3, none⟩ (.int .i64 s.pkt.count)).setCell ⟨w.heap.size + 1 + 1, 4, none⟩ (.bool s.pkt.last)).setCell ⟨w.heap.size + 1 + 1, 5, none⟩ (.slice a2 s.pkt.data.length c2)).setCell ⟨w.heap.size + 1 + 1, 6, none⟩ (.int .i64 s.at_)) = W at *
  clear c06 c10 c20 f10 f20 c11 c21 f11 f21 c12 c22 f12 f22 c13 c23 f13 f23 c14 c24 f14 f24 c15 c25 f15 f25 c16 c26 f16 f26
  have k1 := HKR.out
  have k2 := HKO.out
  have c10 := cell_of_row W _ 0 _ _ _ k1
  have f10 := frozen_of_row W _ 0 _ _ k1
  have c20 := cell_of_row W _ 0 _ _ _ k2
  have c11 := cell_of_row W _ 1 _ _ _ k1
  have f11 := frozen_of_row W _ 1 _ _ k1
  have c21 := cell_of_row W _ 1 _ _ _ k2
  have c12 := cell_of_row W _ 2 _ _ _ k1
  have f12 := frozen_of_row W _ 2 _ _ k1
  have c22 := cell_of_row W _ 2 _ _ _ k2
  have c13 := cell_of_row W _ 3 _ _ _ k1
  have f13 := frozen_of_row W _ 3 _ _ k1
  have c23 := cell_of_row W _ 3 _ _ _ k2
  have c14 := cell_of_row W _ 4 _ _ _ k1
  have f14 := frozen_of_row W _ 4 _ _ k1
  have c24 := cell_of_row W _ 4 _ _ _ k2
  have c15 := cell_of_row W _ 5 _ _ _ k1
  have f15 := frozen_of_row W _ 5 _ _ k1
  have c25 := cell_of_row W _ 5 _ _ _ k2
  have c16 := cell_of_row W _ 6 _ _ _ k1
  have f16 := frozen_of_row W _ 6 _ _ k1
  have c26 := cell_of_row W _ 6 _ _ _ k2
  simp only [List.getElem?_toArray, List.getElem?_cons_zero, List.getElem?_cons_succ] at c10 c20 c11 c21 c12 c22 c13 c23 c14 c24 c15 c25 c16 c26
  clear k1 k2
  go_wp2
  refine bodyPost_ret (results_cell_row rfl _ _ (w.heap.size + 1) 137 #[.int .i64 s.pkt.kind, .int .i64 s.pkt.epoch, .int .i64 s.pkt.seq, .int .i64 s.pkt.count, .bool s.pkt.last, .slice a2 s.pkt.data.length c2, .int .i64 s.at_] (0, 0) _ rfl (set7 HKR.out) Tryz.underlying137 rfl (by kernel_rfl)) rfl ?_
  refine ⟨_, bs, rfl, cSnt_own (OwnSl.kept HOW.out (fun b hb => set7o (by have := HBS.out b hb; omega))) HIN.out HAT.out, fun b hb => by have := HBS.out b hb; omega, HND.out, set7b HBW.out (by omega)⟩
end Go.Proofs.YtfaehioeepolhaaGreat
