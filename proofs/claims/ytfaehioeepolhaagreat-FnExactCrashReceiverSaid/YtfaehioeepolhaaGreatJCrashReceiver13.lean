import Derived.Test.YtfaehioeepolhaaGreatJCrashReceiver7
import Derived.Test.YtfaehioeepolhaaGreatJCrashReceiver11
import Derived.Test.YtfaehioeepolhaaGreatJCrashReceiver12
namespace Go.Proofs.YtfaehioeepolhaaGreat
open Go.RowKit
structure PStr where
  opened : Bool
  fields : List PF
  next : Int
  dicts : List (List (List Nat))
def fN (f : PF) : Nat := f.name.length
def tStr (s : PStr) : Nat := totL fN s.fields + totL tS s.dicts
structure RdStr (w : World) (s : PStr) (a : Option Addr) (c : Nat) (b : Option Addr) (d : Nat) : Prop where
  f : RdSl cField w s.fields (.slice a s.fields.length c)
  t : RdSl cSSS w s.dicts (.slice b s.dicts.length d)
theorem RdStr.later {w w' : World} {s : PStr} {a b : Option Addr} {c d : Nat} (h : RdStr w s a c b d) (hb : Below w.heap.size w w') : RdStr w' s a c b d := ⟨h.f.later hb, h.t.later hb⟩
set_option maxHeartbeats 1000000 in
theorem szStream_any (s : PStr) (a b : Option Addr) (c d : Nat) (l : Int) (w : World) (hr : RdStr w s a c b d) (h0 : 0 ≤ l) (h1 : l ≤ 1048576) :
    Calls Tryz.prog 36 #[.agg #[.bool s.opened, .slice a s.fields.length c, .int .i64 s.next, .slice b s.dicts.length d], .int .i64 l] w fun e w' => e = .returned (.int .i64 (rest l (tStr s))) ∧ Below w.heap.size w w' := by
  have HR := hid hr
  have HT : Hid (rest l (tStr s) = rest l (totL fN s.fields + totL tS s.dicts)) := hid rfl
  clear hr
  generalize rest l (tStr s) = R at *
  go_enter Tryz.func36, Tryz.ntmps36
  go_wp2_with fail
  refine (szFieldS_any a c s.fields l _ (HR.out.f.later (below_new1 _ _)) h0 h1).mono ?_
  rintro e w2 ⟨rfl, b2⟩
  rw [show totL (fun f : PF => f.name.length) s.fields = totL fN s.fields from rfl]
  have k1 := heap1 _ (by simpa using b2)
  have p3 := cell_of_row w2 _ 3 _ _ _ k1
  simp only [List.getElem?_toArray, List.getElem?_cons_zero, List.getElem?_cons_succ] at p3
  have HB2 : Hid (Below w.heap.size w w2) := hid (below_chain (below_new1 _ _) b2)
  clear k1 b2
  by_cases hneg : rest l (totL fN s.fields) < 0
  · have HN : Hid (rest l (totL fN s.fields) = -1) := hid (rest_neg1 hneg)
    have HR2 : Hid (R = -1) := hid (by rw [HT.out, rest_neg hneg])
    generalize rest l (totL fN s.fields) = r at *
    go_wp2
    go_ret
    exact ⟨by rw [HR2.out]; rfl, HB2.out⟩
  · have HR2 : Hid (R = rest (rest l (totL fN s.fields)) (totL tS s.dicts)) := hid (by rw [HT.out, rest_two (by omega)])
    have hup := rest_le (n := totL fN s.fields) h1
    generalize rest l (totL fN s.fields) = r at *
    go_wp2_with fail
    refine (szSSS_any b d s.dicts r w2 (HR.out.t.later HB2.out) (by omega) hup).mono ?_
    rintro e w3 ⟨rfl, rfl⟩
    rw [← HR2.out]
    by_cases hn2 : R < 0
    · have HN : Hid (R = -1) := hid (by rw [HR2.out] at hn2 ⊢; exact rest_neg1 hn2)
      clear HT
      go_wp2
      go_ret
      exact ⟨by rw [HN.out]; rfl, HB2.out⟩
    · clear HT
      go_wp2
      go_ret
      exact ⟨rfl, HB2.out⟩
set_option maxHeartbeats 2000000 in
theorem eqStream_any (s : PStr) (a b a' b' : Option Addr) (c d c' d' : Nat) (w : World) (h1 : RdStr w s a c b d) (h2 : RdStr w s a' c' b' d') (ht : tStr s ≤ 1048576) :
    Calls Tryz.prog 50 #[.agg #[.bool s.opened, .slice a s.fields.length c, .int .i64 s.next, .slice b s.dicts.length d], .agg #[.bool s.opened, .slice a' s.fields.length c', .int .i64 s.next, .slice b' s.dicts.length d']] w fun e w' => e = .returned (.bool true) ∧ Below w.heap.size w w' := by
  have H1 := hid h1
  have H2 := hid h2
  have ht1 : totL fN s.fields ≤ 1048576 ∧ totL tS s.dicts ≤ 1048576 := by unfold tStr at ht; omega
  have hbx : (s.opened != s.opened) = false := by simp
  have hnx : (s.next != s.next) = false := by simp
  clear h1 h2
  go_enter Tryz.func50, Tryz.ntmps50
  go_wp2_with fail
  refine (eqFieldS_any a a' c c' s.fields _ (H1.out.f.later (below_new2 _ _ _)) (H2.out.f.later (below_new2 _ _ _)) ht1.1).mono ?_
  rintro e w2 ⟨rfl, b2⟩
  rw [size2] at b2
  obtain ⟨k0, k1⟩ := heap2 _ _ b2
  have p2 := cell_of_row w2 _ 2 _ _ _ k0
  have p3 := cell_of_row w2 _ 3 _ _ _ k0
  have q2 := cell_of_row w2 _ 2 _ _ _ k1
  have q3 := cell_of_row w2 _ 3 _ _ _ k1
  simp only [List.getElem?_toArray, List.getElem?_cons_zero, List.getElem?_cons_succ] at p2 p3 q2 q3
  have HB : Hid (Below w.heap.size w w2) := hid ((below_new2 w _ _).trans (b2.mono (by omega)))
  clear k0 k1 b2
  go_wp2_with fail
  refine (eqSSS_any b b' d d' s.dicts w2 (H1.out.t.later HB.out) (H2.out.t.later HB.out) ht1.2).mono ?_
  rintro e w3 ⟨rfl, b3⟩
  have HB3 := hid (below_chain HB.out b3)
  clear b3
  go_wp2
  go_ret
  exact ⟨rfl, HB3.out⟩
structure OwnStr (w : World) (s : PStr) (a : Option Addr) (c : Nat) (b : Option Addr) (d : Nat) (bs ds : List Nat) : Prop where
  f : OwnSl cField 98 w s.fields (.slice a s.fields.length c) bs
  t : OwnSl cSSS 123 w s.dicts (.slice b s.dicts.length d) ds
theorem OwnStr.rd {w : World} {s : PStr} {a b : Option Addr} {c d : Nat} {bs ds : List Nat} (h : OwnStr w s a c b d bs ds) : RdStr w s a c b d := ⟨h.f.rd, h.t.rd⟩
set_option maxHeartbeats 2000000 in
theorem toStream_any (s : PStr) (a b : Option Addr) (c d : Nat) (w : World) (hr : RdStr w s a c b d) (ht : tStr s ≤ 1048576) :
    Calls Tryz.prog 42 #[.agg #[.bool s.opened, .slice a s.fields.length c, .int .i64 s.next, .slice b s.dicts.length d]] w fun e w' => ∃ a' c' b' d' bs ds, e = .returned (.agg #[.bool s.opened, .slice a' s.fields.length c', .int .i64 s.next, .slice b' s.dicts.length d']) ∧ OwnStr w' s a' c' b' d' bs ds ∧ (∀ x ∈ bs ++ ds, w.heap.size ≤ x) ∧ (bs ++ ds).Nodup ∧ Below w.heap.size w w' := by
  have HR := hid hr
  have ht1 : totL fN s.fields ≤ 1048576 ∧ totL tS s.dicts ≤ 1048576 := by unfold tStr at ht; omega
  clear hr
  go_enter Tryz.func42, Tryz.ntmps42
  go_wp2_with fail
  refine (toFieldS_any a c s.fields _ (HR.out.f.later (below_new3 _ _ _ _)) ht1.1).mono ?_
  rintro e w2 ⟨v2, bs, rfl, o2, l2, n2, b2⟩
  obtain ⟨a2, c2, rfl, -⟩ := id o2.rd
  rw [size3] at b2 l2
  obtain ⟨k0, k1, k2⟩ := heap3 _ _ _ b2
  have c02 := cell_of_row w2 _ 2 _ _ _ k0
  have c03 := cell_of_row w2 _ 3 _ _ _ k0
  have c21 := cell_of_row w2 _ 1 _ _ _ k2
  have c22 := cell_of_row w2 _ 2 _ _ _ k2
  have f21 := frozen_of_row w2 _ 1 _ _ k2
  have f22 := frozen_of_row w2 _ 2 _ _ k2
  simp only [List.getElem?_toArray, List.getElem?_cons_zero, List.getElem?_cons_succ] at c02 c03 c21 c22
  have hx0 : w.heap.size ≠ w.heap.size + 1 + 1 := by omega
  have hx1 : w.heap.size + 1 ≠ w.heap.size + 1 + 1 := by omega
  have hb2s : w.heap.size + 3 ≤ w2.heap.size := by have h := b2.size; rw [size3] at h; exact h
  have K2 : Hid (((w2.setCell ⟨w.heap.size + 1 + 1, 1, none⟩ (.slice a2 s.fields.length c2)).setCell ⟨w.heap.size + 1 + 1, 2, none⟩ (.int .i64 s.next)).heap[w.heap.size + 1 + 1]? = some (.cells #[.bool s.opened, .slice a2 s.fields.length c2, .int .i64 s.next, .slice none 0 0] 40 (0, 0))) := hid (by
    have h1 := heap_setCell_same _ _ 1 _ _ (.slice a2 s.fields.length c2) k2
    have h2 := heap_setCell_same _ _ 2 _ _ (.int .i64 s.next) h1
    exact h2)
  have hoth : ∀ j, j ≠ w.heap.size + 1 + 1 → ((w2.setCell ⟨w.heap.size + 1 + 1, 1, none⟩ (.slice a2 s.fields.length c2)).setCell ⟨w.heap.size + 1 + 1, 2, none⟩ (.int .i64 s.next)).heap[j]? = w2.heap[j]? := fun j hj => by
    rw [Below.heap_setCell _ _ _ _ hj, Below.heap_setCell _ _ _ _ hj]
  have K0 := hid ((hoth _ hx0).trans k0)
  have K1 := hid ((hoth _ hx1).trans k1)
  have HB2 : Hid (Below w.heap.size w ((w2.setCell ⟨w.heap.size + 1 + 1, 1, none⟩ (.slice a2 s.fields.length c2)).setCell ⟨w.heap.size + 1 + 1, 2, none⟩ (.int .i64 s.next))) := hid ((((below_new3 w _ _ _).trans (b2.mono (by omega))).setCell (p := ⟨w.heap.size + 1 + 1, 1, none⟩) (by simp only []; omega) _).setCell (p := ⟨w.heap.size + 1 + 1, 2, none⟩) (by simp only []; omega) _)
  have HO2 : Hid (OwnSl cField 98 ((w2.setCell ⟨w.heap.size + 1 + 1, 1, none⟩ (.slice a2 s.fields.length c2)).setCell ⟨w.heap.size + 1 + 1, 2, none⟩ (.int .i64 s.next)) s.fields (.slice a2 s.fields.length c2) bs) := hid (o2.kept (fun x hx => hoth x (by have := l2 x hx; omega)))
  have HL2 := hid l2
  have HN2 := hid n2
  have hLT := o2.lt
  have hsz : ((w2.setCell ⟨w.heap.size + 1 + 1, 1, none⟩ (.slice a2 s.fields.length c2)).setCell ⟨w.heap.size + 1 + 1, 2, none⟩ (.int .i64 s.next)).heap.size = w2.heap.size := by simp
  have HLT : Hid (∀ x ∈ bs, x < ((w2.setCell ⟨w.heap.size + 1 + 1, 1, none⟩ (.slice a2 s.fields.length c2)).setCell ⟨w.heap.size + 1 + 1, 2, none⟩ (.int .i64 s.next)).heap.size) := hid (by rw [hsz]; exact hLT)
  clear k0 k1 k2 b2 o2 l2 n2 hoth hLT
  have hW3 : w.heap.size + 3 ≤ ((w2.setCell ⟨w.heap.size + 1 + 1, 1, none⟩ (.slice a2 s.fields.length c2)).setCell ⟨w.heap.size + 1 + 1, 2, none⟩ (.int .i64 s.next)).heap.size := by rw [hsz]; exact hb2s
  clear hsz
  go_wp2_with fail
  generalize ((w2.setCell ⟨w.heap.size + 1 + 1, 1, none⟩ (.slice a2 s.fields.length c2)).setCell ⟨w.heap.size + 1 + 1, 2, none⟩ (.int .i64 s.next)) = W at *
  clear c02 c03 c21 c22 f21 f22
  refine (toSSS_any b d s.dicts W (HR.out.t.later HB2.out) ht1.2).mono ?_
  rintro e w4 ⟨v4, ds, rfl, o4, l4, n4, b4⟩
  obtain ⟨a4, c4, rfl, -⟩ := id o4.rd
  have k0 := (b4.block _ (by omega)).trans K0.out
  have k1 := (b4.block _ (by omega)).trans K1.out
  have k2 := (b4.block _ (by omega)).trans K2.out
  have c20 := cell_of_row w4 _ 0 _ _ _ k2
  have c21 := cell_of_row w4 _ 1 _ _ _ k2
  have c22 := cell_of_row w4 _ 2 _ _ _ k2
  have c23 := cell_of_row w4 _ 3 _ _ _ k2
  have f23 := frozen_of_row w4 _ 3 _ _ k2
  have c10 := cell_of_row w4 _ 0 _ _ _ k1
  have c11 := cell_of_row w4 _ 1 _ _ _ k1
  have c12 := cell_of_row w4 _ 2 _ _ _ k1
  have c13 := cell_of_row w4 _ 3 _ _ _ k1
  have f10 := frozen_of_row w4 _ 0 _ _ k1
  have f11 := frozen_of_row w4 _ 1 _ _ k1
  have f12 := frozen_of_row w4 _ 2 _ _ k1
  have f13 := frozen_of_row w4 _ 3 _ _ k1
  simp only [List.getElem?_toArray, List.getElem?_cons_zero, List.getElem?_cons_succ] at c20 c21 c22 c23 c10 c11 c12 c13
  have H1 := hid k1
  have HB4 := hid (below_chain HB2.out b4)
  have HO4 := hid o4
  have HL4 := hid l4
  have HN4 := hid n4
  have HO5 : Hid (OwnSl cField 98 w4 s.fields (.slice a2 s.fields.length c2) bs) := hid (HO2.out.kept (fun x hx => b4.block x (HLT.out x hx)))
  have hs4 := b4.size
  clear k0 k1 k2 b4 o4 l4 n4 K0 K1 K2 HO2
  go_wp2
  refine bodyPost_ret (results_cell_row rfl _ _ (w.heap.size + 1) 40 #[.bool s.opened, .slice a2 s.fields.length c2, .int .i64 s.next, .slice a4 s.dicts.length c4] (0, 0) _ rfl (set4 ((Below.heap_setCell _ ⟨w.heap.size + 1 + 1, 3, none⟩ _ _ hx1).trans H1.out)) Tryz.underlying40 rfl (by kernel_rfl)) rfl ?_
  have hk : ∀ x, w.heap.size + 3 ≤ x → ((((((w4.setCell ⟨w.heap.size + 1 + 1, 3, none⟩ (.slice a4 s.dicts.length c4)).setCell ⟨w.heap.size + 1, 0, none⟩ (.bool s.opened)).setCell ⟨w.heap.size + 1, 1, none⟩ (.slice a2 s.fields.length c2)).setCell ⟨w.heap.size + 1, 2, none⟩ (.int .i64 s.next)).setCell ⟨w.heap.size + 1, 3, none⟩ (.slice a4 s.dicts.length c4)).heap[x]?) = w4.heap[x]? := fun x hx => (set4o (by omega)).trans (Below.heap_setCell _ ⟨w.heap.size + 1 + 1, 3, none⟩ _ _ (by simp only []; omega))
  refine ⟨a2, c2, a4, c4, bs, ds, rfl, ⟨HO5.out.kept (fun x hx => hk x (HL2.out x hx)), HO4.out.kept (fun x hx => hk x (by have := HL4.out x hx; omega))⟩, ?_, ?_, set4b (HB4.out.setCell (p := ⟨w.heap.size + 1 + 1, 3, none⟩) (by simp only []; omega) _) (by omega)⟩
  · intro x hx
    rcases List.mem_append.1 hx with h | h
    · have := HL2.out x h; omega
    · have := HL4.out x h; omega
  · exact List.nodup_append.2 ⟨HN2.out, HN4.out, fun x hx y hy e => by have := HLT.out x hx; have := HL4.out y hy; omega⟩
end Go.Proofs.YtfaehioeepolhaaGreat
