import Derived.Test.YtfaehioeepolhaaGreatJCrashReceiver16
import Derived.Test.YtfaehioeepolhaaGreatJCrashReceiver11
import Derived.Test.YtfaehioeepolhaaGreatJCrashReceiver6
import Derived.Test.YtfaehioeepolhaaGreatJCrashReceiver15
namespace Go.Proofs.YtfaehioeepolhaaGreat
open Go.RowKit
structure PI where
  epoch : Int
  expect : Int
  held : List PP
  part : List Nat
def tIn (s : PI) : Nat := totL pN s.held + s.part.length
structure RdIn (w : World) (s : PI) (a : Option Addr) (c : Nat) (b : Option Addr) (d : Nat) : Prop where
  f : RdSl cPkt w s.held (.slice a s.held.length c)
  t : RdSl cByte w s.part (.slice b s.part.length d)
theorem RdIn.later {w w' : World} {s : PI} {a b : Option Addr} {c d : Nat} (h : RdIn w s a c b d) (hb : Below w.heap.size w w') : RdIn w' s a c b d := ⟨h.f.later hb, h.t.later hb⟩
structure OwnIn (w : World) (s : PI) (a : Option Addr) (c : Nat) (b : Option Addr) (d : Nat) (bs ds : List Nat) : Prop where
  f : OwnSl cPkt 120 w s.held (.slice a s.held.length c) bs
  t : OwnSl cByte 5 w s.part (.slice b s.part.length d) ds
theorem OwnIn.rd {w : World} {s : PI} {a b : Option Addr} {c d : Nat} {bs ds : List Nat} (h : OwnIn w s a c b d bs ds) : RdIn w s a c b d := ⟨h.f.rd, h.t.rd⟩
theorem rdBytes_max {w : World} {xs : List Nat} {a : Option Addr} {n c : Nat} (h : RdSl cByte w xs (.slice a n c)) : xs.length ≤ maxLen := by
  obtain ⟨a', cap', e', g1, g2, _⟩ := h
  omega
theorem rdBytes_rd {w : World} {xs : List Nat} {a : Option Addr} {n c : Nat} (h : RdSl cByte w xs (.slice a n c)) : Rd w a (byt xs) := by
  obtain ⟨a', cap', e', g1, g2, g3, g4, g5⟩ := h.bytes
  simp only [Value.slice.injEq] at e'
  obtain ⟨rfl, -, -⟩ := e'
  exact g4
set_option maxHeartbeats 2000000 in
theorem szLinkIn_any (s : PI) (a b : Option Addr) (c d : Nat) (l : Int) (w : World) (hr : RdIn w s a c b d) (h0 : 0 ≤ l) (h1 : l ≤ 1048576) :
    Calls Tryz.prog 35 #[.agg #[.int .i64 s.epoch, .int .i64 s.expect, .slice a s.held.length c, .slice b s.part.length d], .int .i64 l] w fun e w' => e = .returned (.int .i64 (rest l (tIn s))) ∧ Below w.heap.size w w' := by
  have HR := hid hr
  have HT : Hid (rest l (tIn s) = rest l (totL pN s.held + s.part.length)) := hid rfl
  have hpm := rdBytes_max hr.t
  clear hr
  generalize rest l (tIn s) = R at *
  go_enter Tryz.func35, Tryz.ntmps35
  go_wp2_with fail
  refine (szPacketS_any a c s.held l _ (HR.out.f.later (below_new1 _ _)) h0 h1).mono ?_
  rintro e w2 ⟨rfl, b2⟩
  have k1 := heap1 _ (by simpa using b2)
  have p3 := cell_of_row w2 _ 3 _ _ _ k1
  simp only [List.getElem?_toArray, List.getElem?_cons_zero, List.getElem?_cons_succ] at p3
  have HB2 : Hid (Below w.heap.size w w2) := hid (below_chain (below_new1 _ _) b2)
  clear k1 b2
  by_cases hneg : rest l (totL pN s.held) < 0
  · have HN : Hid (rest l (totL pN s.held) = -1) := hid (rest_neg1 hneg)
    have HR2 : Hid (R = -1) := hid (by rw [HT.out, rest_neg hneg])
    generalize rest l (totL pN s.held) = r at *
    go_wp2
    go_ret
    exact ⟨by rw [HR2.out]; rfl, HB2.out⟩
  · have HR2 : Hid (R = rest (rest l (totL pN s.held)) s.part.length) := hid (by rw [HT.out, rest_two (by omega)])
    have hup := rest_le (n := totL pN s.held) h1
    generalize rest l (totL pN s.held) = r at *
    go_wp2_with fail
    refine (szBytes_any b s.part.length d r w2 hpm (by omega) hup).mono ?_
    rintro e w3 ⟨rfl, rfl⟩
    rw [← HR2.out]
    by_cases hn2 : R < 0
    · have HN : Hid (R = -1) := hid (by rw [HR2.out] at hn2 ⊢; exact rest_neg1 hn2)
      clear HT
      go_wp2
      go_ret
      exact ⟨by rw [HN.out]; rfl, HB2.out⟩
    · clear HT
      go_wp2
      go_ret
      exact ⟨rfl, HB2.out⟩
set_option maxHeartbeats 2000000 in
theorem eqLinkIn_any (s : PI) (a b a' b' : Option Addr) (c d c' d' : Nat) (w : World) (h1 : RdIn w s a c b d) (h2 : RdIn w s a' c' b' d') (ht : tIn s ≤ 1048576) :
    Calls Tryz.prog 49 #[.agg #[.int .i64 s.epoch, .int .i64 s.expect, .slice a s.held.length c, .slice b s.part.length d], .agg #[.int .i64 s.epoch, .int .i64 s.expect, .slice a' s.held.length c', .slice b' s.part.length d']] w fun e w' => e = .returned (.bool true) ∧ Below w.heap.size w w' := by
  have H1 := hid h1
  have H2 := hid h2
  have ht1 : totL pN s.held ≤ 1048576 ∧ s.part.length ≤ 1048576 := by unfold tIn at ht; omega
  have hbx : (s.epoch != s.epoch) = false := by simp
  have hnx : (s.expect != s.expect) = false := by simp
  clear h1 h2
  go_enter Tryz.func49, Tryz.ntmps49
  go_wp2_with fail
  refine (eqPacketS_any a a' c c' s.held _ (H1.out.f.later (below_new2 _ _ _)) (H2.out.f.later (below_new2 _ _ _)) ht1.1).mono ?_
  rintro e w2 ⟨rfl, b2⟩
  rw [size2] at b2
  obtain ⟨k0, k1⟩ := heap2 _ _ b2
  have p3 := cell_of_row w2 _ 3 _ _ _ k0
  have q3 := cell_of_row w2 _ 3 _ _ _ k1
  simp only [List.getElem?_toArray, List.getElem?_cons_zero, List.getElem?_cons_succ] at p3 q3
  have HB : Hid (Below w.heap.size w w2) := hid ((below_new2 w _ _).trans (b2.mono (by omega)))
  clear k0 k1 b2
  go_wp2_with fail
  refine (eqByteS_any b b' d d' s.part.length s.part w2 (rdBytes_rd (H1.out.t.later HB.out)) (rdBytes_rd (H2.out.t.later HB.out)) rfl (by omega)).mono ?_
  rintro e w3 ⟨rfl, b3⟩
  have HB3 := hid (below_chain HB.out b3)
  clear b3
  go_wp2
  go_ret
  exact ⟨rfl, HB3.out⟩
set_option maxRecDepth 100000 in
set_option maxHeartbeats 2000000 in
theorem toLinkIn_any (s : PI) (a b : Option Addr) (c d : Nat) (w : World) (hr : RdIn w s a c b d) (ht : tIn s ≤ 1048576) :
    Calls Tryz.prog 41 #[.agg #[.int .i64 s.epoch, .int .i64 s.expect, .slice a s.held.length c, .slice b s.part.length d]] w fun e w' => ∃ a' c' b' d' bs ds, e = .returned (.agg #[.int .i64 s.epoch, .int .i64 s.expect, .slice a' s.held.length c', .slice b' s.part.length d']) ∧ OwnIn w' s a' c' b' d' bs ds ∧ (∀ x ∈ bs ++ ds, w.heap.size ≤ x) ∧ (bs ++ ds).Nodup ∧ Below w.heap.size w w' := by
  have HR := hid hr
  have ht1 : totL pN s.held ≤ 1048576 ∧ s.part.length ≤ 1048576 := by unfold tIn at ht; omega
  have HBY : Hid (∀ x ∈ s.part, x < 256) := hid (by obtain ⟨_, _, _, _, _, _, _, h⟩ := hr.t.bytes; exact h)
  clear hr
  go_enter Tryz.func41, Tryz.ntmps41
  go_wp2_with fail
  refine (toPacketS_any a c s.held _ (HR.out.f.later (below_new3 _ _ _ _)) ht1.1).mono ?_
  rintro e w2 ⟨v2, bs, rfl, o2, l2, n2, b2⟩
  obtain ⟨a2, c2, rfl, -⟩ := id o2.rd
  rw [size3] at b2 l2
  obtain ⟨k0, k1, k2⟩ := heap3 _ _ _ b2
  have c03 := cell_of_row w2 _ 3 _ _ _ k0
  have c22 := cell_of_row w2 _ 2 _ _ _ k2
  have f22 := frozen_of_row w2 _ 2 _ _ k2
  simp only [List.getElem?_toArray, List.getElem?_cons_zero, List.getElem?_cons_succ] at c03 c22
  have hx0 : w.heap.size ≠ w.heap.size + 1 + 1 := by omega
  have hx1 : w.heap.size + 1 ≠ w.heap.size + 1 + 1 := by omega
  have hb2s : w.heap.size + 3 ≤ w2.heap.size := by have h := b2.size; rw [size3] at h; exact h
  have K2 : Hid ((w2.setCell ⟨w.heap.size + 1 + 1, 2, none⟩ (.slice a2 s.held.length c2)).heap[w.heap.size + 1 + 1]? = some (.cells #[.int .i64 s.epoch, .int .i64 s.expect, .slice a2 s.held.length c2, .slice none 0 0] 37 (0, 0))) := hid (heap_setCell_same _ _ 2 _ _ (.slice a2 s.held.length c2) k2)
  have hoth : ∀ j, j ≠ w.heap.size + 1 + 1 → (w2.setCell ⟨w.heap.size + 1 + 1, 2, none⟩ (.slice a2 s.held.length c2)).heap[j]? = w2.heap[j]? := fun j hj => by
    rw [Below.heap_setCell _ _ _ _ hj]
  have K0 := hid ((hoth _ hx0).trans k0)
  have K1 := hid ((hoth _ hx1).trans k1)
  have HB2 : Hid (Below w.heap.size w (w2.setCell ⟨w.heap.size + 1 + 1, 2, none⟩ (.slice a2 s.held.length c2))) := hid (((below_new3 w _ _ _).trans (b2.mono (by omega))).setCell (p := ⟨w.heap.size + 1 + 1, 2, none⟩) (by simp only []; omega) _)
  have HO2 : Hid (OwnSl cPkt 120 (w2.setCell ⟨w.heap.size + 1 + 1, 2, none⟩ (.slice a2 s.held.length c2)) s.held (.slice a2 s.held.length c2) bs) := hid (o2.kept (fun x hx => hoth x (by have := l2 x hx; omega)))
  have HL2 := hid l2
  have HN2 := hid n2
  have hLT := o2.lt
  have hsz : (w2.setCell ⟨w.heap.size + 1 + 1, 2, none⟩ (.slice a2 s.held.length c2)).heap.size = w2.heap.size := by simp
  have HLT : Hid (∀ x ∈ bs, x < (w2.setCell ⟨w.heap.size + 1 + 1, 2, none⟩ (.slice a2 s.held.length c2)).heap.size) := hid (by rw [hsz]; exact hLT)
  clear k0 k1 k2 b2 o2 l2 n2 hoth hLT
  have hW3 : w.heap.size + 3 ≤ (w2.setCell ⟨w.heap.size + 1 + 1, 2, none⟩ (.slice a2 s.held.length c2)).heap.size := by rw [hsz]; exact hb2s
  clear hsz
  go_wp2_with fail
  generalize (w2.setCell ⟨w.heap.size + 1 + 1, 2, none⟩ (.slice a2 s.held.length c2)) = W at *
  clear c03 c22 f22
  refine (toByteS_any b d s.part W (rdBytes_rd (HR.out.t.later HB2.out)) (by omega)).mono ?_
  rintro e w4 ⟨g4, rfl, r4, b4⟩
  generalize (some ⟨g4, 0, none⟩ : Option Addr) = a4 at *
  have o4 := ownSl_bytes r4 HBY.out
  have l4 : ∀ x ∈ (Value.slice a4 s.part.length s.part.length).ownBlock.toList, W.heap.size ≤ x := fun x hx => by
    have := own_in (g := x) r4 (by simpa using hx)
    exact this.1
  have n4 : (Value.slice a4 s.part.length s.part.length).ownBlock.toList.Nodup := by cases (Value.slice a4 s.part.length s.part.length).ownBlock <;> simp
  generalize (Value.slice a4 s.part.length s.part.length).ownBlock.toList = ds at *
  clear r4
  have k0 := (b4.block _ (by omega)).trans K0.out
  have k1 := (b4.block _ (by omega)).trans K1.out
  have k2 := (b4.block _ (by omega)).trans K2.out
  have c20 := cell_of_row w4 _ 0 _ _ _ k2
  have c21 := cell_of_row w4 _ 1 _ _ _ k2
  have c22 := cell_of_row w4 _ 2 _ _ _ k2
  have c23 := cell_of_row w4 _ 3 _ _ _ k2
  have f23 := frozen_of_row w4 _ 3 _ _ k2
  have c10 := cell_of_row w4 _ 0 _ _ _ k1
  have c11 := cell_of_row w4 _ 1 _ _ _ k1
  have c12 := cell_of_row w4 _ 2 _ _ _ k1
  have c13 := cell_of_row w4 _ 3 _ _ _ k1
  have f10 := frozen_of_row w4 _ 0 _ _ k1
  have f11 := frozen_of_row w4 _ 1 _ _ k1
  have f12 := frozen_of_row w4 _ 2 _ _ k1
  have f13 := frozen_of_row w4 _ 3 _ _ k1
  simp only [List.getElem?_toArray, List.getElem?_cons_zero, List.getElem?_cons_succ] at c20 c21 c22 c23 c10 c11 c12 c13
  have H1 := hid k1
  have HB4 := hid (below_chain HB2.out b4)
  have HO4 := hid o4
  have HL4 := hid l4
  have HN4 := hid n4
  have HO5 : Hid (OwnSl cPkt 120 w4 s.held (.slice a2 s.held.length c2) bs) := hid (HO2.out.kept (fun x hx => b4.block x (HLT.out x hx)))
  have hs4 := b4.size
  clear k0 k1 k2 b4 o4 l4 n4 K0 K1 K2 HO2
  go_wp2
  refine bodyPost_ret (results_cell_row rfl _ _ (w.heap.size + 1) 37 #[.int .i64 s.epoch, .int .i64 s.expect, .slice a2 s.held.length c2, .slice a4 s.part.length s.part.length] (0, 0) _ rfl (set4 ((Below.heap_setCell _ ⟨w.heap.size + 1 + 1, 3, none⟩ _ _ hx1).trans H1.out)) Tryz.underlying37 rfl (by kernel_rfl)) rfl ?_
  have hk : ∀ x, w.heap.size + 3 ≤ x → ((((((w4.setCell ⟨w.heap.size + 1 + 1, 3, none⟩ (.slice a4 s.part.length s.part.length)).setCell ⟨w.heap.size + 1, 0, none⟩ (.int .i64 s.epoch)).setCell ⟨w.heap.size + 1, 1, none⟩ (.int .i64 s.expect)).setCell ⟨w.heap.size + 1, 2, none⟩ (.slice a2 s.held.length c2)).setCell ⟨w.heap.size + 1, 3, none⟩ (.slice a4 s.part.length s.part.length)).heap[x]?) = w4.heap[x]? := fun x hx => (set4o (by omega)).trans (Below.heap_setCell _ ⟨w.heap.size + 1 + 1, 3, none⟩ _ _ (by simp only []; omega))
  refine ⟨a2, c2, a4, s.part.length, bs, ds, rfl, ⟨HO5.out.kept (fun x hx => hk x (HL2.out x hx)), HO4.out.kept (fun x hx => hk x (by have := HL4.out x hx; omega))⟩, ?_, ?_, set4b (HB4.out.setCell (p := ⟨w.heap.size + 1 + 1, 3, none⟩) (by simp only []; omega) _) (by omega)⟩
  · intro x hx
    rcases List.mem_append.1 hx with h | h
    · have := HL2.out x h; omega
    · have := HL4.out x h; omega
  · exact List.nodup_append.2 ⟨HN2.out, HN4.out, fun x hx y hy e => by have := HLT.out x hx; have := HL4.out y hy; omega⟩
end Go.Proofs.YtfaehioeepolhaaGreat
namespace Go.Proofs.YtfaehioeepolhaaGreat
open Go.ChangeShapes Go.WideShapes Go.ChangeAt Go.RowKit
theorem opens_PktS {H : Type} (enc : TypeId × Value → H) (W : World) : Opens enc Tryz.prog W 22 (cSl cPkt 120) :=
  opens_slice Tryz.underlying22 (by kernel_rfl) (by decide) (opens_Pkt enc W) _
def cIn : Cod PI := cMap (cPair cInt (cPair cInt (cPair (cSl cPkt 120) (cSl cByte 5)))) fun s => (s.epoch, s.expect, s.held, s.part)
theorem opens_In {H : Type} (enc : TypeId × Value → H) (W : World) : Opens enc Tryz.prog W 25 cIn :=
  opens_struct4 Tryz.underlying25 rfl rfl rfl rfl rfl (by kernel_rfl) (by kernel_rfl) (by kernel_rfl) (by kernel_rfl) (by kernel_rfl) (opens_int Tryz.underlying3) (opens_int Tryz.underlying3) (opens_PktS enc W) (opens_slice Tryz.underlying23 (by kernel_rfl) (by decide) (opens_byte Tryz.underlying5) 5) (fun x y z u => ⟨x, y, z, u⟩) (fun _ _ _ _ => rfl)
end Go.Proofs.YtfaehioeepolhaaGreat
