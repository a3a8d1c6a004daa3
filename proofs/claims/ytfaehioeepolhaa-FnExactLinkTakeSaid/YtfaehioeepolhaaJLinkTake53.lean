import Derived.Test.YtfaehioeepolhaaJLinkTake16
import Derived.Test.YtfaehioeepolhaaJLinkTake12
import Derived.Test.YtfaehioeepolhaaJLinkTake22
import Derived.Test.YtfaehioeepolhaaJLinkTake23
import Derived.Test.YtfaehioeepolhaaJLinkTake32
import Derived.Test.YtfaehioeepolhaaJLinkTake39
import Derived.Test.YtfaehioeepolhaaJLinkTake44
import Derived.Test.YtfaehioeepolhaaJLinkTake51
import Derived.Test.YtfaehioeepolhaaJLinkTake1
import Derived.Test.YtfaehioeepolhaaJLinkTake52
import Derived.Test.YtfaehioeepolhaaJLinkTake19
import Derived.Deep.RegionHeld3
namespace Go.Proofs.Ytfaehioeepolhaa
open Go.RowKit
abbrev BoxP (w' : World) (g : Nat) (p : PP) (a : Option Addr) (c : Nat) : Prop :=
  w'.cell? ⟨g, 0, none⟩ = some (.int .i64 p.kind) ∧ w'.cell? ⟨g, 1, none⟩ = some (.int .i64 p.epoch) ∧ w'.cell? ⟨g, 2, none⟩ = some (.int .i64 p.seq) ∧ w'.cell? ⟨g, 3, none⟩ = some (.int .i64 p.count) ∧ w'.cell? ⟨g, 4, none⟩ = some (.bool p.last) ∧ w'.cell? ⟨g, 5, none⟩ = some (.slice a p.data.length c)
theorem boxP_of {w : World} {g : Nat} {e : TypeId} {p : PP} {a : Option Addr} {c : Nat} (hh : w.heap[g]? = some (.cells #[.int .i64 p.kind, .int .i64 p.epoch, .int .i64 p.seq, .int .i64 p.count, .bool p.last, .slice a p.data.length c] e (0, 0))) : BoxP w g p a c := by
  have p0 := cell_of_row _ _ 0 _ _ _ hh
  have p1 := cell_of_row _ _ 1 _ _ _ hh
  have p2 := cell_of_row _ _ 2 _ _ _ hh
  have p3 := cell_of_row _ _ 3 _ _ _ hh
  have p4 := cell_of_row _ _ 4 _ _ _ hh
  have p5 := cell_of_row _ _ 5 _ _ _ hh
  simp only [List.getElem?_toArray, List.getElem?_cons_zero, List.getElem?_cons_succ] at p0 p1 p2 p3 p4 p5
  exact ⟨p0, p1, p2, p3, p4, p5⟩
theorem boxP_later {wa wb : World} {g : Nat} {p : PP} {a : Option Addr} {c : Nat} (h : BoxP wa g p a c) (k : Below wa.heap.size wa wb) : BoxP wb g p a c :=
  ⟨(k.cell (World.block_lt_of_cell? _ _ h.1)).trans h.1, (k.cell (World.block_lt_of_cell? _ _ h.2.1)).trans h.2.1, (k.cell (World.block_lt_of_cell? _ _ h.2.2.1)).trans h.2.2.1, (k.cell (World.block_lt_of_cell? _ _ h.2.2.2.1)).trans h.2.2.2.1, (k.cell (World.block_lt_of_cell? _ _ h.2.2.2.2.1)).trans h.2.2.2.2.1, (k.cell (World.block_lt_of_cell? _ _ h.2.2.2.2.2)).trans h.2.2.2.2.2⟩
theorem boxI_of {w : World} {g : Nat} {e : TypeId} {s : PI} {a b : Option Addr} {c d : Nat} (hh : w.heap[g]? = some (.cells #[.int .i64 s.epoch, .int .i64 s.expect, .slice a s.held.length c, .slice b s.part.length d] e (0, 0))) : BoxI w g s a c b d := by
  have p0 := cell_of_row _ _ 0 _ _ _ hh
  have p1 := cell_of_row _ _ 1 _ _ _ hh
  have p2 := cell_of_row _ _ 2 _ _ _ hh
  have p3 := cell_of_row _ _ 3 _ _ _ hh
  simp only [List.getElem?_toArray, List.getElem?_cons_zero, List.getElem?_cons_succ] at p0 p1 p2 p3
  exact ⟨p0, p1, p2, p3⟩
theorem boxK {w w' : World} {g : Nat} {o : Obj} (h : w.heap[g]? = some o) (hb : Below w.heap.size w w') : w'.heap[g]? = some o := (hb.block g (Array.getElem?_eq_some_iff.1 h).1).trans h
theorem ownIn_later {w w' : World} {s : PI} {a b : Option Addr} {c d : Nat} {bs ds : List Nat} (h : OwnIn w s a c b d bs ds) (hb : Below w.heap.size w w') : OwnIn w' s a c b d bs ds := ⟨h.f.kept (fun x hx => hb.block x (h.f.lt x hx)), h.t.kept (fun x hx => hb.block x (h.t.lt x hx))⟩
theorem ownIn_only {w w' : World} {s : PI} {a b : Option Addr} {c d : Nat} {bs ds us : List Nat} (h : OwnIn w s a c b d bs ds) (ho : Only us w w') (hn : ∀ x ∈ bs ++ ds, x ∉ us) : OwnIn w' s a c b d bs ds := ⟨h.f.kept (fun x hx => ho.block x (h.f.lt x hx) (hn x (List.mem_append_left _ hx))), h.t.kept (fun x hx => ho.block x (h.t.lt x hx) (hn x (List.mem_append_right _ hx)))⟩
set_option maxRecDepth 100000 in
set_option maxHeartbeats 16000000 in
theorem linkTake_walk (v v2 : Value) (w : World) (h : LinkInIn w v) (h2 : PacketIn w v2) :
    Calls Try.prog 3 #[v, v2] w fun e w' => e = .returned (.bool true) ∧ Below w.heap.size w w' := by
  obtain ⟨s, a, b, c, d, rfl, hr, -⟩ := h
  obtain ⟨p, ap, cp, rfl, hrp, hpin⟩ := h2
  have HR := hid hr
  have HP := hid hrp
  have HPIN := hid hpin
  clear hr hrp hpin
  have hb0 := below_new2 w (.cells #[.int .i64 s.epoch, .int .i64 s.expect, .slice a s.held.length c, .slice b s.part.length d] 25) (.cells #[.int .i64 p.kind, .int .i64 p.epoch, .int .i64 p.seq, .int .i64 p.count, .bool p.last, .slice ap p.data.length cp] 27)
  have HX0 : Hid (((w.alloc (.cells #[.int .i64 s.epoch, .int .i64 s.expect, .slice a s.held.length c, .slice b s.part.length d] 25)).alloc (.cells #[.int .i64 p.kind, .int .i64 p.epoch, .int .i64 p.seq, .int .i64 p.count, .bool p.last, .slice ap p.data.length cp] 27)).heap[w.heap.size]? = some (.cells #[.int .i64 s.epoch, .int .i64 s.expect, .slice a s.held.length c, .slice b s.part.length d] 25 (0, 0))) := hid (heap2 _ _ (Below.refl _ _)).1
  have HY0 : Hid (((w.alloc (.cells #[.int .i64 s.epoch, .int .i64 s.expect, .slice a s.held.length c, .slice b s.part.length d] 25)).alloc (.cells #[.int .i64 p.kind, .int .i64 p.epoch, .int .i64 p.seq, .int .i64 p.count, .bool p.last, .slice ap p.data.length cp] 27)).heap[w.heap.size + 1]? = some (.cells #[.int .i64 p.kind, .int .i64 p.epoch, .int .i64 p.seq, .int .i64 p.count, .bool p.last, .slice ap p.data.length cp] 27 (0, 0))) := hid (heap2 _ _ (Below.refl _ _)).2
  go_enter Try.func3, Try.ntmps3
  go_wp2_with fail
  generalize ((w.alloc (.cells #[.int .i64 s.epoch, .int .i64 s.expect, .slice a s.held.length c, .slice b s.part.length d] 25)).alloc (.cells #[.int .i64 p.kind, .int .i64 p.epoch, .int .i64 p.seq, .int .i64 p.count, .bool p.last, .slice ap p.data.length cp] 27)) = w0 at *
  refine (szLinkIn_any s a b c d 1048576 w0 (HR.out.later hb0) (by omega) (by omega)).mono ?_
  rintro e w1 ⟨rfl, b1⟩
  have B1 := below_chain hb0 b1
  have HX1 := hid (boxK HX0.out b1)
  have HY1 := hid (boxK HY0.out b1)
  by_cases hneg : rest 1048576 (tIn s) < 0
  · generalize rest 1048576 (tIn s) = r at *
    go_wp2
    go_ret
    exact ⟨rfl, B1⟩
  have ht : tIn s ≤ 1048576 := by have := rest_fits (l := 1048576) (n := tIn s) (by omega); omega
  have hrl := rest_le (l := 1048576) (n := tIn s) (by omega)
  generalize rest 1048576 (tIn s) = r at *
  have hr0 : 0 ≤ r := by omega
  have hrn : decide (r < 0) = false := decide_eq_false (by omega)
  have p0 := cell_of_row _ _ 0 _ _ _ HY1.out
  have p1 := cell_of_row _ _ 1 _ _ _ HY1.out
  have p2 := cell_of_row _ _ 2 _ _ _ HY1.out
  have p3 := cell_of_row _ _ 3 _ _ _ HY1.out
  have p4 := cell_of_row _ _ 4 _ _ _ HY1.out
  have p5 := cell_of_row _ _ 5 _ _ _ HY1.out
  simp only [List.getElem?_toArray, List.getElem?_cons_zero, List.getElem?_cons_succ] at p0 p1 p2 p3 p4 p5
  go_wp2_with fail
  refine (szPacket_any p ap cp r w1 (HP.out.later B1) HPIN.out hr0 hrl).mono ?_
  rintro e w2 ⟨rfl, b2⟩
  clear p0 p1 p2 p3 p4 p5
  have B2 := below_chain B1 b2
  have HX2 := hid (boxK HX1.out b2)
  have HY2 := hid (boxK HY1.out b2)
  by_cases hneg2 : rest r p.data.length < 0
  · generalize rest r p.data.length = r2 at *
    go_wp2
    go_ret
    exact ⟨rfl, B2⟩
  have hpl : p.data.length ≤ 1048576 := by have := rest_fits (l := r) (n := p.data.length) (by omega); omega
  generalize rest r p.data.length = r2 at *
  have hrn2 : decide (r2 < 0) = false := decide_eq_false (by omega)
  obtain ⟨R, hR⟩ : ∃ R : PI, R = takeI s p := ⟨_, rfl⟩
  obtain ⟨G, hG⟩ : ∃ G : List (List Nat), G = takeG s p := ⟨_, rfl⟩
  obtain ⟨C, hC⟩ : ∃ C : Int, C = takeC s p := ⟨_, rfl⟩
  have HSP := hid (fun W a b c d aq cq h1 h2 => specTake_any s a b c d p aq cq W h1 h2 HPIN.out ht hpl)
  have HIM := hid (fun W a b c d aq cq h1 h2 => implTake_any s a b c d p aq cq W h1 h2 HPIN.out ht)
  rw [← hR, ← hC, ← hG] at HSP HIM
  have htt := take_tot (s := s) (p := p) ht
  rw [← hR, ← hG] at htt
  have HRT := hid htt.1
  have hGl : G.length ≤ 1048576 := by have := htt.2.1; omega
  have hGs : tot G ≤ 100000 := htt.2.2
  have HGT : Hid (totL List.length G ≤ 1048576) := hid (by rw [totL_tot]; have := htt.2.1; omega)
  clear hR hC hG htt
  have hCC : (C != C) = false := by simp
  go_upto_region 8 with fail
  refine region_turns3 (n := 13) (by kernel_rfl) (by kernel_rfl) ?_ (fun t => { tmps := #[.agg #[.int .i64 s.epoch, .int .i64 s.expect, .slice a s.held.length c, .slice b s.part.length d], .agg #[.int .i64 p.kind, .int .i64 p.epoch, .int .i64 p.seq, .int .i64 p.count, .bool p.last, .slice ap p.data.length cp], .pointer (some ⟨w.heap.size, 0, none⟩), .pointer (some ⟨w.heap.size + 1, 0, none⟩), .bool false, .int .i64 r2, t 9, t 11, t 12, undef, undef, undef, undef, undef, undef, undef, undef, undef, undef, undef, .agg #[.int .i64 s.epoch, .int .i64 s.expect, .slice a s.held.length c, .slice b s.part.length d], .int .i64 1048576, .int .i64 r, .int .i64 r, .bool false, .agg #[.int .i64 p.kind, .int .i64 p.epoch, .int .i64 p.seq, .int .i64 p.count, .bool p.last, .slice ap p.data.length cp], .int .i64 r, .int .i64 r2, .int .i64 r2, .bool false, t 5, t 0, t 1, t 2, t 3, t 4, t 6, t 7, t 8, undef, undef, undef, undef, undef, undef, undef, undef, undef, undef, undef, undef, undef, undef, undef, undef, undef, undef, undef, undef, undef, undef, undef, undef, undef, undef, undef, undef, undef, undef, undef, undef, undef, undef, undef, undef, undef, undef, undef, undef, undef, undef, undef, undef, undef, undef, undef, undef, undef, undef, undef, undef, undef, undef, undef, undef, undef, undef, undef, undef, undef, undef, undef, undef, undef, undef, undef, undef, undef, undef, undef, undef, undef, undef, undef, undef, undef, undef, undef, undef, undef, undef, undef, undef, undef, undef, undef, undef, undef, undef, undef, undef, undef, undef, undef, undef, undef, undef, undef, undef, undef, undef, undef, undef], defers := [] }) (ltT (.agg #[.int .i64 s.epoch, .int .i64 s.expect, .slice a s.held.length c, .slice b s.part.length d]) (.agg #[.int .i64 p.kind, .int .i64 p.epoch, .int .i64 p.seq, .int .i64 p.count, .bool p.last, .slice ap p.data.length cp]) C) [10] (fcSameL w2) (ltH w2.heap.size s p R G C) w2 w2 (fun k => []) (fun _ => true) (fun _ _ _ => True) [10] (fun _ _ => false) (by kernel_rfl) (fun _ _ _ _ h => by cases h) (fun i hi hn => absurd hi hn) (fun j hj => by rcases (by omega : j = 0 ∨ j = 1 ∨ j = 2 ∨ j = 3 ∨ j = 4 ∨ j = 5 ∨ j = 6 ∨ j = 7 ∨ j = 8 ∨ j = 9 ∨ j = 10 ∨ j = 11 ∨ j = 12) with rfl | rfl | rfl | rfl | rfl | rfl | rfl | rfl | rfl | rfl | rfl | rfl | rfl <;> rfl) (fun j hj hp => by rcases (by omega : j = 0 ∨ j = 1 ∨ j = 2 ∨ j = 3 ∨ j = 4 ∨ j = 5 ∨ j = 6 ∨ j = 7 ∨ j = 8 ∨ j = 9 ∨ j = 10 ∨ j = 11 ∨ j = 12) with rfl | rfl | rfl | rfl | rfl | rfl | rfl | rfl | rfl | rfl | rfl | rfl | rfl <;> first | rfl | (exact absurd hp (by decide))) (fun j => ([undef, undef, undef, undef, undef, undef, undef, undef, undef, undef, undef, undef, undef] : List Value).getD j undef) (ltH_start _ s p R G C _ _) (Below.refl _ w2) (Below.refl _ _) ?_ ?_
  · rfl
  · intro i hi x t wx hxi hsh h0 hbx hgx hdp hall hHx
    rcases (by omega : i = 0 ∨ i = 1 ∨ i = 2 ∨ i = 3 ∨ i = 4 ∨ i = 5 ∨ i = 6 ∨ i = 7 ∨ i = 8 ∨ i = 9 ∨ i = 10 ∨ i = 11 ∨ i = 12) with rfl | rfl | rfl | rfl | rfl | rfl | rfl | rfl | rfl | rfl | rfl | rfl | rfl
    · 
      try dsimp only
      have y10 := notYet hsh hxi 10 (by kernel_rfl)
      have hz : Below w2.heap.size w2 wx := hgx (by simp [y10])
      have hxx := boxK HX2.out hz
      have g0 := cell_of_row _ _ 0 _ _ _ hxx
      have g1 := cell_of_row _ _ 1 _ _ _ hxx
      have g2 := cell_of_row _ _ 2 _ _ _ hxx
      have g3 := cell_of_row _ _ 3 _ _ _ hxx
      simp only [List.getElem?_toArray, List.getElem?_cons_zero, List.getElem?_cons_succ] at g0 g1 g2 g3
      clear y10 hz hxx
      clear h0
      refine wpOp_step rfl (fun K' hK => ?_)
      go_simp
      exact hK _ _ ⟨.agg #[.int .i64 s.epoch, .int .i64 s.expect, .slice a s.held.length c, .slice b s.part.length d], (by simp [upd]), FX.eq_mk rfl, fun _ => Below.refl _ _, fun h => absurd h (by decide), hbx, hHx.plain (Below.refl _ _) 0 (by omega) _⟩
    · 
      try dsimp only
      have x0 := depX hdp 0 (by kernel_rfl)
      have d0 := hall 0 (by omega) x0
      have e0 : t 0 = .agg #[.int .i64 s.epoch, .int .i64 s.expect, .slice a s.held.length c, .slice b s.part.length d] := d0.1
      rw [e0]
      clear h0
      refine wpOp_step rfl (fun K' hK => ?_)
      go_simp
      refine (toLinkIn_any s a b c d wx (HR.out.later (below_chain B2 hbx)) ht).mono ?_
      rintro e w2 ⟨a4, c4, b4, d4, bs4, ds4, rfl, o4, -, -, bl⟩
      exact hK _ _ ⟨_, (by simp [upd, e0]), FX.is_mk trivial, fun _ => bl, fun h => absurd h (by decide), below_chain hbx bl, hHx.op1 bl o4.rd⟩
    · 
      try dsimp only
      have y10 := notYet hsh hxi 10 (by kernel_rfl)
      have hz : Below w2.heap.size w2 wx := hgx (by simp [y10])
      have hxx := boxK HY2.out hz
      have g0 := cell_of_row _ _ 0 _ _ _ hxx
      have g1 := cell_of_row _ _ 1 _ _ _ hxx
      have g2 := cell_of_row _ _ 2 _ _ _ hxx
      have g3 := cell_of_row _ _ 3 _ _ _ hxx
      have g4 := cell_of_row _ _ 4 _ _ _ hxx
      have g5 := cell_of_row _ _ 5 _ _ _ hxx
      simp only [List.getElem?_toArray, List.getElem?_cons_zero, List.getElem?_cons_succ] at g0 g1 g2 g3 g4 g5
      clear y10 hz hxx
      clear h0
      refine wpOp_step rfl (fun K' hK => ?_)
      go_simp
      exact hK _ _ ⟨.agg #[.int .i64 p.kind, .int .i64 p.epoch, .int .i64 p.seq, .int .i64 p.count, .bool p.last, .slice ap p.data.length cp], (by simp [upd]), FX.eq_mk rfl, fun _ => Below.refl _ _, fun h => absurd h (by decide), hbx, hHx.plain (Below.refl _ _) 2 (by omega) _⟩
    · 
      try dsimp only
      have x2 := depX hdp 2 (by kernel_rfl)
      have d2 := hall 2 (by omega) x2
      have e2 : t 2 = .agg #[.int .i64 p.kind, .int .i64 p.epoch, .int .i64 p.seq, .int .i64 p.count, .bool p.last, .slice ap p.data.length cp] := d2.1
      rw [e2]
      clear h0
      refine wpOp_step rfl (fun K' hK => ?_)
      go_simp
      refine (toPacket_any p ap cp wx (HP.out.later (below_chain B2 hbx)) HPIN.out hpl).mono ?_
      rintro e w2 ⟨a4, c4, bs4, rfl, o4, -, -, bl⟩
      exact hK _ _ ⟨_, (by simp [upd, e2]), FX.is_mk trivial, fun _ => bl, fun h => absurd h (by decide), below_chain hbx bl, hHx.op3 bl o4.rd⟩
    · 
      try dsimp only
      have x1 := depX hdp 1 (by kernel_rfl)
      have d1 := hall 1 (by omega) x1
      have x3 := depX hdp 3 (by kernel_rfl)
      have d3 := hall 3 (by omega) x3
      have y5 := notYet hsh hxi 5 (by kernel_rfl)
      have y6 := notYet hsh hxi 6 (by kernel_rfl)
      have y7 := notYet hsh hxi 7 (by kernel_rfl)
      have y10 := notYet hsh hxi 10 (by kernel_rfl)
      have y11 := notYet hsh hxi 11 (by kernel_rfl)
      obtain ⟨a1, c1, b1, k1, e1, r1⟩ := hHx.1 x1 y10
      obtain ⟨a3, c3, e3, r3⟩ := hHx.2.1 x3 y10
      rw [e1, e3]
      clear h0
      refine wpOp_step rfl (fun K' hK => ?_)
      go_simp
      refine (HSP.out wx a1 b1 c1 k1 a3 c3 r1 r3).mono ?_
      rintro e w2 hpost
      obtain ⟨a4, c4, b4, d4, u4, rfl, rob, bl⟩ := hpost
      exact hK _ _ ⟨_, (by simp [upd, e1, e3]), FX.is_mk trivial, fun _ => bl, fun h => absurd h (by decide), below_chain hbx bl, hHx.op4 bl y5 y6 y7 y10 y11 rob⟩
    · 
      try dsimp only
      have x4 := depX hdp 4 (by kernel_rfl)
      have d4 := hall 4 (by omega) x4
      obtain ⟨m1, m2, a4, c4, b4, k4, u4, e4, -⟩ := hHx.2.2.2 x4
      have e4' := e4
      rw [e4]
      clear h0
      refine wpOp_step rfl (fun K' hK => ?_)
      go_simp
      exact hK _ _ ⟨tupV R C a4 c4 b4 k4 u4, (by simp [upd, e4]), FX.is_mk trivial, fun _ => Below.refl _ _, fun h => absurd h (by decide), hbx, hHx.op5 (Below.refl _ _) x4 _ e4'.symm⟩
    · 
      try dsimp only
      have x5 := depX hdp 5 (by kernel_rfl)
      have d5 := hall 5 (by omega) x5
      have x4 := reach_up hsh (i := 4) 12 5 (by kernel_rfl) x5
      obtain ⟨m1, m2, a4, c4, b4, k4, u4, e4, e5, -⟩ := hHx.2.2.2 x4
      have e5 := e5 x5
      rw [e5]
      clear h0
      refine wpOp_step rfl (fun K' hK => ?_)
      go_simp
      exact hK _ _ ⟨inV R a4 c4 b4 k4, (by simp [upd, e5, e4]), FX.is_mk trivial, fun _ => Below.refl _ _, fun h => absurd h (by decide), hbx, hHx.op6 (Below.refl _ _) x4 _ (by rw [e4]; rfl)⟩
    · 
      try dsimp only
      have x5 := depX hdp 5 (by kernel_rfl)
      have d5 := hall 5 (by omega) x5
      have x4 := reach_up hsh (i := 4) 12 5 (by kernel_rfl) x5
      obtain ⟨m1, m2, a4, c4, b4, k4, u4, e4, e5, -⟩ := hHx.2.2.2 x4
      have e5 := e5 x5
      rw [e5]
      clear h0
      refine wpOp_step rfl (fun K' hK => ?_)
      go_simp
      exact hK _ _ ⟨u4, (by simp [upd, e5, e4]), FX.is_mk trivial, fun _ => Below.refl _ _, fun h => absurd h (by decide), hbx, hHx.op7 (Below.refl _ _) x4 _ (by rw [e4]; rfl)⟩
    · 
      try dsimp only
      have x5 := depX hdp 5 (by kernel_rfl)
      have d5 := hall 5 (by omega) x5
      have x4 := reach_up hsh (i := 4) 12 5 (by kernel_rfl) x5
      obtain ⟨m1, m2, a4, c4, b4, k4, u4, e4, e5, -⟩ := hHx.2.2.2 x4
      have e5 := e5 x5
      rw [e5]
      clear h0
      refine wpOp_step rfl (fun K' hK => ?_)
      go_simp
      exact hK _ _ ⟨.int .i64 C, (by simp [upd, e5, e4]), FX.eq_mk rfl, fun _ => Below.refl _ _, fun h => absurd h (by decide), hbx, hHx.plain (Below.refl _ _) 8 (by omega) _⟩
    · 
      try dsimp only
      have y10 := notYet hsh hxi 10 (by kernel_rfl)
      clear h0
      refine wpOp_step rfl (fun K' hK => ?_)
      go_simp
      exact hK _ _ ⟨.pointer (some ⟨wx.heap.size, 0, none⟩), (by simp [upd]), FX.is_mk trivial, fun _ => below_new1 _ _, fun h => absurd h (by decide), below_chain hbx (below_new1 _ _), hHx.op9 hbx.size y10⟩
    · 
      try dsimp only
      have x9 := depX hdp 9 (by kernel_rfl)
      have d9 := hall 9 (by omega) x9
      have x6 := depX hdp 6 (by kernel_rfl)
      have d6 := hall 6 (by omega) x6
      have x4 := depX hdp 4 (by kernel_rfl)
      have d4 := hall 4 (by omega) x4
      obtain ⟨g, a4, c4, b4, k4, e9, e6, lg, hbz, hfin⟩ := hHx.at10 x4 x6 x9 hxi
      rw [e9, e6]
      have hbz2 : wx.heap[g]? = some (.cells #[.int .i64 0, .int .i64 0, .slice none 0 0, .slice none 0 0] 32 (0, 0)) := hbz
      have k0 := cell_of_row _ _ 0 _ _ _ hbz2
      have z0 := frozen_of_row _ _ 0 _ _ hbz2
      have k1 := cell_of_row _ _ 1 _ _ _ hbz2
      have z1 := frozen_of_row _ _ 1 _ _ hbz2
      have k2 := cell_of_row _ _ 2 _ _ _ hbz2
      have z2 := frozen_of_row _ _ 2 _ _ hbz2
      have k3 := cell_of_row _ _ 3 _ _ _ hbz2
      have z3 := frozen_of_row _ _ 3 _ _ hbz2
      simp only [List.getElem?_toArray, List.getElem?_cons_zero, List.getElem?_cons_succ] at k0 k1 k2 k3
      have HBZ := hid hbz
      have HFIN := hid hfin
      clear hbz hbz2 hfin hHx
      clear h0
      refine wpOp_step rfl (fun K' hK => ?_)
      go_simp
      exact hK _ _ ⟨undef, (by simp [upd, e9, e6]), FX.is_mk trivial, fun h => absurd (by decide) h, fun _ => trivial, set4b hbx lg, HFIN.out undef HBZ.out⟩
    · 
      try dsimp only
      have x7 := depX hdp 7 (by kernel_rfl)
      have d7 := hall 7 (by omega) x7
      have x4 := reach_up hsh (i := 4) 12 7 (by kernel_rfl) x7
      clear h0
      refine wpOp_step rfl (fun K' hK => ?_)
      go_simp
      exact hK _ _ ⟨t 7, (by simp [upd]), FX.is_mk trivial, fun _ => Below.refl _ _, fun h => absurd h (by decide), hbx, hHx.op11 (Below.refl _ _) x4 x7 _ rfl⟩
    · 
      try dsimp only
      have x8 := depX hdp 8 (by kernel_rfl)
      have d8 := hall 8 (by omega) x8
      have e8 : t 8 = .int .i64 C := d8.1
      rw [e8]
      clear h0
      refine wpOp_step rfl (fun K' hK => ?_)
      go_simp
      exact hK _ _ ⟨.int .i64 C, (by simp [upd, e8]), FX.eq_mk rfl, fun _ => Below.refl _ _, fun h => absurd h (by decide), hbx, hHx.plain (Below.refl _ _) 12 (by omega) _⟩
  · intro x t wx hx hbx hall hHx
    obtain ⟨gS, aS, cS, bS, dS, eg, lg, hbox, hrd, hru⟩ := hHx.done (hx 4 (by omega)) (hx 9 (by omega)) (hx 10 (by omega)) (hx 11 (by omega))
    have e12 : t 12 = .int .i64 C := (hall 12 (by omega)).1
    try dsimp only
    rw [eg, e12]
    generalize t 11 = v11 at *
    generalize t 0 = zS0
    generalize t 1 = zS1
    generalize t 2 = zS2
    generalize t 3 = zS3
    generalize t 4 = zS4
    generalize t 5 = zS5
    generalize t 6 = zS6
    generalize t 7 = zS7
    generalize t 8 = zS8
    obtain ⟨aUS, cUS, eU, -⟩ := id hru
    subst eU
    have HKS := hid hbox
    have HRS := hid hrd
    have HUS := hid hru
    have HLGS := hid lg
    have HBS := hid hbx
    obtain ⟨WS, hW⟩ : ∃ V, V = wx := ⟨_, rfl⟩
    subst hW
    clear hall hbx hx hHx eg e12 lg hbox hrd hru
    have B4 := below_chain B2 HBS.out
    have HX4 := hid (boxK HX2.out HBS.out)
    have HY4 := hid (boxK HY2.out HBS.out)
    have hs24 := HBS.out.size
    have hw01 := (Array.getElem?_eq_some_iff.1 HY2.out).1
    have p0 := cell_of_row _ _ 0 _ _ _ HX4.out
    have p1 := cell_of_row _ _ 1 _ _ _ HX4.out
    have p2 := cell_of_row _ _ 2 _ _ _ HX4.out
    have p3 := cell_of_row _ _ 3 _ _ _ HX4.out
    simp only [List.getElem?_toArray, List.getElem?_cons_zero, List.getElem?_cons_succ] at p0 p1 p2 p3
    go_wp2_with fail
    refine (toLinkIn_any s a b c d WS (HR.out.later B4) ht).mono ?_
    rintro e w5 ⟨aX, cX, bX, dX, bsX, dsX, rfl, oX, lX, nX, bl5⟩
    clear p0 p1 p2 p3
    have b5 := below_new1 w5 (.cells #[.int .i64 s.epoch, .int .i64 s.expect, .slice aX s.held.length cX, .slice bX s.part.length dX] 32)
    have HKX : Hid ((w5.alloc (.cells #[.int .i64 s.epoch, .int .i64 s.expect, .slice aX s.held.length cX, .slice bX s.part.length dX] 32)).heap[w5.heap.size]? = some (.cells #[.int .i64 s.epoch, .int .i64 s.expect, .slice aX s.held.length cX, .slice bX s.part.length dX] 32 (0, 0))) := hid (heap_alloc_new w5 _)
    have hXin : ∀ x ∈ bsX ++ dsX, WS.heap.size ≤ x ∧ x < w5.heap.size := fun x hx => ⟨lX x hx, by
      rcases List.mem_append.1 hx with h | h
      · exact oX.f.lt x h
      · exact oX.t.lt x h⟩
    have hs56 : w5.heap.size < (w5.alloc (.cells #[.int .i64 s.epoch, .int .i64 s.expect, .slice aX s.held.length cX, .slice bX s.part.length dX] 32)).heap.size := by simp
    have hs45 := bl5.size
    have F46 := below_chain bl5 b5
    have B6 := below_chain B4 F46
    have OX6 := hid (ownIn_later oX b5)
    have HX6 := hid (boxK HX4.out F46)
    have HY6 := hid (boxK HY4.out F46)
    clear oX b5
    have q0 := cell_of_row _ _ 0 _ _ _ HY6.out
    have q1 := cell_of_row _ _ 1 _ _ _ HY6.out
    have q2 := cell_of_row _ _ 2 _ _ _ HY6.out
    have q3 := cell_of_row _ _ 3 _ _ _ HY6.out
    have q4 := cell_of_row _ _ 4 _ _ _ HY6.out
    have q5 := cell_of_row _ _ 5 _ _ _ HY6.out
    simp only [List.getElem?_toArray, List.getElem?_cons_zero, List.getElem?_cons_succ] at q0 q1 q2 q3 q4 q5
    go_wp2_with fail
    generalize (w5.alloc (.cells #[.int .i64 s.epoch, .int .i64 s.expect, .slice aX s.held.length cX, .slice bX s.part.length dX] 32)) = w6 at *
    refine (toPacket_any p ap cp w6 (HP.out.later B6) HPIN.out hpl).mono ?_
    rintro e w7 ⟨aQ, cQ, bsQ, rfl, oQ, lQ, nQ, bl7⟩
    clear q0 q1 q2 q3 q4 q5
    have b7 := below_new1 w7 (.cells #[.int .i64 p.kind, .int .i64 p.epoch, .int .i64 p.seq, .int .i64 p.count, .bool p.last, .slice aQ p.data.length cQ] 37)
    have HKQ : Hid ((w7.alloc (.cells #[.int .i64 p.kind, .int .i64 p.epoch, .int .i64 p.seq, .int .i64 p.count, .bool p.last, .slice aQ p.data.length cQ] 37)).heap[w7.heap.size]? = some (.cells #[.int .i64 p.kind, .int .i64 p.epoch, .int .i64 p.seq, .int .i64 p.count, .bool p.last, .slice aQ p.data.length cQ] 37 (0, 0))) := hid (heap_alloc_new w7 _)
    have hQin : ∀ x ∈ bsQ, w6.heap.size ≤ x ∧ x < w7.heap.size := fun x hx => ⟨lQ x hx, oQ.lt x hx⟩
    have hs78 : w7.heap.size < (w7.alloc (.cells #[.int .i64 p.kind, .int .i64 p.epoch, .int .i64 p.seq, .int .i64 p.count, .bool p.last, .slice aQ p.data.length cQ] 37)).heap.size := by simp
    have hs67 := bl7.size
    have F68 := below_chain bl7 b7
    have B8 := below_chain B6 F68
    have F48 := below_chain F46 F68
    have OX8 := hid (ownIn_later OX6.out F68)
    have OQ8 := hid (oQ.kept (w' := w7.alloc (.cells #[.int .i64 p.kind, .int .i64 p.epoch, .int .i64 p.seq, .int .i64 p.count, .bool p.last, .slice aQ p.data.length cQ] 37)) (fun x hx => b7.block x (oQ.lt x hx)))
    have HX8 := hid (boxK HX6.out F68)
    have HY8 := hid (boxK HY6.out F68)
    have HKX8 := hid (boxK HKX.out F68)
    clear oQ b7 OX6
    have p0 := cell_of_row _ _ 0 _ _ _ HKX8.out
    have p1 := cell_of_row _ _ 1 _ _ _ HKX8.out
    have p2 := cell_of_row _ _ 2 _ _ _ HKX8.out
    have p3 := cell_of_row _ _ 3 _ _ _ HKX8.out
    simp only [List.getElem?_toArray, List.getElem?_cons_zero, List.getElem?_cons_succ] at p0 p1 p2 p3
    have q0 := cell_of_row _ _ 0 _ _ _ HKQ.out
    have q1 := cell_of_row _ _ 1 _ _ _ HKQ.out
    have q2 := cell_of_row _ _ 2 _ _ _ HKQ.out
    have q3 := cell_of_row _ _ 3 _ _ _ HKQ.out
    have q4 := cell_of_row _ _ 4 _ _ _ HKQ.out
    have q5 := cell_of_row _ _ 5 _ _ _ HKQ.out
    simp only [List.getElem?_toArray, List.getElem?_cons_zero, List.getElem?_cons_succ] at q0 q1 q2 q3 q4 q5
    go_wp2_with fail
    generalize (w7.alloc (.cells #[.int .i64 p.kind, .int .i64 p.epoch, .int .i64 p.seq, .int .i64 p.count, .bool p.last, .slice aQ p.data.length cQ] 37)) = w8 at *
    refine (HIM.out w8 aX bX cX dX aQ cQ OX8.out.rd OQ8.out.rd).mono ?_
    rintro e w9 ⟨aG, cG, bG, dG, vG, bsG, dsG, usG, rfl, oG, oU, nG, lG, bl9⟩
    obtain ⟨aV, cV, rfl, -⟩ := id oU.rd
    clear p0 p1 p2 p3 q0 q1 q2 q3 q4 q5
    have b9 := below_new1 w9 (.cells #[.int .i64 R.epoch, .int .i64 R.expect, .slice aG R.held.length cG, .slice bG R.part.length dG] 32)
    have HKG : Hid ((w9.alloc (.cells #[.int .i64 R.epoch, .int .i64 R.expect, .slice aG R.held.length cG, .slice bG R.part.length dG] 32)).heap[w9.heap.size]? = some (.cells #[.int .i64 R.epoch, .int .i64 R.expect, .slice aG R.held.length cG, .slice bG R.part.length dG] 32 (0, 0))) := hid (heap_alloc_new w9 _)
    have hGin : ∀ x ∈ bsG ++ (dsG ++ usG), w8.heap.size ≤ x ∧ x < w9.heap.size := fun x hx => ⟨lG x hx, by
      rcases List.mem_append.1 hx with h | h
      · exact oG.f.lt x h
      · rcases List.mem_append.1 h with h | h
        · exact oG.t.lt x h
        · exact oU.lt x h⟩
    have hs90 : w9.heap.size < (w9.alloc (.cells #[.int .i64 R.epoch, .int .i64 R.expect, .slice aG R.held.length cG, .slice bG R.part.length dG] 32)).heap.size := by simp
    have hs89 := bl9.size
    have F80 := below_chain bl9 b9
    have B10 := below_chain B8 F80
    have F40 := below_chain F48 F80
    have OG10 := hid (ownIn_later oG b9)
    have OU10 := hid (oU.kept (w' := w9.alloc (.cells #[.int .i64 R.epoch, .int .i64 R.expect, .slice aG R.held.length cG, .slice bG R.part.length dG] 32)) (fun x hx => b9.block x (oU.lt x hx)))
    have OX10 := hid (ownIn_later OX8.out F80)
    have OQ10 := hid (OQ8.out.kept (fun x hx => F80.block x (OQ8.out.lt x hx)))
    have HX10 := hid (boxK HX8.out F80)
    have HY10 := hid (boxK HY8.out F80)
    have HKX10 := hid (boxK HKX8.out F80)
    have HKQ10 := hid (boxK HKQ.out F80)
    have HKS10 := hid (boxK HKS.out F40)
    have HRS10 := hid (HRS.out.later F40)
    have HUS10 := hid (HUS.out.later F40)
    clear oG oU b9 OX8 OQ8 HKX8
    have p0 := cell_of_row _ _ 0 _ _ _ HKS10.out
    have p1 := cell_of_row _ _ 1 _ _ _ HKS10.out
    have p2 := cell_of_row _ _ 2 _ _ _ HKS10.out
    have p3 := cell_of_row _ _ 3 _ _ _ HKS10.out
    simp only [List.getElem?_toArray, List.getElem?_cons_zero, List.getElem?_cons_succ] at p0 p1 p2 p3
    have q0 := cell_of_row _ _ 0 _ _ _ HKG.out
    have q1 := cell_of_row _ _ 1 _ _ _ HKG.out
    have q2 := cell_of_row _ _ 2 _ _ _ HKG.out
    have q3 := cell_of_row _ _ 3 _ _ _ HKG.out
    simp only [List.getElem?_toArray, List.getElem?_cons_zero, List.getElem?_cons_succ] at q0 q1 q2 q3
    go_wp2_with fail
    generalize (w9.alloc (.cells #[.int .i64 R.epoch, .int .i64 R.expect, .slice aG R.held.length cG, .slice bG R.part.length dG] 32)) = w10 at *
    refine (eqLinkIn_any R aG bG aS bS cG dG cS dS w10 OG10.out.rd HRS10.out HRT.out).mono ?_
    rintro e w10b ⟨rfl, bl10b⟩
    clear p0 p1 p2 p3 q0 q1 q2 q3
    go_wp2_with fail
    refine (eqSS_any aV aUS cV cUS G w10b (OU10.out.rd.later bl10b) (HUS10.out.later bl10b) HGT.out).mono ?_
    rintro e w11 ⟨rfl, bl11x⟩
    have bl11 := below_chain bl10b bl11x
    have B11 := below_chain B10 bl11
    have F41 := below_chain F40 bl11
    have OG11 := hid (ownIn_later OG10.out bl11)
    have OU11 := hid (OU10.out.kept (fun x hx => bl11.block x (OU10.out.lt x hx)))
    have OX11 := hid (ownIn_later OX10.out bl11)
    have OQ11 := hid (OQ10.out.kept (fun x hx => bl11.block x (OQ10.out.lt x hx)))
    have HX11 := hid (boxK HX10.out bl11)
    have HY11 := hid (boxK HY10.out bl11)
    have HKX11 := hid (boxK HKX10.out bl11)
    have HKQ11 := hid (boxK HKQ10.out bl11)
    have HKG11 := hid (boxK HKG.out bl11)
    have hs01 := bl11.size
    clear OG10 OU10 OX10 OQ10 HX10 HY10 HKX10 HKQ10 HKS10 HRS10 HUS10 bl10b bl11x
    have p0 := cell_of_row _ _ 0 _ _ _ HX11.out
    have p1 := cell_of_row _ _ 1 _ _ _ HX11.out
    have p2 := cell_of_row _ _ 2 _ _ _ HX11.out
    have p3 := cell_of_row _ _ 3 _ _ _ HX11.out
    simp only [List.getElem?_toArray, List.getElem?_cons_zero, List.getElem?_cons_succ] at p0 p1 p2 p3
    have q0 := cell_of_row _ _ 0 _ _ _ HKX11.out
    have q1 := cell_of_row _ _ 1 _ _ _ HKX11.out
    have q2 := cell_of_row _ _ 2 _ _ _ HKX11.out
    have q3 := cell_of_row _ _ 3 _ _ _ HKX11.out
    simp only [List.getElem?_toArray, List.getElem?_cons_zero, List.getElem?_cons_succ] at q0 q1 q2 q3
    have HT7 : Hid (Calls Try.prog 7 #[.agg #[.int .i64 s.epoch, .int .i64 s.expect, .slice a s.held.length c, .slice b s.part.length d]] w11.drew fun e w8 => ∃ a8 c8 b8 d8, e = .returned (.agg #[.int .i64 s.epoch, .int .i64 s.expect, .slice a8 s.held.length c8, .slice b8 s.part.length d8]) ∧ Hid (RdIn w8 s a8 c8 b8 d8) ∧ Hid (Below w11.heap.size w11 w8) ∧ BoxI w8 (w.heap.size) s a c b d ∧ BoxI w8 (w5.heap.size) s aX cX bX dX) := hid (by
        refine (toLinkIn_any s a b c d w11.drew (HR.out.later B11.drew) ht).mono ?_
        rintro e w8 ⟨a8, c8, b8, d8, bs8, ds8, rfl, o8, -, -, bl8⟩
        have bl := (Below.refl _ w11).drew.trans bl8
        exact ⟨a8, c8, b8, d8, rfl, hid o8.rd, hid bl, boxI_later (boxI_of HX11.out) bl, boxI_later (boxI_of HKX11.out) bl⟩)
    have HE7 : Hid (∀ w8 a8 c8 b8 d8, Hid (RdIn w8 s a8 c8 b8 d8) → Hid (Below w11.heap.size w11 w8) → Calls Try.prog 10 #[.agg #[.int .i64 s.epoch, .int .i64 s.expect, .slice aX s.held.length cX, .slice bX s.part.length dX], .agg #[.int .i64 s.epoch, .int .i64 s.expect, .slice a8 s.held.length c8, .slice b8 s.part.length d8]] w8 fun e wx => e = .returned (.bool true) ∧ Hid (Below w11.heap.size w11 wx) ∧ BoxI wx (w.heap.size) s a c b d ∧ BoxI wx (w5.heap.size) s aX cX bX dX) := hid (fun w8 a8 c8 b8 d8 h8 hb => by
        refine (eqLinkIn_any s aX bX a8 b8 cX dX c8 d8 w8 (OX11.out.rd.later hb.out) h8.out ht).mono ?_
        rintro e wx ⟨rfl, bl9⟩
        have bl := below_chain hb.out bl9
        exact ⟨rfl, hid bl, boxI_later (boxI_of HX11.out) bl, boxI_later (boxI_of HKX11.out) bl⟩)
    go_wp2
    (go_region_held3 (fun w' => w'.cell? ⟨w.heap.size, 0, none⟩ = some (.int .i64 s.epoch) ∧ w'.cell? ⟨w.heap.size, 1, none⟩ = some (.int .i64 s.expect) ∧ w'.cell? ⟨w.heap.size, 2, none⟩ = some (.slice a s.held.length c) ∧ w'.cell? ⟨w.heap.size, 3, none⟩ = some (.slice b s.part.length d) ∧ w'.cell? ⟨w5.heap.size, 0, none⟩ = some (.int .i64 s.epoch) ∧ w'.cell? ⟨w5.heap.size, 1, none⟩ = some (.int .i64 s.expect) ∧ w'.cell? ⟨w5.heap.size, 2, none⟩ = some (.slice aX s.held.length cX) ∧ w'.cell? ⟨w5.heap.size, 3, none⟩ = some (.slice bX s.part.length dX)) (go_keep) (first
      | (go_at_call 7; refine HT7.out.mono ?_; rintro e w10 ⟨a7i, c7i, b7i, d7i, rfl, hr8, hb8, ⟨x0, x1, x2, x3⟩, ⟨y0, y1, y2, y3⟩⟩)
      | (go_at_call 10; refine (HE7.out _ a7i c7i b7i d7i hr8 hb8).mono ?_; rintro e w11x ⟨rfl, hb9, ⟨zz0, zz1, zz2, zz3⟩, ⟨uu0, uu1, uu2, uu3⟩⟩)))
    clear p0 p1 p2 p3 q0 q1 q2 q3 zz0 zz1 zz2 zz3 uu0 uu1 uu2 uu3 HT7 HE7
    have F411 := F41
    have b12 := hb9.out
    clear hb9
    have B12 := below_chain B11 b12
    have F412 := below_chain F411 b12
    have hsz12 := b12.size
    have OG12 := hid (ownIn_later OG11.out b12)
    have OU12 := hid (OU11.out.kept (fun x hx => b12.block x (OU11.out.lt x hx)))
    have OX12 := hid (ownIn_later OX11.out b12)
    have OQ12 := hid (OQ11.out.kept (fun x hx => b12.block x (OQ11.out.lt x hx)))
    have HX12 := hid (boxK HX11.out b12)
    have HY12 := hid (boxK HY11.out b12)
    have HKX12 := hid (boxK HKX11.out b12)
    have HKQ12 := hid (boxK HKQ11.out b12)
    have HKG12 := hid (boxK HKG11.out b12)
    clear OG11 OU11 OX11 OQ11 HX11 HY11 HKX11 HKQ11 HKG11
    obtain ⟨w12, hw12⟩ : ∃ V, V = w11x := ⟨_, rfl⟩
    subst hw12
    have p0 := cell_of_row _ _ 0 _ _ _ HY12.out
    have p1 := cell_of_row _ _ 1 _ _ _ HY12.out
    have p2 := cell_of_row _ _ 2 _ _ _ HY12.out
    have p3 := cell_of_row _ _ 3 _ _ _ HY12.out
    have p4 := cell_of_row _ _ 4 _ _ _ HY12.out
    have p5 := cell_of_row _ _ 5 _ _ _ HY12.out
    simp only [List.getElem?_toArray, List.getElem?_cons_zero, List.getElem?_cons_succ] at p0 p1 p2 p3 p4 p5
    have q0 := cell_of_row _ _ 0 _ _ _ HKQ12.out
    have q1 := cell_of_row _ _ 1 _ _ _ HKQ12.out
    have q2 := cell_of_row _ _ 2 _ _ _ HKQ12.out
    have q3 := cell_of_row _ _ 3 _ _ _ HKQ12.out
    have q4 := cell_of_row _ _ 4 _ _ _ HKQ12.out
    have q5 := cell_of_row _ _ 5 _ _ _ HKQ12.out
    simp only [List.getElem?_toArray, List.getElem?_cons_zero, List.getElem?_cons_succ] at q0 q1 q2 q3 q4 q5
    have HT7 : Hid (Calls Try.prog 8 #[.agg #[.int .i64 p.kind, .int .i64 p.epoch, .int .i64 p.seq, .int .i64 p.count, .bool p.last, .slice ap p.data.length cp]] w12.drew fun e w8 => ∃ a8 c8, e = .returned (.agg #[.int .i64 p.kind, .int .i64 p.epoch, .int .i64 p.seq, .int .i64 p.count, .bool p.last, .slice a8 p.data.length c8]) ∧ Hid (RdSl cByte w8 p.data (.slice a8 p.data.length c8)) ∧ Hid (Below w12.heap.size w12 w8) ∧ BoxP w8 (w.heap.size + 1) p ap cp ∧ BoxP w8 (w7.heap.size) p aQ cQ) := hid (by
        refine (toPacket_any p ap cp w12.drew (HP.out.later B12.drew) HPIN.out hpl).mono ?_
        rintro e w8 ⟨a8, c8, bs8, rfl, o8, -, -, bl8⟩
        have bl := (Below.refl _ w12).drew.trans bl8
        exact ⟨a8, c8, rfl, hid o8.rd, hid bl, boxP_later (boxP_of HY12.out) bl, boxP_later (boxP_of HKQ12.out) bl⟩)
    have HE7 : Hid (∀ w8 a8 c8, Hid (RdSl cByte w8 p.data (.slice a8 p.data.length c8)) → Hid (Below w12.heap.size w12 w8) → Calls Try.prog 12 #[.agg #[.int .i64 p.kind, .int .i64 p.epoch, .int .i64 p.seq, .int .i64 p.count, .bool p.last, .slice aQ p.data.length cQ], .agg #[.int .i64 p.kind, .int .i64 p.epoch, .int .i64 p.seq, .int .i64 p.count, .bool p.last, .slice a8 p.data.length c8]] w8 fun e wx => e = .returned (.bool true) ∧ Hid (Below w12.heap.size w12 wx) ∧ BoxP wx (w.heap.size + 1) p ap cp ∧ BoxP wx (w7.heap.size) p aQ cQ) := hid (fun w8 a8 c8 h8 hb => by
        refine (eqPacket_any p aQ a8 cQ c8 w8 (OQ12.out.rd.later hb.out) h8.out HPIN.out hpl).mono ?_
        rintro e wx ⟨rfl, bl9⟩
        have bl := below_chain hb.out bl9
        exact ⟨rfl, hid bl, boxP_later (boxP_of HY12.out) bl, boxP_later (boxP_of HKQ12.out) bl⟩)
    go_wp2
    (go_region_held3 (fun w' => w'.cell? ⟨w.heap.size + 1, 0, none⟩ = some (.int .i64 p.kind) ∧ w'.cell? ⟨w.heap.size + 1, 1, none⟩ = some (.int .i64 p.epoch) ∧ w'.cell? ⟨w.heap.size + 1, 2, none⟩ = some (.int .i64 p.seq) ∧ w'.cell? ⟨w.heap.size + 1, 3, none⟩ = some (.int .i64 p.count) ∧ w'.cell? ⟨w.heap.size + 1, 4, none⟩ = some (.bool p.last) ∧ w'.cell? ⟨w.heap.size + 1, 5, none⟩ = some (.slice ap p.data.length cp) ∧ w'.cell? ⟨w7.heap.size, 0, none⟩ = some (.int .i64 p.kind) ∧ w'.cell? ⟨w7.heap.size, 1, none⟩ = some (.int .i64 p.epoch) ∧ w'.cell? ⟨w7.heap.size, 2, none⟩ = some (.int .i64 p.seq) ∧ w'.cell? ⟨w7.heap.size, 3, none⟩ = some (.int .i64 p.count) ∧ w'.cell? ⟨w7.heap.size, 4, none⟩ = some (.bool p.last) ∧ w'.cell? ⟨w7.heap.size, 5, none⟩ = some (.slice aQ p.data.length cQ)) (go_keep) (first
      | (go_at_call 8; refine HT7.out.mono ?_; rintro e w10 ⟨a8, c8, rfl, hr8, hb8, ⟨x0, x1, x2, x3, x4, x5⟩, ⟨y0, y1, y2, y3, y4, y5⟩⟩)
      | (go_at_call 12; refine (HE7.out _ a8 c8 hr8 hb8).mono ?_; rintro e w12x ⟨rfl, hb9, ⟨zz0, zz1, zz2, zz3, zz4, zz5⟩, ⟨uu0, uu1, uu2, uu3, uu4, uu5⟩⟩)))
    clear p0 p1 p2 p3 p4 p5 q0 q1 q2 q3 q4 q5 zz0 zz1 zz2 zz3 zz4 zz5 uu0 uu1 uu2 uu3 uu4 uu5 HT7 HE7
    have b13 := hb9.out
    clear hb9
    have B13 := below_chain B12 b13
    have F413 := below_chain F412 b13
    have hsz13 := b13.size
    have OG13 := hid (ownIn_later OG12.out b13)
    have OU13 := hid (OU12.out.kept (fun x hx => b13.block x (OU12.out.lt x hx)))
    have OX13 := hid (ownIn_later OX12.out b13)
    have OQ13 := hid (OQ12.out.kept (fun x hx => b13.block x (OQ12.out.lt x hx)))
    have HX13 := hid (boxK HX12.out b13)
    have HY13 := hid (boxK HY12.out b13)
    have HKX13 := hid (boxK HKX12.out b13)
    have HKQ13 := hid (boxK HKQ12.out b13)
    have HKG13 := hid (boxK HKG12.out b13)
    clear OG12 OU12 OX12 OQ12 HX12 HY12 HKX12 HKQ12 HKG12
    obtain ⟨w13, hw13⟩ : ∃ V, V = w12x := ⟨_, rfl⟩
    subst hw13
    have ht1 : totL pN s.held ≤ 1048576 ∧ s.part.length ≤ 1048576 := by unfold tIn at ht; omega
    have htR : totL pN R.held ≤ 1048576 ∧ R.part.length ≤ 1048576 := by have := HRT.out; unfold tIn at this; omega
    obtain ⟨nX1, nX2, nX3⟩ := List.nodup_append.1 nX
    obtain ⟨nG1, nG2, nG3⟩ := List.nodup_append.1 nG
    obtain ⟨nG4, nU, nG5⟩ := List.nodup_append.1 nG2
    have q0 := cell_of_row _ _ 0 _ _ _ HKX13.out
    have q1 := cell_of_row _ _ 1 _ _ _ HKX13.out
    have q2 := cell_of_row _ _ 2 _ _ _ HKX13.out
    have q3 := cell_of_row _ _ 3 _ _ _ HKX13.out
    simp only [List.getElem?_toArray, List.getElem?_cons_zero, List.getElem?_cons_succ] at q0 q1 q2 q3
    go_wp2_with fail
    refine (markLinkIn_any s.epoch s.expect aX bX cX dX s.held s.part bsX dsX 1 w13 OX13.out.f nX1 OX13.out.t (fun y hy h => nX3 y hy y h rfl) ht1.1 ht1.2 (by omega)).mono ?_
    rintro e w14 ⟨rfl, -, -, on14⟩
    clear q0 q1 q2 q3
    have hsx : sumL kT s.held ≤ 8388608 := by have h1 := kT_le s.held; have := ht1.1; unfold totL at this; omega
    generalize sumL kT s.held = sx at *
    obtain ⟨Y, hY⟩ : ∃ Y : Int, Y = ((1 + sx + s.part.length : Nat) : Int) := ⟨_, rfl⟩
    rw [← hY]
    have HY14e := hid hY
    clear hY
    have hNX : ∀ g, g < WS.heap.size ∨ w5.heap.size ≤ g → g ∉ bsX ++ dsX := fun g hg h => by have := hXin g h; omega
    have hwS : w.heap.size + 1 < WS.heap.size := by omega
    have F414 : Below WS.heap.size WS w14 := Only.chain F413 on14 (fun x hx => (hXin x hx).1) (Nat.le_refl _)
    have B14 : Below w.heap.size w w14 := Only.chain B13 on14 (fun x hx => by have := (hXin x hx).1; omega) (Nat.le_refl _)
    have OG14 := hid (ownIn_only OG13.out on14 (fun x hx => hNX x (.inr (by have := hGin x (by rcases List.mem_append.1 hx with h | h; exact List.mem_append_left _ h; exact List.mem_append_right _ (List.mem_append_left _ h)); omega))))
    have OU14 := hid (OU13.out.kept (w' := w14) (fun x hx => on14.block x (OU13.out.lt x hx) (hNX x (.inr (by have := hGin x (List.mem_append_right _ (List.mem_append_right _ hx)); omega)))))
    have OQ14 := hid (OQ13.out.kept (w' := w14) (fun x hx => on14.block x (OQ13.out.lt x hx) (hNX x (.inr (by have := hQin x hx; omega)))))
    have HX14 := hid (box_keptI HX13.out on14 (hNX _ (.inl (by omega))))
    have HY14 := hid (box_keptI HY13.out on14 (hNX _ (.inl (by omega))))
    have HKQ14 := hid (box_keptI HKQ13.out on14 (hNX _ (.inr (by omega))))
    have HKG14 := hid (box_keptI HKG13.out on14 (hNX _ (.inr (by omega))))
    clear OG13 OU13 OQ13 HX13 HY13 HKQ13 HKG13 OX13 HKX13 on14
    have q0 := cell_of_row _ _ 0 _ _ _ HKQ14.out
    have q1 := cell_of_row _ _ 1 _ _ _ HKQ14.out
    have q2 := cell_of_row _ _ 2 _ _ _ HKQ14.out
    have q3 := cell_of_row _ _ 3 _ _ _ HKQ14.out
    have q4 := cell_of_row _ _ 4 _ _ _ HKQ14.out
    have q5 := cell_of_row _ _ 5 _ _ _ HKQ14.out
    simp only [List.getElem?_toArray, List.getElem?_cons_zero, List.getElem?_cons_succ] at q0 q1 q2 q3 q4 q5
    go_wp2_with fail
    rw [HY14e.out]
    refine (markPacket_any p aQ cQ 0 (1 + sx + s.part.length) (byt p.data) w14 OQ14.out.bytes.1 (by omega) (by omega)).mono ?_
    rintro e w15 ⟨rfl, -, on15⟩
    clear q0 q1 q2 q3 q4 q5
    rw [← OQ14.out.bytes.2.1] at on15
    obtain ⟨Y2, hY2⟩ : ∃ Y2 : Int, Y2 = ((1 + sx + s.part.length + p.data.length : Nat) : Int) := ⟨_, rfl⟩
    rw [← hY2]
    have hY20 : decide (Y2 < 0) = false := decide_eq_false (by omega)
    clear hY2
    have hNQ : ∀ g, g < w6.heap.size ∨ w7.heap.size ≤ g → g ∉ bsQ := fun g hg h => by have := hQin g h; omega
    have F415 : Below WS.heap.size WS w15 := Only.chain F414 on15 (fun x hx => by have := (hQin x hx).1; omega) (Nat.le_refl _)
    have B15 : Below w.heap.size w w15 := Only.chain B14 on15 (fun x hx => by have := (hQin x hx).1; omega) (Nat.le_refl _)
    have OG15 := hid (ownIn_only OG14.out on15 (fun x hx => hNQ x (.inr (by have := hGin x (by rcases List.mem_append.1 hx with h | h; exact List.mem_append_left _ h; exact List.mem_append_right _ (List.mem_append_left _ h)); omega))))
    have OU15 := hid (OU14.out.kept (w' := w15) (fun x hx => on15.block x (OU14.out.lt x hx) (hNQ x (.inr (by have := hGin x (List.mem_append_right _ (List.mem_append_right _ hx)); omega)))))
    have HX15 := hid (box_keptI HX14.out on15 (hNQ _ (.inl (by omega))))
    have HY15 := hid (box_keptI HY14.out on15 (hNQ _ (.inl (by omega))))
    have HKG15 := hid (box_keptI HKG14.out on15 (hNQ _ (.inr (by omega))))
    clear OG14 OU14 OQ14 HX14 HY14 HKQ14 HKG14 on15
    have HKS15 := hid (boxK HKS.out F415)
    have HRS15 := hid (HRS.out.later F415)
    have HUS15 := hid (HUS.out.later F415)
    have p0 := cell_of_row _ _ 0 _ _ _ HKS15.out
    have p1 := cell_of_row _ _ 1 _ _ _ HKS15.out
    have p2 := cell_of_row _ _ 2 _ _ _ HKS15.out
    have p3 := cell_of_row _ _ 3 _ _ _ HKS15.out
    simp only [List.getElem?_toArray, List.getElem?_cons_zero, List.getElem?_cons_succ] at p0 p1 p2 p3
    have q0 := cell_of_row _ _ 0 _ _ _ HKG15.out
    have q1 := cell_of_row _ _ 1 _ _ _ HKG15.out
    have q2 := cell_of_row _ _ 2 _ _ _ HKG15.out
    have q3 := cell_of_row _ _ 3 _ _ _ HKG15.out
    simp only [List.getElem?_toArray, List.getElem?_cons_zero, List.getElem?_cons_succ] at q0 q1 q2 q3
    go_wp2_with fail
    refine (eqLinkIn_any R aG bG aS bS cG dG cS dS w15 OG15.out.rd HRS15.out HRT.out).mono ?_
    rintro e w15b ⟨rfl, bl15b⟩
    clear p0 p1 p2 p3 q0 q1 q2 q3
    go_wp2_with fail
    refine (eqSS_any aV aUS cV cUS G w15b (OU15.out.rd.later bl15b) (HUS15.out.later bl15b) HGT.out).mono ?_
    rintro e w16 ⟨rfl, bl16x⟩
    have bl16 := below_chain bl15b bl16x
    have B16 := below_chain B15 bl16
    have F416 := below_chain F415 bl16
    have hsz16 := bl16.size
    have OG16 := hid (ownIn_later OG15.out bl16)
    have OU16 := hid (OU15.out.kept (fun x hx => bl16.block x (OU15.out.lt x hx)))
    have HX16 := hid (boxK HX15.out bl16)
    have HY16 := hid (boxK HY15.out bl16)
    have HKG16 := hid (boxK HKG15.out bl16)
    clear OG15 OU15 HX15 HY15 HKG15
    have q0 := cell_of_row _ _ 0 _ _ _ HKG16.out
    have q1 := cell_of_row _ _ 1 _ _ _ HKG16.out
    have q2 := cell_of_row _ _ 2 _ _ _ HKG16.out
    have q3 := cell_of_row _ _ 3 _ _ _ HKG16.out
    simp only [List.getElem?_toArray, List.getElem?_cons_zero, List.getElem?_cons_succ] at q0 q1 q2 q3
    go_wp2_with fail
    refine (markLinkIn_any R.epoch R.expect aG bG cG dG R.held R.part bsG dsG 1 w16 OG16.out.f nG1 OG16.out.t (fun y hy h => nG3 y hy y (List.mem_append_left _ h) rfl) htR.1 htR.2 (by omega)).mono ?_
    rintro e w17 ⟨rfl, cG17, pG17, on17⟩
    clear q0 q1 q2 q3
    have hsr : sumL kT R.held ≤ 8388608 := by have h1 := kT_le R.held; have := htR.1; unfold totL at this; omega
    have HSR : Hid (∃ q, q = sumL kT R.held) := hid ⟨_, rfl⟩
    have hNG : ∀ g, g < w8.heap.size ∨ w9.heap.size ≤ g → g ∉ bsG ++ dsG := fun g hg h => by
      have := hGin g (by rcases List.mem_append.1 h with h | h; exact List.mem_append_left _ h; exact List.mem_append_right _ (List.mem_append_left _ h))
      omega
    have hNU : ∀ g, g < w8.heap.size ∨ w9.heap.size ≤ g → g ∉ usG := fun g hg h => by
      have := hGin g (List.mem_append_right _ (List.mem_append_right _ h))
      omega
    have hGU : ∀ x ∈ bsG ++ dsG, x ∉ usG := fun x hx h => by
      rcases List.mem_append.1 hx with h1 | h1
      · exact nG3 x h1 x (List.mem_append_right _ h) rfl
      · exact nG5 x h1 x h rfl
    have F417 : Below WS.heap.size WS w17 := Only.chain F416 on17 (fun x hx => by have := hGin x (by rcases List.mem_append.1 hx with h | h; exact List.mem_append_left _ h; exact List.mem_append_right _ (List.mem_append_left _ h)); omega) (Nat.le_refl _)
    have B17 : Below w.heap.size w w17 := Only.chain B16 on17 (fun x hx => by have := hGin x (by rcases List.mem_append.1 hx with h | h; exact List.mem_append_left _ h; exact List.mem_append_right _ (List.mem_append_left _ h)); omega) (Nat.le_refl _)
    have OU17 := OU16.out.kept (w' := w17) (fun x hx => on17.block x (OU16.out.lt x hx) (fun h => hGU x h hx))
    have HX17 := hid (box_keptI HX16.out on17 (hNG _ (.inl (by omega))))
    have HY17 := hid (box_keptI HY16.out on17 (hNG _ (.inl (by omega))))
    have HKG17 := hid (box_keptI HKG16.out on17 (hNG _ (.inr (by omega))))
    clear OG16 OU16 HX16 HY16 HKG16 on17
    have HCG := hid cG17
    have HPG := hid pG17
    clear cG17 pG17
    obtain ⟨sr, hsrE⟩ : ∃ sr, sr = sumL kT R.held := ⟨_, rfl⟩
    rw [← hsrE] at hsr HPG ⊢
    have HSE := hid hsrE
    clear hsrE
    obtain ⟨Y3, hY3⟩ : ∃ Y3 : Int, Y3 = ((1 + sr + R.part.length : Nat) : Int) := ⟨_, rfl⟩
    rw [← hY3]
    have HY3 := hid hY3
    clear hY3
    go_wp2_with fail
    rw [HY3.out]
    refine (markSS_any (.slice aV G.length cV) G usG (1 + sr + R.part.length) w17 OU17 nU hGl (by omega) (by omega)).mono ?_
    rintro e w18 ⟨rfl, oU18, on18⟩
    have F418 : Below WS.heap.size WS w18 := Only.chain F417 on18 (fun x hx => by have := hGin x (List.mem_append_right _ (List.mem_append_right _ hx)); omega) (Nat.le_refl _)
    have B18 : Below w.heap.size w w18 := Only.chain B17 on18 (fun x hx => by have := hGin x (List.mem_append_right _ (List.mem_append_right _ hx)); omega) (Nat.le_refl _)
    have HX18 := hid (box_keptI HX17.out on18 (hNU _ (.inl (by omega))))
    have HY18 := hid (box_keptI HY17.out on18 (hNU _ (.inl (by omega))))
    have HKG18 := hid (box_keptI HKG17.out on18 (hNU _ (.inr (by omega))))
    have HC18 : Hid (RdSl cPkt w18 (mkL kT mkK 1 R.held) (.slice aG R.held.length cG)) := hid (by
      have h := (HCG.out.only on18 (fun x hx h => hGU x (List.mem_append_left _ hx) h)).rd
      simpa [mkL_len] using h)
    have HP18 : Hid (RdSl cByte w18 (mkByte (1 + sr) R.part.length) (.slice bG R.part.length dG)) := hid (by
      exact (HPG.out.kept (w' := w18) (fun x hx => on18.block x (HPG.out.lt x hx) (fun h => hGU x (List.mem_append_right _ hx) h))).rd)
    have HU18 := hid oU18.rd
    clear OU17 HX17 HY17 HKG17 on18 oU18 HCG HPG
    obtain ⟨Z, hZ⟩ : ∃ Z : Int, Z = ((1 + sr + R.part.length + tot G : Nat) : Int) := ⟨_, rfl⟩
    rw [← hZ]
    have HZE := hid hZ
    clear hZ
    have q0 := cell_of_row _ _ 0 _ _ _ HKG18.out
    have q1 := cell_of_row _ _ 1 _ _ _ HKG18.out
    have q2 := cell_of_row _ _ 2 _ _ _ HKG18.out
    have q3 := cell_of_row _ _ 3 _ _ _ HKG18.out
    simp only [List.getElem?_toArray, List.getElem?_cons_zero, List.getElem?_cons_succ] at q0 q1 q2 q3
    go_wp2_with fail
    refine (heldLinkIn_any R.epoch R.expect aG bG cG dG R.part.length R.held 1 w18 HC18.out (by rw [← HSE.out]; exact HP18.out) htR.1 htR.2 (by omega)).mono ?_
    rintro e w19 ⟨rfl, bl19⟩
    rw [← HSE.out, ← HY3.out]
    clear q0 q1 q2 q3
    have hY30 : decide (Y3 < 0) = false := decide_eq_false (by have := HY3.out; omega)
    go_wp2_with fail
    rw [HY3.out]
    refine (heldSS_any aV cV G (1 + sr + R.part.length) w19 (HU18.out.later bl19) hGl (by omega) (by omega)).mono ?_
    rintro e w20 ⟨rfl, bl20x⟩
    rw [← HZE.out]
    have hZ0 : decide (Z < 0) = false := decide_eq_false (by have := HZE.out; omega)
    have hZZ : (Z != Z) = false := by simp
    have bl20 := below_chain bl19 bl20x
    have B20 := below_chain B18 bl20
    have F420 := below_chain F418 bl20
    have HX20 := hid (boxK HX18.out bl20)
    have HY20 := hid (boxK HY18.out bl20)
    clear HX18 HY18 HKG18 HC18 HP18 HU18 bl19 bl20x
    go_upto_region 35 with fail
    refine region_turns3 (n := 13) (by kernel_rfl) (by kernel_rfl) ?_ (fun t => { tmps := #[.agg #[.int .i64 s.epoch, .int .i64 s.expect, .slice a s.held.length c, .slice b s.part.length d], .agg #[.int .i64 p.kind, .int .i64 p.epoch, .int .i64 p.seq, .int .i64 p.count, .bool p.last, .slice ap p.data.length cp], .pointer (some ⟨w.heap.size, 0, none⟩), .pointer (some ⟨w.heap.size + 1, 0, none⟩), .bool false, .int .i64 r2, .pointer (some ⟨gS, 0, none⟩), .slice aUS G.length cUS, .int .i64 C, .pointer (some ⟨w5.heap.size, 0, none⟩), .pointer (some ⟨w7.heap.size, 0, none⟩), .pointer (some ⟨w9.heap.size, 0, none⟩), .slice aV G.length cV, .int .i64 C, .int .i64 Y2, .int .i64 Z, .int .i64 Z, t 9, t 11, t 12, .agg #[.int .i64 s.epoch, .int .i64 s.expect, .slice a s.held.length c, .slice b s.part.length d], .int .i64 1048576, .int .i64 r, .int .i64 r, .bool false, .agg #[.int .i64 p.kind, .int .i64 p.epoch, .int .i64 p.seq, .int .i64 p.count, .bool p.last, .slice ap p.data.length cp], .int .i64 r, .int .i64 r2, .int .i64 r2, .bool false, zS5, zS0, zS1, zS2, zS3, zS4, zS6, zS7, zS8, .agg #[.int .i64 s.epoch, .int .i64 s.expect, .slice a s.held.length c, .slice b s.part.length d], .agg #[.int .i64 s.epoch, .int .i64 s.expect, .slice aX s.held.length cX, .slice bX s.part.length dX], .agg #[.int .i64 p.kind, .int .i64 p.epoch, .int .i64 p.seq, .int .i64 p.count, .bool p.last, .slice ap p.data.length cp], .agg #[.int .i64 p.kind, .int .i64 p.epoch, .int .i64 p.seq, .int .i64 p.count, .bool p.last, .slice aQ p.data.length cQ], .tuple #[.agg #[.int .i64 R.epoch, .int .i64 R.expect, .slice aG R.held.length cG, .slice bG R.part.length dG], .slice aV G.length cV, .int .i64 C], .agg #[.int .i64 s.epoch, .int .i64 s.expect, .slice aX s.held.length cX, .slice bX s.part.length dX], .agg #[.int .i64 p.kind, .int .i64 p.epoch, .int .i64 p.seq, .int .i64 p.count, .bool p.last, .slice aQ p.data.length cQ], .tuple #[.agg #[.int .i64 R.epoch, .int .i64 R.expect, .slice aG R.held.length cG, .slice bG R.part.length dG], .slice aV G.length cV, .int .i64 C], .agg #[.int .i64 R.epoch, .int .i64 R.expect, .slice aG R.held.length cG, .slice bG R.part.length dG], .slice aV G.length cV, .int .i64 C, .agg #[.int .i64 R.epoch, .int .i64 R.expect, .slice aG R.held.length cG, .slice bG R.part.length dG], .agg #[.int .i64 R.epoch, .int .i64 R.expect, .slice aS R.held.length cS, .slice bS R.part.length dS], .bool true, .bool false, .bool false, .slice aV G.length cV, .slice aUS G.length cUS, .bool true, .bool false, .bool false, .bool false, .int .i64 C, .int .i64 C, .bool false, .bool false, .agg #[.int .i64 s.epoch, .int .i64 s.expect, .slice aX s.held.length cX, .slice bX s.part.length dX], .agg #[.int .i64 s.epoch, .int .i64 s.expect, .slice a s.held.length c, .slice b s.part.length d], .agg #[.int .i64 s.epoch, .int .i64 s.expect, .slice a7i s.held.length c7i, .slice b7i s.part.length d7i], .bool true, .bool false, .agg #[.int .i64 p.kind, .int .i64 p.epoch, .int .i64 p.seq, .int .i64 p.count, .bool p.last, .slice aQ p.data.length cQ], .agg #[.int .i64 p.kind, .int .i64 p.epoch, .int .i64 p.seq, .int .i64 p.count, .bool p.last, .slice ap p.data.length cp], .agg #[.int .i64 p.kind, .int .i64 p.epoch, .int .i64 p.seq, .int .i64 p.count, .bool p.last, .slice a8 p.data.length c8], .bool true, .bool false, .agg #[.int .i64 s.epoch, .int .i64 s.expect, .slice aX s.held.length cX, .slice bX s.part.length dX], .int .i64 1, .int .i64 (1 + ((sx : Nat) : Int) + ((s.part.length : Nat) : Int)), .agg #[.int .i64 p.kind, .int .i64 p.epoch, .int .i64 p.seq, .int .i64 p.count, .bool p.last, .slice aQ p.data.length cQ], .int .i64 (1 + ((sx : Nat) : Int) + ((s.part.length : Nat) : Int)), .int .i64 Y2, .int .i64 Y2, .bool false, .bool false, .agg #[.int .i64 R.epoch, .int .i64 R.expect, .slice aG R.held.length cG, .slice bG R.part.length dG], .agg #[.int .i64 R.epoch, .int .i64 R.expect, .slice aS R.held.length cS, .slice bS R.part.length dS], .bool true, .bool false, .bool false, .bool false, .slice aV G.length cV, .slice aUS G.length cUS, .bool true, .bool false, .bool false, .bool false, .int .i64 C, .int .i64 C, .bool false, .bool false, .agg #[.int .i64 R.epoch, .int .i64 R.expect, .slice aG R.held.length cG, .slice bG R.part.length dG], .int .i64 1, .int .i64 (1 + ((sr : Nat) : Int) + ((R.part.length : Nat) : Int)), .slice aV G.length cV, .int .i64 (1 + ((sr : Nat) : Int) + ((R.part.length : Nat) : Int)), .int .i64 Z, .agg #[.int .i64 R.epoch, .int .i64 R.expect, .slice aG R.held.length cG, .slice bG R.part.length dG], .int .i64 1, .int .i64 (1 + ((sr : Nat) : Int) + ((R.part.length : Nat) : Int)), .int .i64 (1 + ((sr : Nat) : Int) + ((R.part.length : Nat) : Int)), .bool false, .slice aV G.length cV, .int .i64 (1 + ((sr : Nat) : Int) + ((R.part.length : Nat) : Int)), .int .i64 Z, .int .i64 Z, .bool false, .int .i64 Z, .int .i64 Z, .bool false, t 5, t 0, t 1, t 2, t 3, t 4, t 6, t 7, t 8, undef, undef, undef, undef, undef, undef, undef, undef, undef, undef, undef, undef, undef, undef, undef], defers := [] }) (ltT (.agg #[.int .i64 s.epoch, .int .i64 s.expect, .slice a s.held.length c, .slice b s.part.length d]) (.agg #[.int .i64 p.kind, .int .i64 p.epoch, .int .i64 p.seq, .int .i64 p.count, .bool p.last, .slice ap p.data.length cp]) C) [10] (fcSameL w20) (ltH w20.heap.size s p R G C) w20 w20 (fun k => []) (fun _ => true) (fun _ _ _ => True) [10] (fun _ _ => false) (by kernel_rfl) (fun _ _ _ _ h => by cases h) (fun i hi hn => absurd hi hn) (fun j hj => by rcases (by omega : j = 0 ∨ j = 1 ∨ j = 2 ∨ j = 3 ∨ j = 4 ∨ j = 5 ∨ j = 6 ∨ j = 7 ∨ j = 8 ∨ j = 9 ∨ j = 10 ∨ j = 11 ∨ j = 12) with rfl | rfl | rfl | rfl | rfl | rfl | rfl | rfl | rfl | rfl | rfl | rfl | rfl <;> rfl) (fun j hj hp => by rcases (by omega : j = 0 ∨ j = 1 ∨ j = 2 ∨ j = 3 ∨ j = 4 ∨ j = 5 ∨ j = 6 ∨ j = 7 ∨ j = 8 ∨ j = 9 ∨ j = 10 ∨ j = 11 ∨ j = 12) with rfl | rfl | rfl | rfl | rfl | rfl | rfl | rfl | rfl | rfl | rfl | rfl | rfl <;> first | rfl | (exact absurd hp (by decide))) (fun j => ([undef, undef, undef, undef, undef, undef, undef, undef, undef, undef, undef, undef, undef] : List Value).getD j undef) (ltH_start _ s p R G C _ _) (Below.refl _ w20) (Below.refl _ _) ?_ ?_
    · rfl
    · intro i hi x t wx hxi hsh h0 hbx hgx hdp hall hHx
      rcases (by omega : i = 0 ∨ i = 1 ∨ i = 2 ∨ i = 3 ∨ i = 4 ∨ i = 5 ∨ i = 6 ∨ i = 7 ∨ i = 8 ∨ i = 9 ∨ i = 10 ∨ i = 11 ∨ i = 12) with rfl | rfl | rfl | rfl | rfl | rfl | rfl | rfl | rfl | rfl | rfl | rfl | rfl
      · 
        try dsimp only
        have y10 := notYet hsh hxi 10 (by kernel_rfl)
        have hz : Below w20.heap.size w20 wx := hgx (by simp [y10])
        have hxx := boxK HX20.out hz
        have g0 := cell_of_row _ _ 0 _ _ _ hxx
        have g1 := cell_of_row _ _ 1 _ _ _ hxx
        have g2 := cell_of_row _ _ 2 _ _ _ hxx
        have g3 := cell_of_row _ _ 3 _ _ _ hxx
        simp only [List.getElem?_toArray, List.getElem?_cons_zero, List.getElem?_cons_succ] at g0 g1 g2 g3
        clear y10 hz hxx
        clear h0
        refine wpOp_step rfl (fun K' hK => ?_)
        go_simp
        exact hK _ _ ⟨.agg #[.int .i64 s.epoch, .int .i64 s.expect, .slice a s.held.length c, .slice b s.part.length d], (by simp [upd]), FX.eq_mk rfl, fun _ => Below.refl _ _, fun h => absurd h (by decide), hbx, hHx.plain (Below.refl _ _) 0 (by omega) _⟩
      · 
        try dsimp only
        have x0 := depX hdp 0 (by kernel_rfl)
        have d0 := hall 0 (by omega) x0
        have e0 : t 0 = .agg #[.int .i64 s.epoch, .int .i64 s.expect, .slice a s.held.length c, .slice b s.part.length d] := d0.1
        rw [e0]
        clear h0
        refine wpOp_step rfl (fun K' hK => ?_)
        go_simp
        refine (toLinkIn_any s a b c d wx (HR.out.later (below_chain B20 hbx)) ht).mono ?_
        rintro e w2 ⟨a4, c4, b4, d4, bs4, ds4, rfl, o4, -, -, bl⟩
        exact hK _ _ ⟨_, (by simp [upd, e0]), FX.is_mk trivial, fun _ => bl, fun h => absurd h (by decide), below_chain hbx bl, hHx.op1 bl o4.rd⟩
      · 
        try dsimp only
        have y10 := notYet hsh hxi 10 (by kernel_rfl)
        have hz : Below w20.heap.size w20 wx := hgx (by simp [y10])
        have hxx := boxK HY20.out hz
        have g0 := cell_of_row _ _ 0 _ _ _ hxx
        have g1 := cell_of_row _ _ 1 _ _ _ hxx
        have g2 := cell_of_row _ _ 2 _ _ _ hxx
        have g3 := cell_of_row _ _ 3 _ _ _ hxx
        have g4 := cell_of_row _ _ 4 _ _ _ hxx
        have g5 := cell_of_row _ _ 5 _ _ _ hxx
        simp only [List.getElem?_toArray, List.getElem?_cons_zero, List.getElem?_cons_succ] at g0 g1 g2 g3 g4 g5
        clear y10 hz hxx
        clear h0
        refine wpOp_step rfl (fun K' hK => ?_)
        go_simp
        exact hK _ _ ⟨.agg #[.int .i64 p.kind, .int .i64 p.epoch, .int .i64 p.seq, .int .i64 p.count, .bool p.last, .slice ap p.data.length cp], (by simp [upd]), FX.eq_mk rfl, fun _ => Below.refl _ _, fun h => absurd h (by decide), hbx, hHx.plain (Below.refl _ _) 2 (by omega) _⟩
      · 
        try dsimp only
        have x2 := depX hdp 2 (by kernel_rfl)
        have d2 := hall 2 (by omega) x2
        have e2 : t 2 = .agg #[.int .i64 p.kind, .int .i64 p.epoch, .int .i64 p.seq, .int .i64 p.count, .bool p.last, .slice ap p.data.length cp] := d2.1
        rw [e2]
        clear h0
        refine wpOp_step rfl (fun K' hK => ?_)
        go_simp
        refine (toPacket_any p ap cp wx (HP.out.later (below_chain B20 hbx)) HPIN.out hpl).mono ?_
        rintro e w2 ⟨a4, c4, bs4, rfl, o4, -, -, bl⟩
        exact hK _ _ ⟨_, (by simp [upd, e2]), FX.is_mk trivial, fun _ => bl, fun h => absurd h (by decide), below_chain hbx bl, hHx.op3 bl o4.rd⟩
      · 
        try dsimp only
        have x1 := depX hdp 1 (by kernel_rfl)
        have d1 := hall 1 (by omega) x1
        have x3 := depX hdp 3 (by kernel_rfl)
        have d3 := hall 3 (by omega) x3
        have y5 := notYet hsh hxi 5 (by kernel_rfl)
        have y6 := notYet hsh hxi 6 (by kernel_rfl)
        have y7 := notYet hsh hxi 7 (by kernel_rfl)
        have y10 := notYet hsh hxi 10 (by kernel_rfl)
        have y11 := notYet hsh hxi 11 (by kernel_rfl)
        obtain ⟨a1, c1, b1, k1, e1, r1⟩ := hHx.1 x1 y10
        obtain ⟨a3, c3, e3, r3⟩ := hHx.2.1 x3 y10
        rw [e1, e3]
        clear h0
        refine wpOp_step rfl (fun K' hK => ?_)
        go_simp
        refine (HIM.out wx a1 b1 c1 k1 a3 c3 r1 r3).mono ?_
        rintro e w2 hpost
        have hpost := hpost.sk
        obtain ⟨a4, c4, b4, d4, u4, rfl, rob, bl⟩ := hpost
        exact hK _ _ ⟨_, (by simp [upd, e1, e3]), FX.is_mk trivial, fun _ => bl, fun h => absurd h (by decide), below_chain hbx bl, hHx.op4 bl y5 y6 y7 y10 y11 rob⟩
      · 
        try dsimp only
        have x4 := depX hdp 4 (by kernel_rfl)
        have d4 := hall 4 (by omega) x4
        obtain ⟨m1, m2, a4, c4, b4, k4, u4, e4, -⟩ := hHx.2.2.2 x4
        have e4' := e4
        rw [e4]
        clear h0
        refine wpOp_step rfl (fun K' hK => ?_)
        go_simp
        exact hK _ _ ⟨tupV R C a4 c4 b4 k4 u4, (by simp [upd, e4]), FX.is_mk trivial, fun _ => Below.refl _ _, fun h => absurd h (by decide), hbx, hHx.op5 (Below.refl _ _) x4 _ e4'.symm⟩
      · 
        try dsimp only
        have x5 := depX hdp 5 (by kernel_rfl)
        have d5 := hall 5 (by omega) x5
        have x4 := reach_up hsh (i := 4) 12 5 (by kernel_rfl) x5
        obtain ⟨m1, m2, a4, c4, b4, k4, u4, e4, e5, -⟩ := hHx.2.2.2 x4
        have e5 := e5 x5
        rw [e5]
        clear h0
        refine wpOp_step rfl (fun K' hK => ?_)
        go_simp
        exact hK _ _ ⟨inV R a4 c4 b4 k4, (by simp [upd, e5, e4]), FX.is_mk trivial, fun _ => Below.refl _ _, fun h => absurd h (by decide), hbx, hHx.op6 (Below.refl _ _) x4 _ (by rw [e4]; rfl)⟩
      · 
        try dsimp only
        have x5 := depX hdp 5 (by kernel_rfl)
        have d5 := hall 5 (by omega) x5
        have x4 := reach_up hsh (i := 4) 12 5 (by kernel_rfl) x5
        obtain ⟨m1, m2, a4, c4, b4, k4, u4, e4, e5, -⟩ := hHx.2.2.2 x4
        have e5 := e5 x5
        rw [e5]
        clear h0
        refine wpOp_step rfl (fun K' hK => ?_)
        go_simp
        exact hK _ _ ⟨u4, (by simp [upd, e5, e4]), FX.is_mk trivial, fun _ => Below.refl _ _, fun h => absurd h (by decide), hbx, hHx.op7 (Below.refl _ _) x4 _ (by rw [e4]; rfl)⟩
      · 
        try dsimp only
        have x5 := depX hdp 5 (by kernel_rfl)
        have d5 := hall 5 (by omega) x5
        have x4 := reach_up hsh (i := 4) 12 5 (by kernel_rfl) x5
        obtain ⟨m1, m2, a4, c4, b4, k4, u4, e4, e5, -⟩ := hHx.2.2.2 x4
        have e5 := e5 x5
        rw [e5]
        clear h0
        refine wpOp_step rfl (fun K' hK => ?_)
        go_simp
        exact hK _ _ ⟨.int .i64 C, (by simp [upd, e5, e4]), FX.eq_mk rfl, fun _ => Below.refl _ _, fun h => absurd h (by decide), hbx, hHx.plain (Below.refl _ _) 8 (by omega) _⟩
      · 
        try dsimp only
        have y10 := notYet hsh hxi 10 (by kernel_rfl)
        clear h0
        refine wpOp_step rfl (fun K' hK => ?_)
        go_simp
        exact hK _ _ ⟨.pointer (some ⟨wx.heap.size, 0, none⟩), (by simp [upd]), FX.is_mk trivial, fun _ => below_new1 _ _, fun h => absurd h (by decide), below_chain hbx (below_new1 _ _), hHx.op9 hbx.size y10⟩
      · 
        try dsimp only
        have x9 := depX hdp 9 (by kernel_rfl)
        have d9 := hall 9 (by omega) x9
        have x6 := depX hdp 6 (by kernel_rfl)
        have d6 := hall 6 (by omega) x6
        have x4 := depX hdp 4 (by kernel_rfl)
        have d4 := hall 4 (by omega) x4
        obtain ⟨g, a4, c4, b4, k4, e9, e6, lg, hbz, hfin⟩ := hHx.at10 x4 x6 x9 hxi
        rw [e9, e6]
        have hbz2 : wx.heap[g]? = some (.cells #[.int .i64 0, .int .i64 0, .slice none 0 0, .slice none 0 0] 32 (0, 0)) := hbz
        have k0 := cell_of_row _ _ 0 _ _ _ hbz2
        have z0 := frozen_of_row _ _ 0 _ _ hbz2
        have k1 := cell_of_row _ _ 1 _ _ _ hbz2
        have z1 := frozen_of_row _ _ 1 _ _ hbz2
        have k2 := cell_of_row _ _ 2 _ _ _ hbz2
        have z2 := frozen_of_row _ _ 2 _ _ hbz2
        have k3 := cell_of_row _ _ 3 _ _ _ hbz2
        have z3 := frozen_of_row _ _ 3 _ _ hbz2
        simp only [List.getElem?_toArray, List.getElem?_cons_zero, List.getElem?_cons_succ] at k0 k1 k2 k3
        have HBZ := hid hbz
        have HFIN := hid hfin
        clear hbz hbz2 hfin hHx
        clear h0
        refine wpOp_step rfl (fun K' hK => ?_)
        go_simp
        exact hK _ _ ⟨undef, (by simp [upd, e9, e6]), FX.is_mk trivial, fun h => absurd (by decide) h, fun _ => trivial, set4b hbx lg, HFIN.out undef HBZ.out⟩
      · 
        try dsimp only
        have x7 := depX hdp 7 (by kernel_rfl)
        have d7 := hall 7 (by omega) x7
        have x4 := reach_up hsh (i := 4) 12 7 (by kernel_rfl) x7
        clear h0
        refine wpOp_step rfl (fun K' hK => ?_)
        go_simp
        exact hK _ _ ⟨t 7, (by simp [upd]), FX.is_mk trivial, fun _ => Below.refl _ _, fun h => absurd h (by decide), hbx, hHx.op11 (Below.refl _ _) x4 x7 _ rfl⟩
      · 
        try dsimp only
        have x8 := depX hdp 8 (by kernel_rfl)
        have d8 := hall 8 (by omega) x8
        have e8 : t 8 = .int .i64 C := d8.1
        rw [e8]
        clear h0
        refine wpOp_step rfl (fun K' hK => ?_)
        go_simp
        exact hK _ _ ⟨.int .i64 C, (by simp [upd, e8]), FX.eq_mk rfl, fun _ => Below.refl _ _, fun h => absurd h (by decide), hbx, hHx.plain (Below.refl _ _) 12 (by omega) _⟩
    · intro x t wx hx hbx hall hHx
      obtain ⟨gH, aH, cH, bH, dH, eg, lg, hbox, hrd, hru⟩ := hHx.done (hx 4 (by omega)) (hx 9 (by omega)) (hx 10 (by omega)) (hx 11 (by omega))
      have e12 : t 12 = .int .i64 C := (hall 12 (by omega)).1
      try dsimp only
      rw [eg, e12]
      generalize t 11 = v11 at *
      generalize t 0 = zH0
      generalize t 1 = zH1
      generalize t 2 = zH2
      generalize t 3 = zH3
      generalize t 4 = zH4
      generalize t 5 = zH5
      generalize t 6 = zH6
      generalize t 7 = zH7
      generalize t 8 = zH8
      obtain ⟨aUH, cUH, eU, -⟩ := id hru
      subst eU
      have HKH := hid hbox
      have HRH := hid hrd
      have HUH := hid hru
      have HLGH := hid lg
      have HBH := hid hbx
      obtain ⟨WH, hW⟩ : ∃ V, V = wx := ⟨_, rfl⟩
      subst hW
      clear hall hbx hx hHx eg e12 lg hbox hrd hru
      have B22 := below_chain B20 HBH.out
      have F422 := below_chain F420 HBH.out
      have HKS22 := hid (boxK HKS.out F422)
      have HRS22 := hid (HRS.out.later F422)
      have HUS22 := hid (HUS.out.later F422)
      have p0 := cell_of_row _ _ 0 _ _ _ HKS22.out
      have p1 := cell_of_row _ _ 1 _ _ _ HKS22.out
      have p2 := cell_of_row _ _ 2 _ _ _ HKS22.out
      have p3 := cell_of_row _ _ 3 _ _ _ HKS22.out
      simp only [List.getElem?_toArray, List.getElem?_cons_zero, List.getElem?_cons_succ] at p0 p1 p2 p3
      have q0 := cell_of_row _ _ 0 _ _ _ HKH.out
      have q1 := cell_of_row _ _ 1 _ _ _ HKH.out
      have q2 := cell_of_row _ _ 2 _ _ _ HKH.out
      have q3 := cell_of_row _ _ 3 _ _ _ HKH.out
      simp only [List.getElem?_toArray, List.getElem?_cons_zero, List.getElem?_cons_succ] at q0 q1 q2 q3
      go_wp2_with fail
      refine (eqLinkIn_any R aH bH aS bS cH dH cS dS WH HRH.out HRS22.out HRT.out).mono ?_
      rintro e w23 ⟨rfl, bl23⟩
      clear p0 p1 p2 p3 q0 q1 q2 q3
      go_wp2_with fail
      refine (eqSS_any aUH aUS cUH cUS G w23 (HUH.out.later bl23) (HUS22.out.later bl23) HGT.out).mono ?_
      rintro e w24 ⟨rfl, bl24⟩
      have B24 := below_chain (below_chain B22 bl23) bl24
      go_wp2
      go_ret
      exact ⟨rfl, B24⟩
end Go.Proofs.Ytfaehioeepolhaa
