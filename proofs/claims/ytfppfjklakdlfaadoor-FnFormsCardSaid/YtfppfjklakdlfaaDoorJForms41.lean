import Derived.Test.YtfppfjklakdlfaaDoorJForms36
import Derived.Test.YtfppfjklakdlfaaDoorJForms37
import Derived.Test.YtfppfjklakdlfaaDoorJForms40
import Derived.Test.YtfppfjklakdlfaaDoorJForms15
import Derived.Test.YtfppfjklakdlfaaDoorJForms16
import Derived.Test.YtfppfjklakdlfaaDoorJForms17
import Derived.Test.YtfppfjklakdlfaaDoorJForms9
import Derived.Deep.RegionHeld3
import Derived.Deep.DeepCutAuto
namespace Go.Proofs.YtfppfjklakdlfaaDoor
open Go.RowKit
def ParsePost (w : World) (r : Option PM) (E : Value) (e : Ending) (w' : World) : Prop :=
  Below w.heap.size w w' ∧ match r with
  | none => e = .returned (.tuple #[.agg #[.int .i64 0, .int .i64 0, .int .i64 0, .slice none 0 0], E])
  | some m => ∃ a c bl, e = .returned (.tuple #[.agg #[.int .i64 m.kind, .int .i64 m.field, .int .i64 m.count, .slice a m.bufs.length c], .nilIface]) ∧ OwnSl cSS 22 w' m.bufs (.slice a m.bufs.length c) bl ∧ (∀ b ∈ bl, w.heap.size ≤ b) ∧ bl.Nodup
def CutV (B : Nat) (bs : List (List Nat)) (v : Value) (w : World) : Prop := ∃ a c bl, v = .slice a bs.length c ∧ OwnSl cSS 22 w bs (.slice a bs.length c) bl ∧ (∀ b ∈ bl, B ≤ b) ∧ bl.Nodup
theorem CutV.later {B : Nat} {bs : List (List Nat)} {v : Value} {w w' : World} (h : CutV B bs v w) (hb : Below w.heap.size w w') : CutV B bs v w' := by
  obtain ⟨a, c, bl, e, o, l, n⟩ := h
  exact ⟨a, c, bl, e, o.kept (fun y hy => hb.block y (o.lt y hy)), l, n⟩
def fcCutV (B : Nat) (bs : List (List Nat)) : Fct := ⟨CutV B bs, fun _ _ _ h hb => h.later hb⟩
def fcCutT (B : Nat) (bs : List (List Nat)) : Fct := ⟨fun v w => ∃ u, v = .tuple #[u, .nilIface] ∧ CutV B bs u w, fun _ _ _ ⟨u, e, h⟩ hb => ⟨u, e, h.later hb⟩⟩
theorem cutV_of {B : Nat} {w w' : World} {bs : List (List Nat)} {v : Value} {bl : List Nat} (o : OwnSl cSS 22 w' bs v bl) (l : ∀ b ∈ bl, w.heap.size ≤ b) (n : bl.Nodup) (hB : B ≤ w.heap.size) : CutV B bs v w' := by
  obtain ⟨a, c, rfl, -⟩ := id o.rd
  exact ⟨a, c, bl, rfl, o, fun b hb => Nat.le_trans hB (l b hb), n⟩
set_option linter.unusedVariables false in
def pn3T (b off cap n N : Nat) (T : TypeId) (ad : Addr) (B : Nat) (bs : List (List Nat)) : Nat → FX
  | 0 => FX.eq (.slice (some ⟨b, off, none⟩) n cap)
  | 1 => FX.eq (.slice (some ⟨b, off, none⟩) n cap)
  | 2 => FX.eq (.int .i64 (n : Int))
  | 3 => FX.eq (.int .i64 ((n : Int) - 4))
  | 4 => FX.eq (.slice (some ⟨b, off + 8, none⟩) (n - 4 - 8) (cap - 8))
  | 5 => FX.eq (.slice (some ⟨b, off, none⟩) n cap)
  | 6 => FX.eq (.pointer (some ⟨b, off + 6, none⟩))
  | 7 => FX.eq (.int .u8 (N : Int))
  | 8 => FX.eq (.int .i64 (N : Int))
  | 9 => FX.eq (.tuple #[.slice none 0 0, .iface T (.pointer (some ad))])
  | 10 => FX.eq (.tuple #[.slice none 0 0, .iface T (.pointer (some ad))])
  | 11 => FX.eq (.slice none 0 0)
  | 12 => FX.eq (.iface T (.pointer (some ad)))
  | 13 => FX.eq (.slice none 0 0)
  | 14 => FX.eq (.iface T (.pointer (some ad)))
  | _ => FX.eq undef
set_option linter.unusedVariables false in
def ps3T (b off cap n N : Nat) (T : TypeId) (ad : Addr) (B : Nat) (bs : List (List Nat)) : Nat → FX
  | 0 => FX.eq (.slice (some ⟨b, off, none⟩) n cap)
  | 1 => FX.eq (.slice (some ⟨b, off, none⟩) n cap)
  | 2 => FX.eq (.int .i64 (n : Int))
  | 3 => FX.eq (.int .i64 ((n : Int) - 4))
  | 4 => FX.eq (.slice (some ⟨b, off + 8, none⟩) (n - 4 - 8) (cap - 8))
  | 5 => FX.eq (.slice (some ⟨b, off, none⟩) n cap)
  | 6 => FX.eq (.pointer (some ⟨b, off + 6, none⟩))
  | 7 => FX.eq (.int .u8 (N : Int))
  | 8 => FX.eq (.int .i64 (N : Int))
  | 9 => FX.is (fcCutT B bs)
  | 10 => FX.is (fcCutT B bs)
  | 11 => FX.is (fcCutV B bs)
  | 12 => FX.eq (.nilIface)
  | 13 => FX.is (fcCutV B bs)
  | 14 => FX.eq (.nilIface)
  | _ => FX.eq undef
def fcNewP (lo : Nat) : Fct := ⟨fun v w => ∃ g, v = .pointer (some ⟨g, 0, none⟩) ∧ lo ≤ g ∧ w.heap[g]? = some (.cells #[.int .i64 0, .int .i64 0, .int .i64 0, .slice none 0 0] 25 (0, 0)), fun _ _ _ ⟨g, e, l, h⟩ hb => ⟨g, e, l, (hb.block _ (Array.getElem?_eq_some_iff.1 h).1).trans h⟩⟩
def p6H (lo : Nat) (cs : Array Value) (x : Nat → Bool) (t : Nat → Value) (w : World) : Prop := x 15 = true → ∃ g, t 14 = .pointer (some ⟨g, 0, none⟩) ∧ lo ≤ g ∧ w.heap[g]? = some (.cells cs 25 (0, 0))
set_option linter.unusedVariables false in
def p6T (b off cap n K F C : Nat) (aV : Option Addr) (m cV : Nat) (B : Nat) : Nat → FX
  | 0 => FX.eq (.slice (some ⟨b, off, none⟩) n cap)
  | 1 => FX.eq (.pointer (some ⟨b, off + 2, none⟩))
  | 2 => FX.eq (.int .u8 (K : Int))
  | 3 => FX.eq (.int .i64 (K : Int))
  | 4 => FX.eq (.slice (some ⟨b, off, none⟩) n cap)
  | 5 => FX.eq (.pointer (some ⟨b, off + 3, none⟩))
  | 6 => FX.eq (.int .u8 (F : Int))
  | 7 => FX.eq (.int .i64 (F : Int))
  | 8 => FX.eq (.slice (some ⟨b, off, none⟩) n cap)
  | 9 => FX.eq (.slice (some ⟨b, off + 4, none⟩) 2 (cap - 4))
  | 10 => FX.eq (.int .u16 (C : Int))
  | 11 => FX.eq (.int .i64 (C : Int))
  | 12 => FX.eq (.slice aV m cV)
  | 13 => FX.eq (.agg #[.int .i64 (K : Int), .int .i64 (F : Int), .int .i64 (C : Int), .slice aV m cV])
  | 14 => FX.pre [15] (fcNewP B)
  | 15 => FX.is Fct.any
  | _ => FX.eq undef
set_option maxRecDepth 100000 in
set_option maxHeartbeats 4000000 in
theorem parse_any (a : Option Addr) (cap : Nat) (xs : List Nat) (T : TypeId) (ad : Addr) (w : World) (hr : RdSl cByte w xs (.slice a xs.length cap)) (hl : xs.length ≤ 1048576) (hE : w.cell? ⟨0, 0, none⟩ = some (.iface T (.pointer (some ad)))) :
    Calls Tryd.prog 32 #[.slice a xs.length cap] w (ParsePost w (decI xs) (.iface T (.pointer (some ad)))) := by
  have HR := hid hr
  clear hr
  have hb0 := below_new1 w (.cells #[.int .i64 0, .int .i64 0, .int .i64 0, .slice none 0 0] 25)
  have HK0 : Hid ((w.alloc (.cells #[.int .i64 0, .int .i64 0, .int .i64 0, .slice none 0 0] 25)).heap[w.heap.size]? = some (.cells #[.int .i64 0, .int .i64 0, .int .i64 0, .slice none 0 0] 25 (0, 0))) := hid (heap_alloc_new w _)
  have hE0 := cell_later hb0 hE
  have hpos : 0 < w.heap.size := by
    rcases Nat.lt_or_ge 0 w.heap.size with h | h
    · exact h
    · simp [World.cell?, Array.getElem?_eq_none h] at hE
  have hn0 : ¬ (0 = w.heap.size) := by omega
  have hn1 : ¬ (w.heap.size = 0) := by omega
  have p0 := cell_of_row _ _ 0 _ _ _ HK0.out
  have p1 := cell_of_row _ _ 1 _ _ _ HK0.out
  have p2 := cell_of_row _ _ 2 _ _ _ HK0.out
  have p3 := cell_of_row _ _ 3 _ _ _ HK0.out
  have z0 := frozen_of_row _ _ 0 _ _ HK0.out
  have z1 := frozen_of_row _ _ 1 _ _ HK0.out
  have z2 := frozen_of_row _ _ 2 _ _ HK0.out
  have z3 := frozen_of_row _ _ 3 _ _ HK0.out
  simp only [List.getElem?_toArray, List.getElem?_cons_zero, List.getElem?_cons_succ] at p0 p1 p2 p3
  clear hE
  by_cases h12 : xs.length < 12
  · have HN := hid (decI_short h12)
    have hd0 : decide ((xs.length : Int) < 12) = true := decide_eq_true (by omega)
    rw [HN.out]
    go_enter Tryd.func32, Tryd.ntmps32
    go_upto_region 2 with fail
    generalize (w.alloc (.cells #[.int .i64 0, .int .i64 0, .int .i64 0, .slice none 0 0] 25)) = w0 at *
    go_region
    all_goals
      go_wp2
      refine bodyPost_ret (results_cell_row_tmpD rfl _ _ w.heap.size 25 #[.int .i64 0, .int .i64 0, .int .i64 0, .slice none 0 0] (0, 0) _ rfl (set4 HK0.out) Tryd.underlying25 rfl (by kernel_rfl)) rfl ?_
      exact ⟨(set4b hb0 (Nat.le_refl _)).drew, rfl⟩
  · have hd0 : decide ((xs.length : Int) < 12) = false := decide_eq_false (by omega)
    obtain ⟨b, off, rfl, hcell⟩ : ∃ b off, a = some ⟨b, off, none⟩ ∧ ∀ i, (h : i < xs.length) → w.cell? ⟨b, off + i, none⟩ = some (.int .u8 (xs[i] : Int)) := by
      obtain ⟨a', c', e', -, -, -, hrd, -⟩ := HR.out.bytes
      cases e'
      rcases hrd with h | ⟨b, off, rfl, hc⟩
      · have : (byt xs).length = 0 := by rw [h]; rfl
        rw [byt_len] at this
        omega
      · exact ⟨b, off, rfl, fun i h => by have := hc i (by rw [byt_len]; exact h); rw [this]; simp [byt]⟩
    have hcap : xs.length ≤ cap ∧ cap ≤ 9223372036854775807 := by obtain ⟨a', cap', e', g1, g2, _⟩ := HR.out; simp only [Value.slice.injEq] at e'; unfold maxLen at g2; omega
    have HBY : Hid (∀ x ∈ xs, x < 256) := hid (by obtain ⟨_, _, _, _, _, _, _, h⟩ := HR.out.bytes; exact h)
    have g6 := hcell 6 (by omega)
    have h6 : xs[6] < 256 := HBY.out _ (List.getElem_mem _)
    obtain ⟨N, hN⟩ : ∃ N : Nat, N = xs[6] := ⟨_, rfl⟩
    rw [← hN] at g6 h6
    have HNB : Hid (nB xs = N) := hid (by unfold nB; rw [List.getElem?_eq_getElem (by omega), hN]; rfl)
    have hne8 : ¬ cap = 8 := by omega
    have hs1 : (8 : Int) ≤ (xs.length : Int) - 4 := by omega
    have hs2 : (xs.length : Int) - 4 ≤ (cap : Int) := by omega
    have hs3 : (0 : Int) ≤ (xs.length : Int) - 4 := by omega
    have hs4 : IntKind.i64.wrap ((xs.length : Int) - 4) = (xs.length : Int) - 4 := by simp [IntKind.wrap, IntKind.bits, IntKind.signed]; omega
    have hs6 : (6 : Int) < (xs.length : Int) := by omega
    have hwN : IntKind.i64.wrap (N : Int) = (N : Int) := by simp [IntKind.wrap, IntKind.bits, IntKind.signed]; omega
    have hs7 : ((xs.length : Int) - 4).toNat = xs.length - 4 := by omega
    have HCELL := hid hcell
    clear hcell hN
    go_enter Tryd.func32, Tryd.ntmps32
    go_upto_region 3 with fail
    generalize (w.alloc (.cells #[.int .i64 0, .int .i64 0, .int .i64 0, .slice none 0 0] 25)) = w0 at *
    have g60 := cell_later hb0 g6
    have HC0 : Hid (∀ wx : World, Below w0.heap.size w0 wx → Calls Tryd.prog 61 #[.slice (some ⟨b, off + 8, none⟩) (xs.length - 4 - 8) (cap - 8), .int .i64 (N : Int)] wx (CutPost wx (cst (bodyI xs) N N) (.iface T (.pointer (some ad))))) := hid (fun wx hbx => by
      have hbl : (bodyI xs).length = xs.length - 4 - 8 := by unfold bodyI; simp; omega
      have h := cutBuffers_any (some ⟨b, off + 8, none⟩) (cap - 8) N (bodyI xs) (.iface T (.pointer (some ad))) wx (by
        rw [hbl]
        have h2 := rdB_cut ((HR.out.later hb0).later hbx) (lo := 8) (n := xs.length - 4 - 8) (by omega)
        have e : (xs.drop 8).take (xs.length - 4 - 8) = bodyI xs := by unfold bodyI; rw [Nat.sub_sub]
        rw [e] at h2
        exact h2) (by omega) (by omega) (cell_later hbx hE0)
      rw [hbl] at h
      exact h)
    cases hc : cst (bodyI xs) N N with
    | none =>
      have HN : Hid (decI xs = none) := hid (decI_none (by rw [HNB.out]; exact hc))
      rw [HN.out]
      have HCUT : Hid (∀ wx : World, Below w0.heap.size w0 wx → Calls Tryd.prog 61 #[.slice (some ⟨b, off + 8, none⟩) (xs.length - 4 - 8) (cap - 8), .int .i64 (N : Int)] wx fun e w' => e = .returned (.tuple #[.slice none 0 0, .iface T (.pointer (some ad))]) ∧ Below wx.heap.size wx w') := hid (fun wx hbx => by
        refine (HC0.out wx hbx).mono ?_
        rintro e w' hp
        rw [hc] at hp
        exact ⟨hp.2, hp.1⟩)
      have HE0 := hid hE0
      clear hc HC0 hE0 p0 p1 p2 p3 z0 z1 z2 z3
      refine region_turns (n := 15) (by kernel_rfl) (by kernel_rfl) ?_ (fun t => { tmps := #[.slice (some ⟨b, off, none⟩) xs.length cap, undef, .pointer (some ⟨w.heap.size, 0, none⟩), .nilIface, t 13, t 14, undef, .slice (some ⟨b, off, none⟩) xs.length cap, .int .i64 ((xs.length : Nat) : Int), .bool false, undef, undef, t 10, t 0, t 1, t 2, t 3, t 4, t 5, t 6, t 7, t 8, t 9, t 11, t 12, undef, undef, undef, undef, undef, undef, undef, undef, undef, undef, undef, undef, undef, undef, undef, undef, undef, undef, undef, undef, undef, undef, undef, undef, undef, undef], defers := [] }) (pn3T b off cap xs.length N T ad w0.heap.size []) [] (Fct.any) w0 w0 (fun k => []) (fun k => !(false)) (by kernel_rfl) (fun j hj => by rcases (by omega : j = 0 ∨ j = 1 ∨ j = 2 ∨ j = 3 ∨ j = 4 ∨ j = 5 ∨ j = 6 ∨ j = 7 ∨ j = 8 ∨ j = 9 ∨ j = 10 ∨ j = 11 ∨ j = 12 ∨ j = 13 ∨ j = 14) with rfl | rfl | rfl | rfl | rfl | rfl | rfl | rfl | rfl | rfl | rfl | rfl | rfl | rfl | rfl <;> rfl) (fun j hj hp => by rcases (by omega : j = 0 ∨ j = 1 ∨ j = 2 ∨ j = 3 ∨ j = 4 ∨ j = 5 ∨ j = 6 ∨ j = 7 ∨ j = 8 ∨ j = 9 ∨ j = 10 ∨ j = 11 ∨ j = 12 ∨ j = 13 ∨ j = 14) with rfl | rfl | rfl | rfl | rfl | rfl | rfl | rfl | rfl | rfl | rfl | rfl | rfl | rfl | rfl <;> first | rfl | (exact absurd hp (by decide))) (fun j => ([undef, undef, undef, undef, undef, undef, undef, undef, undef, undef, undef, undef, undef, undef, undef] : List Value).getD j undef) (Below.refl _ w0) (trivial) ?_ ?_
      · rfl
      · intro i hi x t wx hxi hsh h0 hbx hgx hdp hall
        rcases (by omega : i = 0 ∨ i = 1 ∨ i = 2 ∨ i = 3 ∨ i = 4 ∨ i = 5 ∨ i = 6 ∨ i = 7 ∨ i = 8 ∨ i = 9 ∨ i = 10 ∨ i = 11 ∨ i = 12 ∨ i = 13 ∨ i = 14) with rfl | rfl | rfl | rfl | rfl | rfl | rfl | rfl | rfl | rfl | rfl | rfl | rfl | rfl | rfl
        · 
          try dsimp only
          clear h0
          refine wpOp_step rfl (fun K' hK => ?_)
          go_simp
          exact hK _ _ ⟨.slice (some ⟨b, off, none⟩) xs.length cap, (by simp [upd]), FX.eq_mk rfl, fun _ => Below.refl _ _, hbx⟩
        · 
          try dsimp only
          clear h0
          refine wpOp_step rfl (fun K' hK => ?_)
          go_simp
          exact hK _ _ ⟨.slice (some ⟨b, off, none⟩) xs.length cap, (by simp [upd]), FX.eq_mk rfl, fun _ => Below.refl _ _, hbx⟩
        · 
          try dsimp only
          have x1 := depX hdp 1 (by kernel_rfl)
          have d1 := hall 1 (by omega) x1
          have e1 : t 1 = .slice (some ⟨b, off, none⟩) xs.length cap := d1.1
          rw [e1]
          clear h0
          refine wpOp_step rfl (fun K' hK => ?_)
          go_simp
          exact hK _ _ ⟨.int .i64 (xs.length : Int), (by simp [upd, e1]), FX.eq_mk rfl, fun _ => Below.refl _ _, hbx⟩
        · 
          try dsimp only
          have x2 := depX hdp 2 (by kernel_rfl)
          have d2 := hall 2 (by omega) x2
          have e2 : t 2 = .int .i64 (xs.length : Int) := d2.1
          rw [e2]
          clear h0
          refine wpOp_step rfl (fun K' hK => ?_)
          go_simp
          exact hK _ _ ⟨.int .i64 ((xs.length : Int) - 4), (by simp [upd, e2]), FX.eq_mk rfl, fun _ => Below.refl _ _, hbx⟩
        · 
          try dsimp only
          have x0 := depX hdp 0 (by kernel_rfl)
          have d0 := hall 0 (by omega) x0
          have e0 : t 0 = .slice (some ⟨b, off, none⟩) xs.length cap := d0.1
          have x3 := depX hdp 3 (by kernel_rfl)
          have d3 := hall 3 (by omega) x3
          have e3 : t 3 = .int .i64 ((xs.length : Int) - 4) := d3.1
          rw [e0, e3]
          clear h0
          refine wpOp_step rfl (fun K' hK => ?_)
          go_simp
          exact hK _ _ ⟨.slice (some ⟨b, off + 8, none⟩) (xs.length - 4 - 8) (cap - 8), (by simp [upd, e0, e3]), FX.eq_mk rfl, fun _ => Below.refl _ _, hbx⟩
        · 
          try dsimp only
          clear h0
          refine wpOp_step rfl (fun K' hK => ?_)
          go_simp
          exact hK _ _ ⟨.slice (some ⟨b, off, none⟩) xs.length cap, (by simp [upd]), FX.eq_mk rfl, fun _ => Below.refl _ _, hbx⟩
        · 
          try dsimp only
          have x5 := depX hdp 5 (by kernel_rfl)
          have d5 := hall 5 (by omega) x5
          have e5 : t 5 = .slice (some ⟨b, off, none⟩) xs.length cap := d5.1
          rw [e5]
          clear h0
          refine wpOp_step rfl (fun K' hK => ?_)
          go_simp
          exact hK _ _ ⟨.pointer (some ⟨b, off + 6, none⟩), (by simp [upd, e5]), FX.eq_mk rfl, fun _ => Below.refl _ _, hbx⟩
        · 
          try dsimp only
          have x6 := depX hdp 6 (by kernel_rfl)
          have d6 := hall 6 (by omega) x6
          have e6 : t 6 = .pointer (some ⟨b, off + 6, none⟩) := d6.1
          rw [e6]
          have gq := cell_later hbx g60
          clear h0
          refine wpOp_step rfl (fun K' hK => ?_)
          go_simp
          exact hK _ _ ⟨.int .u8 (N : Int), (by simp [upd, e6]), FX.eq_mk rfl, fun _ => Below.refl _ _, hbx⟩
        · 
          try dsimp only
          have x7 := depX hdp 7 (by kernel_rfl)
          have d7 := hall 7 (by omega) x7
          have e7 : t 7 = .int .u8 (N : Int) := d7.1
          rw [e7]
          clear h0
          refine wpOp_step rfl (fun K' hK => ?_)
          go_simp
          exact hK _ _ ⟨.int .i64 (N : Int), (by simp [upd, e7]), FX.eq_mk rfl, fun _ => Below.refl _ _, hbx⟩
        · 
          try dsimp only
          have x4 := depX hdp 4 (by kernel_rfl)
          have d4 := hall 4 (by omega) x4
          have e4 : t 4 = .slice (some ⟨b, off + 8, none⟩) (xs.length - 4 - 8) (cap - 8) := d4.1
          have x8 := depX hdp 8 (by kernel_rfl)
          have d8 := hall 8 (by omega) x8
          have e8 : t 8 = .int .i64 (N : Int) := d8.1
          rw [e4, e8]
          clear h0
          refine wpOp_step rfl (fun K' hK => ?_)
          go_simp
          refine (HCUT.out wx hbx).mono ?_
          rintro e w1 ⟨rfl, bl⟩
          exact hK _ _ ⟨.tuple #[.slice none 0 0, .iface T (.pointer (some ad))], (by simp [upd, e4, e8]), FX.eq_mk rfl, fun _ => bl, below_chain hbx bl⟩
        · 
          try dsimp only
          have x9 := depX hdp 9 (by kernel_rfl)
          have d9 := hall 9 (by omega) x9
          have e9 : t 9 = .tuple #[.slice none 0 0, .iface T (.pointer (some ad))] := d9.1
          rw [e9]
          clear h0
          refine wpOp_step rfl (fun K' hK => ?_)
          go_simp
          exact hK _ _ ⟨.tuple #[.slice none 0 0, .iface T (.pointer (some ad))], (by simp [upd, e9]), FX.eq_mk rfl, fun _ => Below.refl _ _, hbx⟩
        · 
          try dsimp only
          have x10 := depX hdp 10 (by kernel_rfl)
          have d10 := hall 10 (by omega) x10
          have e10 : t 10 = .tuple #[.slice none 0 0, .iface T (.pointer (some ad))] := d10.1
          rw [e10]
          clear h0
          refine wpOp_step rfl (fun K' hK => ?_)
          go_simp
          exact hK _ _ ⟨.slice none 0 0, (by simp [upd, e10]), FX.eq_mk rfl, fun _ => Below.refl _ _, hbx⟩
        · 
          try dsimp only
          have x10 := depX hdp 10 (by kernel_rfl)
          have d10 := hall 10 (by omega) x10
          have e10 : t 10 = .tuple #[.slice none 0 0, .iface T (.pointer (some ad))] := d10.1
          rw [e10]
          clear h0
          refine wpOp_step rfl (fun K' hK => ?_)
          go_simp
          exact hK _ _ ⟨.iface T (.pointer (some ad)), (by simp [upd, e10]), FX.eq_mk rfl, fun _ => Below.refl _ _, hbx⟩
        · 
          try dsimp only
          have x11 := depX hdp 11 (by kernel_rfl)
          have d11 := hall 11 (by omega) x11
          have e11 : t 11 = .slice none 0 0 := d11.1
          rw [e11]
          clear h0
          refine wpOp_step rfl (fun K' hK => ?_)
          go_simp
          exact hK _ _ ⟨.slice none 0 0, (by simp [upd, e11]), FX.eq_mk rfl, fun _ => Below.refl _ _, hbx⟩
        · 
          try dsimp only
          have x12 := depX hdp 12 (by kernel_rfl)
          have d12 := hall 12 (by omega) x12
          have e12 : t 12 = .iface T (.pointer (some ad)) := d12.1
          rw [e12]
          clear h0
          refine wpOp_step rfl (fun K' hK => ?_)
          go_simp
          exact hK _ _ ⟨.iface T (.pointer (some ad)), (by simp [upd, e12]), FX.eq_mk rfl, fun _ => Below.refl _ _, hbx⟩
      · intro x t wx hx hbx hall
        have e13 : t 13 = .slice none 0 0 := (hall 13 (by omega)).1
        have e14 : t 14 = .iface T (.pointer (some ad)) := (hall 14 (by omega)).1
        try dsimp only
        rw [e13, e14]
        generalize t 0 = y0
        generalize t 1 = y1
        generalize t 2 = y2
        generalize t 3 = y3
        generalize t 4 = y4
        generalize t 5 = y5
        generalize t 6 = y6
        generalize t 7 = y7
        generalize t 8 = y8
        generalize t 9 = y9
        generalize t 10 = y10
        generalize t 11 = y11
        generalize t 12 = y12
        have HB3 := hid hbx
        clear hall hbx hx e13 e14
        have hE3 := cell_later HB3.out HE0.out
        have HK3 : Hid (wx.heap[w.heap.size]? = some (.cells #[.int .i64 0, .int .i64 0, .int .i64 0, .slice none 0 0] 25 (0, 0))) := hid ((HB3.out.block _ (Array.getElem?_eq_some_iff.1 HK0.out).1).trans HK0.out)
        have p0 := cell_of_row _ _ 0 _ _ _ HK3.out
        have zp0 := frozen_of_row _ _ 0 _ _ HK3.out
        have p1 := cell_of_row _ _ 1 _ _ _ HK3.out
        have zp1 := frozen_of_row _ _ 1 _ _ HK3.out
        have p2 := cell_of_row _ _ 2 _ _ _ HK3.out
        have zp2 := frozen_of_row _ _ 2 _ _ HK3.out
        have p3 := cell_of_row _ _ 3 _ _ _ HK3.out
        have zp3 := frozen_of_row _ _ 3 _ _ HK3.out
        simp only [List.getElem?_toArray, List.getElem?_cons_zero, List.getElem?_cons_succ] at p0 p1 p2 p3
        go_wp2
        refine bodyPost_ret (results_cell_row_tmpD rfl _ _ w.heap.size 25 #[.int .i64 0, .int .i64 0, .int .i64 0, .slice none 0 0] (0, 0) _ rfl (set4 HK3.out) Tryd.underlying25 rfl (by kernel_rfl)) rfl ?_
        unfold ParsePost
        rw [HN.out]
        exact ⟨set4b (below_chain hb0 HB3.out) (Nat.le_refl _), rfl⟩
    | some rr =>
      obtain ⟨bs, q⟩ := rr
      have HCS : Hid (cst (bodyI xs) (nB xs) (nB xs) = some (bs, q)) := hid (by rw [HNB.out]; exact hc)
      have HCUT : Hid (∀ wx : World, Below w0.heap.size w0 wx → Calls Tryd.prog 61 #[.slice (some ⟨b, off + 8, none⟩) (xs.length - 4 - 8) (cap - 8), .int .i64 (N : Int)] wx fun e w' => ∃ v, e = .returned (.tuple #[v, .nilIface]) ∧ CutV w0.heap.size bs v w' ∧ Below wx.heap.size wx w') := hid (fun wx hbx => by
        refine (HC0.out wx hbx).mono ?_
        rintro e w' hp
        rw [hc] at hp
        obtain ⟨hb, v, bl, rfl, o, l, n⟩ := hp
        exact ⟨v, rfl, cutV_of o l n hbx.size, hb⟩)
      have HE0 := hid hE0
      clear hc HC0 hE0 p0 p1 p2 p3 z0 z1 z2 z3
      refine region_turns (n := 15) (by kernel_rfl) (by kernel_rfl) ?_ (fun t => { tmps := #[.slice (some ⟨b, off, none⟩) xs.length cap, undef, .pointer (some ⟨w.heap.size, 0, none⟩), .nilIface, t 13, t 14, undef, .slice (some ⟨b, off, none⟩) xs.length cap, .int .i64 ((xs.length : Nat) : Int), .bool false, undef, undef, t 10, t 0, t 1, t 2, t 3, t 4, t 5, t 6, t 7, t 8, t 9, t 11, t 12, undef, undef, undef, undef, undef, undef, undef, undef, undef, undef, undef, undef, undef, undef, undef, undef, undef, undef, undef, undef, undef, undef, undef, undef, undef, undef], defers := [] }) (ps3T b off cap xs.length N T ad w0.heap.size bs) [] (Fct.any) w0 w0 (fun k => []) (fun k => !(k == 9 || k == 10 || k == 11 || k == 13)) (by kernel_rfl) (fun j hj => by rcases (by omega : j = 0 ∨ j = 1 ∨ j = 2 ∨ j = 3 ∨ j = 4 ∨ j = 5 ∨ j = 6 ∨ j = 7 ∨ j = 8 ∨ j = 9 ∨ j = 10 ∨ j = 11 ∨ j = 12 ∨ j = 13 ∨ j = 14) with rfl | rfl | rfl | rfl | rfl | rfl | rfl | rfl | rfl | rfl | rfl | rfl | rfl | rfl | rfl <;> rfl) (fun j hj hp => by rcases (by omega : j = 0 ∨ j = 1 ∨ j = 2 ∨ j = 3 ∨ j = 4 ∨ j = 5 ∨ j = 6 ∨ j = 7 ∨ j = 8 ∨ j = 9 ∨ j = 10 ∨ j = 11 ∨ j = 12 ∨ j = 13 ∨ j = 14) with rfl | rfl | rfl | rfl | rfl | rfl | rfl | rfl | rfl | rfl | rfl | rfl | rfl | rfl | rfl <;> first | rfl | (exact absurd hp (by decide))) (fun j => ([undef, undef, undef, undef, undef, undef, undef, undef, undef, undef, undef, undef, undef, undef, undef] : List Value).getD j undef) (Below.refl _ w0) (trivial) ?_ ?_
      · rfl
      · intro i hi x t wx hxi hsh h0 hbx hgx hdp hall
        rcases (by omega : i = 0 ∨ i = 1 ∨ i = 2 ∨ i = 3 ∨ i = 4 ∨ i = 5 ∨ i = 6 ∨ i = 7 ∨ i = 8 ∨ i = 9 ∨ i = 10 ∨ i = 11 ∨ i = 12 ∨ i = 13 ∨ i = 14) with rfl | rfl | rfl | rfl | rfl | rfl | rfl | rfl | rfl | rfl | rfl | rfl | rfl | rfl | rfl
        · 
          try dsimp only
          clear h0
          refine wpOp_step rfl (fun K' hK => ?_)
          go_simp
          exact hK _ _ ⟨.slice (some ⟨b, off, none⟩) xs.length cap, (by simp [upd]), FX.eq_mk rfl, fun _ => Below.refl _ _, hbx⟩
        · 
          try dsimp only
          clear h0
          refine wpOp_step rfl (fun K' hK => ?_)
          go_simp
          exact hK _ _ ⟨.slice (some ⟨b, off, none⟩) xs.length cap, (by simp [upd]), FX.eq_mk rfl, fun _ => Below.refl _ _, hbx⟩
        · 
          try dsimp only
          have x1 := depX hdp 1 (by kernel_rfl)
          have d1 := hall 1 (by omega) x1
          have e1 : t 1 = .slice (some ⟨b, off, none⟩) xs.length cap := d1.1
          rw [e1]
          clear h0
          refine wpOp_step rfl (fun K' hK => ?_)
          go_simp
          exact hK _ _ ⟨.int .i64 (xs.length : Int), (by simp [upd, e1]), FX.eq_mk rfl, fun _ => Below.refl _ _, hbx⟩
        · 
          try dsimp only
          have x2 := depX hdp 2 (by kernel_rfl)
          have d2 := hall 2 (by omega) x2
          have e2 : t 2 = .int .i64 (xs.length : Int) := d2.1
          rw [e2]
          clear h0
          refine wpOp_step rfl (fun K' hK => ?_)
          go_simp
          exact hK _ _ ⟨.int .i64 ((xs.length : Int) - 4), (by simp [upd, e2]), FX.eq_mk rfl, fun _ => Below.refl _ _, hbx⟩
        · 
          try dsimp only
          have x0 := depX hdp 0 (by kernel_rfl)
          have d0 := hall 0 (by omega) x0
          have e0 : t 0 = .slice (some ⟨b, off, none⟩) xs.length cap := d0.1
          have x3 := depX hdp 3 (by kernel_rfl)
          have d3 := hall 3 (by omega) x3
          have e3 : t 3 = .int .i64 ((xs.length : Int) - 4) := d3.1
          rw [e0, e3]
          clear h0
          refine wpOp_step rfl (fun K' hK => ?_)
          go_simp
          exact hK _ _ ⟨.slice (some ⟨b, off + 8, none⟩) (xs.length - 4 - 8) (cap - 8), (by simp [upd, e0, e3]), FX.eq_mk rfl, fun _ => Below.refl _ _, hbx⟩
        · 
          try dsimp only
          clear h0
          refine wpOp_step rfl (fun K' hK => ?_)
          go_simp
          exact hK _ _ ⟨.slice (some ⟨b, off, none⟩) xs.length cap, (by simp [upd]), FX.eq_mk rfl, fun _ => Below.refl _ _, hbx⟩
        · 
          try dsimp only
          have x5 := depX hdp 5 (by kernel_rfl)
          have d5 := hall 5 (by omega) x5
          have e5 : t 5 = .slice (some ⟨b, off, none⟩) xs.length cap := d5.1
          rw [e5]
          clear h0
          refine wpOp_step rfl (fun K' hK => ?_)
          go_simp
          exact hK _ _ ⟨.pointer (some ⟨b, off + 6, none⟩), (by simp [upd, e5]), FX.eq_mk rfl, fun _ => Below.refl _ _, hbx⟩
        · 
          try dsimp only
          have x6 := depX hdp 6 (by kernel_rfl)
          have d6 := hall 6 (by omega) x6
          have e6 : t 6 = .pointer (some ⟨b, off + 6, none⟩) := d6.1
          rw [e6]
          have gq := cell_later hbx g60
          clear h0
          refine wpOp_step rfl (fun K' hK => ?_)
          go_simp
          exact hK _ _ ⟨.int .u8 (N : Int), (by simp [upd, e6]), FX.eq_mk rfl, fun _ => Below.refl _ _, hbx⟩
        · 
          try dsimp only
          have x7 := depX hdp 7 (by kernel_rfl)
          have d7 := hall 7 (by omega) x7
          have e7 : t 7 = .int .u8 (N : Int) := d7.1
          rw [e7]
          clear h0
          refine wpOp_step rfl (fun K' hK => ?_)
          go_simp
          exact hK _ _ ⟨.int .i64 (N : Int), (by simp [upd, e7]), FX.eq_mk rfl, fun _ => Below.refl _ _, hbx⟩
        · 
          try dsimp only
          have x4 := depX hdp 4 (by kernel_rfl)
          have d4 := hall 4 (by omega) x4
          have e4 : t 4 = .slice (some ⟨b, off + 8, none⟩) (xs.length - 4 - 8) (cap - 8) := d4.1
          have x8 := depX hdp 8 (by kernel_rfl)
          have d8 := hall 8 (by omega) x8
          have e8 : t 8 = .int .i64 (N : Int) := d8.1
          rw [e4, e8]
          clear h0
          refine wpOp_step rfl (fun K' hK => ?_)
          go_simp
          refine (HCUT.out wx hbx).mono ?_
          rintro e w1 ⟨v9, rfl, h9, bl⟩
          exact hK _ _ ⟨_, (by simp [upd, e4, e8]), FX.is_mk ⟨v9, rfl, h9⟩, fun _ => bl, below_chain hbx bl⟩
        · 
          try dsimp only
          have x9 := depX hdp 9 (by kernel_rfl)
          have d9 := hall 9 (by omega) x9
          obtain ⟨u9, e9, h9⟩ : (fcCutT w0.heap.size bs).p (t 9) wx := FX.is_of d9
          rw [e9]
          clear h0
          refine wpOp_step rfl (fun K' hK => ?_)
          go_simp
          exact hK _ _ ⟨.tuple #[u9, .nilIface], (by simp [upd, e9]), FX.is_mk ⟨u9, rfl, h9⟩, fun _ => Below.refl _ _, hbx⟩
        · 
          try dsimp only
          have x10 := depX hdp 10 (by kernel_rfl)
          have d10 := hall 10 (by omega) x10
          obtain ⟨u9, e9, h9⟩ : (fcCutT w0.heap.size bs).p (t 10) wx := FX.is_of d10
          rw [e9]
          clear h0
          refine wpOp_step rfl (fun K' hK => ?_)
          go_simp
          exact hK _ _ ⟨u9, (by simp [upd, e9]), FX.is_mk h9, fun _ => Below.refl _ _, hbx⟩
        · 
          try dsimp only
          have x10 := depX hdp 10 (by kernel_rfl)
          have d10 := hall 10 (by omega) x10
          obtain ⟨u9, e9, h9⟩ : (fcCutT w0.heap.size bs).p (t 10) wx := FX.is_of d10
          rw [e9]
          clear h0
          refine wpOp_step rfl (fun K' hK => ?_)
          go_simp
          exact hK _ _ ⟨.nilIface, (by simp [upd, e9]), FX.eq_mk rfl, fun _ => Below.refl _ _, hbx⟩
        · 
          try dsimp only
          have x11 := depX hdp 11 (by kernel_rfl)
          have d11 := hall 11 (by omega) x11
          have h9 : CutV w0.heap.size bs (t 11) wx := FX.is_of d11
          clear h0
          refine wpOp_step rfl (fun K' hK => ?_)
          go_simp
          exact hK _ _ ⟨t 11, (by simp [upd]), FX.is_mk h9, fun _ => Below.refl _ _, hbx⟩
        · 
          try dsimp only
          have x12 := depX hdp 12 (by kernel_rfl)
          have d12 := hall 12 (by omega) x12
          have e12 : t 12 = .nilIface := d12.1
          rw [e12]
          clear h0
          refine wpOp_step rfl (fun K' hK => ?_)
          go_simp
          exact hK _ _ ⟨.nilIface, (by simp [upd, e12]), FX.eq_mk rfl, fun _ => Below.refl _ _, hbx⟩
      · intro x t wx hx hbx hall
        obtain ⟨aV, cV, blV, e13, oV, lV, nV⟩ : CutV w0.heap.size bs (t 13) wx := FX.is_of (hall 13 (by omega))
        have e14 : t 14 = .nilIface := (hall 14 (by omega)).1
        try dsimp only
        rw [e13, e14]
        generalize t 0 = y0
        generalize t 1 = y1
        generalize t 2 = y2
        generalize t 3 = y3
        generalize t 4 = y4
        generalize t 5 = y5
        generalize t 6 = y6
        generalize t 7 = y7
        generalize t 8 = y8
        generalize t 9 = y9
        generalize t 10 = y10
        generalize t 11 = y11
        generalize t 12 = y12
        have HOV := hid oV
        have HLV := hid lV
        have HB3 := hid hbx
        clear hall hbx hx e13 e14 oV lV
        have HK3 : Hid (wx.heap[w.heap.size]? = some (.cells #[.int .i64 0, .int .i64 0, .int .i64 0, .slice none 0 0] 25 (0, 0))) := hid ((HB3.out.block _ (Array.getElem?_eq_some_iff.1 HK0.out).1).trans HK0.out)
        have B3 := below_chain hb0 HB3.out
        obtain ⟨w3, hw3⟩ : ∃ V, V = wx := ⟨_, rfl⟩
        subst hw3
        have g2 := cell_later B3 (HCELL.out 2 (by omega))
        have g3 := cell_later B3 (HCELL.out 3 (by omega))
        have h2 : xs[2] < 256 := HBY.out _ (List.getElem_mem _)
        have h3 : xs[3] < 256 := HBY.out _ (List.getElem_mem _)
        obtain ⟨K, hK2⟩ : ∃ K : Nat, K = xs[2] := ⟨_, rfl⟩
        obtain ⟨F, hF3⟩ : ∃ F : Nat, F = xs[3] := ⟨_, rfl⟩
        obtain ⟨C, hC4⟩ : ∃ C : Nat, C = num ((xs.drop 4).take 2) := ⟨_, rfl⟩
        rw [← hK2] at g2 h2
        rw [← hF3] at g3 h3
        have hCb : C < 65536 := by
          have h := num_lt (chunk xs 2 2) (chunk_lt HBY.out)
          rw [chunk_len (by omega)] at h
          rw [hC4]
          exact h
        have HMI : Hid (msgI xs bs = ⟨(K : Int), (F : Int), (C : Int), bs⟩) := hid (by
          unfold msgI
          rw [List.getElem?_eq_getElem (by omega), List.getElem?_eq_getElem (by omega), hK2, hF3, hC4]
          rfl)
        have HRN : Hid (∀ wx : World, Below w3.heap.size w3 wx → Calls Tryd.prog 62 #[.slice (some ⟨b, off + 4, none⟩) 2 (cap - 4)] wx fun e w' => e = .returned (.int .u16 (C : Int)) ∧ w' = wx) := hid (fun wx hbx => by
          have h := readc_u16 b off (off + 4) (cap - 4) 2 2 xs wx (fun i h => cell_later (below_chain B3 hbx) (HCELL.out i h)) HBY.out (by omega) rfl rfl
          have e : IntKind.u16.wrap ((num (chunk xs 2 2) : Nat) : Int) = (C : Int) := by
            rw [show num (chunk xs 2 2) = C from hC4.symm]
            simp [IntKind.wrap, IntKind.bits, IntKind.signed]; omega
          rwa [e] at h)
        have hwK : IntKind.i64.wrap (K : Int) = (K : Int) := by simp [IntKind.wrap, IntKind.bits, IntKind.signed]; omega
        have hwF : IntKind.i64.wrap (F : Int) = (F : Int) := by simp [IntKind.wrap, IntKind.bits, IntKind.signed]; omega
        have hwC : IntKind.i64.wrap (C : Int) = (C : Int) := by simp [IntKind.wrap, IntKind.bits, IntKind.signed]; omega
        have hne4 : ¬ cap = 4 := by omega
        have hs8 : (2 : Int) < (xs.length : Int) := by omega
        have hs9 : (3 : Int) < (xs.length : Int) := by omega
        have hs10 : (6 : Int) ≤ (cap : Int) := by omega
        clear hK2 hF3 hC4
        go_upto_region 6 with fail
        refine region_turns3 (n := 16) (by kernel_rfl) (by kernel_rfl) ?_ (fun t => { tmps := #[.slice (some ⟨b, off, none⟩) xs.length cap, undef, .pointer (some ⟨w.heap.size, 0, none⟩), .nilIface, .slice aV bs.length cV, .nilIface, t 14, .slice (some ⟨b, off, none⟩) xs.length cap, .int .i64 ((xs.length : Nat) : Int), .bool false, undef, undef, y10, y0, y1, y2, y3, y4, y5, y6, y7, y8, y9, y11, y12, .nilIface, .bool false, undef, undef, t 0, t 1, t 2, t 3, t 4, t 5, t 6, t 7, t 8, t 9, t 10, t 11, t 12, t 13, undef, undef, undef, undef, undef, undef, undef, undef], defers := [] }) (p6T b off cap xs.length K F C aV bs.length cV w3.heap.size) [15] (Fct.any) (p6H w3.heap.size #[.int .i64 (K : Int), .int .i64 (F : Int), .int .i64 (C : Int), .slice aV bs.length cV]) w3 w3 (fun k => if k = 14 then [15] else []) (fun k => !(k == 14 || k == 15)) (fun _ _ _ => True) [15] (fun _ _ => false) (by kernel_rfl) (fun _ _ _ _ h => by cases h) (fun i hi hn => absurd hi hn) (fun j hj => by rcases (by omega : j = 0 ∨ j = 1 ∨ j = 2 ∨ j = 3 ∨ j = 4 ∨ j = 5 ∨ j = 6 ∨ j = 7 ∨ j = 8 ∨ j = 9 ∨ j = 10 ∨ j = 11 ∨ j = 12 ∨ j = 13 ∨ j = 14 ∨ j = 15) with rfl | rfl | rfl | rfl | rfl | rfl | rfl | rfl | rfl | rfl | rfl | rfl | rfl | rfl | rfl | rfl <;> rfl) (fun j hj hp => by rcases (by omega : j = 0 ∨ j = 1 ∨ j = 2 ∨ j = 3 ∨ j = 4 ∨ j = 5 ∨ j = 6 ∨ j = 7 ∨ j = 8 ∨ j = 9 ∨ j = 10 ∨ j = 11 ∨ j = 12 ∨ j = 13 ∨ j = 14 ∨ j = 15) with rfl | rfl | rfl | rfl | rfl | rfl | rfl | rfl | rfl | rfl | rfl | rfl | rfl | rfl | rfl | rfl <;> first | rfl | (exact absurd hp (by decide))) (fun j => ([undef, undef, undef, undef, undef, undef, undef, undef, undef, undef, undef, undef, undef, undef, undef, undef] : List Value).getD j undef) (fun h => by cases h) (Below.refl _ w3) (trivial) ?_ ?_
        · rfl
        · intro i hi x t wx hxi hsh h0 hbx hgx hdp hall hHx
          rcases (by omega : i = 0 ∨ i = 1 ∨ i = 2 ∨ i = 3 ∨ i = 4 ∨ i = 5 ∨ i = 6 ∨ i = 7 ∨ i = 8 ∨ i = 9 ∨ i = 10 ∨ i = 11 ∨ i = 12 ∨ i = 13 ∨ i = 14 ∨ i = 15) with rfl | rfl | rfl | rfl | rfl | rfl | rfl | rfl | rfl | rfl | rfl | rfl | rfl | rfl | rfl | rfl
          · 
            try dsimp only
            have hy := notYet hsh hxi 15 (by kernel_rfl)
            clear h0
            refine wpOp_step rfl (fun K' hK => ?_)
            go_simp
            exact hK _ _ ⟨.slice (some ⟨b, off, none⟩) xs.length cap, (by simp [upd]), FX.eq_mk rfl, fun _ => Below.refl _ _, fun h => absurd h (by decide), hbx, fun h => absurd h (by simp [hy])⟩
          · 
            try dsimp only
            have x0 := depX hdp 0 (by kernel_rfl)
            have d0 := hall 0 (by omega) x0
            have e0 : t 0 = .slice (some ⟨b, off, none⟩) xs.length cap := d0.1
            rw [e0]
            have hy := notYet hsh hxi 15 (by kernel_rfl)
            clear h0
            refine wpOp_step rfl (fun K' hK => ?_)
            go_simp
            exact hK _ _ ⟨.pointer (some ⟨b, off + 2, none⟩), (by simp [upd, e0]), FX.eq_mk rfl, fun _ => Below.refl _ _, fun h => absurd h (by decide), hbx, fun h => absurd h (by simp [hy])⟩
          · 
            try dsimp only
            have x1 := depX hdp 1 (by kernel_rfl)
            have d1 := hall 1 (by omega) x1
            have e1 : t 1 = .pointer (some ⟨b, off + 2, none⟩) := d1.1
            rw [e1]
            have hy := notYet hsh hxi 15 (by kernel_rfl)
            have gq := cell_later hbx g2
            clear h0
            refine wpOp_step rfl (fun K' hK => ?_)
            go_simp
            exact hK _ _ ⟨.int .u8 (K : Int), (by simp [upd, e1]), FX.eq_mk rfl, fun _ => Below.refl _ _, fun h => absurd h (by decide), hbx, fun h => absurd h (by simp [hy])⟩
          · 
            try dsimp only
            have x2 := depX hdp 2 (by kernel_rfl)
            have d2 := hall 2 (by omega) x2
            have e2 : t 2 = .int .u8 (K : Int) := d2.1
            rw [e2]
            have hy := notYet hsh hxi 15 (by kernel_rfl)
            clear h0
            refine wpOp_step rfl (fun K' hK => ?_)
            go_simp
            exact hK _ _ ⟨.int .i64 (K : Int), (by simp [upd, e2]), FX.eq_mk rfl, fun _ => Below.refl _ _, fun h => absurd h (by decide), hbx, fun h => absurd h (by simp [hy])⟩
          · 
            try dsimp only
            have hy := notYet hsh hxi 15 (by kernel_rfl)
            clear h0
            refine wpOp_step rfl (fun K' hK => ?_)
            go_simp
            exact hK _ _ ⟨.slice (some ⟨b, off, none⟩) xs.length cap, (by simp [upd]), FX.eq_mk rfl, fun _ => Below.refl _ _, fun h => absurd h (by decide), hbx, fun h => absurd h (by simp [hy])⟩
          · 
            try dsimp only
            have x4 := depX hdp 4 (by kernel_rfl)
            have d4 := hall 4 (by omega) x4
            have e4 : t 4 = .slice (some ⟨b, off, none⟩) xs.length cap := d4.1
            rw [e4]
            have hy := notYet hsh hxi 15 (by kernel_rfl)
            clear h0
            refine wpOp_step rfl (fun K' hK => ?_)
            go_simp
            exact hK _ _ ⟨.pointer (some ⟨b, off + 3, none⟩), (by simp [upd, e4]), FX.eq_mk rfl, fun _ => Below.refl _ _, fun h => absurd h (by decide), hbx, fun h => absurd h (by simp [hy])⟩
          · 
            try dsimp only
            have x5 := depX hdp 5 (by kernel_rfl)
            have d5 := hall 5 (by omega) x5
            have e5 : t 5 = .pointer (some ⟨b, off + 3, none⟩) := d5.1
            rw [e5]
            have hy := notYet hsh hxi 15 (by kernel_rfl)
            have gq := cell_later hbx g3
            clear h0
            refine wpOp_step rfl (fun K' hK => ?_)
            go_simp
            exact hK _ _ ⟨.int .u8 (F : Int), (by simp [upd, e5]), FX.eq_mk rfl, fun _ => Below.refl _ _, fun h => absurd h (by decide), hbx, fun h => absurd h (by simp [hy])⟩
          · 
            try dsimp only
            have x6 := depX hdp 6 (by kernel_rfl)
            have d6 := hall 6 (by omega) x6
            have e6 : t 6 = .int .u8 (F : Int) := d6.1
            rw [e6]
            have hy := notYet hsh hxi 15 (by kernel_rfl)
            clear h0
            refine wpOp_step rfl (fun K' hK => ?_)
            go_simp
            exact hK _ _ ⟨.int .i64 (F : Int), (by simp [upd, e6]), FX.eq_mk rfl, fun _ => Below.refl _ _, fun h => absurd h (by decide), hbx, fun h => absurd h (by simp [hy])⟩
          · 
            try dsimp only
            have hy := notYet hsh hxi 15 (by kernel_rfl)
            clear h0
            refine wpOp_step rfl (fun K' hK => ?_)
            go_simp
            exact hK _ _ ⟨.slice (some ⟨b, off, none⟩) xs.length cap, (by simp [upd]), FX.eq_mk rfl, fun _ => Below.refl _ _, fun h => absurd h (by decide), hbx, fun h => absurd h (by simp [hy])⟩
          · 
            try dsimp only
            have x8 := depX hdp 8 (by kernel_rfl)
            have d8 := hall 8 (by omega) x8
            have e8 : t 8 = .slice (some ⟨b, off, none⟩) xs.length cap := d8.1
            rw [e8]
            have hy := notYet hsh hxi 15 (by kernel_rfl)
            clear h0
            refine wpOp_step rfl (fun K' hK => ?_)
            go_simp
            exact hK _ _ ⟨.slice (some ⟨b, off + 4, none⟩) 2 (cap - 4), (by simp [upd, e8]), FX.eq_mk rfl, fun _ => Below.refl _ _, fun h => absurd h (by decide), hbx, fun h => absurd h (by simp [hy])⟩
          · 
            try dsimp only
            have x9 := depX hdp 9 (by kernel_rfl)
            have d9 := hall 9 (by omega) x9
            have e9 : t 9 = .slice (some ⟨b, off + 4, none⟩) 2 (cap - 4) := d9.1
            rw [e9]
            have hy := notYet hsh hxi 15 (by kernel_rfl)
            clear h0
            refine wpOp_step rfl (fun K' hK => ?_)
            go_simp
            refine (HRN.out wx hbx).mono ?_
            rintro e w1 ⟨rfl, hw⟩
            subst hw
            exact hK _ _ ⟨.int .u16 (C : Int), (by simp [upd, e9]), FX.eq_mk rfl, fun _ => Below.refl _ _, fun h => absurd h (by decide), hbx, fun h => absurd h (by simp [hy])⟩
          · 
            try dsimp only
            have x10 := depX hdp 10 (by kernel_rfl)
            have d10 := hall 10 (by omega) x10
            have e10 : t 10 = .int .u16 (C : Int) := d10.1
            rw [e10]
            have hy := notYet hsh hxi 15 (by kernel_rfl)
            clear h0
            refine wpOp_step rfl (fun K' hK => ?_)
            go_simp
            exact hK _ _ ⟨.int .i64 (C : Int), (by simp [upd, e10]), FX.eq_mk rfl, fun _ => Below.refl _ _, fun h => absurd h (by decide), hbx, fun h => absurd h (by simp [hy])⟩
          · 
            try dsimp only
            have hy := notYet hsh hxi 15 (by kernel_rfl)
            clear h0
            refine wpOp_step rfl (fun K' hK => ?_)
            go_simp
            exact hK _ _ ⟨.slice aV bs.length cV, (by simp [upd]), FX.eq_mk rfl, fun _ => Below.refl _ _, fun h => absurd h (by decide), hbx, fun h => absurd h (by simp [hy])⟩
          · 
            try dsimp only
            have x3 := depX hdp 3 (by kernel_rfl)
            have d3 := hall 3 (by omega) x3
            have e3 : t 3 = .int .i64 (K : Int) := d3.1
            have x7 := depX hdp 7 (by kernel_rfl)
            have d7 := hall 7 (by omega) x7
            have e7 : t 7 = .int .i64 (F : Int) := d7.1
            have x11 := depX hdp 11 (by kernel_rfl)
            have d11 := hall 11 (by omega) x11
            have e11 : t 11 = .int .i64 (C : Int) := d11.1
            have x12 := depX hdp 12 (by kernel_rfl)
            have d12 := hall 12 (by omega) x12
            have e12 : t 12 = .slice aV bs.length cV := d12.1
            rw [e3, e7, e11, e12]
            have hy := notYet hsh hxi 15 (by kernel_rfl)
            clear h0
            refine wpOp_step rfl (fun K' hK => ?_)
            go_simp
            exact hK _ _ ⟨.agg #[.int .i64 (K : Int), .int .i64 (F : Int), .int .i64 (C : Int), .slice aV bs.length cV], (by simp [upd, e3, e7, e11, e12]), FX.eq_mk rfl, fun _ => Below.refl _ _, fun h => absurd h (by decide), hbx, fun h => absurd h (by simp [hy])⟩
          · 
            try dsimp only
            have hy := notYet hsh hxi 15 (by kernel_rfl)
            clear h0
            refine wpOp_step rfl (fun K' hK => ?_)
            go_simp
            exact hK _ _ ⟨.pointer (some ⟨wx.heap.size, 0, none⟩), (by simp [upd]), FX.pre_mk ⟨wx.heap.size, rfl, hbx.size, heap_alloc_new wx _⟩, fun _ => below_new1 _ _, fun h => absurd h (by decide), below_chain hbx (below_new1 _ _), fun h => absurd h (by simp [hy])⟩
          · 
            try dsimp only
            have x14 := depX hdp 14 (by kernel_rfl)
            have d14 := hall 14 (by omega) x14
            have x13 := depX hdp 13 (by kernel_rfl)
            have d13 := hall 13 (by omega) x13
            have e13 : t 13 = .agg #[.int .i64 (K : Int), .int .i64 (F : Int), .int .i64 (C : Int), .slice aV bs.length cV] := d13.1
            rw [e13]
            obtain ⟨g, e14, lg, hbox⟩ : (fcNewP w3.heap.size).p (t 14) wx := FX.pre_of d14 hxi
            rw [e14]
            have k0 := cell_of_row _ _ 0 _ _ _ hbox
            have zk0 := frozen_of_row _ _ 0 _ _ hbox
            have k1 := cell_of_row _ _ 1 _ _ _ hbox
            have zk1 := frozen_of_row _ _ 1 _ _ hbox
            have k2 := cell_of_row _ _ 2 _ _ _ hbox
            have zk2 := frozen_of_row _ _ 2 _ _ hbox
            have k3 := cell_of_row _ _ 3 _ _ _ hbox
            have zk3 := frozen_of_row _ _ 3 _ _ hbox
            simp only [List.getElem?_toArray, List.getElem?_cons_zero, List.getElem?_cons_succ] at k0 k1 k2 k3
            have HBOX := hid hbox
            clear hbox hHx
            clear h0
            refine wpOp_step rfl (fun K' hK => ?_)
            go_simp
            exact hK _ _ ⟨undef, (by simp [upd, e14, e13]), FX.is_mk trivial, fun h => absurd (by decide) h, fun _ => trivial, set4b hbx lg, fun _ => ⟨g, by simp [upd, e14], lg, set4 HBOX.out⟩⟩
        · intro x t wx hx hbx hall hHx
          obtain ⟨gM, e14, lg, hbox⟩ := hHx (hx 15 (by omega))
          try dsimp only
          rw [e14]
          generalize t 0 = x0
          generalize t 1 = x1
          generalize t 2 = x2
          generalize t 3 = x3
          generalize t 4 = x4
          generalize t 5 = x5
          generalize t 6 = x6
          generalize t 7 = x7
          generalize t 8 = x8
          generalize t 9 = x9
          generalize t 10 = x10
          generalize t 11 = x11
          generalize t 12 = x12
          generalize t 13 = x13
          have HBM := hid hbox
          have HLG := hid lg
          have HB6 := hid hbx
          clear hall hbx hx e14 hHx hbox lg HRN hwK hwF hwC
          obtain ⟨w6, hw6⟩ : ∃ V, V = wx := ⟨_, rfl⟩
          subst hw6
          have B6 := below_chain B3 HB6.out
          have p0 := cell_of_row _ _ 0 _ _ _ HBM.out
          have p1 := cell_of_row _ _ 1 _ _ _ HBM.out
          have p2 := cell_of_row _ _ 2 _ _ _ HBM.out
          have p3 := cell_of_row _ _ 3 _ _ _ HBM.out
          simp only [List.getElem?_toArray, List.getElem?_cons_zero, List.getElem?_cons_succ] at p0 p1 p2 p3
          have HO6 := hid (HOV.out.kept (fun y hy => HB6.out.block y (HOV.out.lt y hy)))
          go_wp2_with fail
          have HTOT : Hid (totL List.length bs ≤ 1048576) := hid (cst_fits HCS.out (Nat.le_refl _) (by unfold bodyI; simp; omega))
          have HBL : Hid (∀ t ∈ bs, ∀ x ∈ t, x < 256) := hid (cst_lt (fun x hx => HBY.out x (by unfold bodyI at hx; exact List.mem_of_mem_drop (List.mem_of_mem_take hx))) HCS.out)
          refine (implEnc_any ⟨(K : Int), (F : Int), (C : Int), bs⟩ aV cV w6 HO6.out.rd HTOT.out).mono ?_
          rintro e w7 ⟨aR, cR, rfl, oR, bl7⟩
          have HRL : Hid (∀ x ∈ encR ⟨(K : Int), (F : Int), (C : Int), bs⟩, x < 256) := hid (encR_lt ⟨(K : Int), (F : Int), (C : Int), bs⟩ h2 h3 HBL.out)
          have HDG : Hid (encR ⟨(K : Int), (F : Int), (C : Int), bs⟩ = xs → decI xs = some ⟨(K : Int), (F : Int), (C : Int), bs⟩) := hid (fun h => by
            rw [← HMI.out] at h ⊢
            exact decI_good (by omega) HCS.out h)
          have HDB : Hid (encR ⟨(K : Int), (F : Int), (C : Int), bs⟩ ≠ xs → decI xs = none) := hid (fun h => by
            rw [← HMI.out] at h
            exact decI_bad HCS.out h)
          generalize encR ⟨(K : Int), (F : Int), (C : Int), bs⟩ = R at *
          have B7 := below_chain B6 bl7
          have HRR : Hid (Rd w7 aR (byt R)) := hid (by
            obtain ⟨a', c', e', hr'⟩ := rd_own oR
            cases e'
            exact hr')
          have HRX : Hid (Rd w7 (some ⟨b, off, none⟩) (byt xs)) := hid (by
            obtain ⟨a', c', e', -, -, -, hr', -⟩ := (HR.out.later B7).bytes
            cases e'
            exact hr')
          clear oR p0 p1 p2 p3
          go_wp2_with fail
          refine (bytesEqual_any aR (some ⟨b, off, none⟩) cR cap R xs w7 HRR.out HRX.out HRL.out HBY.out).mono ?_
          rintro e w8 ⟨rfl, hw8⟩
          subst hw8
          have HK7 : Hid (w8.heap[w.heap.size]? = some (.cells #[.int .i64 0, .int .i64 0, .int .i64 0, .slice none 0 0] 25 (0, 0))) := hid (((below_chain (below_chain HB3.out HB6.out) bl7).block _ (Array.getElem?_eq_some_iff.1 HK0.out).1).trans HK0.out)
          have hE7 := cell_later (below_chain (below_chain HB3.out HB6.out) bl7) HE0.out
          have p0 := cell_of_row _ _ 0 _ _ _ HK7.out
          have zp0 := frozen_of_row _ _ 0 _ _ HK7.out
          have p1 := cell_of_row _ _ 1 _ _ _ HK7.out
          have zp1 := frozen_of_row _ _ 1 _ _ HK7.out
          have p2 := cell_of_row _ _ 2 _ _ _ HK7.out
          have zp2 := frozen_of_row _ _ 2 _ _ HK7.out
          have p3 := cell_of_row _ _ 3 _ _ _ HK7.out
          have zp3 := frozen_of_row _ _ 3 _ _ HK7.out
          simp only [List.getElem?_toArray, List.getElem?_cons_zero, List.getElem?_cons_succ] at p0 p1 p2 p3
          by_cases hq : R = xs
          · have hde : decide (R = xs) = true := decide_eq_true hq
            have HD := hid (HDG.out hq)
            have HM7 : Hid (w8.heap[gM]? = some (.cells #[.int .i64 (K : Int), .int .i64 (F : Int), .int .i64 (C : Int), .slice aV bs.length cV] 25 (0, 0))) := hid ((bl7.block _ (Array.getElem?_eq_some_iff.1 HBM.out).1).trans HBM.out)
            have HO7 := hid (HO6.out.kept (fun y hy => bl7.block y (HO6.out.lt y hy)))
            clear hq HRR HRX HRL HDB HDG
            have hlt := (Array.getElem?_eq_some_iff.1 HK0.out).1
            have hgm : ¬ gM = w.heap.size := by have := HLG.out; have := HB3.out.size; omega
            have hgm2 : ¬ w.heap.size = gM := fun h => hgm h.symm
            have q0 := cell_of_row _ _ 0 _ _ _ HM7.out
            have q1 := cell_of_row _ _ 1 _ _ _ HM7.out
            have q2 := cell_of_row _ _ 2 _ _ _ HM7.out
            have q3 := cell_of_row _ _ 3 _ _ _ HM7.out
            simp only [List.getElem?_toArray, List.getElem?_cons_zero, List.getElem?_cons_succ] at q0 q1 q2 q3
            go_wp2
            refine bodyPost_ret (results_cell_row_tmpD rfl _ _ w.heap.size 25 #[.int .i64 (K : Int), .int .i64 (F : Int), .int .i64 (C : Int), .slice aV bs.length cV] (0, 0) _ rfl (set4 HK7.out) Tryd.underlying25 rfl (by kernel_rfl)) rfl ?_
            unfold ParsePost
            rw [HD.out]
            exact ⟨set4b B7 (Nat.le_refl _), aV, cV, blV, rfl, HO7.out.kept (fun y hy => set4o (by have := HLV.out y hy; omega)), fun y hy => by have := HLV.out y hy; omega, nV⟩
          · have hde : decide (R = xs) = false := decide_eq_false hq
            have HD := hid (HDB.out hq)
            clear hq HRR HRX HRL HDB HDG
            go_wp2_with fail
            go_region
            all_goals
              go_wp2
              refine bodyPost_ret (results_cell_row_tmpD rfl _ _ w.heap.size 25 #[.int .i64 0, .int .i64 0, .int .i64 0, .slice none 0 0] (0, 0) _ rfl (set4 HK7.out) Tryd.underlying25 rfl (by kernel_rfl)) rfl ?_
              unfold ParsePost
              rw [HD.out]
              exact ⟨(set4b B7 (Nat.le_refl _)).drew, rfl⟩
end Go.Proofs.YtfppfjklakdlfaaDoor
