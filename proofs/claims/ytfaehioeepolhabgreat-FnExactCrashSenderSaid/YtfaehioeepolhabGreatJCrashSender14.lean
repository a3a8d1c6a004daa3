import Derived.Test.YtfaehioeepolhabGreatJCrashSender2
import Derived.Test.YtfaehioeepolhabGreatJCrashSender12
import Derived.Test.YtfaehioeepolhabGreatJCrashSender6
import Derived.Test.YtfaehioeepolhabGreatJCrashSender13
import Derived.Test.YtfaehioeepolhabGreatJCrashSender3
import Derived.Test.YtfaehioeepolhabGreatJCrashSender4
namespace Go.Proofs.YtfaehioeepolhabGreat
open Go.RowKit
theorem own_apartS {w : World} {B B' n n' s s' : Nat} {e e' : TypeId} {v v' : Value} {vs vs' : List Value} (h : w.ownsRow B e s v n vs) (h' : w.ownsRow B' e' s' v' n' vs') (hne : e ≠ e') : ∀ k p, v.ownBlock = some k → v'.ownBlock = some p → k ≠ p := by
 intro k p hk hp
 rcases h.2 with ⟨rfl, _⟩ | ⟨g, cap, cur, rfl, _, hh, _⟩
 ·simp [Value.ownBlock] at hk
 rcases h'.2 with ⟨rfl, _⟩ | ⟨g', cap', cur', rfl, _, hh', _⟩
 ·simp [Value.ownBlock] at hp
 simp [Value.ownBlock] at hk hp
 subst hk hp
 intro e
 subst e
 rw [hh] at hh'
 simp at hh'
 exact hne hh'.2
def FOK (f : PF) : Prop := (∀ x ∈ f.name, x < 256) ∧ IntIn f.kind ∧ IntIn f.width
def FRow (B : Nat) (wr : World) (v : Value) (fs : List PF) : Prop :=
 ∃ vals : List Value, wr.ownsRow B 101 3 v fs.length vals ∧ ∀ i, (h : i < fs.length) → ∃ u, part vals 3 i = [u, .int .i64 fs[i].kind, .int .i64 fs[i].width] ∧ wr.ownsRow B 5 1 u fs[i].name.length (byt fs[i].name) ∧ FOK fs[i]
theorem FRow.later {B : Nat} {w w' : World} {v : Value} {fs : List PF} (h : FRow B w v fs) (hb : Below w.heap.size w w') : FRow B w' v fs := by
 obtain ⟨vals, ho, hi⟩ := h
 exact ⟨vals, ownsRow_kept ho (fun b hb' => hb.block b (World.ownsRow.lt ho b hb').2), fun i h => by obtain ⟨u, h1, h2, h3⟩ := hi i h; exact ⟨u, h1, own_later h2 hb, h3⟩⟩
theorem FRow.nil (B : Nat) (w : World) : FRow B w (.slice none 0 0) [] := ⟨[], World.ownsRow_nil _ _ _ _, fun i h => by simp at h⟩
theorem FRow.rd {B : Nat} {w : World} {v : Value} {fs : List PF} (h : FRow B w v fs) : RdSl cField w fs v := by
 obtain ⟨vals, ho, hi⟩ := h
 have hvl : vals.length = fs.length * 3 := ho.1
 rcases ho.2 with ⟨rfl, h0⟩ | ⟨g, cap, cur, rfl, hg, hh, hn, hm, r⟩
 ·obtain rfl := List.length_eq_zero_iff.1 h0
  exact RdSl.empty none
 ·refine ⟨_, cap, rfl, hn, hm, (fun h => by cases h), .inr ⟨g, 0, rfl, fun i h => ?_⟩⟩
  obtain ⟨u, hu, hr, h3⟩ := hi i h
  refine ⟨[u, .int .i64 fs[i].kind, .int .i64 fs[i].width], cField_mk (own_rdSl hr h3.1) h3.2.1 h3.2.2, fun j hj => ?_⟩
  have hj3 : j < 3 := by simpa using hj
  have hc := World.ownsRow.cellAt ho (i * 3 + j) (by omega)
  have hp : (part vals 3 i)[j]? = vals[i * 3 + j]? := part_at hj3
  rw [show 0 + (i * cField.n + j) = i * 3 + j from by rw [show cField.n = 3 from rfl]; omega, hc, ← hp, hu, List.getElem?_eq_getElem hj]
theorem FRow.slice {B : Nat} {w : World} {v : Value} {fs : List PF} (h : FRow B w v fs) : ∃ a c, v = .slice a fs.length c := by
 obtain ⟨a, c, e, _⟩ := h.rd
 exact ⟨a, c, e⟩
def fcNm (B : Nat) (xs : List Nat) : Fct := ⟨fun v w => w.ownsRow B 5 1 v xs.length (byt xs), fun _ _ _ h hb => own_later h hb⟩
def fcAgg (B : Nat) (f : PF) : Fct := ⟨fun v w => ∃ a c, v = .agg #[.slice a f.name.length c, .int .i64 f.kind, .int .i64 f.width] ∧ w.ownsRow B 5 1 (.slice a f.name.length c) f.name.length (byt f.name), fun _ _ _ ⟨a, c, e, h⟩ hb => ⟨a, c, e, own_later h hb⟩⟩
def fcOne (B : Nat) (f : PF) : Fct := ⟨fun v w => ∃ g a c, v = .slice (some ⟨g, 0, none⟩) 1 1 ∧ w.cell? ⟨g, 0, none⟩ = some (.slice a f.name.length c) ∧ w.cell? ⟨g, 1, none⟩ = some (.int .i64 f.kind) ∧ w.cell? ⟨g, 2, none⟩ = some (.int .i64 f.width) ∧ w.ownsRow B 5 1 (.slice a f.name.length c) f.name.length (byt f.name), fun _ _ _ ⟨g, a, c, e, h0, h1, h2, h⟩ hb => ⟨g, a, c, e, (hb.cell (World.block_lt_of_cell? _ _ h0)).trans h0, (hb.cell (World.block_lt_of_cell? _ _ h1)).trans h1, (hb.cell (World.block_lt_of_cell? _ _ h2)).trans h2, own_later h hb⟩⟩
def fcRow (B : Nat) (fs : List PF) : Fct := ⟨fun v w => FRow B w v fs, fun _ _ _ h hb => h.later hb⟩
theorem fcOne_new {B : Nat} {w : World} {f : PF} {a : Option Addr} {c : Nat} {e : TypeId} (h : w.ownsRow B 5 1 (.slice a f.name.length c) f.name.length (byt f.name)) : (fcOne B f).p (.slice (some ⟨w.heap.size, 0, none⟩) 1 1) (w.alloc (.cells #[.slice a f.name.length c, .int .i64 f.kind, .int .i64 f.width] e)) := by
 have hh := heap_alloc_new w (.cells #[.slice a f.name.length c, .int .i64 f.kind, .int .i64 f.width] e)
 have p0 := cR _ _ 0 _ _ _ hh
 have p1 := cR _ _ 1 _ _ _ hh
 have p2 := cR _ _ 2 _ _ _ hh
 simp only [gA, gZ, gU] at p0 p1 p2
 exact ⟨_, a, c, rfl, p0, p1, p2, own_later h (bN _ _)⟩
theorem three_cells {w : World} {g : Nat} {x y z : Value} (h0 : w.cell? ⟨g, 0, none⟩ = some x) (h1 : w.cell? ⟨g, 1, none⟩ = some y) (h2 : w.cell? ⟨g, 2, none⟩ = some z) : ∀ j u, [x, y, z][j]? = some u → w.cell? ((⟨g, 0, none⟩ : Addr).add j) = some u := by
 intro j u hu
 rw [addr_add0]
 match j, hu with
 | 0, hu => simp at hu; rw [← hu]; exact h0
 | 1, hu => simp at hu; rw [← hu]; exact h1
 | 2, hu => simp at hu; rw [← hu]; exact h2
theorem fcRow_snoc {B : Nat} {w w1 : World} {v v' : Value} {fs : List PF} {f : PF} {u : Value} {vals : List Value} (ho : w.ownsRow B 101 3 v fs.length vals)
  (hi : ∀ i, (h : i < fs.length) → ∃ u, part vals 3 i = [u, .int .i64 fs[i].kind, .int .i64 fs[i].width] ∧ w.ownsRow B 5 1 u fs[i].name.length (byt fs[i].name) ∧ FOK fs[i])
  (hu : w.ownsRow B 5 1 u f.name.length (byt f.name)) (h3 : FOK f)
  (ho1 : w1.ownsRow B 101 3 v' (fs.length + 1) (vals ++ [u, .int .i64 f.kind, .int .i64 f.width])) (hg : w.grownBy w1 v.ownBlock) : (fcRow B (fs ++ [f])).p v' w1 := by
 have hvl : vals.length = fs.length * 3 := ho.1
 have keep : ∀ (u : Value) (xs : List Nat), w.ownsRow B 5 1 u xs.length (byt xs) → w1.ownsRow B 5 1 u xs.length (byt xs) := fun u xs hu => own_marked hu hg (own_apartS hu ho (by decide))
 refine ⟨_, by simpa using ho1, fun i h => ?_⟩
 by_cases e : i < fs.length
 ·obtain ⟨u2, h1, h2, h4⟩ := hi i e
  rw [List.getElem_append_left e]
  refine ⟨u2, ?_, keep _ _ h2, h4⟩
  rw [← h1]
  unfold part
  rw [List.drop_append_of_le_length (by omega), List.take_append_of_le_length (by simp; omega)]
 ·obtain rfl : i = fs.length := by simp at h; omega
  have hg2 : (fs ++ [f])[fs.length]'h = f := by simp
  rw [hg2]
  refine ⟨u, ?_, keep _ _ hu, h3⟩
  unfold part
  rw [← hvl, List.drop_left]; rfl
theorem below_grown {wb w w1 : World} {B n s : Nat} {e : TypeId} {v : Value} {vals : List Value} (h0 : wb.heap.size ≤ B) (h : Below wb.heap.size wb w) (ho : w.ownsRow B e s v n vals) (hg : w.grownBy w1 v.ownBlock) : Below wb.heap.size wb w1 :=
 h.grown hg h.size (fun p hp => Nat.le_trans h0 (World.ownsRow.lt ho p hp).1)
def fcPre (B : Nat) (fs : List PF) (acc : Value) : Fct := ⟨fun _ w => FRow B w acc fs, fun _ _ _ h hb => h.later hb⟩
def frT (B nn : Nat) (f : PF) (gs : List PF) (acc : Value) (b off c k : Nat) (an : Option Addr) (cn : Nat) : Nat → FX
 | 0 => FX.eq (acc)
 | 1 => FX.eq (.slice (some ⟨b, off, none⟩) nn c)
 | 2 => FX.eq (.int .i64 (k : Int))
 | 3 => FX.eq (.pointer (some ⟨b, off + k * 3, none⟩))
 | 4 => FX.eq (.pointer (some ⟨b, off + k * 3, none⟩))
 | 5 => FX.eq (.slice an f.name.length cn)
 | 6 => FX.pre [19] (fcNm B f.name)
 | 7 => FX.eq (.slice (some ⟨b, off, none⟩) nn c)
 | 8 => FX.eq (.int .i64 (k : Int))
 | 9 => FX.eq (.pointer (some ⟨b, off + k * 3, none⟩))
 | 10 => FX.eq (.pointer (some ⟨b, off + k * 3 + 1, none⟩))
 | 11 => FX.eq (.int .i64 f.kind)
 | 12 => FX.eq (.slice (some ⟨b, off, none⟩) nn c)
 | 13 => FX.eq (.int .i64 (k : Int))
 | 14 => FX.eq (.pointer (some ⟨b, off + k * 3, none⟩))
 | 15 => FX.eq (.pointer (some ⟨b, off + k * 3 + 2, none⟩))
 | 16 => FX.eq (.int .i64 f.width)
 | 17 => FX.pre [19] (fcAgg B f)
 | 18 => FX.pre [19] (fcOne B f)
 | 19 => FX.is (fcRow B (gs ++ [f]))
 | 20 => FX.is (fcRow B (gs ++ [f]))
 | _ => FX.eq undef
set_option maxHeartbeats 4000000 in
theorem l4fields_any (a : Option Addr) (c : Nat) (fs : List PF) (w : World) (hr : RdSl cField w fs (.slice a fs.length c)) (ht : totL (fun f : PF => f.name.length) fs ≤ 1048576) :
  Calls Tryz.prog 65 #[.slice a fs.length c] w fun e w' => ∃ v, e = .returned v ∧ FRow w.heap.size w' v fs ∧ Below w.heap.size w w' := by
 obtain ⟨i0, hi0, hz0, hz1, hz2⟩ := info_parts infoImField
 have HR := hid hr
 have hlen : fs.length ≤ 1048576 := by unfold totL at ht; omega
 clear hr
 go_enter Tryz.func65, Tryz.ntmps65
 go_wp2
 go_loopw [3, 4] (fun v i wr => ∃ k : Nat, k ≤ fs.length ∧ i = .int .i64 k ∧ FRow w.heap.size wr v (fs.take k) ∧ Below w.heap.size w wr) (fun _ i _ => fs.length - (intOf i).toNat)
 case atStart => exact ⟨0, Nat.zero_le _, rfl, by simpa using FRow.nil _ _, Below.refl _ _⟩
 case round =>
  obtain ⟨k, hk, rfl, how, hbe⟩ := hrel
  have HO := hid how
  have HBW := hid hbe
  clear how hbe
  by_cases hlt : k < fs.length
  ·obtain ⟨b, off, x0, x1, x2, rfl, hes, d0, d1, d2⟩ := HR.out.at3 rfl hlt
   obtain ⟨an, cn, e3⟩ := cField_shape hes
   simp only [List.cons.injEq, and_true] at e3
   obtain ⟨rfl, rfl, rfl⟩ := e3
   have hki : (k : Int) < (fs.length : Int) := by omega
   obtain ⟨vn, en, hnm, hik, hiw⟩ := cField_rd hes
   simp only [List.cons.injEq, and_true] at en
   obtain ⟨rfl, -⟩ := en
   have HOK : Hid (FOK fs[k]) := hid ⟨rdSl_ok hnm, hik, hiw⟩
   have HNM := hid hnm
   have hnl : fs[k].name.length ≤ 1048576 := by have h := tot_at (fun f : PF => f.name.length) fs k hlt; unfold totL at ht; exact Nat.le_trans h (by omega)
   have HTK : Hid (fs.take (k + 1) = fs.take k ++ [fs[k]]) := hid (List.take_succ_eq_append_getElem hlt)
   have HTL : Hid ((fs.take k).length = k) := hid (by simp; omega)
   clear hes hnm hik hiw
   go_wp2_with fail
   refine region_turns (n := 21) (by kernel_rfl) (by kernel_rfl) rfl (fun t => { tmps := #[.slice (some ⟨b, off, none⟩) fs.length c, undef, .slice none 0 0, t 20, .int .i64 (k : Int), .int .i64 (k : Int), .slice (some ⟨b, off, none⟩) fs.length c, .int .i64 (fs.length : Int), .bool true, u9, u10, t 0, t 1, t 2, t 3, t 4, t 5, t 6, t 7, t 8, t 9, t 10, t 11, t 12, t 13, t 14, t 15, t 16, t 17, t 18, t 19, undef], defers := [] }) (frT w.heap.size fs.length fs[k] (fs.take k) u3 b off c k an cn) [19] (fcPre w.heap.size (fs.take k) u3) w wr (fun k => if k = 6 ∨ k = 17 ∨ k = 18 then [19] else []) (fun k => !(k == 6 || k == 17 || k == 18 || k == 19 || k == 20)) (by kernel_rfl) (fun j hj => by rcases (by omega : j = 0 ∨ j = 1 ∨ j = 2 ∨ j = 3 ∨ j = 4 ∨ j = 5 ∨ j = 6 ∨ j = 7 ∨ j = 8 ∨ j = 9 ∨ j = 10 ∨ j = 11 ∨ j = 12 ∨ j = 13 ∨ j = 14 ∨ j = 15 ∨ j = 16 ∨ j = 17 ∨ j = 18 ∨ j = 19 ∨ j = 20) with rfl | rfl | rfl | rfl | rfl | rfl | rfl | rfl | rfl | rfl | rfl | rfl | rfl | rfl | rfl | rfl | rfl | rfl | rfl | rfl | rfl <;> rfl) (fun j hj hp => by rcases (by omega : j = 0 ∨ j = 1 ∨ j = 2 ∨ j = 3 ∨ j = 4 ∨ j = 5 ∨ j = 6 ∨ j = 7 ∨ j = 8 ∨ j = 9 ∨ j = 10 ∨ j = 11 ∨ j = 12 ∨ j = 13 ∨ j = 14 ∨ j = 15 ∨ j = 16 ∨ j = 17 ∨ j = 18 ∨ j = 19 ∨ j = 20) with rfl | rfl | rfl | rfl | rfl | rfl | rfl | rfl | rfl | rfl | rfl | rfl | rfl | rfl | rfl | rfl | rfl | rfl | rfl | rfl | rfl <;> first | rfl | (exact absurd hp (by decide))) (fun j => ([u11, u12, u13, u14, u15, u16, u17, u18, u19, u20, u21, u22, u23, u24, u25, u26, u27, u28, u29, u30, u3] : List Value).getD j undef) HBW.out HO.out ?_ ?_
   ·intro i hi x t wx hxi hsh h0 hbx hgx hdp hall
    have p0 := (hbx.cell (World.block_lt_of_cell? _ _ d0)).trans d0
    have p1 := (hbx.cell (World.block_lt_of_cell? _ _ d1)).trans d1
    have p2 := (hbx.cell (World.block_lt_of_cell? _ _ d2)).trans d2
    rcases (by omega : i = 0 ∨ i = 1 ∨ i = 2 ∨ i = 3 ∨ i = 4 ∨ i = 5 ∨ i = 6 ∨ i = 7 ∨ i = 8 ∨ i = 9 ∨ i = 10 ∨ i = 11 ∨ i = 12 ∨ i = 13 ∨ i = 14 ∨ i = 15 ∨ i = 16 ∨ i = 17 ∨ i = 18 ∨ i = 19 ∨ i = 20) with rfl | rfl | rfl | rfl | rfl | rfl | rfl | rfl | rfl | rfl | rfl | rfl | rfl | rfl | rfl | rfl | rfl | rfl | rfl | rfl | rfl
    ·
     try dsimp only
     have z20 : t 20 = u3 := h0 20 (notYet hsh hxi 20 (by kernel_rfl))
     rw [z20]
     refine wpOp_step rfl (fun K' hK => ?_)
     go_simp
     exact hK _ _ ⟨u3, (by simp [upd, z20]), FX.eq_mk rfl, fun _ => Below.refl _ _, hbx⟩
    ·
     try dsimp only
     clear h0
     refine wpOp_step rfl (fun K' hK => ?_)
     go_simp
     exact hK _ _ ⟨.slice (some ⟨b, off, none⟩) fs.length c, (by simp [upd]), FX.eq_mk rfl, fun _ => Below.refl _ _, hbx⟩
    ·
     try dsimp only
     clear h0
     refine wpOp_step rfl (fun K' hK => ?_)
     go_simp
     exact hK _ _ ⟨.int .i64 (k : Int), (by simp [upd]), FX.eq_mk rfl, fun _ => Below.refl _ _, hbx⟩
    ·
     try dsimp only
     clear h0
     have x1 := depX hdp 1 (by kernel_rfl)
     have d1 := hall 1 (by omega) x1
     have e1 : t 1 = .slice (some ⟨b, off, none⟩) fs.length c := d1.1
     have x2 := depX hdp 2 (by kernel_rfl)
     have d2 := hall 2 (by omega) x2
     have e2 : t 2 = .int .i64 (k : Int) := d2.1
     rw [e1, e2]
     refine wpOp_step rfl (fun K' hK => ?_)
     go_simp
     exact hK _ _ ⟨.pointer (some ⟨b, off + k * 3, none⟩), (by simp [upd, e1, e2]), FX.eq_mk rfl, fun _ => Below.refl _ _, hbx⟩
    ·
     try dsimp only
     clear h0
     have x3 := depX hdp 3 (by kernel_rfl)
     have d3 := hall 3 (by omega) x3
     have e3 : t 3 = .pointer (some ⟨b, off + k * 3, none⟩) := d3.1
     rw [e3]
     refine wpOp_step rfl (fun K' hK => ?_)
     go_simp
     exact hK _ _ ⟨.pointer (some ⟨b, off + k * 3, none⟩), (by simp [upd, e3]), FX.eq_mk rfl, fun _ => Below.refl _ _, hbx⟩
    ·
     try dsimp only
     clear h0
     have x4 := depX hdp 4 (by kernel_rfl)
     have d4 := hall 4 (by omega) x4
     have e4 : t 4 = .pointer (some ⟨b, off + k * 3, none⟩) := d4.1
     rw [e4]
     refine wpOp_step rfl (fun K' hK => ?_)
     go_simp
     exact hK _ _ ⟨.slice an fs[k].name.length cn, (by simp [upd, e4]), FX.eq_mk rfl, fun _ => Below.refl _ _, hbx⟩
    ·
     try dsimp only
     clear h0
     have x5 := depX hdp 5 (by kernel_rfl)
     have d5 := hall 5 (by omega) x5
     have e5 : t 5 = .slice an fs[k].name.length cn := d5.1
     rw [e5]
     refine wpOp_step rfl (fun K' hK => ?_)
     go_simp
     refine (l1copy_any an cn fs[k].name wx (HNM.out.later hbx) hnl).mono ?_
     rintro e w2 ⟨v2, rfl, o2, b2⟩
     exact hK _ _ ⟨v2, (by simp [upd, e5]), FX.pre_mk (own_mono o2 hbx.size), fun _ => b2, bC hbx b2⟩
    ·
     try dsimp only
     clear h0
     refine wpOp_step rfl (fun K' hK => ?_)
     go_simp
     exact hK _ _ ⟨.slice (some ⟨b, off, none⟩) fs.length c, (by simp [upd]), FX.eq_mk rfl, fun _ => Below.refl _ _, hbx⟩
    ·
     try dsimp only
     clear h0
     refine wpOp_step rfl (fun K' hK => ?_)
     go_simp
     exact hK _ _ ⟨.int .i64 (k : Int), (by simp [upd]), FX.eq_mk rfl, fun _ => Below.refl _ _, hbx⟩
    ·
     try dsimp only
     clear h0
     have x7 := depX hdp 7 (by kernel_rfl)
     have d7 := hall 7 (by omega) x7
     have e7 : t 7 = .slice (some ⟨b, off, none⟩) fs.length c := d7.1
     have x8 := depX hdp 8 (by kernel_rfl)
     have d8 := hall 8 (by omega) x8
     have e8 : t 8 = .int .i64 (k : Int) := d8.1
     rw [e7, e8]
     refine wpOp_step rfl (fun K' hK => ?_)
     go_simp
     exact hK _ _ ⟨.pointer (some ⟨b, off + k * 3, none⟩), (by simp [upd, e7, e8]), FX.eq_mk rfl, fun _ => Below.refl _ _, hbx⟩
    ·
     try dsimp only
     clear h0
     have x9 := depX hdp 9 (by kernel_rfl)
     have d9 := hall 9 (by omega) x9
     have e9 : t 9 = .pointer (some ⟨b, off + k * 3, none⟩) := d9.1
     rw [e9]
     refine wpOp_step rfl (fun K' hK => ?_)
     go_simp
     exact hK _ _ ⟨.pointer (some ⟨b, off + k * 3 + 1, none⟩), (by simp [upd, e9]), FX.eq_mk rfl, fun _ => Below.refl _ _, hbx⟩
    ·
     try dsimp only
     clear h0
     have x10 := depX hdp 10 (by kernel_rfl)
     have d10 := hall 10 (by omega) x10
     have e10 : t 10 = .pointer (some ⟨b, off + k * 3 + 1, none⟩) := d10.1
     rw [e10]
     refine wpOp_step rfl (fun K' hK => ?_)
     go_simp
     exact hK _ _ ⟨.int .i64 fs[k].kind, (by simp [upd, e10]), FX.eq_mk rfl, fun _ => Below.refl _ _, hbx⟩
    ·
     try dsimp only
     clear h0
     refine wpOp_step rfl (fun K' hK => ?_)
     go_simp
     exact hK _ _ ⟨.slice (some ⟨b, off, none⟩) fs.length c, (by simp [upd]), FX.eq_mk rfl, fun _ => Below.refl _ _, hbx⟩
    ·
     try dsimp only
     clear h0
     refine wpOp_step rfl (fun K' hK => ?_)
     go_simp
     exact hK _ _ ⟨.int .i64 (k : Int), (by simp [upd]), FX.eq_mk rfl, fun _ => Below.refl _ _, hbx⟩
    ·
     try dsimp only
     clear h0
     have x12 := depX hdp 12 (by kernel_rfl)
     have d12 := hall 12 (by omega) x12
     have e12 : t 12 = .slice (some ⟨b, off, none⟩) fs.length c := d12.1
     have x13 := depX hdp 13 (by kernel_rfl)
     have d13 := hall 13 (by omega) x13
     have e13 : t 13 = .int .i64 (k : Int) := d13.1
     rw [e12, e13]
     refine wpOp_step rfl (fun K' hK => ?_)
     go_simp
     exact hK _ _ ⟨.pointer (some ⟨b, off + k * 3, none⟩), (by simp [upd, e12, e13]), FX.eq_mk rfl, fun _ => Below.refl _ _, hbx⟩
    ·
     try dsimp only
     clear h0
     have x14 := depX hdp 14 (by kernel_rfl)
     have d14 := hall 14 (by omega) x14
     have e14 : t 14 = .pointer (some ⟨b, off + k * 3, none⟩) := d14.1
     rw [e14]
     refine wpOp_step rfl (fun K' hK => ?_)
     go_simp
     exact hK _ _ ⟨.pointer (some ⟨b, off + k * 3 + 2, none⟩), (by simp [upd, e14]), FX.eq_mk rfl, fun _ => Below.refl _ _, hbx⟩
    ·
     try dsimp only
     clear h0
     have x15 := depX hdp 15 (by kernel_rfl)
     have d15 := hall 15 (by omega) x15
     have e15 : t 15 = .pointer (some ⟨b, off + k * 3 + 2, none⟩) := d15.1
     rw [e15]
     refine wpOp_step rfl (fun K' hK => ?_)
     go_simp
     exact hK _ _ ⟨.int .i64 fs[k].width, (by simp [upd, e15]), FX.eq_mk rfl, fun _ => Below.refl _ _, hbx⟩
    ·
     try dsimp only
     clear h0
     have x6 := depX hdp 6 (by kernel_rfl)
     have d6 := hall 6 (by omega) x6
     have x11 := depX hdp 11 (by kernel_rfl)
     have d11 := hall 11 (by omega) x11
     have e11 : t 11 = .int .i64 fs[k].kind := d11.1
     have x16 := depX hdp 16 (by kernel_rfl)
     have d16 := hall 16 (by omega) x16
     have e16 : t 16 = .int .i64 fs[k].width := d16.1
     rw [e11, e16]
     have y19 := notYet hsh hxi 19 (by kernel_rfl)
     have r6 : wx.ownsRow w.heap.size 5 1 (t 6) fs[k].name.length (byt fs[k].name) := FX.pre_of d6 y19
     obtain ⟨a6, c6, e6, -⟩ := rd_own r6
     rw [e6]
     refine wpOp_step rfl (fun K' hK => ?_)
     go_simp
     exact hK _ _ ⟨.agg #[.slice a6 fs[k].name.length c6, .int .i64 fs[k].kind, .int .i64 fs[k].width], (by simp [upd, e11, e16, e6]), FX.pre_mk ⟨_, _, rfl, e6 ▸ r6⟩, fun _ => Below.refl _ _, hbx⟩
    ·
     try dsimp only
     clear h0
     have x17 := depX hdp 17 (by kernel_rfl)
     have d17 := hall 17 (by omega) x17
     have y19 := notYet hsh hxi 19 (by kernel_rfl)
     obtain ⟨a6, c6, e17, r6⟩ : (fcAgg w.heap.size fs[k]).p (t 17) wx := FX.pre_of d17 y19
     rw [e17]
     refine wpOp_step rfl (fun K' hK => ?_)
     go_simp
     exact hK _ _ ⟨.slice (some ⟨wx.heap.size, 0, none⟩) 1 1, (by simp [upd, e17]), FX.pre_mk (fcOne_new r6), fun _ => bN _ _, bC hbx (bN _ _)⟩
    ·
     try dsimp only
     clear h0
     have x0 := depX hdp 0 (by kernel_rfl)
     have d0 := hall 0 (by omega) x0
     have e0 : t 0 = u3 := d0.1
     have x18 := depX hdp 18 (by kernel_rfl)
     have d18 := hall 18 (by omega) x18
     rw [e0]
     obtain ⟨g, a6, c6, e18, q0, q1, q2, r6⟩ : (fcOne w.heap.size fs[k]).p (t 18) wx := FX.pre_of d18 hxi
     rw [e18]
     have hrow : (fcRow w.heap.size (fs.take k)).p u3 wx := hgx (by simp [hxi])
     obtain ⟨vals, ho, hi'⟩ := id hrow
     rw [HTL.out] at ho
     refine wpOp_step rfl (fun K' hK => ?_)
     refine step_append_lies _ rfl (.tmp 11) (.tmp 29) 37 rfl w.heap.size 101 i0 (.agg #[.slice none 0 0, .int .i64 0, .int .i64 0]) 3 40 Tryz.underlying37 hi0 hz0 hz1 hz2 rfl (by decide) u3 k vals rfl ho ⟨g, 0, none⟩ 1 1 [.slice a6 fs[k].name.length c6, .int .i64 fs[k].kind, .int .i64 fs[k].width] rfl rfl (three_cells q0 q1 q2) (by simp [Value.oneCell']) (by omega) (by unfold maxLen; omega) (by omega) hbx.size _ rfl ?_
     intro g' cap' w9 hown hgrow hat hlt9
     exact hK _ _ ⟨.slice (some ⟨g', 0, none⟩) (k + 1) cap', (by simp [upd, e0, e18, Act.put]), FX.is_mk (fcRow_snoc (by rw [HTL.out]; exact ho) hi' r6 HOK.out (by rw [HTL.out]; exact hown) hgrow), fun h => absurd (by simp) h, below_grown (Nat.le_refl _) hbx ho hgrow⟩
    ·
     try dsimp only
     clear h0
     have x19 := depX hdp 19 (by kernel_rfl)
     have d19 := hall 19 (by omega) x19
     refine wpOp_step rfl (fun K' hK => ?_)
     go_simp
     exact hK _ _ ⟨t 19, (by simp [upd]), FX.is_mk (FX.is_of d19), fun _ => Below.refl _ _, hbx⟩
   ·intro x t wx hx hbx hall
    have h20 : FRow w.heap.size wx (t 20) (fs.take k ++ [fs[k]]) := FX.is_of (hall 20 (by omega))
    have HN : Hid (FRow w.heap.size wx (t 20) (fs.take (k + 1))) := hid (by rw [HTK.out]; exact h20)
    have HBX := hid hbx
    clear h20 hall hbx
    try dsimp only
    go_wp2
    go_roundw
    case rel => exact ⟨k + 1, by omega, by go_num, HN.out, HBX.out⟩
    case measure => simp [intOf]; omega
  ·obtain rfl : k = fs.length := by omega
   have hO := HO.out
   rw [List.take_length] at hO
   have HO2 := hid hO
   clear hO HO
   go_wp2
   go_ret
   exact ⟨_, rfl, HO2.out, HBW.out⟩
structure Tk {α : Type} (c : Cod α) where
 P : Nat → World → α → List Value → Prop
 ty : List TypeId
 rd : ∀ {B w x cs}, P B w x cs → c.rd w x cs
 kept : ∀ {B w w' x cs}, P B w x cs → (∀ (b : Nat) e n s vs u, w.ownsRow B e s u n vs → e ∈ ty → u.ownBlock = some b → w'.heap[b]? = w.heap[b]?) → P B w' x cs
 mono : ∀ {B B' w x cs}, P B w x cs → B' ≤ B → P B' w x cs
theorem Tk.later {α : Type} {c : Cod α} (tk : Tk c) {B : Nat} {w w' : World} {x : α} {cs : List Value} (h : tk.P B w x cs) (hb : Below w.heap.size w w') : tk.P B w' x cs :=
 tk.kept h (fun b _ _ _ _ _ ho _ hp => hb.block b (World.ownsRow.lt ho b hp).2)
theorem ownsRow_less {w : World} {B B' n s : Nat} {e : TypeId} {v : Value} {vs : List Value} (h : w.ownsRow B e s v n vs) (hb : B' ≤ B) : w.ownsRow B' e s v n vs := ⟨h.1, h.2.imp id (fun ⟨g, cap, cur, h1, h2, h3⟩ => ⟨g, cap, cur, h1, Nat.le_trans hb h2, h3⟩)⟩
def RowT {α : Type} {c : Cod α} (tk : Tk c) (e : TypeId) (B : Nat) (w : World) (v : Value) (xs : List α) : Prop :=
 ∃ vals : List Value, w.ownsRow B e c.n v xs.length vals ∧ ∀ i, (h : i < xs.length) → tk.P B w xs[i] (part vals c.n i)
theorem RowT.nil {α : Type} {c : Cod α} (tk : Tk c) (e : TypeId) (B : Nat) (w : World) : RowT tk e B w (.slice none 0 0) [] := ⟨[], World.ownsRow_nil _ _ _ _, fun i h => by simp at h⟩
theorem RowT.kept {α : Type} {c : Cod α} {tk : Tk c} {e : TypeId} {B : Nat} {w w' : World} {v : Value} {xs : List α} (h : RowT tk e B w v xs) (hk : ∀ (b : Nat) e' n s vs u, w.ownsRow B e' s u n vs → (e' = e ∨ e' ∈ tk.ty) → u.ownBlock = some b → w'.heap[b]? = w.heap[b]?) : RowT tk e B w' v xs := by
 obtain ⟨vals, ho, hi⟩ := h
 exact ⟨vals, ownsRow_kept ho (fun b hb => hk b _ _ _ _ _ ho (.inl rfl) hb), fun i h => tk.kept (hi i h) (fun b e n s vs u h1 h2 h3 => hk b e n s vs u h1 (.inr h2) h3)⟩
theorem RowT.later {α : Type} {c : Cod α} {tk : Tk c} {e : TypeId} {B : Nat} {w w' : World} {v : Value} {xs : List α} (h : RowT tk e B w v xs) (hb : Below w.heap.size w w') : RowT tk e B w' v xs :=
 h.kept (fun b _ _ _ _ _ ho _ hp => hb.block b (World.ownsRow.lt ho b hp).2)
theorem RowT.mono {α : Type} {c : Cod α} {tk : Tk c} {e : TypeId} {B B' : Nat} {w : World} {v : Value} {xs : List α} (h : RowT tk e B w v xs) (hb : B' ≤ B) : RowT tk e B' w v xs := by
 obtain ⟨vals, ho, hi⟩ := h
 exact ⟨vals, ownsRow_less ho hb, fun i h => tk.mono (hi i h) hb⟩
theorem RowT.rd {α : Type} {c : Cod α} {tk : Tk c} {e : TypeId} {B : Nat} {w : World} {v : Value} {xs : List α} (h : RowT tk e B w v xs) : RdSl c w xs v := by
 obtain ⟨vals, ho, hi⟩ := h
 have hvl : vals.length = xs.length * c.n := ho.1
 rcases ho.2 with ⟨rfl, h0⟩ | ⟨g, cap, cur, rfl, hg, hh, hn, hm, r⟩
 ·obtain rfl := List.length_eq_zero_iff.1 h0
  exact RdSl.empty none
 ·refine ⟨_, cap, rfl, hn, hm, (fun h => by cases h), .inr ⟨g, 0, rfl, fun i h => ?_⟩⟩
  have h1 := tk.rd (hi i h)
  refine ⟨_, h1, fun j hj => ?_⟩
  have hj' : j < c.n := by rw [part_len hvl h] at hj; exact hj
  have hlt : i * c.n + j < xs.length * c.n := by
   have : (i + 1) * c.n ≤ xs.length * c.n := Nat.mul_le_mul_right _ h
   rw [Nat.add_mul, Nat.one_mul] at this; omega
  rw [Nat.zero_add, ho.cellAt _ hlt, ← part_at hj', List.getElem?_eq_getElem hj]
theorem RowT.slice {α : Type} {c : Cod α} {tk : Tk c} {e : TypeId} {B : Nat} {w : World} {v : Value} {xs : List α} (h : RowT tk e B w v xs) : ∃ a cap, v = .slice a xs.length cap := by
 obtain ⟨a, cap, e, _⟩ := h.rd
 exact ⟨a, cap, e⟩
theorem rt_left {vs cs : List Value} {n m i : Nat} (hv : vs.length = m * n) (hi : i < m) : part (vs ++ cs) n i = part vs n i := by
 have h : (i + 1) * n ≤ m * n := Nat.mul_le_mul_right _ hi
 rw [Nat.add_mul, Nat.one_mul] at h
 unfold part
 rw [List.drop_append_of_le_length (by omega), List.take_append_of_le_length (by simp; omega)]
theorem rt_last {vs cs : List Value} {n m : Nat} (hv : vs.length = m * n) (hc : cs.length = n) : part (vs ++ cs) n m = cs := by
 unfold part
 rw [← hv, List.drop_left, ← hc, List.take_length]
theorem RowT.snoc {α : Type} {c : Cod α} {tk : Tk c} {e : TypeId} {B : Nat} {w w1 : World} {v v' : Value} {xs : List α} {x : α} {vals cs : List Value} (ho : w.ownsRow B e c.n v xs.length vals) (hi : ∀ i, (h : i < xs.length) → tk.P B w xs[i] (part vals c.n i)) (hx : tk.P B w x cs) (hne : e ∉ tk.ty)
  (ho1 : w1.ownsRow B e c.n v' (xs.length + 1) (vals ++ cs)) (hg : w.grownBy w1 v.ownBlock) : RowT tk e B w1 v' (xs ++ [x]) := by
 have hvl : vals.length = xs.length * c.n := ho.1
 have keep : ∀ x cs, tk.P B w x cs → tk.P B w1 x cs := fun x cs h => tk.kept h (fun b e' n s vs u h1 h2 h3 => hg.block b (World.ownsRow.lt h1 b h3).2 (fun e0 => own_apartS h1 ho (fun he => hne (he ▸ h2)) b b h3 e0.symm rfl))
 refine ⟨_, by simpa using ho1, fun i h => ?_⟩
 by_cases he : i < xs.length
 ·rw [List.getElem_append_left he, rt_left hvl he]
  exact keep _ _ (hi i he)
 ·obtain rfl : i = xs.length := by simp at h; omega
  have e1 : (xs ++ [x])[xs.length]'h = x := by simp
  rw [e1, rt_last hvl (c.len (tk.rd hx))]
  exact keep _ _ hx
def tkText : Tk cSS where
 P B w xs cs := ∃ u, cs = [u] ∧ w.ownsRow B 5 1 u xs.length (byt xs) ∧ ∀ x ∈ xs, x < 256
 ty := [5]
 rd h := by obtain ⟨u, rfl, h1, h2⟩ := h; exact ⟨u, rfl, own_rdSl h1 h2⟩
 kept h hk := by obtain ⟨u, rfl, h1, h2⟩ := h; exact ⟨u, rfl, ownsRow_kept h1 (fun b hb => hk b _ _ _ _ _ h1 (by simp) hb), h2⟩
 mono h hb := by obtain ⟨u, rfl, h1, h2⟩ := h; exact ⟨u, rfl, own_mono h1 hb, h2⟩
def tkTexts : Tk cSSS where
 P B w xs cs := ∃ u, cs = [u] ∧ RowT tkText 87 B w u xs
 ty := [87, 5]
 rd h := by obtain ⟨u, rfl, h1⟩ := h; exact ⟨u, rfl, h1.rd⟩
 kept h hk := by obtain ⟨u, rfl, h1⟩ := h; exact ⟨u, rfl, h1.kept (fun b e n s vs u g1 g2 g3 => hk b e n s vs u g1 (g2.elim (fun e => by simp [e]) (fun h => by simp [tkText] at h; simp [h])) g3)⟩
 mono h hb := by obtain ⟨u, rfl, h1⟩ := h; exact ⟨u, rfl, h1.mono hb⟩
theorem txts_row {B : Nat} {w : World} {v : Value} {xss : List (List Nat)} (h : Txts B w v xss) : RowT tkText 87 B w v xss := by
 obtain ⟨vals, ho, hi⟩ := h
 refine ⟨vals, ho, fun i h => ?_⟩
 obtain ⟨u, h1, h2, h3⟩ := hi i h
 have hp : part vals cSS.n i = [u] := by
  have hl : vals.length = xss.length := by have := ho.1; omega
  have h4 : (part vals 1 i)[0]? = vals[i * 1 + 0]? := part_at (by decide)
  have h5 : (part vals 1 i).length = 1 := part_len (m := xss.length) (by omega) h
  rw [show cSS.n = 1 from rfl]
  match hq : part vals 1 i, h5 with
  | [y], _ =>
   rw [hq] at h4
   simp only [gZ, Nat.mul_one, Nat.add_zero, h1, Option.some.injEq] at h4
   rw [h4]
 rw [hp]
 exact ⟨u, rfl, h2, h3⟩
def tkField : Tk cField where
 P B w f cs := ∃ u, cs = [u, .int .i64 f.kind, .int .i64 f.width] ∧ w.ownsRow B 5 1 u f.name.length (byt f.name) ∧ FOK f
 ty := [5]
 rd h := by obtain ⟨u, rfl, h1, h2⟩ := h; exact cField_mk (own_rdSl h1 h2.1) h2.2.1 h2.2.2
 kept h hk := by obtain ⟨u, rfl, h1, h2⟩ := h; exact ⟨u, rfl, ownsRow_kept h1 (fun b hb => hk b _ _ _ _ _ h1 (by simp) hb), h2⟩
 mono h hb := by obtain ⟨u, rfl, h1, h2⟩ := h; exact ⟨u, rfl, own_mono h1 hb, h2⟩
def tkCell : Tk cCell where
 P B w f cs := ∃ u, cs = [.bool f.null, .int .i64 f.num, u] ∧ w.ownsRow B 5 1 u f.text.length (byt f.text) ∧ (∀ x ∈ f.text, x < 256) ∧ IntIn f.num
 ty := [5]
 rd h := by obtain ⟨u, rfl, h1, h2, h3⟩ := h; exact cCell_mk (own_rdSl h1 h2) h3
 kept h hk := by obtain ⟨u, rfl, h1, h2⟩ := h; exact ⟨u, rfl, ownsRow_kept h1 (fun b hb => hk b _ _ _ _ _ h1 (by simp) hb), h2⟩
 mono h hb := by obtain ⟨u, rfl, h1, h2⟩ := h; exact ⟨u, rfl, own_mono h1 hb, h2⟩
theorem cTable_mkR {w : World} {t : PT} {v : Value} (h1 : RdSl cCell w t.cells v) (h2 : IntIn t.rows) : cTable.rd w t [.int .i64 t.rows, v] := ⟨[_], _, rfl, ⟨rfl, h2⟩, v, rfl, h1⟩
def tkTable : Tk cTable where
 P B w t cs := ∃ u, cs = [.int .i64 t.rows, u] ∧ RowT tkCell 102 B w u t.cells ∧ IntIn t.rows
 ty := [102, 5]
 rd h := by obtain ⟨u, rfl, h1, h2⟩ := h; exact cTable_mkR h1.rd h2
 kept h hk := by obtain ⟨u, rfl, h1, h2⟩ := h; exact ⟨u, rfl, h1.kept (fun b e n s vs u g1 g2 g3 => hk b e n s vs u g1 (g2.elim (fun e => by simp [e]) (fun h => by simp [tkCell] at h; simp [h])) g3), h2⟩
 mono h hb := by obtain ⟨u, rfl, h1, h2⟩ := h; exact ⟨u, rfl, h1.mono hb, h2⟩
theorem RowT.box {α : Type} {c : Cod α} {tk : Tk c} {e : TypeId} {B : Nat} {w : World} {v x : Value} {xs : List α} {gm k : Nat} {cs : Array Value} {t : TypeId} (h : RowT tk e B w v xs) (hb : w.heap[gm]? = some (.cells cs t (0, 0))) (h1 : t ≠ e) (h2 : t ∉ tk.ty) : RowT tk e B (w.setCell ⟨gm, k, none⟩ x) v xs :=
 h.kept (fun b e' n s vs u ho he hp => Below.heap_setCell _ ⟨gm, k, none⟩ _ _ (fun e0 => by
  subst e0
  rcases ho.2 with ⟨rfl, _⟩ | ⟨g, cap, cur, rfl, _, hh, _⟩
  ·simp [Value.ownBlock] at hp
  ·simp [Value.ownBlock] at hp
   subst hp
   rw [hb] at hh
   simp at hh
   rcases he with rfl | he
   ·exact h1 hh.2
   ·exact h2 (hh.2 ▸ he)))
set_option maxRecDepth 100000 in
set_option maxHeartbeats 2000000 in
theorem l3texts_any (a : Option Addr) (cap : Nat) (xs : List (List Nat)) (w : World) (hr : RdSl cSS w xs (.slice a xs.length cap)) (ht : totL List.length xs ≤ 1048576) :
  Calls Tryz.prog 114 #[.slice a xs.length cap] w fun e w' => ∃ v, e = .returned v ∧ Txts w.heap.size w' v xs ∧ Below w.heap.size w w' := by
 obtain ⟨i0, hi, hz0, hz1, hz2⟩ := info_parts infoSlT
 have HR := hid hr
 clear hr
 rw [totL_tot] at ht
 go_enter Tryz.func114, Tryz.ntmps114
 go_wp2
 go_loopw [3, 4] (fun v i wr => ∃ k : Nat, k ≤ xs.length ∧ i = .int .i64 k ∧ Txts w.heap.size wr v (xs.take k) ∧ Below w.heap.size w wr) (fun _ i _ => xs.length - (intOf i).toNat)
 case atStart => exact ⟨0, Nat.zero_le _, rfl, by simpa using Txts.nil _ w, Below.refl _ _⟩
 case round =>
  obtain ⟨k, hk, rfl, htx, hbe⟩ := hrel
  have HX := hid htx
  have HB := hid hbe
  clear htx hbe
  by_cases hlt : k < xs.length
  ·obtain ⟨b, off, a', c', rfl, hcb, hrr⟩ := (HR.out.later HB.out).row hlt
   have HRR := hid hrr
   have hlk := len_le_tot xs k hlt
   have hki : (k : Int) < (xs.length : Int) := by omega
   have HTK : Hid (xs.take (k + 1) = xs.take k ++ [xs[k]]) := hid (List.take_succ_eq_append_getElem hlt)
   have HTL : Hid ((xs.take k).length = k) := hid (by simp; omega)
   clear hrr
   go_wp2_with fail
   refine (l1copy_any a' c' xs[k] wr HRR.out (by omega)).mono ?_
   rintro e w2 ⟨u, rfl, o2, b2⟩
   obtain ⟨vals, how, hel⟩ := HX.out.later b2
   have hs2 : w.heap.size ≤ w2.heap.size := Nat.le_trans HB.out.size b2.size
   have HO := hid how
   have HEL := hid hel
   have HU := hid (own_mono o2 HB.out.size)
   have HBY := hid HRR.out.rdB.2
   have HB2 := hid (bC HB.out b2)
   obtain ⟨au, cu, rfl, -⟩ := rd_own o2
   rw [HTL.out] at how
   have HW := hid how
   clear how hel o2 b2
   go_wp2_with (first | (at_builtin; refine wpList_append_own _ rfl _ _ 103 rfl w.heap.size 87 i0 (.slice none 0 0) 1 24 Tryz.underlying103 hi hz0 hz1 hz2 rfl (by decide) _ k _ rfl (HW.out.alloc _) ⟨w2.heap.size, 0, none⟩ 1 1 [.slice au xs[k].length cu] rfl rfl (cell_one_new _ _ _) (one_cell rfl) (by unfold maxLen; omega) (by omega) (by simp; omega) ?_))
   intro v' w9 hown' hgrow _
   have HX9 : Hid (Txts w.heap.size w9 v' (xs.take (k + 1))) := hid (by
    rw [HTK.out]
    refine Txts.snoc (HO.out.alloc _) (fun i h => ?_) (HU.out.alloc _) HBY.out (by rw [HTL.out]; exact hown') hgrow
    obtain ⟨u', h1, h2, h3⟩ := HEL.out i h
    exact ⟨u', h1, h2.alloc _, h3⟩)
   have HB9 : Hid (Below w.heap.size w w9) := hid ((HB2.out.alloc HB2.out.size _).grown hgrow (by simp; omega) (fun p hp => (own_in HO.out hp).1))
   clear hown' hgrow
   go_wp2
   go_roundw
   case rel => exact ⟨k + 1, by omega, by go_num, HX9.out, HB9.out⟩
   case measure => simp [intOf]; omega
  ·obtain rfl : k = xs.length := by omega
   have HF : Hid (Txts w.heap.size wr _ xs) := hid (by have := HX.out; rw [List.take_length] at this; exact this)
   go_wp2
   go_ret
   exact ⟨_, rfl, HF.out, HB.out⟩
end Go.Proofs.YtfaehioeepolhabGreat
