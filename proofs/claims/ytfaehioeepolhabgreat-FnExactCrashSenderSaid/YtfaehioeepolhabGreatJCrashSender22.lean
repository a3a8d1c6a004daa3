import Derived.Test.YtfaehioeepolhabGreatJCrashSender14
import Derived.Test.YtfaehioeepolhabGreatJCrashSender7
import Derived.Test.YtfaehioeepolhabGreatJCrashSender2
import Derived.Test.YtfaehioeepolhabGreatJCrashSender5
import Derived.Test.YtfaehioeepolhabGreatJCrashSender3
import Derived.Test.YtfaehioeepolhabGreatJCrashSender4
import Derived.Laws.AppendOwnNone
namespace Go.Proofs.YtfaehioeepolhabGreat
open Go.RowKit
theorem FRow.mono {B B' : Nat} {w : World} {v : Value} {fs : List PF} (h : FRow B w v fs) (hb : B' ≤ B) : FRow B' w v fs := by
 obtain ⟨vals, ho, hi⟩ := h
 exact ⟨vals, ⟨ho.1, ho.2.imp id (fun ⟨g, cap, cur, h1, h2, h3⟩ => ⟨g, cap, cur, h1, Nat.le_trans hb h2, h3⟩)⟩, fun i h => by obtain ⟨u, h1, h2, h3⟩ := hi i h; exact ⟨u, h1, own_mono h2 hb, h3⟩⟩
theorem FRow.kept {B : Nat} {w w' : World} {v : Value} {fs : List PF} (h : FRow B w v fs) (hk : ∀ (b : Nat) e s n vs u, w.ownsRow B e s u n vs → (e = 101 ∨ e = 5) → u.ownBlock = some b → w'.heap[b]? = w.heap[b]?) : FRow B w' v fs := by
 obtain ⟨vals, ho, hi⟩ := h
 exact ⟨vals, ownsRow_kept ho (fun b hb => hk b _ _ _ _ _ ho (.inl rfl) hb), fun i h => by
  obtain ⟨u, h1, h2, h3⟩ := hi i h
  exact ⟨u, h1, ownsRow_kept h2 (fun b hb => hk b _ _ _ _ _ h2 (.inr rfl) hb), h3⟩⟩
theorem step_make_full {P : Program} (w : World) {ops : Array Oper} {o : Oper} {a : Act} {K : Act → World → Prop} {Q : Exit → Act → World → Prop} {E : Prop}
  (hg : o.guard = none) (l c : Operand) (t : TypeId) (hop : o.op = Op.makeSlice t l c)
  (base : Nat) (e : TypeId) (i : TypeInfo) (z : Value) (size : Nat) (h1 : P.underlying t = some (.slice e)) (h2 : P.info? e = some i) (h3 : i.zero = some z) (h4 : i.size = size)
  (kl kc : IntKind) (L C : Int) (n : Nat) (hl : a.eval l = .int kl L) (hc : a.eval c = .int kc C) (hL : L = (n : Int)) (hC : C = (n : Int)) (b2 : i.bytes * n ≤ 281474976710656) (b3 : n ≤ maxLen) (b4 : base ≤ w.heap.size)
  (hK : ∀ w', w'.ownsRow base e size (.slice (some ⟨w.heap.size, 0, none⟩) n n) n (madeCells z.cells (n * size)).toList → w.grownBy w' none → K (a.put o.dst (.slice (some ⟨w.heap.size, 0, none⟩) n n)) w') :
  if Region.wanted o (yielded ops a.tmps) = true then Oper.wp P o a w K Q else E := by
 rw [if_pos (by unfold Region.wanted; rw [hg])]
 obtain ⟨w', hrun, r1, r2⟩ := run_make_full (P := P) w base t e i z size h1 h2 h3 h4 kl kc n b2 b3 b4
 subst hL
 subst hC
 unfold Oper.wp
 simp [execOp, hop, hl, hc, hrun, Result.andThen]
 exact hK w' r1 r2
theorem infoSSb : (Tryz.prog.info? 103).map (fun i => (i.zero, i.size, i.bytes)) = some (some (.slice none 0 0), 1, 24) := by kernel_rfl
theorem nils_rd {B n : Nat} {w : World} {g : Nat} {e : TypeId} (h : w.ownsRow B e 1 (.slice (some ⟨g, 0, none⟩) n n) n (madeCells (Value.slice none 0 0).cells (n * 1)).toList) : RdSl cSSS w (List.replicate n []) (.slice (some ⟨g, 0, none⟩) n n) := by
 rw [Nat.mul_one, show (Value.slice none 0 0).cells = #[Value.slice none 0 0] from rfl, toList_madeCells_one] at h
 obtain ⟨hm, -⟩ : n ≤ maxLen ∧ True := by
  rcases h.2 with ⟨h0, _⟩ | ⟨g', cap, cur, h0, _, _, hn, hm, _⟩
  ·cases h0
  ·simp at h0; exact ⟨by omega, trivial⟩
 refine ⟨_, n, by simp, by simp, hm, (fun h => by cases h), .inr ⟨g, 0, rfl, fun i hi => ?_⟩⟩
 have hin : i < n := by simpa using hi
 refine ⟨[.slice none 0 0], ⟨_, rfl, ?_⟩, fun j hj => ?_⟩
 ·rw [List.getElem_replicate]; exact RdSl.empty none
 ·have hj0 : j = 0 := by simpa using hj
  subst hj0
  have := World.ownsRow.cellAt h i (by simpa using hin)
  rw [show 0 + (i * cSSS.n + 0) = i from by simp [cSl], this]
  simp [hin]
def NRow (B : Nat) (w : World) (v : Value) (n : Nat) : Prop := ∃ g, v = .slice (some ⟨g, 0, none⟩) n n ∧ w.ownsRow B 103 1 v n (madeCells (Value.slice none 0 0).cells (n * 1)).toList
theorem NRow.later {B n : Nat} {w w' : World} {v : Value} (h : NRow B w v n) (hb : Below w.heap.size w w') : NRow B w' v n := by
 obtain ⟨g, e, h⟩ := h
 exact ⟨g, e, own_later h hb⟩
theorem NRow.rd {B n : Nat} {w : World} {v : Value} (h : NRow B w v n) : RdSl cSSS w (List.replicate n []) v := by
 obtain ⟨g, rfl, h⟩ := h
 exact nils_rd h
theorem NRow.slice {B n : Nat} {w : World} {v : Value} (h : NRow B w v n) : ∃ a c, v = .slice a n c := by
 obtain ⟨g, rfl, -⟩ := h
 exact ⟨_, _, rfl⟩
def fcNils (B n : Nat) : Fct := ⟨fun v w => NRow B w v n, fun _ _ _ h hb => h.later hb⟩
def fcBegun (B : Nat) (fs : List PF) (next : Int) : Fct := ⟨fun v w => ∃ a c b d, v = .agg #[.bool true, .slice a fs.length c, .int .i64 next, .slice b fs.length d] ∧ FRow B w (.slice a fs.length c) fs ∧ NRow B w (.slice b fs.length d) fs.length, fun _ _ _ ⟨a, c, b, d, e, h1, h2⟩ hb => ⟨a, c, b, d, e, h1.later hb, h2.later hb⟩⟩
def fcBox (B : Nat) (fs : List PF) (next : Int) : Fct := ⟨fun _ w => ∃ a c b d, w.heap[B]? = some (.cells #[.bool true, .slice a fs.length c, .int .i64 next, .slice b fs.length d] 43 (0, 0)) ∧ FRow B w (.slice a fs.length c) fs ∧ NRow B w (.slice b fs.length d) fs.length, fun _ _ _ ⟨a, c, b, d, e, h1, h2⟩ hb => ⟨a, c, b, d, (hb.block _ (Array.getElem?_eq_some_iff.1 e).1).trans e, h1.later hb, h2.later hb⟩⟩
def fcZero (B : Nat) : Fct := ⟨fun _ w => w.heap[B]? = some (.cells #[.bool false, .slice none 0 0, .int .i64 0, .slice none 0 0] 43 (0, 0)), fun _ _ _ h hb => (hb.block _ (Array.getElem?_eq_some_iff.1 h).1).trans h⟩
theorem begun_box {B : Nat} {w : World} {fs : List PF} {next : Int} {a b : Option Addr} {c d : Nat} (hb : w.heap[B]? = some (.cells #[.bool false, .slice none 0 0, .int .i64 0, .slice none 0 0] 43 (0, 0))) (h1 : FRow B w (.slice a fs.length c) fs) (h2 : NRow B w (.slice b fs.length d) fs.length) {v : Value} :
  (fcBox B fs next).p v ((((w.setCell ⟨B, 0, none⟩ (.bool true)).setCell ⟨B, 1, none⟩ (.slice a fs.length c)).setCell ⟨B, 2, none⟩ (.int .i64 next)).setCell ⟨B, 3, none⟩ (.slice b fs.length d)) := by
 have far : ∀ (p : Nat) (e : TypeId) s n vs u, w.ownsRow B e s u n vs → e ≠ 43 → u.ownBlock = some p → p ≠ B := fun p e s n vs u ho hne hp hpe => by
  subst hpe
  rcases ho.2 with ⟨rfl, _⟩ | ⟨g, cap, cur, rfl, _, hh, _⟩
  ·simp [Value.ownBlock] at hp
  ·simp [Value.ownBlock] at hp
   subst hp
   rw [hb] at hh
   simp at hh
   exact hne hh.2.symm
 refine ⟨a, c, b, d, set4 hb, h1.kept (fun p e s n vs u ho he hp => set4o (far p e s n vs u ho (by rcases he with rfl | rfl <;> decide) hp)), ?_⟩
 obtain ⟨g, e, ho⟩ := h2
 exact ⟨g, e, ownsRow_kept ho (fun p hp => set4o (far p _ _ _ _ _ ho (by decide) hp))⟩
def lbT (B : Nat) (fs : List PF) (a : Option Addr) (c : Nat) (next : Int) : Nat → FX
 | 0 => FX.eq (.slice a fs.length c)
 | 1 => FX.pre [7] (fcRow B fs)
 | 2 => FX.eq (.int .i64 next)
 | 3 => FX.eq (.slice a fs.length c)
 | 4 => FX.eq (.int .i64 (fs.length : Int))
 | 5 => FX.pre [7] (fcNils B fs.length)
 | 6 => FX.pre [7] (fcBegun B fs next)
 | 7 => FX.is (fcBox B fs next)
 | _ => FX.eq undef
set_option maxRecDepth 100000 in
set_option maxHeartbeats 4000000 in
theorem l4begin_any (a : Option Addr) (c : Nat) (fs : List PF) (next : Int) (w : World) (hr : RdSl cField w fs (.slice a fs.length c)) (ht : totL (fun f : PF => f.name.length) fs ≤ 1048576) :
  Calls Tryz.prog 135 #[.slice a fs.length c, .int .i64 next] w fun e w' => ∃ a' c' b' d', e = .returned (.agg #[.bool true, .slice a' fs.length c', .int .i64 next, .slice b' fs.length d']) ∧ FRow w.heap.size w' (.slice a' fs.length c') fs ∧ NRow w.heap.size w' (.slice b' fs.length d') fs.length ∧ Below w.heap.size w w' := by
 obtain ⟨i0, hi0, hz0, hz1, hz2⟩ := info_parts infoSSb
 have HR := hid hr
 have hlen : fs.length ≤ 1048576 := by unfold totL at ht; omega
 have HB0 := hid (bN w (.cells #[.bool false, .slice none 0 0, .int .i64 0, .slice none 0 0] 43))
 have HK0 : Hid ((w.alloc (.cells #[.bool false, .slice none 0 0, .int .i64 0, .slice none 0 0] 43)).heap[w.heap.size]? = some (.cells #[.bool false, .slice none 0 0, .int .i64 0, .slice none 0 0] 43 (0, 0))) := hid (heap_alloc_new w _)
 clear hr
 go_enter Tryz.func135, Tryz.ntmps135
 go_wp2_with fail
 refine region_turns (n := 8) (by kernel_rfl) (by kernel_rfl) rfl (fun t => { tmps := #[.slice a fs.length c, .int .i64 next, undef, undef, .pointer (some ⟨w.heap.size, 0, none⟩), t 0, t 1, t 2, t 3, t 4, t 5, t 6], defers := [] }) (lbT w.heap.size fs a c next) [7] (fcZero w.heap.size) w (w.alloc (.cells #[.bool false, .slice none 0 0, .int .i64 0, .slice none 0 0] 43)) (fun k => if k = 1 then [7] else if k = 5 then [7] else if k = 6 then [7] else []) (fun k => !(k == 1 || k == 5 || k == 6 || k == 7)) (by kernel_rfl) (fun j hj => by rcases (by omega : j = 0 ∨ j = 1 ∨ j = 2 ∨ j = 3 ∨ j = 4 ∨ j = 5 ∨ j = 6 ∨ j = 7) with rfl | rfl | rfl | rfl | rfl | rfl | rfl | rfl <;> rfl) (fun j hj hp => by rcases (by omega : j = 0 ∨ j = 1 ∨ j = 2 ∨ j = 3 ∨ j = 4 ∨ j = 5 ∨ j = 6 ∨ j = 7) with rfl | rfl | rfl | rfl | rfl | rfl | rfl | rfl <;> first | rfl | (exact absurd hp (by decide))) (fun j => ([undef, undef, undef, undef, undef, undef, undef, undef] : List Value).getD j undef) HB0.out (HK0.out) ?_ ?_
 ·intro i hi x t wx hxi hsh h0 hbx hgx hdp hall
  rcases (by omega : i = 0 ∨ i = 1 ∨ i = 2 ∨ i = 3 ∨ i = 4 ∨ i = 5 ∨ i = 6 ∨ i = 7) with rfl | rfl | rfl | rfl | rfl | rfl | rfl | rfl
  ·
   try dsimp only
   clear h0
   refine wpOp_step rfl (fun K' hK => ?_)
   go_simp
   exact hK _ _ ⟨.slice a fs.length c, (by simp [upd]), FX.eq_mk rfl, fun _ => Below.refl _ _, hbx⟩
  ·
   try dsimp only
   have x0 := depX hdp 0 (by kernel_rfl)
   have d0 := hall 0 (by omega) x0
   have e0 : t 0 = .slice a fs.length c := d0.1
   rw [e0]
   clear h0
   refine wpOp_step rfl (fun K' hK => ?_)
   go_simp
   refine (l4fields_any a c fs wx (HR.out.later hbx) ht).mono ?_
   rintro e w2 ⟨v2, rfl, o2, b2⟩
   exact hK _ _ ⟨v2, (by simp [upd, e0]), FX.pre_mk (o2.mono hbx.size), fun _ => b2, bC hbx b2⟩
  ·
   try dsimp only
   clear h0
   refine wpOp_step rfl (fun K' hK => ?_)
   go_simp
   exact hK _ _ ⟨.int .i64 next, (by simp [upd]), FX.eq_mk rfl, fun _ => Below.refl _ _, hbx⟩
  ·
   try dsimp only
   clear h0
   refine wpOp_step rfl (fun K' hK => ?_)
   go_simp
   exact hK _ _ ⟨.slice a fs.length c, (by simp [upd]), FX.eq_mk rfl, fun _ => Below.refl _ _, hbx⟩
  ·
   try dsimp only
   have x3 := depX hdp 3 (by kernel_rfl)
   have d3 := hall 3 (by omega) x3
   have e3 : t 3 = .slice a fs.length c := d3.1
   rw [e3]
   clear h0
   refine wpOp_step rfl (fun K' hK => ?_)
   go_simp
   exact hK _ _ ⟨.int .i64 (fs.length : Int), (by simp [upd, e3]), FX.eq_mk rfl, fun _ => Below.refl _ _, hbx⟩
  ·
   try dsimp only
   have x4 := depX hdp 4 (by kernel_rfl)
   have d4 := hall 4 (by omega) x4
   have e4 : t 4 = .int .i64 (fs.length : Int) := d4.1
   rw [e4]
   clear h0
   refine wpOp_step rfl (fun K' hK => ?_)
   refine step_make_full wx rfl (.tmp 9) (.tmp 9) 27 rfl wx.heap.size 103 i0 (.slice none 0 0) 1 Tryz.underlying27 hi0 hz0 hz1 .i64 .i64 _ _ fs.length rfl rfl rfl rfl (by rw [hz2]; omega) (by unfold maxLen; omega) (Nat.le_refl _) ?_
   intro w2 o2 g2
   have b2 : Below wx.heap.size wx w2 := (Below.refl _ wx).grown g2 (Nat.le_refl _) (by intro k h; cases h)
   exact hK _ _ ⟨.slice (some ⟨wx.heap.size, 0, none⟩) fs.length fs.length, (by simp [upd, e4, Act.put]), FX.pre_mk ⟨_, rfl, own_mono o2 hbx.size⟩, fun _ => b2, bC hbx b2⟩
  ·
   try dsimp only
   have x1 := depX hdp 1 (by kernel_rfl)
   have d1 := hall 1 (by omega) x1
   have x2 := depX hdp 2 (by kernel_rfl)
   have d2 := hall 2 (by omega) x2
   have e2 : t 2 = .int .i64 next := d2.1
   have x5 := depX hdp 5 (by kernel_rfl)
   have d5 := hall 5 (by omega) x5
   rw [e2]
   have y7 := notYet hsh hxi 7 (by kernel_rfl)
   have f1 : FRow w.heap.size wx (t 1) fs := FX.pre_of d1 y7
   have f5 : NRow w.heap.size wx (t 5) fs.length := FX.pre_of d5 y7
   obtain ⟨a1, c1, e1⟩ := f1.slice
   obtain ⟨a5, c5, e5⟩ := f5.slice
   rw [e1, e5]
   clear h0
   refine wpOp_step rfl (fun K' hK => ?_)
   go_simp
   exact hK _ _ ⟨.agg #[.bool true, .slice a1 fs.length c1, .int .i64 next, .slice a5 fs.length c5], (by simp [upd, e1, e2, e5]), FX.pre_mk ⟨_, _, _, _, rfl, e1 ▸ f1, e5 ▸ f5⟩, fun _ => Below.refl _ _, hbx⟩
  ·
   try dsimp only
   have x6 := depX hdp 6 (by kernel_rfl)
   have d6 := hall 6 (by omega) x6
   obtain ⟨a1, c1, a5, c5, e6, f1, f5⟩ : (fcBegun w.heap.size fs next).p (t 6) wx := FX.pre_of d6 hxi
   have hbox : wx.heap[w.heap.size]? = some (.cells #[.bool false, .slice none 0 0, .int .i64 0, .slice none 0 0] 43 (0, 0)) := hgx (by simp [hxi])
   rw [e6]
   have k0 := cR wx _ 0 _ _ _ hbox
   have k1 := cR wx _ 1 _ _ _ hbox
   have k2 := cR wx _ 2 _ _ _ hbox
   have k3 := cR wx _ 3 _ _ _ hbox
   have z0 := fR wx _ 0 _ _ hbox
   have z1 := fR wx _ 1 _ _ hbox
   have z2 := fR wx _ 2 _ _ hbox
   have z3 := fR wx _ 3 _ _ hbox
   simp only [gA, gZ, gU] at k0 k1 k2 k3
   have HBX := hid hbox
   clear hbox
   clear h0
   refine wpOp_step rfl (fun K' hK => ?_)
   go_simp
   exact hK _ _ ⟨undef, (by simp [upd, e6]), FX.is_mk (begun_box HBX.out f1 f5), fun h => absurd (by simp) h, set4b hbx (Nat.le_refl _)⟩
 ·intro x t wx hx hbx hall
  obtain ⟨a1, c1, a5, c5, hbox, f1, f5⟩ : (fcBox w.heap.size fs next).p (t 7) wx := FX.is_of (hall 7 (by omega))
  have HBX := hid hbox
  have HF1 := hid f1
  have HF5 := hid f5
  have HB := hid hbx
  clear hall hbx hbox f1 f5
  try dsimp only
  go_wp2
  refine bodyPost_ret (results_cell_row rfl _ _ w.heap.size 43 #[.bool true, .slice a1 fs.length c1, .int .i64 next, .slice a5 fs.length c5] (0, 0) _ rfl HBX.out Tryz.underlying43 rfl (by kernel_rfl)) rfl ?_
  exact ⟨a1, c1, a5, c5, rfl, HF1.out, HF5.out, HB.out⟩
end Go.Proofs.YtfaehioeepolhabGreat
namespace Go.Proofs.YtfaehioeepolhabGreat
def nameB (c : Nat) : Bool := (decide (97 ≤ c) && decide (c ≤ 122)) || (decide (65 ≤ c) && decide (c ≤ 90)) || (decide (48 ≤ c) && decide (c ≤ 57)) || decide (c = 95)
theorem nameB_split (c : Nat) : ((c < 48 ∨ (58 ≤ c ∧ c ≤ 64) ∨ (91 ≤ c ∧ c ≤ 94) ∨ c = 96 ∨ 123 ≤ c) ∧ nameB c = false) ∨ (((48 ≤ c ∧ c ≤ 57) ∨ (65 ≤ c ∧ c ≤ 90) ∨ c = 95 ∨ (97 ≤ c ∧ c ≤ 122)) ∧ nameB c = true) := by
 by_cases h : c < 48 ∨ (58 ≤ c ∧ c ≤ 64) ∨ (91 ≤ c ∧ c ≤ 94) ∨ c = 96 ∨ 123 ≤ c
 ·refine .inl ⟨h, ?_⟩
  simp [nameB]; omega
 ·refine .inr ⟨by omega, ?_⟩
  simp [nameB]; omega
def nameOK (n : List Nat) : Bool := decide (1 ≤ n.length) && decide (n.length ≤ 20) && n.all nameB
def widthOK (w : Int) : Bool := decide (w = 1 ∨ w = 2 ∨ w = 4 ∨ w = 8)
def kindOK (f : PF) : Bool := if f.kind = 1 then widthOK f.width else decide (0 ≤ f.kind) && decide (f.kind ≤ 3) && decide (f.width = 0)
def fieldOK (f : PF) : Bool := nameOK f.name && kindOK f
def taken (fs : List PF) (n : List Nat) : Bool := fs.any fun f => decide (f.name = n)
def okTo (fs : List PF) : Nat → Bool
 | 0 => true
 | k + 1 => okTo fs k && (match fs[k]? with | some f => fieldOK f && !taken (fs.take k) f.name | none => true)
def fieldsOK (fs : List PF) : Bool := decide (1 ≤ fs.length) && decide (fs.length ≤ 12) && okTo fs fs.length
theorem okTo_bad {fs : List PF} {k : Nat} (h : okTo fs k = false) : ∀ m, k ≤ m → okTo fs m = false := by
 intro m hm
 induction m with
 | zero =>
      have : k = 0 := by omega
      subst this; exact h
 | succ m ih =>
  by_cases e : k = m + 1
  ·subst e; exact h
  ·simp [okTo, ih (by omega)]
theorem okTo_succ {fs : List PF} {k : Nat} (hk : k < fs.length) : okTo fs (k + 1) = (okTo fs k && (fieldOK fs[k] && !taken (fs.take k) fs[k].name)) := by simp [okTo, hk]
theorem fieldsOK_bad {fs : List PF} {k : Nat} (hk : k < fs.length) (h : fieldOK fs[k] = false ∨ taken (fs.take k) fs[k].name = true) : fieldsOK fs = false := by
 have : okTo fs (k + 1) = false := by rw [okTo_succ hk]; rcases h with h | h <;> simp [h]
 simp [fieldsOK, okTo_bad this fs.length (by omega)]
theorem taken_at {fs : List PF} {n : List Nat} {k : Nat} (hk : k < fs.length) (h : fs[k].name = n) : taken fs n = true := by
 simp only [taken, List.any_eq_true, decide_eq_true_eq]
 exact ⟨fs[k], List.getElem_mem hk, h⟩
theorem not_taken {fs : List PF} {n : List Nat} (h : ∀ k, (hk : k < fs.length) → fs[k].name ≠ n) : taken fs n = false := by
 simp only [taken, List.any_eq_false, decide_eq_true_eq]
 intro f hf
 obtain ⟨k, hk, rfl⟩ := List.getElem_of_mem hf
 exact h k hk
theorem all_bad {xs : List Nat} {p : Nat → Bool} {k : Nat} (hk : k < xs.length) (h : p xs[k] = false) : xs.all p = false := by
 simp only [List.all_eq_false]
 exact ⟨xs[k], List.getElem_mem hk, by simp [h]⟩
theorem all_ok {xs : List Nat} {p : Nat → Bool} (h : ∀ k, (hk : k < xs.length) → p xs[k] = true) : xs.all p = true := by
 simp only [List.all_eq_true]
 intro x hx
 obtain ⟨k, hk, rfl⟩ := List.getElem_of_mem hx
 exact h k hk
end Go.Proofs.YtfaehioeepolhabGreat
namespace Go.Proofs.YtfaehioeepolhabGreat
open Go.RowKit
def hdrF (f : PF) : List Nat := f.kind.toNat :: f.width.toNat :: f.name
def hdrB (fs : List PF) (n : Nat) : List (List Nat) := digs n 8 :: fs.map hdrF
def startOK (fs : List PF) (next : Int) : Bool := fieldsOK fs && decide (0 ≤ next ∧ next ≤ 1000000000)
def startS (fs : List PF) (next : Int) : PStr := if startOK fs next = true then ⟨true, fs, next, List.replicate fs.length []⟩ else ⟨false, [], 0, []⟩
def startB (fs : List PF) (next : Int) : List Nat := if startOK fs next = true then encM 1 0 fs.length (hdrB fs next.toNat) else []
def startC (fs : List PF) (next : Int) : Int := if startOK fs next = true then 0 else 1
theorem okTo_at {fs : List PF} : ∀ m, okTo fs m = true → ∀ k, k < m → (h : k < fs.length) → fieldOK fs[k] = true := by
 intro m
 induction m with
 | zero => intro _ k h; omega
 | succ m ih =>
  intro h k hk hl
  simp only [okTo, Bool.and_eq_true] at h
  by_cases e : k = m
  ·subst e
   have h2 := h.2
   rw [List.getElem?_eq_getElem hl] at h2
   simp only [Bool.and_eq_true] at h2
   exact h2.1
  ·exact ih h.1 k (by omega) hl
theorem fieldOK_bounds {f : PF} (h : fieldOK f = true) : 1 ≤ f.name.length ∧ f.name.length ≤ 20 ∧ 0 ≤ f.kind ∧ f.kind ≤ 3 ∧ 0 ≤ f.width ∧ f.width ≤ 8 := by
 simp only [fieldOK, nameOK, Bool.and_eq_true, decide_eq_true_eq] at h
 obtain ⟨⟨⟨h1, h2⟩, _⟩, h3⟩ := h
 refine ⟨h1, h2, ?_⟩
 unfold kindOK at h3
 split at h3
 ·rename_i e
  simp only [widthOK, decide_eq_true_eq] at h3
  omega
 ·simp only [Bool.and_eq_true, decide_eq_true_eq] at h3
  omega
theorem fieldsOK_bounds {fs : List PF} (h : fieldsOK fs = true) : fs.length ≤ 12 ∧ ∀ k, (hk : k < fs.length) → 1 ≤ fs[k].name.length ∧ fs[k].name.length ≤ 20 ∧ 0 ≤ fs[k].kind ∧ fs[k].kind ≤ 3 ∧ 0 ≤ fs[k].width ∧ fs[k].width ≤ 8 := by
 simp only [fieldsOK, Bool.and_eq_true, decide_eq_true_eq] at h
 exact ⟨h.1.2, fun k hk => fieldOK_bounds (okTo_at _ h.2 k hk hk)⟩
theorem hdrB_len (fs : List PF) (n : Nat) : (hdrB fs n).length = fs.length + 1 := by simp [hdrB]
theorem hdrB_take (fs : List PF) (n k : Nat) (h : k < fs.length) : (hdrB fs n).take (k + 2) = (hdrB fs n).take (k + 1) ++ [hdrF fs[k]] := by
 have e : hdrF fs[k] = (fs.map hdrF)[k]'(by simpa using h) := by simp
 show (digs n 8 :: fs.map hdrF).take (k + 1 + 1) = (digs n 8 :: fs.map hdrF).take (k + 1) ++ [hdrF fs[k]]
 rw [List.take_succ_cons, List.take_succ_cons, List.take_succ_eq_append_getElem (by simpa using h), e]
 rfl
theorem hdr_tot {fs : List PF} (n : Nat) (h : fieldsOK fs = true) : tot (hdrB fs n) ≤ 272 := by
 obtain ⟨hl, hb⟩ := fieldsOK_bounds h
 have key : ∀ k, k ≤ fs.length → tot ((fs.map hdrF).take k) ≤ 22 * k := by
  intro k
  induction k with
  | zero => intro _; simp [tot]
  | succ k ih =>
   intro hk
   rw [tot_snoc _ k (by simp; omega)]
   have := ih (by omega)
   have := hb k hk
   simp [hdrF]
   omega
 have h1 := key fs.length (Nat.le_refl _)
 rw [List.take_of_length_le (by simp)] at h1
 have h2 : tot (hdrB fs n) = 8 + tot (fs.map hdrF) := by simp [hdrB, tot, digs_len]
 omega
theorem join_le (xss : List (List Nat)) : (join xss).length ≤ tot xss + 7 * xss.length := by
 have key : ∀ k, k ≤ xss.length → (join (xss.take k)).length ≤ tot (xss.take k) + 7 * k := by
  intro k
  induction k with
  | zero => intro _; simp [join]
  | succ k ih =>
   intro h
   rw [join_next xss k h, tot_snoc xss k h]
   have := ih (by omega)
   have := (evn_le xss[k].length).2.1
   omega
 have := key xss.length (Nat.le_refl _)
 rwa [List.take_length] at this
theorem hdr_fits {fs : List PF} (n : Nat) (h : fieldsOK fs = true) : (encM 1 0 fs.length (hdrB fs n)).length ≤ 20000 := by
 have h1 := hdr_tot n h
 have h2 := join_le (lensM (hdrB fs n) :: hdrB fs n)
 have h3 : tot (lensM (hdrB fs n) :: hdrB fs n) = 4 * (hdrB fs n).length + tot (hdrB fs n) := by simp [tot, lensM_len]
 have h4 := (fieldsOK_bounds h).1
 rw [hdrB_len] at h3
 simp only [encM, bodyM, List.length_append, headM_len, digs_len]
 simp only [List.length_cons, hdrB_len] at h2
 omega
theorem infoByteJspec : (Tryz.prog.info? 5).map (fun i => (i.zero, i.size, i.bytes)) = some (some (.int .u8 0), 1, 1) := by kernel_rfl
theorem join_len (xss : List (List Nat)) : (join xss).length ≤ tot xss + 8 * xss.length := by
 have key : ∀ k, k ≤ xss.length → (join (xss.take k)).length ≤ tot (xss.take k) + 8 * k := by
  intro k
  induction k with
  | zero => intro _; simp [join]
  | succ k ih =>
   intro h
   have h1 := ih (by omega)
   rw [join_snoc xss k (by omega), joinStep_len, tot_snoc xss k (by omega)]
   have := padn_le ((join (xss.take k)).length + xss[k].length)
   omega
 have := key xss.length (Nat.le_refl _)
 rwa [List.take_length] at this
set_option maxHeartbeats 2000000 in
set_option maxRecDepth 100000 in
theorem specJoin_any (a : Option Addr) (cap : Nat) (xss : List (List Nat)) (w : World) (hr : RdSS w a xss) (hn : xss.length ≤ 1048576) (ht : tot xss ≤ 1048576) :
  Calls Tryz.prog 151 #[.slice a xss.length cap] w fun e w' => ∃ a' c', e = .returned (.slice a' (join xss).length c') ∧ w'.ownsRow w.heap.size 5 1 (.slice a' (join xss).length c') (join xss).length (byt (join xss)) ∧ Below w.heap.size w w' := by
 obtain ⟨i0, hi, hz0, hz1, hz2⟩ := info_parts infoByteJspec
 have HR := hid hr
 clear hr
 go_enter Tryz.func151, Tryz.ntmps151
 go_wp2
 go_loopw [3, 4] (fun v i wr => ∃ k : Nat, k ≤ xss.length ∧ i = .int .i64 k ∧ wr.ownsRow w.heap.size 5 1 v (join (xss.take k)).length (byt (join (xss.take k))) ∧ (join (xss.take k)).length ≤ tot (xss.take k) + 8 * k ∧ Below w.heap.size w wr) (fun _ i _ => xss.length - (intOf i).toNat)
 case atStart => exact ⟨0, Nat.zero_le _, rfl, by simpa [byt, join] using World.ownsRow_nil _ _ _ _, by simp [join], Below.refl _ _⟩
 case round =>
  obtain ⟨k, hk, rfl, how, hle, hbe⟩ := hrel
  have HO := hid how
  have HB := hid hbe
  have HLE := hid hle
  clear how hbe hle
  by_cases hlt : k < xss.length
  ·obtain ⟨b, off, a', c', rfl, hcb, hrr, hzz⟩ := (HR.out.later HB.out).at_ hlt
   have HRR := hid hrr
   have hlk := len_le_tot xss k hlt
   have htk := tot_take xss k
   have HTS := hid (tot_snoc xss k hlt)
   have HJ := hid (join_snoc xss k hlt)
   have hki : (k : Int) < (xss.length : Int) := by omega
   have hlen : (join (xss.take k)).length ≤ 9437184 := by have := HLE.out; omega
   obtain ⟨Z, hZ⟩ : ∃ Z, Z = join (xss.take k) ++ xss[k] := ⟨_, rfl⟩
   have hZl : Z.length ≤ 10485760 := by rw [hZ, List.length_append]; omega
   have HZ := hid hZ
   clear hrr hZ
   cases a' with
   | none =>
    obtain rfl := hzz rfl
    have h0 : xss[k] = [] := by
     rcases HRR.out with h | ⟨_, _, h, _⟩
     ·simpa [byt] using h
     ·cases h
    have h0l : xss[k].length = 0 := by rw [h0]; rfl
    rw [h0l] at hcb
    have HBz := hid HB.out
    have HEz : Hid (Z = join (xss.take k)) := hid (by rw [HZ.out, h0, List.append_nil])
    have hOz := HO.out
    rw [← HEz.out] at hOz
    have HOz := hid hOz
    clear h0 h0l hOz
    go_wp2_with (first | (at_builtin; refine wpList_append_own_none rfl _ _ 87 rfl w.heap.size 5 i0 1 Tryz.underlying87 hi _ _ _ rfl HO.out rfl ?_))
    go_wp2
    go_loopw [3] (fun v wx => ∃ p : Nat, p ≤ padn Z.length ∧ wx.ownsRow w.heap.size 5 1 v (Z.length + p) (byt (Z ++ List.replicate p 0)) ∧ Below w.heap.size w wx) (fun v _ => padn Z.length + Z.length - lenOf v)
    case atStart => exact ⟨0, Nat.zero_le _, by simpa using HOz.out, HBz.out⟩
    case round =>
     obtain ⟨p, hp, how, hbe⟩ := hrel
     have hp7 := padn_le Z.length
     have HD := hid (padn_done hp)
     obtain ⟨a2, c2, rfl, _⟩ := rd_own how
     have HO3 := hid how
     have HB3 := hid hbe
     clear how hbe HOz HBz
     by_cases hd : p = padn Z.length
     ·have ht : (((Z.length : Int) + (p : Int)) % 8 != 0) = false := by
       have := HD.out.2 hd
       simp; omega
      have HO4 : Hid (wr.ownsRow w.heap.size 5 1 (.slice a2 (Z.length + p) c2) (join (xss.take (k + 1))).length (byt (join (xss.take (k + 1))))) := hid (by
       rw [HJ.out]
       have h := HO3.out
       have e : Z ++ List.replicate p 0 = joinStep (join (xss.take k)) xss[k] := by rw [hd, HZ.out]; rfl
       have e2 : Z.length + p = (joinStep (join (xss.take k)) xss[k]).length := by rw [← e]; simp
       rw [e] at h
       rw [← e2]; exact h)
      have HLE2 : Hid ((join (xss.take (k + 1))).length ≤ tot (xss.take (k + 1)) + 8 * (k + 1)) := hid (by
       rw [HJ.out, joinStep_len, HTS.out]
       have := padn_le ((join (xss.take k)).length + xss[k].length)
       have := HLE.out; omega)
      clear hd
      go_wp2
      go_roundw
      case rel => exact ⟨k + 1, by omega, by go_num, HO4.out, HLE2.out, HB3.out⟩
      case measure => simp [intOf]; omega
     ·have ht : (((Z.length : Int) + (p : Int)) % 8 != 0) = true := by
       have := mt HD.out.1 hd
       simp; omega
      go_wp2_with (first | (at_builtin; refine wpList_append_own _ rfl _ _ 87 rfl w.heap.size 5 i0 (.int .u8 0) 1 1 Tryz.underlying87 hi hz0 hz1 hz2 rfl (by decide) _ (Z.length + p) _ rfl (HO3.out.alloc _) ⟨wr.heap.size, 0, none⟩ 1 1 [.int .u8 0] rfl rfl (cell_one_new _ _ _) (one_cell rfl) (by unfold maxLen; omega) (by omega) (by have := HB3.out.size; simp; omega) ?_))
      intro v' w3 hown' hgrow _
      have HB4 : Hid (Below w.heap.size w w3) := hid ((HB3.out.alloc HB3.out.size _).grown hgrow (by have := HB3.out.size; simp; omega) (fun k h => (World.ownsRow.lt HO3.out k h).1))
      have HL4 := hid (own_len hown')
      have HO4 : Hid (w3.ownsRow w.heap.size 5 1 v' (Z.length + (p + 1)) (byt (Z ++ List.replicate (p + 1) 0))) := hid (by
       rw [List.replicate_succ', ← List.append_assoc, byt_append, ← Nat.add_assoc]; exact hown')
      clear hown' hgrow
      go_wp2
      go_roundw
      case rel => exact ⟨p + 1, by omega, HO4.out, HB4.out⟩
      case measure => rw [HL4.out]; simp [lenOf]; omega
   | some ad =>
    have hC : ∀ j u, (byt xss[k])[j]? = some u → wr.cell? (ad.add j) = some u := by
     intro j u hj
     rcases HRR.out with h | ⟨b', o', h, hc'⟩
     ·rw [h] at hj; simp at hj
     ·obtain rfl : ad = ⟨b', o', none⟩ := by simpa using h
      obtain ⟨h1, h2⟩ := List.getElem?_eq_some_iff.1 hj
      have hadd : (⟨b', o', none⟩ : Addr).add j = ⟨b', o' + j, none⟩ := by unfold Addr.add; split <;> simp_all
      rw [hadd, hc' j h1, h2]
    have HC2 := hid hC
    clear hC
    go_wp2_with (first | (at_builtin; refine wpList_append_own _ rfl _ _ 87 rfl w.heap.size 5 i0 (.int .u8 0) 1 1 Tryz.underlying87 hi hz0 hz1 hz2 rfl (by decide) _ (join (xss.take k)).length _ rfl HO.out ad xss[k].length c' (byt xss[k]) rfl (by rw [byt_len, Nat.mul_one]) HC2.out (byt_one _) (by unfold maxLen; omega) (by omega) HB.out.size ?_))
    intro v1 w1 hown1 hgrow1 _
    have HBz : Hid (Below w.heap.size w w1) := hid (HB.out.grown hgrow1 HB.out.size (fun k h => (World.ownsRow.lt HO.out k h).1))
    have HOz : Hid (w1.ownsRow w.heap.size 5 1 v1 Z.length (byt Z)) := hid (by
     rw [HZ.out, byt_append, List.length_append]; exact hown1)
    clear hown1 hgrow1
    go_wp2
    go_loopw [3] (fun v wx => ∃ p : Nat, p ≤ padn Z.length ∧ wx.ownsRow w.heap.size 5 1 v (Z.length + p) (byt (Z ++ List.replicate p 0)) ∧ Below w.heap.size w wx) (fun v _ => padn Z.length + Z.length - lenOf v)
    case atStart => exact ⟨0, Nat.zero_le _, by simpa using HOz.out, HBz.out⟩
    case round =>
     obtain ⟨p, hp, how, hbe⟩ := hrel
     have hp7 := padn_le Z.length
     have HD := hid (padn_done hp)
     obtain ⟨a2, c2, rfl, _⟩ := rd_own how
     have HO3 := hid how
     have HB3 := hid hbe
     clear how hbe HOz HBz
     by_cases hd : p = padn Z.length
     ·have ht : (((Z.length : Int) + (p : Int)) % 8 != 0) = false := by
       have := HD.out.2 hd
       simp; omega
      have HO4 : Hid (wr.ownsRow w.heap.size 5 1 (.slice a2 (Z.length + p) c2) (join (xss.take (k + 1))).length (byt (join (xss.take (k + 1))))) := hid (by
       rw [HJ.out]
       have h := HO3.out
       have e : Z ++ List.replicate p 0 = joinStep (join (xss.take k)) xss[k] := by rw [hd, HZ.out]; rfl
       have e2 : Z.length + p = (joinStep (join (xss.take k)) xss[k]).length := by rw [← e]; simp
       rw [e] at h
       rw [← e2]; exact h)
      have HLE2 : Hid ((join (xss.take (k + 1))).length ≤ tot (xss.take (k + 1)) + 8 * (k + 1)) := hid (by
       rw [HJ.out, joinStep_len, HTS.out]
       have := padn_le ((join (xss.take k)).length + xss[k].length)
       have := HLE.out; omega)
      clear hd
      go_wp2
      go_roundw
      case rel => exact ⟨k + 1, by omega, by go_num, HO4.out, HLE2.out, HB3.out⟩
      case measure => simp [intOf]; omega
     ·have ht : (((Z.length : Int) + (p : Int)) % 8 != 0) = true := by
       have := mt HD.out.1 hd
       simp; omega
      go_wp2_with (first | (at_builtin; refine wpList_append_own _ rfl _ _ 87 rfl w.heap.size 5 i0 (.int .u8 0) 1 1 Tryz.underlying87 hi hz0 hz1 hz2 rfl (by decide) _ (Z.length + p) _ rfl (HO3.out.alloc _) ⟨wr.heap.size, 0, none⟩ 1 1 [.int .u8 0] rfl rfl (cell_one_new _ _ _) (one_cell rfl) (by unfold maxLen; omega) (by omega) (by have := HB3.out.size; simp; omega) ?_))
      intro v' w3 hown' hgrow _
      have HB4 : Hid (Below w.heap.size w w3) := hid ((HB3.out.alloc HB3.out.size _).grown hgrow (by have := HB3.out.size; simp; omega) (fun k h => (World.ownsRow.lt HO3.out k h).1))
      have HL4 := hid (own_len hown')
      have HO4 : Hid (w3.ownsRow w.heap.size 5 1 v' (Z.length + (p + 1)) (byt (Z ++ List.replicate (p + 1) 0))) := hid (by
       rw [List.replicate_succ', ← List.append_assoc, byt_append, ← Nat.add_assoc]; exact hown')
      clear hown' hgrow
      go_wp2
      go_roundw
      case rel => exact ⟨p + 1, by omega, HO4.out, HB4.out⟩
      case measure => rw [HL4.out]; simp [lenOf]; omega
  ·obtain rfl : k = xss.length := by omega
   have hO := HO.out
   rw [List.take_length] at hO
   obtain ⟨a', c', rfl, _⟩ := rd_own hO
   have HO2 := hid hO
   clear hO HO
   go_wp2
   go_ret
   exact ⟨_, _, rfl, HO2.out, HB.out⟩
end Go.Proofs.YtfaehioeepolhabGreat
