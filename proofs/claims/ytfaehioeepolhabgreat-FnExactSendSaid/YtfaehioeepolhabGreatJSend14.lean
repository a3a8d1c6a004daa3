/- Begin, FldMath, StartMath, PkiPost, PkiLit, CrcSpec, MKit. -/
import Derived.Test.YtfaehioeepolhabGreatJSend13
import Derived.Test.YtfaehioeepolhabGreatJSend7
import Derived.Test.YtfaehioeepolhabGreatJSend2
import Derived.Test.YtfaehioeepolhabGreatJSend5
import Derived.Test.YtfaehioeepolhabGreatJSend0
import Derived.Test.YtfaehioeepolhabGreatJSend12
/- spec.l4begin. -/
namespace Go.Proofs.YtfaehioeepolhabGreat
open Go.RowKit

theorem FRow.mono {B B' : Nat} {w : World} {v : Value} {fs : List PF} (h : FRow B w v fs) (hb : B' ≤ B) : FRow B' w v fs := by
  obtain ⟨vals, ho, hi⟩ := h
  exact ⟨vals, ⟨ho.1, ho.2.imp id (fun ⟨g, cap, cur, h1, h2, h3⟩ => ⟨g, cap, cur, h1, Nat.le_trans hb h2, h3⟩)⟩, fun i h => by obtain ⟨u, h1, h2, h3⟩ := hi i h; exact ⟨u, h1, own_mono h2 hb, h3⟩⟩
theorem FRow.kept {B : Nat} {w w' : World} {v : Value} {fs : List PF} (h : FRow B w v fs) (hk : ∀ (b : Nat) e s n vs u, w.ownsRow B e s u n vs → (e = 101 ∨ e = 5) → u.ownBlock = some b → w'.heap[b]? = w.heap[b]?) : FRow B w' v fs := by
  obtain ⟨vals, ho, hi⟩ := h
  exact ⟨vals, ownsRow_kept ho (fun b hb => hk b _ _ _ _ _ ho (.inl rfl) hb), fun i h => by
    obtain ⟨u, h1, h2, h3⟩ := hi i h
    exact ⟨u, h1, ownsRow_kept h2 (fun b hb => hk b _ _ _ _ _ h2 (.inr rfl) hb), h3⟩⟩
theorem step_make_full {P : Program} (w : World) {ops : Array Oper} {o : Oper} {a : Act} {K : Act → World → Prop} {Q : Exit → Act → World → Prop} {E : Prop}
    (hg : o.guard = none) (l c : Operand) (t : TypeId) (hop : o.op = Op.makeSlice t l c)
    (base : Nat) (e : TypeId) (i : TypeInfo) (z : Value) (size : Nat) (h1 : P.underlying t = some (.slice e)) (h2 : P.info? e = some i) (h3 : i.zero = some z) (h4 : i.size = size)
    (kl kc : IntKind) (L C : Int) (n : Nat) (hl : a.eval l = .int kl L) (hc : a.eval c = .int kc C) (hL : L = (n : Int)) (hC : C = (n : Int)) (b2 : i.bytes * n ≤ 281474976710656) (b3 : n ≤ maxLen) (b4 : base ≤ w.heap.size)
    (hK : ∀ w', w'.ownsRow base e size (.slice (some ⟨w.heap.size, 0, none⟩) n n) n (madeCells z.cells (n * size)).toList → w.grownBy w' none → K (a.put o.dst (.slice (some ⟨w.heap.size, 0, none⟩) n n)) w') :
    if Region.wanted o (yielded ops a.tmps) = true then Oper.wp P o a w K Q else E := by
  rw [if_pos (by unfold Region.wanted; rw [hg])]
  obtain ⟨w', hrun, r1, r2⟩ := run_make_full (P := P) w base t e i z size h1 h2 h3 h4 kl kc n b2 b3 b4
  subst hL
  subst hC
  unfold Oper.wp
  simp [execOp, hop, hl, hc, hrun, Result.andThen]
  exact hK w' r1 r2
theorem infoSSb : (Tryz.prog.info? 103).map (fun i => (i.zero, i.size, i.bytes)) = some (some (.slice none 0 0), 1, 24) := by kernel_rfl
/-- Empty dictionaries. -/
theorem nils_rd {B n : Nat} {w : World} {g : Nat} {e : TypeId} (h : w.ownsRow B e 1 (.slice (some ⟨g, 0, none⟩) n n) n (madeCells (Value.slice none 0 0).cells (n * 1)).toList) : RdSl cSSS w (List.replicate n []) (.slice (some ⟨g, 0, none⟩) n n) := by
  rw [Nat.mul_one, show (Value.slice none 0 0).cells = #[Value.slice none 0 0] from rfl, toList_madeCells_one] at h
  obtain ⟨hm, -⟩ : n ≤ maxLen ∧ True := by
    rcases h.2 with ⟨h0, _⟩ | ⟨g', cap, cur, h0, _, _, hn, hm, _⟩
    · cases h0
    · simp at h0; exact ⟨by omega, trivial⟩
  refine ⟨_, n, by simp, by simp, hm, (fun h => by cases h), .inr ⟨g, 0, rfl, fun i hi => ?_⟩⟩
  have hin : i < n := by simpa using hi
  refine ⟨[.slice none 0 0], ⟨_, rfl, ?_⟩, fun j hj => ?_⟩
  · rw [List.getElem_replicate]; exact RdSl.empty none
  · have hj0 : j = 0 := by simpa using hj
    subst hj0
    have := World.ownsRow.cellAt h i (by simpa using hin)
    rw [show 0 + (i * cSSS.n + 0) = i from by simp [cSl], this]
    simp [hin]
/-- A row of empty dictionaries. -/
def NRow (B : Nat) (w : World) (v : Value) (n : Nat) : Prop := ∃ g, v = .slice (some ⟨g, 0, none⟩) n n ∧ w.ownsRow B 103 1 v n (madeCells (Value.slice none 0 0).cells (n * 1)).toList
theorem NRow.later {B n : Nat} {w w' : World} {v : Value} (h : NRow B w v n) (hb : Below w.heap.size w w') : NRow B w' v n := by
  obtain ⟨g, e, h⟩ := h
  exact ⟨g, e, own_later h hb⟩
theorem NRow.rd {B n : Nat} {w : World} {v : Value} (h : NRow B w v n) : RdSl cSSS w (List.replicate n []) v := by
  obtain ⟨g, rfl, h⟩ := h
  exact nils_rd h
theorem NRow.slice {B n : Nat} {w : World} {v : Value} (h : NRow B w v n) : ∃ a c, v = .slice a n c := by
  obtain ⟨g, rfl, -⟩ := h
  exact ⟨_, _, rfl⟩
def fcNils (B n : Nat) : Fct := ⟨fun v w => NRow B w v n, fun _ _ _ h hb => h.later hb⟩
def fcBegun (B : Nat) (fs : List PF) (next : Int) : Fct := ⟨fun v w => ∃ a c b d, v = .agg #[.bool true, .slice a fs.length c, .int .i64 next, .slice b fs.length d] ∧ FRow B w (.slice a fs.length c) fs ∧ NRow B w (.slice b fs.length d) fs.length, fun _ _ _ ⟨a, c, b, d, e, h1, h2⟩ hb => ⟨a, c, b, d, e, h1.later hb, h2.later hb⟩⟩
def fcBox (B : Nat) (fs : List PF) (next : Int) : Fct := ⟨fun _ w => ∃ a c b d, w.heap[B]? = some (.cells #[.bool true, .slice a fs.length c, .int .i64 next, .slice b fs.length d] 43 (0, 0)) ∧ FRow B w (.slice a fs.length c) fs ∧ NRow B w (.slice b fs.length d) fs.length, fun _ _ _ ⟨a, c, b, d, e, h1, h2⟩ hb => ⟨a, c, b, d, (hb.block _ (Array.getElem?_eq_some_iff.1 e).1).trans e, h1.later hb, h2.later hb⟩⟩
def fcZero (B : Nat) : Fct := ⟨fun _ w => w.heap[B]? = some (.cells #[.bool false, .slice none 0 0, .int .i64 0, .slice none 0 0] 43 (0, 0)), fun _ _ _ h hb => (hb.block _ (Array.getElem?_eq_some_iff.1 h).1).trans h⟩
theorem begun_box {B : Nat} {w : World} {fs : List PF} {next : Int} {a b : Option Addr} {c d : Nat} (hb : w.heap[B]? = some (.cells #[.bool false, .slice none 0 0, .int .i64 0, .slice none 0 0] 43 (0, 0))) (h1 : FRow B w (.slice a fs.length c) fs) (h2 : NRow B w (.slice b fs.length d) fs.length) {v : Value} :
    (fcBox B fs next).p v ((((w.setCell ⟨B, 0, none⟩ (.bool true)).setCell ⟨B, 1, none⟩ (.slice a fs.length c)).setCell ⟨B, 2, none⟩ (.int .i64 next)).setCell ⟨B, 3, none⟩ (.slice b fs.length d)) := by
  have far : ∀ (p : Nat) (e : TypeId) s n vs u, w.ownsRow B e s u n vs → e ≠ 43 → u.ownBlock = some p → p ≠ B := fun p e s n vs u ho hne hp hpe => by
    subst hpe
    rcases ho.2 with ⟨rfl, _⟩ | ⟨g, cap, cur, rfl, _, hh, _⟩
    · simp [Value.ownBlock] at hp
    · simp [Value.ownBlock] at hp
      subst hp
      rw [hb] at hh
      simp at hh
      exact hne hh.2.symm
  refine ⟨a, c, b, d, set4 hb, h1.kept (fun p e s n vs u ho he hp => set4o (far p e s n vs u ho (by rcases he with rfl | rfl <;> decide) hp)), ?_⟩
  obtain ⟨g, e, ho⟩ := h2
  exact ⟨g, e, ownsRow_kept ho (fun p hp => set4o (far p _ _ _ _ _ ho (by decide) hp))⟩
def lbT (B : Nat) (fs : List PF) (a : Option Addr) (c : Nat) (next : Int) : Nat → FX
  | 0 => FX.eq (.slice a fs.length c)
  | 1 => FX.pre [7] (fcRow B fs)
  | 2 => FX.eq (.int .i64 next)
  | 3 => FX.eq (.slice a fs.length c)
  | 4 => FX.eq (.int .i64 (fs.length : Int))
  | 5 => FX.pre [7] (fcNils B fs.length)
  | 6 => FX.pre [7] (fcBegun B fs next)
  | 7 => FX.is (fcBox B fs next)
  | _ => FX.eq undef

set_option maxRecDepth 100000 in
set_option maxHeartbeats 4000000 in
theorem l4begin_any (a : Option Addr) (c : Nat) (fs : List PF) (next : Int) (w : World) (hr : RdSl cField w fs (.slice a fs.length c)) (ht : totL (fun f : PF => f.name.length) fs ≤ 1048576) :
    Calls Tryz.prog 135 #[.slice a fs.length c, .int .i64 next] w fun e w' => ∃ a' c' b' d', e = .returned (.agg #[.bool true, .slice a' fs.length c', .int .i64 next, .slice b' fs.length d']) ∧ FRow w.heap.size w' (.slice a' fs.length c') fs ∧ NRow w.heap.size w' (.slice b' fs.length d') fs.length ∧ Below w.heap.size w w' := by
  obtain ⟨i0, hi0, hz0, hz1, hz2⟩ := info_parts infoSSb
  have HR := hid hr
  have hlen : fs.length ≤ 1048576 := by unfold totL at ht; omega
  have HB0 := hid (below_new1 w (.cells #[.bool false, .slice none 0 0, .int .i64 0, .slice none 0 0] 43))
  have HK0 : Hid ((w.alloc (.cells #[.bool false, .slice none 0 0, .int .i64 0, .slice none 0 0] 43)).heap[w.heap.size]? = some (.cells #[.bool false, .slice none 0 0, .int .i64 0, .slice none 0 0] 43 (0, 0))) := hid (heap_alloc_new w _)
  clear hr
  go_enter Tryz.func135, Tryz.ntmps135
  go_wp2_with fail
  refine region_turns (n := 8) (by kernel_rfl) (by kernel_rfl) rfl (fun t => { tmps := #[.slice a fs.length c, .int .i64 next, undef, undef, .pointer (some ⟨w.heap.size, 0, none⟩), t 0, t 1, t 2, t 3, t 4, t 5, t 6], defers := [] }) (lbT w.heap.size fs a c next) [7] (fcZero w.heap.size) w (w.alloc (.cells #[.bool false, .slice none 0 0, .int .i64 0, .slice none 0 0] 43)) (fun k => if k = 1 then [7] else if k = 5 then [7] else if k = 6 then [7] else []) (fun k => !(k == 1 || k == 5 || k == 6 || k == 7)) (by kernel_rfl) (fun j hj => by rcases (by omega : j = 0 ∨ j = 1 ∨ j = 2 ∨ j = 3 ∨ j = 4 ∨ j = 5 ∨ j = 6 ∨ j = 7) with rfl | rfl | rfl | rfl | rfl | rfl | rfl | rfl <;> rfl) (fun j hj hp => by rcases (by omega : j = 0 ∨ j = 1 ∨ j = 2 ∨ j = 3 ∨ j = 4 ∨ j = 5 ∨ j = 6 ∨ j = 7) with rfl | rfl | rfl | rfl | rfl | rfl | rfl | rfl <;> first | rfl | (exact absurd hp (by decide))) (fun j => ([undef, undef, undef, undef, undef, undef, undef, undef] : List Value).getD j undef) HB0.out (HK0.out) ?_ ?_
  · intro i hi x t wx hxi hsh h0 hbx hgx hdp hall
    rcases (by omega : i = 0 ∨ i = 1 ∨ i = 2 ∨ i = 3 ∨ i = 4 ∨ i = 5 ∨ i = 6 ∨ i = 7) with rfl | rfl | rfl | rfl | rfl | rfl | rfl | rfl
    · -- operation 0
      try dsimp only
      clear h0
      refine wpOp_step rfl (fun K' hK => ?_)
      go_simp
      exact hK _ _ ⟨.slice a fs.length c, (by simp [upd]), FX.eq_mk rfl, fun _ => Below.refl _ _, hbx⟩
    · -- operation 1
      try dsimp only
      have x0 := depX hdp 0 (by kernel_rfl)
      have d0 := hall 0 (by omega) x0
      have e0 : t 0 = .slice a fs.length c := d0.1
      rw [e0]
      clear h0
      refine wpOp_step rfl (fun K' hK => ?_)
      go_simp
      refine (l4fields_any a c fs wx (HR.out.later hbx) ht).mono ?_
      rintro e w2 ⟨v2, rfl, o2, b2⟩
      exact hK _ _ ⟨v2, (by simp [upd, e0]), FX.pre_mk (o2.mono hbx.size), fun _ => b2, below_chain hbx b2⟩
    · -- operation 2
      try dsimp only
      clear h0
      refine wpOp_step rfl (fun K' hK => ?_)
      go_simp
      exact hK _ _ ⟨.int .i64 next, (by simp [upd]), FX.eq_mk rfl, fun _ => Below.refl _ _, hbx⟩
    · -- operation 3
      try dsimp only
      clear h0
      refine wpOp_step rfl (fun K' hK => ?_)
      go_simp
      exact hK _ _ ⟨.slice a fs.length c, (by simp [upd]), FX.eq_mk rfl, fun _ => Below.refl _ _, hbx⟩
    · -- operation 4
      try dsimp only
      have x3 := depX hdp 3 (by kernel_rfl)
      have d3 := hall 3 (by omega) x3
      have e3 : t 3 = .slice a fs.length c := d3.1
      rw [e3]
      clear h0
      refine wpOp_step rfl (fun K' hK => ?_)
      go_simp
      exact hK _ _ ⟨.int .i64 (fs.length : Int), (by simp [upd, e3]), FX.eq_mk rfl, fun _ => Below.refl _ _, hbx⟩
    · -- operation 5
      try dsimp only
      have x4 := depX hdp 4 (by kernel_rfl)
      have d4 := hall 4 (by omega) x4
      have e4 : t 4 = .int .i64 (fs.length : Int) := d4.1
      rw [e4]
      clear h0
      refine wpOp_step rfl (fun K' hK => ?_)
      refine step_make_full wx rfl (.tmp 9) (.tmp 9) 27 rfl wx.heap.size 103 i0 (.slice none 0 0) 1 Tryz.underlying27 hi0 hz0 hz1 .i64 .i64 _ _ fs.length rfl rfl rfl rfl (by rw [hz2]; omega) (by unfold maxLen; omega) (Nat.le_refl _) ?_
      intro w2 o2 g2
      have b2 : Below wx.heap.size wx w2 := (Below.refl _ wx).grown g2 (Nat.le_refl _) (by intro k h; cases h)
      exact hK _ _ ⟨.slice (some ⟨wx.heap.size, 0, none⟩) fs.length fs.length, (by simp [upd, e4, Act.put]), FX.pre_mk ⟨_, rfl, own_mono o2 hbx.size⟩, fun _ => b2, below_chain hbx b2⟩
    · -- operation 6
      try dsimp only
      have x1 := depX hdp 1 (by kernel_rfl)
      have d1 := hall 1 (by omega) x1
      have x2 := depX hdp 2 (by kernel_rfl)
      have d2 := hall 2 (by omega) x2
      have e2 : t 2 = .int .i64 next := d2.1
      have x5 := depX hdp 5 (by kernel_rfl)
      have d5 := hall 5 (by omega) x5
      rw [e2]
      have y7 := notYet hsh hxi 7 (by kernel_rfl)
      have f1 : FRow w.heap.size wx (t 1) fs := FX.pre_of d1 y7
      have f5 : NRow w.heap.size wx (t 5) fs.length := FX.pre_of d5 y7
      obtain ⟨a1, c1, e1⟩ := f1.slice
      obtain ⟨a5, c5, e5⟩ := f5.slice
      rw [e1, e5]
      clear h0
      refine wpOp_step rfl (fun K' hK => ?_)
      go_simp
      exact hK _ _ ⟨.agg #[.bool true, .slice a1 fs.length c1, .int .i64 next, .slice a5 fs.length c5], (by simp [upd, e1, e2, e5]), FX.pre_mk ⟨_, _, _, _, rfl, e1 ▸ f1, e5 ▸ f5⟩, fun _ => Below.refl _ _, hbx⟩
    · -- operation 7
      try dsimp only
      have x6 := depX hdp 6 (by kernel_rfl)
      have d6 := hall 6 (by omega) x6
      obtain ⟨a1, c1, a5, c5, e6, f1, f5⟩ : (fcBegun w.heap.size fs next).p (t 6) wx := FX.pre_of d6 hxi
      have hbox : wx.heap[w.heap.size]? = some (.cells #[.bool false, .slice none 0 0, .int .i64 0, .slice none 0 0] 43 (0, 0)) := hgx (by simp [hxi])
      rw [e6]
      have k0 := cell_of_row wx _ 0 _ _ _ hbox
      have k1 := cell_of_row wx _ 1 _ _ _ hbox
      have k2 := cell_of_row wx _ 2 _ _ _ hbox
      have k3 := cell_of_row wx _ 3 _ _ _ hbox
      have z0 := frozen_of_row wx _ 0 _ _ hbox
      have z1 := frozen_of_row wx _ 1 _ _ hbox
      have z2 := frozen_of_row wx _ 2 _ _ hbox
      have z3 := frozen_of_row wx _ 3 _ _ hbox
      simp only [List.getElem?_toArray, List.getElem?_cons_zero, List.getElem?_cons_succ] at k0 k1 k2 k3
      have HBX := hid hbox
      clear hbox
      clear h0
      refine wpOp_step rfl (fun K' hK => ?_)
      go_simp
      exact hK _ _ ⟨undef, (by simp [upd, e6]), FX.is_mk (begun_box HBX.out f1 f5), fun h => absurd (by simp) h, set4b hbx (Nat.le_refl _)⟩
  · intro x t wx hx hbx hall
    obtain ⟨a1, c1, a5, c5, hbox, f1, f5⟩ : (fcBox w.heap.size fs next).p (t 7) wx := FX.is_of (hall 7 (by omega))
    have HBX := hid hbox
    have HF1 := hid f1
    have HF5 := hid f5
    have HB := hid hbx
    clear hall hbx hbox f1 f5
    try dsimp only
    go_wp2
    refine bodyPost_ret (results_cell_row rfl _ _ w.heap.size 43 #[.bool true, .slice a1 fs.length c1, .int .i64 next, .slice a5 fs.length c5] (0, 0) _ rfl HBX.out Tryz.underlying43 rfl (by kernel_rfl)) rfl ?_
    exact ⟨a1, c1, a5, c5, rfl, HF1.out, HF5.out, HB.out⟩

end Go.Proofs.YtfaehioeepolhabGreat

/- What valid fields are. No program. -/
namespace Go.Proofs.YtfaehioeepolhabGreat

def nameB (c : Nat) : Bool := (decide (97 ≤ c) && decide (c ≤ 122)) || (decide (65 ≤ c) && decide (c ≤ 90)) || (decide (48 ≤ c) && decide (c ≤ 57)) || decide (c = 95)
theorem nameB_split (c : Nat) : ((c < 48 ∨ (58 ≤ c ∧ c ≤ 64) ∨ (91 ≤ c ∧ c ≤ 94) ∨ c = 96 ∨ 123 ≤ c) ∧ nameB c = false) ∨ (((48 ≤ c ∧ c ≤ 57) ∨ (65 ≤ c ∧ c ≤ 90) ∨ c = 95 ∨ (97 ≤ c ∧ c ≤ 122)) ∧ nameB c = true) := by
  by_cases h : c < 48 ∨ (58 ≤ c ∧ c ≤ 64) ∨ (91 ≤ c ∧ c ≤ 94) ∨ c = 96 ∨ 123 ≤ c
  · refine .inl ⟨h, ?_⟩
    simp [nameB]; omega
  · refine .inr ⟨by omega, ?_⟩
    simp [nameB]; omega
def nameOK (n : List Nat) : Bool := decide (1 ≤ n.length) && decide (n.length ≤ 20) && n.all nameB
def widthOK (w : Int) : Bool := decide (w = 1 ∨ w = 2 ∨ w = 4 ∨ w = 8)
def kindOK (f : PF) : Bool := if f.kind = 1 then widthOK f.width else decide (0 ≤ f.kind) && decide (f.kind ≤ 3) && decide (f.width = 0)
def fieldOK (f : PF) : Bool := nameOK f.name && kindOK f
def taken (fs : List PF) (n : List Nat) : Bool := fs.any fun f => decide (f.name = n)
/-- The first k fields are valid, each name new. -/
def okTo (fs : List PF) : Nat → Bool
  | 0 => true
  | k + 1 => okTo fs k && (match fs[k]? with | some f => fieldOK f && !taken (fs.take k) f.name | none => true)
def fieldsOK (fs : List PF) : Bool := decide (1 ≤ fs.length) && decide (fs.length ≤ 12) && okTo fs fs.length

theorem okTo_bad {fs : List PF} {k : Nat} (h : okTo fs k = false) : ∀ m, k ≤ m → okTo fs m = false := by
  intro m hm
  induction m with
  | zero => have : k = 0 := by omega
            subst this; exact h
  | succ m ih =>
    by_cases e : k = m + 1
    · subst e; exact h
    · simp [okTo, ih (by omega)]
theorem okTo_succ {fs : List PF} {k : Nat} (hk : k < fs.length) : okTo fs (k + 1) = (okTo fs k && (fieldOK fs[k] && !taken (fs.take k) fs[k].name)) := by simp [okTo, hk]
/-- A field that is not valid, or a name that is taken, ends it. -/
theorem fieldsOK_bad {fs : List PF} {k : Nat} (hk : k < fs.length) (h : fieldOK fs[k] = false ∨ taken (fs.take k) fs[k].name = true) : fieldsOK fs = false := by
  have : okTo fs (k + 1) = false := by rw [okTo_succ hk]; rcases h with h | h <;> simp [h]
  simp [fieldsOK, okTo_bad this fs.length (by omega)]
theorem taken_at {fs : List PF} {n : List Nat} {k : Nat} (hk : k < fs.length) (h : fs[k].name = n) : taken fs n = true := by
  simp only [taken, List.any_eq_true, decide_eq_true_eq]
  exact ⟨fs[k], List.getElem_mem hk, h⟩
theorem not_taken {fs : List PF} {n : List Nat} (h : ∀ k, (hk : k < fs.length) → fs[k].name ≠ n) : taken fs n = false := by
  simp only [taken, List.any_eq_false, decide_eq_true_eq]
  intro f hf
  obtain ⟨k, hk, rfl⟩ := List.getElem_of_mem hf
  exact h k hk
theorem all_bad {xs : List Nat} {p : Nat → Bool} {k : Nat} (hk : k < xs.length) (h : p xs[k] = false) : xs.all p = false := by
  simp only [List.all_eq_false]
  exact ⟨xs[k], List.getElem_mem hk, by simp [h]⟩
theorem all_ok {xs : List Nat} {p : Nat → Bool} (h : ∀ k, (hk : k < xs.length) → p xs[k] = true) : xs.all p = true := by
  simp only [List.all_eq_true]
  intro x hx
  obtain ⟨k, hk, rfl⟩ := List.getElem_of_mem hx
  exact h k hk

end Go.Proofs.YtfaehioeepolhabGreat

/- What StartStream answers, plainly. No program. -/
namespace Go.Proofs.YtfaehioeepolhabGreat
open Go.RowKit

def hdrF (f : PF) : List Nat := f.kind.toNat :: f.width.toNat :: f.name
def hdrB (fs : List PF) (n : Nat) : List (List Nat) := digs n 8 :: fs.map hdrF
def startOK (fs : List PF) (next : Int) : Bool := fieldsOK fs && decide (0 ≤ next ∧ next ≤ 1000000000)
def startS (fs : List PF) (next : Int) : PStr := if startOK fs next = true then ⟨true, fs, next, List.replicate fs.length []⟩ else ⟨false, [], 0, []⟩
def startB (fs : List PF) (next : Int) : List Nat := if startOK fs next = true then encM 1 0 fs.length (hdrB fs next.toNat) else []
def startC (fs : List PF) (next : Int) : Int := if startOK fs next = true then 0 else 1

theorem okTo_at {fs : List PF} : ∀ m, okTo fs m = true → ∀ k, k < m → (h : k < fs.length) → fieldOK fs[k] = true := by
  intro m
  induction m with
  | zero => intro _ k h; omega
  | succ m ih =>
    intro h k hk hl
    simp only [okTo, Bool.and_eq_true] at h
    by_cases e : k = m
    · subst e
      have h2 := h.2
      rw [List.getElem?_eq_getElem hl] at h2
      simp only [Bool.and_eq_true] at h2
      exact h2.1
    · exact ih h.1 k (by omega) hl
/-- What a valid field keeps to. -/
theorem fieldOK_bounds {f : PF} (h : fieldOK f = true) : 1 ≤ f.name.length ∧ f.name.length ≤ 20 ∧ 0 ≤ f.kind ∧ f.kind ≤ 3 ∧ 0 ≤ f.width ∧ f.width ≤ 8 := by
  simp only [fieldOK, nameOK, Bool.and_eq_true, decide_eq_true_eq] at h
  obtain ⟨⟨⟨h1, h2⟩, _⟩, h3⟩ := h
  refine ⟨h1, h2, ?_⟩
  unfold kindOK at h3
  split at h3
  · rename_i e
    simp only [widthOK, decide_eq_true_eq] at h3
    omega
  · simp only [Bool.and_eq_true, decide_eq_true_eq] at h3
    omega
theorem fieldsOK_bounds {fs : List PF} (h : fieldsOK fs = true) : fs.length ≤ 12 ∧ ∀ k, (hk : k < fs.length) → 1 ≤ fs[k].name.length ∧ fs[k].name.length ≤ 20 ∧ 0 ≤ fs[k].kind ∧ fs[k].kind ≤ 3 ∧ 0 ≤ fs[k].width ∧ fs[k].width ≤ 8 := by
  simp only [fieldsOK, Bool.and_eq_true, decide_eq_true_eq] at h
  exact ⟨h.1.2, fun k hk => fieldOK_bounds (okTo_at _ h.2 k hk hk)⟩
theorem hdrB_len (fs : List PF) (n : Nat) : (hdrB fs n).length = fs.length + 1 := by simp [hdrB]
theorem hdrB_take (fs : List PF) (n k : Nat) (h : k < fs.length) : (hdrB fs n).take (k + 2) = (hdrB fs n).take (k + 1) ++ [hdrF fs[k]] := by
  have e : hdrF fs[k] = (fs.map hdrF)[k]'(by simpa using h) := by simp
  show (digs n 8 :: fs.map hdrF).take (k + 1 + 1) = (digs n 8 :: fs.map hdrF).take (k + 1) ++ [hdrF fs[k]]
  rw [List.take_succ_cons, List.take_succ_cons, List.take_succ_eq_append_getElem (by simpa using h), e]
  rfl
theorem hdr_tot {fs : List PF} (n : Nat) (h : fieldsOK fs = true) : tot (hdrB fs n) ≤ 272 := by
  obtain ⟨hl, hb⟩ := fieldsOK_bounds h
  have key : ∀ k, k ≤ fs.length → tot ((fs.map hdrF).take k) ≤ 22 * k := by
    intro k
    induction k with
    | zero => intro _; simp [tot]
    | succ k ih =>
      intro hk
      rw [tot_snoc _ k (by simp; omega)]
      have := ih (by omega)
      have := hb k hk
      simp [hdrF]
      omega
  have h1 := key fs.length (Nat.le_refl _)
  rw [List.take_of_length_le (by simp)] at h1
  have h2 : tot (hdrB fs n) = 8 + tot (fs.map hdrF) := by simp [hdrB, tot, digs_len]
  omega
theorem evn_tot (xss : List (List Nat)) : (xss.map fun b => evn b.length).sum ≤ tot xss + 7 * xss.length := by
  induction xss with
  | nil => simp [tot]
  | cons x l ih =>
    have := evn_le x.length
    simp [tot] at ih ⊢
    omega
theorem join_le (xss : List (List Nat)) : (join xss).length ≤ tot xss + 7 * xss.length := by
  have key : ∀ k, k ≤ xss.length → (join (xss.take k)).length ≤ tot (xss.take k) + 7 * k := by
    intro k
    induction k with
    | zero => intro _; simp [join]
    | succ k ih =>
      intro h
      rw [join_next xss k h, tot_snoc xss k h]
      have := ih (by omega)
      have := (evn_le xss[k].length).2.1
      omega
  have := key xss.length (Nat.le_refl _)
  rwa [List.take_length] at this
theorem hdr_fits {fs : List PF} (n : Nat) (h : fieldsOK fs = true) : (encM 1 0 fs.length (hdrB fs n)).length ≤ 20000 := by
  have h1 := hdr_tot n h
  have h2 := join_le (lensM (hdrB fs n) :: hdrB fs n)
  have h3 : tot (lensM (hdrB fs n) :: hdrB fs n) = 4 * (hdrB fs n).length + tot (hdrB fs n) := by simp [tot, lensM_len]
  have h4 := (fieldsOK_bounds h).1
  rw [hdrB_len] at h3
  simp only [encM, bodyM, List.length_append, headM_len, digs_len]
  simp only [List.length_cons, hdrB_len] at h2
  omega

end Go.Proofs.YtfaehioeepolhabGreat

/- What PackInts leaves. -/
namespace Go.Proofs.YtfaehioeepolhabGreat
open Go.RowKit

theorem infoByteP : (Tryz.prog.info? 5).map (fun i => (i.zero, i.size, i.bytes)) = some (some (.int .u8 0), 1, 1) := by kernel_rfl
def PkiPost (w : World) (R : List Nat × Int) (e : Ending) (w' : World) : Prop :=
  ∃ a c, e = .returned (.tuple #[.slice a R.1.length c, .int .i64 R.2]) ∧ w'.ownsRow w.heap.size 5 1 (.slice a R.1.length c) R.1.length (byt R.1) ∧ Below w.heap.size w w'
theorem pkiPost_mk {w w' : World} {R : List Nat} {n c : Nat} {C : Int} {a : Option Addr} (hl : R.length = n) (ho : w'.ownsRow w.heap.size 5 1 (.slice a n c) n (byt R)) (hb : Below w.heap.size w w') :
    PkiPost w (R, C) (.returned (.tuple #[.slice a n c, .int .i64 C])) w' := by
  subst hl
  exact ⟨a, c, rfl, ho, hb⟩
theorem pkiPost_nil {w w' : World} (C : Int) (hb : Below w.heap.size w w') : PkiPost w ([], C) (.returned (.tuple #[.slice none 0 0, .int .i64 C])) w' :=
  ⟨none, 0, rfl, World.ownsRow_nil _ _ _ _, hb⟩

theorem byt_snoc (xs : List Nat) (d : Nat) : byt (xs ++ [d]) = byt xs ++ [.int .u8 (d : Int)] := by simp [byt]

end Go.Proofs.YtfaehioeepolhabGreat

/- spec.l1little. -/
namespace Go.Proofs.YtfaehioeepolhabGreat
open Go.RowKit

set_option maxHeartbeats 1000000 in
set_option maxRecDepth 100000 in
theorem little_any (v : Int) (W : Nat) (w : World) (hW : W ≤ 8) (hv : IntIn v) :
    Calls Tryz.prog 134 #[.int .i64 v, .int .i64 (W : Int)] w fun e w' => ∃ v', e = .returned v' ∧ w'.ownsRow w.heap.size 5 1 v' W (byt (digs (U v) W)) ∧ Below w.heap.size w w' := by
  obtain ⟨i0, hi, hz0, hz1, hz2⟩ := info_parts infoByteP
  have hU := U_eq v
  have HV := hid hv
  clear hv
  have HL := hid (U_lt v)
  generalize U v = u at *
  go_enter Tryz.func134, Tryz.ntmps134
  go_wp2
  go_loopw [5, 6, 7] (fun r o i wr => ∃ k : Nat, k ≤ W ∧ i = .int .i64 k ∧ r = .int .u64 ((u / 256 ^ k : Nat) : Int) ∧ wr.ownsRow w.heap.size 5 1 o k (byt ((digs u W).take k)) ∧ Below w.heap.size w wr) (fun _ _ i _ => W - (intOf i).toNat)
  case atStart => exact ⟨0, Nat.zero_le _, rfl, by simp, by simpa [byt] using World.ownsRow_nil _ _ _ _, Below.refl _ _⟩
  case round =>
    obtain ⟨k, hk, rfl, rfl, how, hbe⟩ := hrel
    have HO := hid how
    have HB := hid hbe
    clear how hbe hU
    by_cases hlt : k < W
    · have HD := hid (digs_snoc u W k hlt)
      have HN := hid (div_next u k)
      have HR := hid (div_lt u k HL.out)
      generalize u / 256 ^ k = R at *
      have hki : (k : Int) < (W : Int) := by omega
      go_wp2_with (first | (at_builtin; refine wpList_append_own _ rfl _ _ 87 rfl w.heap.size 5 i0 (.int .u8 0) 1 1 Tryz.underlying87 hi hz0 hz1 hz2 rfl (by decide) _ k _ rfl (HO.out.alloc _) ⟨wr.heap.size, 0, none⟩ 1 1 [.int .u8 ((R : Int) % 256)] rfl rfl (cell_one_new _ _ _) (one_cell rfl) (by unfold maxLen; omega) (by omega) (by have := HB.out.size; simp; omega) ?_))
      intro v' w1 hown' hgrow _
      have HB1 : Hid (Below w.heap.size w w1) := hid ((HB.out.alloc HB.out.size _).grown hgrow (by have := HB.out.size; simp; omega) (fun k h => (World.ownsRow.lt HO.out k h).1))
      have HO1 : Hid (w1.ownsRow w.heap.size 5 1 v' (k + 1) (byt ((digs u W).take (k + 1)))) := hid (by
        rw [HD.out, byt_snoc]
        simpa using hown')
      clear hown' hgrow
      go_wp2
      go_roundw
      case rel => exact ⟨k + 1, by omega, by go_num, by rw [← HN.out, wrapU_div R HR.out], HO1.out, HB1.out⟩
      case measure => simp [intOf]; omega
    · obtain rfl : k = W := by omega
      have hO := HO.out
      rw [List.take_of_length_le (by rw [digs_len]; exact Nat.le_refl _)] at hO
      go_wp2
      go_ret
      exact ⟨_, rfl, hO, HB.out⟩

theorem little_row (v : Int) (W : Nat) (w : World) (h1 : 1 ≤ W) (hW : W ≤ 8) (hv : IntIn v) :
    Calls Tryz.prog 134 #[.int .i64 v, .int .i64 (W : Int)] w fun e w' => ∃ g c, e = .returned (.slice (some ⟨g, 0, none⟩) W c) ∧ w'.ownsRow w.heap.size 5 1 (.slice (some ⟨g, 0, none⟩) W c) W (byt (digs (U v) W)) ∧ Below w.heap.size w w' := by
  refine (little_any v W w hW hv).mono ?_
  rintro e w' ⟨v', rfl, ho, hb⟩
  rcases ho.2 with ⟨_, h0⟩ | ⟨g, cap, cur, rfl, _⟩
  · omega
  · exact ⟨g, cap, rfl, ho, hb⟩
end Go.Proofs.YtfaehioeepolhabGreat

/- spec.Crc32. -/
namespace Go.Proofs.YtfaehioeepolhabGreat
open Go.RowKit

set_option maxHeartbeats 800000 in
theorem specCrc_some (b off cap : Nat) (xs : List Nat) (w : World) (hx : ∀ i, (h : i < xs.length) → w.cell? ⟨b, off + i, none⟩ = some (.int .u8 (xs[i] : Int))) (hb : ∀ x ∈ xs, x < 256) (hn : xs.length ≤ 1099511627776) :
    Calls Tryz.prog 152 #[.slice (some ⟨b, off, none⟩) xs.length cap] w fun e w' => e = .returned (.int .u32 ((crcFold xs ^^^ 4294967295 : Nat) : Int)) ∧ w' = w := by
  go_enter Tryz.func152, Tryz.ntmps152
  go_wp2
  go_loop [3, 4] (fun h i => ∃ k : Nat, k ≤ xs.length ∧ i = .int .i64 k ∧ h = .int .u32 ((crcFold (xs.take k) : Nat) : Int)) (fun _ i => xs.length - (intOf i).toNat)
  case atStart => exact ⟨0, Nat.zero_le _, rfl, rfl⟩
  case round =>
    obtain ⟨k, hk, rfl, rfl⟩ := hrel
    have hfl := crcTake_lt xs hb k
    by_cases hlt : k < xs.length
    · have g1 := hx k hlt
      have hxk : xs[k] < 256 := hb _ (List.getElem_mem _)
      have hki : (k : Int) < (xs.length : Int) := by omega
      have HS : Hid (crcFold (xs.take (k + 1)) = crcIn (crcFold (xs.take k)) xs[k]) := foldl_snoc xs k hlt
      clear hx
      generalize crcFold (xs.take k) = h0 at *
      have hX := bits_xor_u32 h0 xs[k] hfl (by omega)
      have hs0 : h0 ^^^ xs[k] < 4294967296 := Nat.xor_lt_two_pow (n := 32) (by omega) (by omega)
      have HC : Hid (crcIn h0 xs[k] = csteps 8 (h0 ^^^ xs[k])) := rfl
      generalize h0 ^^^ xs[k] = s0 at *
      go_wp2
      go_loop [3, 5] (fun h i => ∃ j : Nat, j ≤ 8 ∧ i = .int .i64 j ∧ h = .int .u32 ((csteps j s0 : Nat) : Int)) (fun _ i => 8 - (intOf i).toNat)
      case atStart => exact ⟨0, Nat.zero_le _, rfl, rfl⟩
      case round =>
        obtain ⟨j, hj, rfl, rfl⟩ := hrel
        have hsl := csteps_lt j hs0
        have HJ : Hid (csteps (j + 1) s0 = cstep (csteps j s0)) := rfl
        by_cases hj8 : j < 8
        · clear hX
          generalize csteps j s0 = s at *
          by_cases hod : s % 2 = 1
          · have ht : ((s : Int) % 2 == 1) = true := by simp; omega
            have HX : Hid (bits .xor .u32 ((s : Int) / 2) 3988292384 = ((cstep s : Nat) : Int)) := xor_odd hsl hod
            have hod' : Hid (s % 2 = 1) := hod
            clear hod
            go_wp2
            go_round
            case rel => exact ⟨j + 1, by omega, by go_num, by rw [HJ.out, ← HX.out]⟩
            case measure => simp [intOf]; omega
          · have ht : ((s : Int) % 2 == 1) = false := by simp; omega
            have HX : Hid (((s : Int) / 2) = ((cstep s : Nat) : Int)) := hid (by rw [cstep_not hod]; simp)
            clear hod
            go_wp2
            go_round
            case rel => exact ⟨j + 1, by omega, by go_num, by rw [HJ.out, ← HX.out]⟩
            case measure => simp [intOf]; omega
        · obtain rfl : j = 8 := by omega
          have HE : Hid (csteps 8 s0 = crcFold (xs.take (k + 1))) := hid (by rw [HS.out, HC.out])
          generalize csteps 8 s0 = s8 at *
          clear hX
          go_wp2
          go_round
          case rel => exact ⟨k + 1, by omega, by go_num, by rw [HE.out]⟩
          case measure => simp [intOf]; omega
    · obtain rfl : k = xs.length := by omega
      rw [List.take_length] at *
      have HX := hid (bits_xor_full (crcFold xs) hfl)
      go_wp2
      go_ret
      exact ⟨ret_int HX.out, rfl⟩

set_option maxHeartbeats 400000 in
theorem specCrc_zero (a : Option Addr) (cap : Nat) (w : World) :
    Calls Tryz.prog 152 #[.slice a 0 cap] w fun e w' => e = .returned (.int .u32 ((crcFold [] ^^^ 4294967295 : Nat) : Int)) ∧ w' = w := by
  have hX := bits_xor_full 4294967295 (by decide)
  go_enter Tryz.func152, Tryz.ntmps152
  go_wp2
  refine wp_loop_rounds 1 ?_; rw [rounds_succ]
  go_wp2
  go_ret
  exact ⟨by simpa [crcFold] using hX, rfl⟩

theorem specCrc_any (a : Option Addr) (cap : Nat) (xs : List Nat) (w : World) (hr : Rd w a (byt xs)) (hb : ∀ x ∈ xs, x < 256) (hn : xs.length ≤ 1099511627776) :
    Calls Tryz.prog 152 #[.slice a xs.length cap] w fun e w' => e = .returned (.int .u32 ((crcFold xs ^^^ 4294967295 : Nat) : Int)) ∧ w' = w := by
  rcases hr with h0 | ⟨b, off, rfl, hc⟩
  · obtain rfl : xs = [] := by simpa [byt] using h0
    exact specCrc_zero a cap w
  · exact specCrc_some b off cap xs w (rdByte hc) hb hn
end Go.Proofs.YtfaehioeepolhabGreat

/- What goes with encoded bytes: rows that were built, numbers, the post of an encoder. -/
namespace Go.Proofs.YtfaehioeepolhabGreat
open Go.RowKit

theorem RdSl.vals1 {w : World} {xss : List (List Nat)} {a : Option Addr} {n cap : Nat} (h : RdSl cSS w xss (.slice a n cap)) :
    ∃ vals : List Value, vals.length = xss.length ∧ Rd w a vals ∧ (∀ u ∈ vals, u.oneCell' = true) ∧ ∀ i, (h : i < xss.length) → ∃ a' c', vals[i]? = some (.slice a' xss[i].length c') ∧ RdSl cByte w xss[i] (.slice a' xss[i].length c') := by
  obtain ⟨a', cap', e', _, _, _, h4⟩ := id h
  simp only [Value.slice.injEq] at e'
  obtain ⟨rfl, rfl, rfl⟩ := e'
  rcases h4 with rfl | ⟨b, off, rfl, hat⟩
  · exact ⟨[], rfl, .inl rfl, by simp, fun i h => by simp at h⟩
  · have hx : ∀ i : Fin xss.length, ∃ u : Value, w.cell? ⟨b, off + i.1, none⟩ = some u ∧ ∃ a' c', u = .slice a' xss[i.1].length c' ∧ RdSl cByte w xss[i.1] (.slice a' xss[i.1].length c') := fun i => by
      obtain ⟨b', off', a', c', e, hc, hr⟩ := h.row i.2
      simp at e
      obtain ⟨rfl, rfl⟩ := e
      exact ⟨_, hc, a', c', rfl, hr⟩
    refine ⟨(List.finRange xss.length).map fun i => Classical.choose (hx i), by simp, .inr ⟨b, off, rfl, fun i hi => ?_⟩, fun u hu => ?_, fun i hi => ?_⟩
    · have hi' : i < xss.length := by simpa using hi
      have := (Classical.choose_spec (hx ⟨i, hi'⟩)).1
      rw [this]; simp
    · simp only [List.mem_map] at hu
      obtain ⟨i, _, rfl⟩ := hu
      obtain ⟨_, _, e, _⟩ := (Classical.choose_spec (hx i)).2
      rw [e]; rfl
    · obtain ⟨a', c', e, hr⟩ := (Classical.choose_spec (hx ⟨i, hi⟩)).2
      exact ⟨a', c', by rw [List.getElem?_map]; simp [hi]; exact e, hr⟩
theorem RdSl.nilB {w : World} {xs : List Nat} {a : Option Addr} {cap : Nat} (h : RdSl cByte w xs (.slice a xs.length cap)) : a = none → cap = 0 := fun ha => (h.nil0 ha).2
/-- Lengths ahead of the buffers, as a slice of slices. -/
theorem rdSS_cons {w : World} {a al : Option Addr} {cl : Nat} {xs : List Nat} {xss : List (List Nat)} {vals : List Value} (hr : Rd w a (.slice al xs.length cl :: vals)) (hl : RdSl cByte w xs (.slice al xs.length cl)) (hv : vals.length = xss.length)
    (hi : ∀ i, (h : i < xss.length) → ∃ a' c', vals[i]? = some (.slice a' xss[i].length c') ∧ RdSl cByte w xss[i] (.slice a' xss[i].length c')) : RdSS w a (xs :: xss) := by
  refine ⟨.slice al xs.length cl :: vals, by simp [hv], hr, fun i h => ?_⟩
  cases i with
  | zero => exact ⟨al, cl, rfl, hl.rdB.1, hl.nilB⟩
  | succ i =>
    obtain ⟨a', c', h1, h2⟩ := hi i (by simpa using h)
    exact ⟨a', c', by simpa using h1, h2.rdB.1, h2.nilB⟩
theorem own_built {w : World} {B : Nat} {e : TypeId} {cs : Array Value} (hB : B ≤ w.heap.size) (hm : cs.size ≤ maxLen) : (w.alloc (.cells cs e)).ownsRow B e 1 (.slice (some ⟨w.heap.size, 0, none⟩) cs.size cs.size) cs.size cs.toList :=
  ⟨by simp, .inr ⟨w.heap.size, cs.size, cs, rfl, hB, heap_alloc_new w _, Nat.le_refl _, hm, by simp, by rw [Nat.mul_one]; exact List.take_of_length_le (by simp)⟩⟩
theorem U_nat (n : Nat) (h : n < 18446744073709551616) : U (n : Int) = n := by
  unfold U
  have : IntKind.u64.wrap (n : Int) = n := by
    rw [U_eq, U]
    simp [IntKind.wrap, IntKind.bits, IntKind.signed]
    omega
  rw [this]; simp
theorem wrap_u8 (n : Nat) (h : n < 256) : IntKind.u8.wrap (n : Int) = n := by
  simp [IntKind.wrap, IntKind.bits, IntKind.signed]; omega
theorem crcM_lt (xs : List Nat) (h : ∀ x ∈ xs, x < 256) : crcM xs < 4294967296 := by
  have h1 := crcTake_lt xs h xs.length
  rw [List.take_length] at h1
  unfold crcM
  have : crcFold xs ^^^ 4294967295 < 2 ^ 32 := Nat.xor_lt_two_pow (by omega) (by omega)
  omega

theorem join_lt (xss : List (List Nat)) (h : ∀ t ∈ xss, ∀ x ∈ t, x < 256) : ∀ x ∈ join xss, x < 256 := by
  have key : ∀ (l : List (List Nat)) (acc : List Nat), (∀ t ∈ l, ∀ x ∈ t, x < 256) → (∀ x ∈ acc, x < 256) → ∀ x ∈ l.foldl joinStep acc, x < 256 := by
    intro l
    induction l with
    | nil => intro acc _ h2; exact h2
    | cons t l ih => intro acc h1 h2; exact ih _ (fun u hu => h1 u (List.mem_cons_of_mem _ hu)) (joinStep_lt h2 (h1 t (by simp)))
  exact key xss [] h (by simp)
theorem infoByteM : (Tryz.prog.info? 5).map (fun i => (i.zero, i.size, i.bytes)) = some (some (.int .u8 0), 1, 1) := by kernel_rfl
theorem infoSlM : (Tryz.prog.info? 87).map (fun i => (i.zero, i.size, i.bytes)) = some (some (.slice none 0 0), 1, 24) := by kernel_rfl

/-- Bytes of the call's own. -/
def EncPost (w : World) (R : List Nat) (e : Ending) (w' : World) : Prop :=
  ∃ a c, e = .returned (.slice a R.length c) ∧ w'.ownsRow w.heap.size 5 1 (.slice a R.length c) R.length (byt R) ∧ Below w.heap.size w w'
theorem encPost_nil {w w' : World} {R : List Nat} (hb : Below w.heap.size w w') (hR : R = []) : EncPost w R (.returned (.slice none 0 0)) w' := by
  subst hR
  exact ⟨none, 0, rfl, World.ownsRow_nil _ _ _ _, hb⟩


end Go.Proofs.YtfaehioeepolhabGreat
