import Derived.Test.YtcljakdcejhfiadJStartStream11
import Derived.Test.YtcljakdcejhfiadJStartStream20
namespace Go.Proofs.Ytcljakdcejhfiad
open Go.RowKit
theorem FRow.mono {B B' : Nat} {w : World} {v : Value} {fs : List PF} (h : FRow B w v fs) (hb : B' ≤ B) : FRow B' w v fs := by
  obtain ⟨vals, ho, hi⟩ := h
  exact ⟨vals, ⟨ho.1, ho.2.imp id (fun ⟨g, cap, cur, h1, h2, h3⟩ => ⟨g, cap, cur, h1, Nat.le_trans hb h2, h3⟩)⟩, fun i h => by obtain ⟨u, h1, h2, h3⟩ := hi i h; exact ⟨u, h1, own_mono h2 hb, h3⟩⟩
theorem FRow.kept {B : Nat} {w w' : World} {v : Value} {fs : List PF} (h : FRow B w v fs) (hk : ∀ (b : Nat) e s n vs u, w.ownsRow B e s u n vs → (e = 84 ∨ e = 5) → u.ownBlock = some b → w'.heap[b]? = w.heap[b]?) : FRow B w' v fs := by
  obtain ⟨vals, ho, hi⟩ := h
  exact ⟨vals, ownsRow_kept ho (fun b hb => hk b _ _ _ _ _ ho (.inl rfl) hb), fun i h => by
    obtain ⟨u, h1, h2, h3⟩ := hi i h
    exact ⟨u, h1, ownsRow_kept h2 (fun b hb => hk b _ _ _ _ _ h2 (.inr rfl) hb), h3⟩⟩
theorem step_make_full {P : Program} (w : World) {ops : Array Oper} {o : Oper} {a : Act} {K : Act → World → Prop} {Q : Exit → Act → World → Prop} {E : Prop}
    (hg : o.guard = none) (l c : Operand) (t : TypeId) (hop : o.op = Op.makeSlice t l c)
    (base : Nat) (e : TypeId) (i : TypeInfo) (z : Value) (size : Nat) (h1 : P.underlying t = some (.slice e)) (h2 : P.info? e = some i) (h3 : i.zero = some z) (h4 : i.size = size)
    (kl kc : IntKind) (L C : Int) (n : Nat) (hl : a.eval l = .int kl L) (hc : a.eval c = .int kc C) (hL : L = (n : Int)) (hC : C = (n : Int)) (b2 : i.bytes * n ≤ 281474976710656) (b3 : n ≤ maxLen) (b4 : base ≤ w.heap.size)
    (hK : ∀ w', w'.ownsRow base e size (.slice (some ⟨w.heap.size, 0, none⟩) n n) n (madeCells z.cells (n * size)).toList → w.grownBy w' none → K (a.put o.dst (.slice (some ⟨w.heap.size, 0, none⟩) n n)) w') :
    if Region.wanted o (yielded ops a.tmps) = true then Oper.wp P o a w K Q else E := by
  rw [if_pos (by unfold Region.wanted; rw [hg])]
  obtain ⟨w', hrun, r1, r2⟩ := run_make_full (P := P) w base t e i z size h1 h2 h3 h4 kl kc n b2 b3 b4
  subst hL
  subst hC
  unfold Oper.wp
  simp [execOp, hop, hl, hc, hrun, Result.andThen]
  exact hK w' r1 r2
theorem infoSSb : (Try.prog.info? 45).map (fun i => (i.zero, i.size, i.bytes)) = some (some (.slice none 0 0), 1, 24) := by kernel_rfl
theorem nils_rd {B n : Nat} {w : World} {g : Nat} {e : TypeId} (h : w.ownsRow B e 1 (.slice (some ⟨g, 0, none⟩) n n) n (madeCells (Value.slice none 0 0).cells (n * 1)).toList) : RdSl cSSS w (List.replicate n []) (.slice (some ⟨g, 0, none⟩) n n) := by
  rw [Nat.mul_one, show (Value.slice none 0 0).cells = #[Value.slice none 0 0] from rfl, toList_madeCells_one] at h
  obtain ⟨hm, -⟩ : n ≤ maxLen ∧ True := by
    rcases h.2 with ⟨h0, _⟩ | ⟨g', cap, cur, h0, _, _, hn, hm, _⟩
    · cases h0
    · simp at h0; exact ⟨by omega, trivial⟩
  refine ⟨_, n, by simp, by simp, hm, (fun h => by cases h), .inr ⟨g, 0, rfl, fun i hi => ?_⟩⟩
  have hin : i < n := by simpa using hi
  refine ⟨[.slice none 0 0], ⟨_, rfl, ?_⟩, fun j hj => ?_⟩
  · rw [List.getElem_replicate]; exact RdSl.empty none
  · have hj0 : j = 0 := by simpa using hj
    subst hj0
    have := World.ownsRow.cellAt h i (by simpa using hin)
    rw [show 0 + (i * cSSS.n + 0) = i from by simp [cSl], this]
    simp [hin]
def NRow (B : Nat) (w : World) (v : Value) (n : Nat) : Prop := ∃ g, v = .slice (some ⟨g, 0, none⟩) n n ∧ w.ownsRow B 45 1 v n (madeCells (Value.slice none 0 0).cells (n * 1)).toList
theorem NRow.later {B n : Nat} {w w' : World} {v : Value} (h : NRow B w v n) (hb : Below w.heap.size w w') : NRow B w' v n := by
  obtain ⟨g, e, h⟩ := h
  exact ⟨g, e, own_later h hb⟩
theorem NRow.rd {B n : Nat} {w : World} {v : Value} (h : NRow B w v n) : RdSl cSSS w (List.replicate n []) v := by
  obtain ⟨g, rfl, h⟩ := h
  exact nils_rd h
theorem NRow.slice {B n : Nat} {w : World} {v : Value} (h : NRow B w v n) : ∃ a c, v = .slice a n c := by
  obtain ⟨g, rfl, -⟩ := h
  exact ⟨_, _, rfl⟩
def fcNils (B n : Nat) : Fct := ⟨fun v w => NRow B w v n, fun _ _ _ h hb => h.later hb⟩
def fcBegun (B : Nat) (fs : List PF) (next : Int) : Fct := ⟨fun v w => ∃ a c b d, v = .agg #[.bool true, .slice a fs.length c, .int .i64 next, .slice b fs.length d] ∧ FRow B w (.slice a fs.length c) fs ∧ NRow B w (.slice b fs.length d) fs.length, fun _ _ _ ⟨a, c, b, d, e, h1, h2⟩ hb => ⟨a, c, b, d, e, h1.later hb, h2.later hb⟩⟩
def fcBox (B : Nat) (fs : List PF) (next : Int) : Fct := ⟨fun _ w => ∃ a c b d, w.heap[B]? = some (.cells #[.bool true, .slice a fs.length c, .int .i64 next, .slice b fs.length d] 68 (0, 0)) ∧ FRow B w (.slice a fs.length c) fs ∧ NRow B w (.slice b fs.length d) fs.length, fun _ _ _ ⟨a, c, b, d, e, h1, h2⟩ hb => ⟨a, c, b, d, (hb.block _ (Array.getElem?_eq_some_iff.1 e).1).trans e, h1.later hb, h2.later hb⟩⟩
def fcZero (B : Nat) : Fct := ⟨fun _ w => w.heap[B]? = some (.cells #[.bool false, .slice none 0 0, .int .i64 0, .slice none 0 0] 68 (0, 0)), fun _ _ _ h hb => (hb.block _ (Array.getElem?_eq_some_iff.1 h).1).trans h⟩
theorem begun_box {B : Nat} {w : World} {fs : List PF} {next : Int} {a b : Option Addr} {c d : Nat} (hb : w.heap[B]? = some (.cells #[.bool false, .slice none 0 0, .int .i64 0, .slice none 0 0] 68 (0, 0))) (h1 : FRow B w (.slice a fs.length c) fs) (h2 : NRow B w (.slice b fs.length d) fs.length) {v : Value} :
    (fcBox B fs next).p v ((((w.setCell ⟨B, 0, none⟩ (.bool true)).setCell ⟨B, 1, none⟩ (.slice a fs.length c)).setCell ⟨B, 2, none⟩ (.int .i64 next)).setCell ⟨B, 3, none⟩ (.slice b fs.length d)) := by
  have far : ∀ (p : Nat) (e : TypeId) s n vs u, w.ownsRow B e s u n vs → e ≠ 68 → u.ownBlock = some p → p ≠ B := fun p e s n vs u ho hne hp hpe => by
    subst hpe
    rcases ho.2 with ⟨rfl, _⟩ | ⟨g, cap, cur, rfl, _, hh, _⟩
    · simp [Value.ownBlock] at hp
    · simp [Value.ownBlock] at hp
      subst hp
      rw [hb] at hh
      simp at hh
      exact hne hh.2.symm
  refine ⟨a, c, b, d, set4 hb, h1.kept (fun p e s n vs u ho he hp => set4o (far p e s n vs u ho (by rcases he with rfl | rfl <;> decide) hp)), ?_⟩
  obtain ⟨g, e, ho⟩ := h2
  exact ⟨g, e, ownsRow_kept ho (fun p hp => set4o (far p _ _ _ _ _ ho (by decide) hp))⟩
def lbT (B : Nat) (fs : List PF) (a : Option Addr) (c : Nat) (next : Int) : Nat → FX
  | 0 => FX.eq (.slice a fs.length c)
  | 1 => FX.pre [7] (fcRow B fs)
  | 2 => FX.eq (.int .i64 next)
  | 3 => FX.eq (.slice a fs.length c)
  | 4 => FX.eq (.int .i64 (fs.length : Int))
  | 5 => FX.pre [7] (fcNils B fs.length)
  | 6 => FX.pre [7] (fcBegun B fs next)
  | 7 => FX.is (fcBox B fs next)
  | _ => FX.eq undef
set_option maxRecDepth 1000000 in
set_option maxHeartbeats 4000000 in
theorem l4begin_any (a : Option Addr) (c : Nat) (fs : List PF) (next : Int) (w : World) (hr : RdSl cField w fs (.slice a fs.length c)) (ht : totL (fun f : PF => f.name.length) fs ≤ 1048576) :
    Calls Try.prog 85 #[.slice a fs.length c, .int .i64 next] w fun e w' => ∃ a' c' b' d', e = .returned (.agg #[.bool true, .slice a' fs.length c', .int .i64 next, .slice b' fs.length d']) ∧ FRow w.heap.size w' (.slice a' fs.length c') fs ∧ NRow w.heap.size w' (.slice b' fs.length d') fs.length ∧ Below w.heap.size w w' := by
  obtain ⟨i0, hi0, hz0, hz1, hz2⟩ := info_parts infoSSb
  have HR := hid hr
  have hlen : fs.length ≤ 1048576 := by unfold totL at ht; omega
  have HB0 := hid (below_new1 w (.cells #[.bool false, .slice none 0 0, .int .i64 0, .slice none 0 0] 68))
  have HK0 : Hid ((w.alloc (.cells #[.bool false, .slice none 0 0, .int .i64 0, .slice none 0 0] 68)).heap[w.heap.size]? = some (.cells #[.bool false, .slice none 0 0, .int .i64 0, .slice none 0 0] 68 (0, 0))) := hid (heap_alloc_new w _)
  clear hr
  go_enter Try.func85, Try.ntmps85
  go_wp2_with fail
  refine region_turns (n := 8) (by kernel_rfl) (by kernel_rfl) rfl (fun t => { tmps := #[.slice a fs.length c, .int .i64 next, undef, undef, .pointer (some ⟨w.heap.size, 0, none⟩), t 0, t 1, t 2, t 3, t 4, t 5, t 6], defers := [] }) (lbT w.heap.size fs a c next) [7] (fcZero w.heap.size) w (w.alloc (.cells #[.bool false, .slice none 0 0, .int .i64 0, .slice none 0 0] 68)) (fun k => if k = 1 then [7] else if k = 5 then [7] else if k = 6 then [7] else []) (fun k => !(k == 1 || k == 5 || k == 6 || k == 7)) (by kernel_rfl) (fun j hj => by rcases (by omega : j = 0 ∨ j = 1 ∨ j = 2 ∨ j = 3 ∨ j = 4 ∨ j = 5 ∨ j = 6 ∨ j = 7) with rfl | rfl | rfl | rfl | rfl | rfl | rfl | rfl <;> rfl) (fun j hj hp => by rcases (by omega : j = 0 ∨ j = 1 ∨ j = 2 ∨ j = 3 ∨ j = 4 ∨ j = 5 ∨ j = 6 ∨ j = 7) with rfl | rfl | rfl | rfl | rfl | rfl | rfl | rfl <;> first | rfl | (exact absurd hp (by decide))) (fun j => ([undef, undef, undef, undef, undef, undef, undef, undef] : List Value).getD j undef) HB0.out (HK0.out) ?_ ?_
  · intro i hi x t wx hxi hsh h0 hbx hgx hdp hall
    rcases (by omega : i = 0 ∨ i = 1 ∨ i = 2 ∨ i = 3 ∨ i = 4 ∨ i = 5 ∨ i = 6 ∨ i = 7) with rfl | rfl | rfl | rfl | rfl | rfl | rfl | rfl
    · 
      try dsimp only
      clear h0
      refine wpOp_step rfl (fun K' hK => ?_)
      go_simp
      exact hK _ _ ⟨.slice a fs.length c, (by simp [upd]), FX.eq_mk rfl, fun _ => Below.refl _ _, hbx⟩
    · 
      try dsimp only
      have x0 := depX hdp 0 (by kernel_rfl)
      have d0 := hall 0 (by omega) x0
      have e0 : t 0 = .slice a fs.length c := d0.1
      rw [e0]
      clear h0
      refine wpOp_step rfl (fun K' hK => ?_)
      go_simp
      refine (l4fields_any a c fs wx (HR.out.later hbx) ht).mono ?_
      rintro e w2 ⟨v2, rfl, o2, b2⟩
      exact hK _ _ ⟨v2, (by simp [upd, e0]), FX.pre_mk (o2.mono hbx.size), fun _ => b2, below_chain hbx b2⟩
    · 
      try dsimp only
      clear h0
      refine wpOp_step rfl (fun K' hK => ?_)
      go_simp
      exact hK _ _ ⟨.int .i64 next, (by simp [upd]), FX.eq_mk rfl, fun _ => Below.refl _ _, hbx⟩
    · 
      try dsimp only
      clear h0
      refine wpOp_step rfl (fun K' hK => ?_)
      go_simp
      exact hK _ _ ⟨.slice a fs.length c, (by simp [upd]), FX.eq_mk rfl, fun _ => Below.refl _ _, hbx⟩
    · 
      try dsimp only
      have x3 := depX hdp 3 (by kernel_rfl)
      have d3 := hall 3 (by omega) x3
      have e3 : t 3 = .slice a fs.length c := d3.1
      rw [e3]
      clear h0
      refine wpOp_step rfl (fun K' hK => ?_)
      go_simp
      exact hK _ _ ⟨.int .i64 (fs.length : Int), (by simp [upd, e3]), FX.eq_mk rfl, fun _ => Below.refl _ _, hbx⟩
    · 
      try dsimp only
      have x4 := depX hdp 4 (by kernel_rfl)
      have d4 := hall 4 (by omega) x4
      have e4 : t 4 = .int .i64 (fs.length : Int) := d4.1
      rw [e4]
      clear h0
      refine wpOp_step rfl (fun K' hK => ?_)
      refine step_make_full wx rfl (.tmp 9) (.tmp 9) 66 rfl wx.heap.size 45 i0 (.slice none 0 0) 1 Try.underlying66 hi0 hz0 hz1 .i64 .i64 _ _ fs.length rfl rfl rfl rfl (by rw [hz2]; omega) (by unfold maxLen; omega) (Nat.le_refl _) ?_
      intro w2 o2 g2
      have b2 : Below wx.heap.size wx w2 := (Below.refl _ wx).grown g2 (Nat.le_refl _) (by intro k h; cases h)
      exact hK _ _ ⟨.slice (some ⟨wx.heap.size, 0, none⟩) fs.length fs.length, (by simp [upd, e4, Act.put]), FX.pre_mk ⟨_, rfl, own_mono o2 hbx.size⟩, fun _ => b2, below_chain hbx b2⟩
    · 
      try dsimp only
      have x1 := depX hdp 1 (by kernel_rfl)
      have d1 := hall 1 (by omega) x1
      have x2 := depX hdp 2 (by kernel_rfl)
      have d2 := hall 2 (by omega) x2
      have e2 : t 2 = .int .i64 next := d2.1
      have x5 := depX hdp 5 (by kernel_rfl)
      have d5 := hall 5 (by omega) x5
      rw [e2]
      have y7 := notYet hsh hxi 7 (by kernel_rfl)
      have f1 : FRow w.heap.size wx (t 1) fs := FX.pre_of d1 y7
      have f5 : NRow w.heap.size wx (t 5) fs.length := FX.pre_of d5 y7
      obtain ⟨a1, c1, e1⟩ := f1.slice
      obtain ⟨a5, c5, e5⟩ := f5.slice
      rw [e1, e5]
      clear h0
      refine wpOp_step rfl (fun K' hK => ?_)
      go_simp
      exact hK _ _ ⟨.agg #[.bool true, .slice a1 fs.length c1, .int .i64 next, .slice a5 fs.length c5], (by simp [upd, e1, e2, e5]), FX.pre_mk ⟨_, _, _, _, rfl, e1 ▸ f1, e5 ▸ f5⟩, fun _ => Below.refl _ _, hbx⟩
    · 
      try dsimp only
      have x6 := depX hdp 6 (by kernel_rfl)
      have d6 := hall 6 (by omega) x6
      obtain ⟨a1, c1, a5, c5, e6, f1, f5⟩ : (fcBegun w.heap.size fs next).p (t 6) wx := FX.pre_of d6 hxi
      have hbox : wx.heap[w.heap.size]? = some (.cells #[.bool false, .slice none 0 0, .int .i64 0, .slice none 0 0] 68 (0, 0)) := hgx (by simp [hxi])
      rw [e6]
      have k0 := cell_of_row wx _ 0 _ _ _ hbox
      have k1 := cell_of_row wx _ 1 _ _ _ hbox
      have k2 := cell_of_row wx _ 2 _ _ _ hbox
      have k3 := cell_of_row wx _ 3 _ _ _ hbox
      have z0 := frozen_of_row wx _ 0 _ _ hbox
      have z1 := frozen_of_row wx _ 1 _ _ hbox
      have z2 := frozen_of_row wx _ 2 _ _ hbox
      have z3 := frozen_of_row wx _ 3 _ _ hbox
      simp only [List.getElem?_toArray, List.getElem?_cons_zero, List.getElem?_cons_succ] at k0 k1 k2 k3
      have HBX := hid hbox
      clear hbox
      clear h0
      refine wpOp_step rfl (fun K' hK => ?_)
      go_simp
      exact hK _ _ ⟨undef, (by simp [upd, e6]), FX.is_mk (begun_box HBX.out f1 f5), fun h => absurd (by simp) h, set4b hbx (Nat.le_refl _)⟩
  · intro x t wx hx hbx hall
    obtain ⟨a1, c1, a5, c5, hbox, f1, f5⟩ : (fcBox w.heap.size fs next).p (t 7) wx := FX.is_of (hall 7 (by omega))
    have HBX := hid hbox
    have HF1 := hid f1
    have HF5 := hid f5
    have HB := hid hbx
    clear hall hbx hbox f1 f5
    try dsimp only
    go_wp2
    refine bodyPost_ret (results_cell_row rfl _ _ w.heap.size 68 #[.bool true, .slice a1 fs.length c1, .int .i64 next, .slice a5 fs.length c5] (0, 0) _ rfl HBX.out Try.underlying68 rfl (by kernel_rfl)) rfl ?_
    exact ⟨a1, c1, a5, c5, rfl, HF1.out, HF5.out, HB.out⟩
end Go.Proofs.Ytcljakdcejhfiad
