import Derived.Test.YtfppfjklakdlfaaDoorJForms13
import Derived.Test.YtfppfjklakdlfaaDoorJForms15
import Derived.Test.YtfppfjklakdlfaaDoorJForms16
import Derived.Test.YtfppfjklakdlfaaDoorJForms12
namespace Go.Proofs.YtfppfjklakdlfaaDoor
open Go.RowKit
def DecPost (w : World) (m : PM) (C : Int) (e : Ending) (w' : World) : Prop :=
  ∃ a c, e = .returned (.tuple #[.agg #[.int .i64 m.kind, .int .i64 m.field, .int .i64 m.count, .slice a m.bufs.length c], .int .i64 C]) ∧ RdSl cSS w' m.bufs (.slice a m.bufs.length c) ∧ Below w.heap.size w w'
theorem decPost_nil {w w' : World} {m : PM} {C C' : Int} (hb : Below w.heap.size w w') (hm : m = noMsg) (hC : C = C') : DecPost w m C (.returned (.tuple #[.agg #[.int .i64 0, .int .i64 0, .int .i64 0, .slice none 0 0], .int .i64 C'])) w' := by
  subst hm hC
  exact ⟨none, 0, rfl, RdSl.empty none, hb⟩
def fcNewM (lo : Nat) : Fct := ⟨fun v w => ∃ g, v = .pointer (some ⟨g, 0, none⟩) ∧ lo ≤ g ∧ w.heap[g]? = some (.cells #[.int .i64 0, .int .i64 0, .int .i64 0, .slice none 0 0] 25 (0, 0)), fun _ _ _ ⟨g, e, l, h⟩ hb => ⟨g, e, l, (hb.block _ (Array.getElem?_eq_some_iff.1 h).1).trans h⟩⟩
def d3H (lo K F C : Nat) (x : Nat → Bool) (t : Nat → Value) (w : World) : Prop := x 13 = true → ∃ g, t 12 = .pointer (some ⟨g, 0, none⟩) ∧ lo ≤ g ∧ w.heap[g]? = some (.cells #[.int .i64 (K : Int), .int .i64 (F : Int), .int .i64 (C : Int), .slice none 0 0] 25 (0, 0))
def d3T (lo b off cap n K F C : Nat) : Nat → FX
  | 0 => FX.eq (.slice (some ⟨b, off, none⟩) n cap)
  | 1 => FX.eq (.pointer (some ⟨b, off + 2, none⟩))
  | 2 => FX.eq (.int .u8 (K : Int))
  | 3 => FX.eq (.int .i64 (K : Int))
  | 4 => FX.eq (.slice (some ⟨b, off, none⟩) n cap)
  | 5 => FX.eq (.pointer (some ⟨b, off + 3, none⟩))
  | 6 => FX.eq (.int .u8 (F : Int))
  | 7 => FX.eq (.int .i64 (F : Int))
  | 8 => FX.eq (.slice (some ⟨b, off, none⟩) n cap)
  | 9 => FX.eq (.slice (some ⟨b, off + 4, none⟩) 2 (cap - 4))
  | 10 => FX.eq (.int .i64 (C : Int))
  | 11 => FX.eq (.agg #[.int .i64 (K : Int), .int .i64 (F : Int), .int .i64 (C : Int), .slice none 0 0])
  | 12 => FX.pre [13] (fcNewM lo)
  | 13 => FX.is Fct.any
  | _ => FX.eq undef
def fcSameY (W : World) : Fct := ⟨fun _ w => Below W.heap.size W w, fun _ _ _ h hb => below_chain h hb⟩
def fcTx (B : Nat) (ys : List Nat) : Fct := ⟨fun v w => w.ownsRow B 5 1 v ys.length (byt ys), fun _ _ _ h hb => own_later h hb⟩
def fcOneY (B : Nat) (ys : List Nat) : Fct := ⟨fun v w => ∃ g u, v = .slice (some ⟨g, 0, none⟩) 1 1 ∧ w.cell? ⟨g, 0, none⟩ = some u ∧ w.ownsRow B 5 1 u ys.length (byt ys), fun _ _ _ ⟨g, u, e, h1, h2⟩ hb => ⟨g, u, e, (hb.cell (World.block_lt_of_cell? _ _ h1)).trans h1, own_later h2 hb⟩⟩
def fcGotY (B gm : Nat) (cs : Array Value) (bs : List (List Nat)) (ys : List Nat) : Fct := ⟨fun v w => Txts B w v (bs ++ [ys]) ∧ w.heap[gm]? = some (.cells cs 25 (0, 0)), fun _ _ _ ⟨h1, h2⟩ hb => ⟨h1.later hb, (hb.block _ (Array.getElem?_eq_some_iff.1 h2).1).trans h2⟩⟩
def fcPutY (B gm K F C : Nat) (bs : List (List Nat)) (ys : List Nat) : Fct := ⟨fun _ w => ∃ v, w.heap[gm]? = some (.cells #[.int .i64 (K : Int), .int .i64 (F : Int), .int .i64 (C : Int), v] 25 (0, 0)) ∧ Txts B w v (bs ++ [ys]), fun _ _ _ ⟨v, h1, h2⟩ hb => ⟨v, (hb.block _ (Array.getElem?_eq_some_iff.1 h1).1).trans h1, h2.later hb⟩⟩
theorem oneY_new {B : Nat} {w : World} {ys : List Nat} {u : Value} {e : TypeId} (h : w.ownsRow B 5 1 u ys.length (byt ys)) : (fcOneY B ys).p (.slice (some ⟨w.heap.size, 0, none⟩) 1 1) (w.alloc (.cells #[u] e)) := by
  have p0 := cell_of_row _ _ 0 _ _ _ (heap_alloc_new w (.cells #[u] e))
  simp only [List.getElem?_toArray, List.getElem?_cons_zero] at p0
  exact ⟨_, u, rfl, p0, own_later h (below_new1 _ _)⟩
theorem oneY_at {w : World} {g : Nat} {u : Value} (h : w.cell? ⟨g, 0, none⟩ = some u) : ∀ j y, [u][j]? = some y → w.cell? ((⟨g, 0, none⟩ : Addr).add j) = some y := by
  intro j y hy
  match j, hy with
  | 0, hy => simp at hy; rw [addr_add0, ← hy]; exact h
theorem ownY_one {w : World} {B n : Nat} {e : TypeId} {u : Value} {vs : List Value} (h : w.ownsRow B e 1 u n vs) : u.oneCell' = true := by
  obtain ⟨a, c, rfl, -⟩ := rd_own h
  rfl
theorem boxY_far {w : World} {gm : Nat} {cs : Array Value} {t : TypeId} {B n s : Nat} {e : TypeId} {u : Value} {vs : List Value} (hb : w.heap[gm]? = some (.cells cs t (0, 0))) (ho : w.ownsRow B e s u n vs) (hne : e ≠ t) : u.ownBlock ≠ some gm := by
  intro hp
  rcases ho.2 with ⟨rfl, _⟩ | ⟨g, cap, cur, rfl, _, hh, _⟩
  · simp [Value.ownBlock] at hp
  · simp [Value.ownBlock] at hp
    subst hp
    rw [hb] at hh
    simp at hh
    exact hne hh.2.symm
theorem putY {B gm K F C : Nat} {w : World} {acc v x : Value} {bs : List (List Nat)} {ys : List Nat} (hb : w.heap[gm]? = some (.cells #[.int .i64 (K : Int), .int .i64 (F : Int), .int .i64 (C : Int), acc] 25 (0, 0))) (h : Txts B w v (bs ++ [ys])) : (fcPutY B gm K F C bs ys).p x (w.setCell ⟨gm, 3, none⟩ v) := by
  refine ⟨v, heap_setCell_same w gm 3 _ _ v hb, ?_⟩
  obtain ⟨vals, ho, hi⟩ := h
  have kp : ∀ (e : TypeId) (n : Nat) (vs : List Value) (u : Value), w.ownsRow B e 1 u n vs → e ≠ 25 → (w.setCell ⟨gm, 3, none⟩ v).ownsRow B e 1 u n vs := fun e n vs u ho hne => ownsRow_kept ho (fun b hb' => Below.heap_setCell _ ⟨gm, 3, none⟩ _ _ (fun e' => boxY_far hb ho hne (by rw [hb']; exact congrArg some e')))
  exact ⟨vals, kp _ _ _ _ ho (by decide), fun i h => by obtain ⟨u, h1, h2, h3⟩ := hi i h; exact ⟨u, h1, kp _ _ _ _ h2 (by decide), h3⟩⟩
theorem txts_far {B g : Nat} {w w' : World} {v : Value} {cs : Array Value} {bs : List (List Nat)} (hb : w.heap[g]? = some (.cells cs 25 (0, 0))) (h : Txts B w v bs) (hk : ∀ p, p ≠ g → w'.heap[p]? = w.heap[p]?) : Txts B w' v bs := by
  obtain ⟨vals, ho, hi⟩ := h
  have kp : ∀ (e : TypeId) (n : Nat) (vs : List Value) (u : Value), w.ownsRow B e 1 u n vs → e ≠ 25 → w'.ownsRow B e 1 u n vs := fun e n vs u ho hne => ownsRow_kept ho (fun b hb' => hk b (fun e' => boxY_far hb ho hne (by rw [hb']; exact congrArg some e')))
  exact ⟨vals, kp _ _ _ _ ho (by decide), fun i h => by obtain ⟨u, h1, h2, h3⟩ := hi i h; exact ⟨u, h1, kp _ _ _ _ h2 (by decide), h3⟩⟩
theorem encR_lt (m : PM) {K F : Nat} (hK : K < 256) (hF : F < 256) (h : ∀ t ∈ m.bufs, ∀ x ∈ t, x < 256) (e1 : m.kind = K := by rfl) (e2 : m.field = F := by rfl) : ∀ x ∈ encR m, x < 256 := by
  intro x hx
  unfold encR at hx
  split at hx
  · rename_i h0
    have hn : m.bufs.length ≤ 40 := by have := h0.1; unfold msgOK at this; have := of_decide_eq_true this; omega
    unfold encB at hx
    rw [e1, e2] at hx
    simp only [Int.toNat_natCast, encM, bodyM, headM, List.mem_append, List.mem_cons, List.not_mem_nil, or_false] at hx
    rcases hx with ((((hx | hx | hx | hx) | hx) | hx | hx) | hx) | hx
    · omega
    · omega
    · omega
    · omega
    · exact digs_lt _ _ x hx
    · omega
    · omega
    · exact join_lt _ (fun t ht => (List.mem_cons.1 ht).elim (fun e => e ▸ lensM_lt m.bufs) (h t)) x hx
    · exact digs_lt _ _ x hx
  · simp at hx
def d14T (B gM b off cap n : Nat) (p z : Nat) (av : Option Addr) (cv : Nat) (bs : List (List Nat)) (ys : List Nat) (sv : Value) (K F C : Nat) (cs : Array Value) : Nat → FX
  | 0 => FX.eq (.pointer (some ⟨gM, 3, none⟩))
  | 1 => FX.eq (.slice av bs.length cv)
  | 2 => FX.eq (.slice (some ⟨b, off, none⟩) n cap)
  | 3 => FX.eq (.int .i64 (p : Int))
  | 4 => FX.eq (.int .i64 (p : Int))
  | 5 => FX.eq (.int .i64 (z : Int))
  | 6 => FX.eq (.int .i64 ((p : Int) + (z : Int)))
  | 7 => FX.eq (sv)
  | 8 => FX.pre [10, 12] (fcTx B ys)
  | 9 => FX.pre [10, 12] (fcOneY B ys)
  | 10 => FX.pre [12] (fcGotY B gM cs bs ys)
  | 11 => FX.eq (.pointer (some ⟨gM, 3, none⟩))
  | 12 => FX.is (fcPutY B gM K F C bs ys)
  | _ => FX.eq undef
set_option maxRecDepth 100000 in
set_option maxHeartbeats 8000000 in
theorem specDec_any (a : Option Addr) (cap : Nat) (xs : List Nat) (w : World) (hr : RdSl cByte w xs (.slice a xs.length cap)) (hl : xs.length ≤ 1048576) :
    Calls Tryd.prog 5 #[.slice a xs.length cap] w (DecPost w (decP xs) (decC xs)) := by
  obtain ⟨j0, hj, hy0, hy1, hy2⟩ := info_parts infoSlM
  have HR := hid hr
  have HB0 := hid (below_new1 w (.cells #[.int .i64 0, .int .i64 0, .int .i64 0, .slice none 0 0] 25))
  have HK0 : Hid ((w.alloc (.cells #[.int .i64 0, .int .i64 0, .int .i64 0, .slice none 0 0] 25)).heap[w.heap.size]? = some (.cells #[.int .i64 0, .int .i64 0, .int .i64 0, .slice none 0 0] 25 (0, 0))) := hid (heap_alloc_new w _)
  clear hr
  by_cases s1 : xs.length < 12
  · have HD := hid (dec_none (decR_short (.inl s1)))
    go_enter Tryd.func5, Tryd.ntmps5
    go_wp2
    refine bodyPost_ret (results_cell_row_tmpD rfl _ _ w.heap.size 25 #[.int .i64 0, .int .i64 0, .int .i64 0, .slice none 0 0] (0, 0) _ rfl HK0.out Tryd.underlying25 rfl (by kernel_rfl)) rfl ?_
    exact decPost_nil HB0.out HD.out.1 HD.out.2
  by_cases s2 : 20000 < xs.length
  · have HD := hid (dec_none (decR_short (.inr s2)))
    go_enter Tryd.func5, Tryd.ntmps5
    go_wp2
    refine bodyPost_ret (results_cell_row_tmpD rfl _ _ w.heap.size 25 #[.int .i64 0, .int .i64 0, .int .i64 0, .slice none 0 0] (0, 0) _ rfl HK0.out Tryd.underlying25 rfl (by kernel_rfl)) rfl ?_
    exact decPost_nil HB0.out HD.out.1 HD.out.2
  obtain ⟨b, off, K, rfl, g2, x2, d2⟩ := byte_at HR.out (k := 2) (by omega)
  obtain ⟨_, _, F, e, g3, x3, d3⟩ := byte_at HR.out (k := 3) (by omega)
  simp only [Option.some.injEq, Addr.mk.injEq, and_true] at e
  obtain ⟨rfl, rfl⟩ := e
  obtain ⟨_, _, N, e, g6, x6, d6⟩ := byte_at HR.out (k := 6) (by omega)
  simp only [Option.some.injEq, Addr.mk.injEq, and_true] at e
  obtain ⟨rfl, rfl⟩ := e
  have hcap : xs.length ≤ cap := by obtain ⟨_, _, e, h, _⟩ := HR.out; simp at e; omega
  have hcm : cap ≤ maxLen := by obtain ⟨_, _, e, _, h, _⟩ := HR.out; simp at e; obtain ⟨_, rfl⟩ := e; exact h
  have hc4 : ¬ cap = 4 := by omega
  have HBY := hid HR.out.rdB.2
  have kp0 : ∀ p v, w.cell? p = some v → (w.alloc (.cells #[.int .i64 0, .int .i64 0, .int .i64 0, .slice none 0 0] 25)).cell? p = some v := fun p v h => (HB0.out.cell (World.block_lt_of_cell? _ _ h)).trans h
  have k2 := kp0 _ _ d2
  have k3 := kp0 _ _ d3
  have k6 := kp0 _ _ d6
  have hcl : num ((xs.drop 4).take 2) < 65536 := by
    have h := num_lt ((xs.drop 4).take 2) (fun x hx => HBY.out x (List.mem_of_mem_drop (List.mem_of_mem_take hx)))
    have h2 : ((xs.drop 4).take 2).length = 2 := by simp; omega
    rw [h2] at h
    omega
  have HN0 : Hid (∀ w', Below w.heap.size w w' → Calls Tryd.prog 28 #[.slice (some ⟨b, off + 4, none⟩) 2 (cap - 4)] w' fun e w2 => e = .returned (.int .i64 ((num ((xs.drop 4).take 2) : Nat) : Int)) ∧ w2 = w') := hid (fun w' hb => by
    have h := number_any (some ⟨b, off + 4, none⟩) (cap - 4) ((xs.drop 4).take 2) w' (by
      have h2 := (rdB_cut HR.out (lo := 4) (n := 2) (by omega)).later hb
      rw [show ((xs.drop 4).take 2).length = 2 from by simp; omega]
      exact h2) (by simp; omega)
    rw [show ((xs.drop 4).take 2).length = 2 from by simp; omega] at h
    exact h)
  have G2 := hid g2
  have G3 := hid g3
  have G6 := hid g6
  have u2 : wrap64 (K : Int) = K := wrap64_small _ (by omega)
  have u3 : wrap64 (F : Int) = F := wrap64_small _ (by omega)
  have u6 : wrap64 (N : Int) = N := wrap64_small _ (by omega)
  have y2 : IntKind.i64.wrap (K : Int) = K := by rw [← wr64]; exact u2
  have y3 : IntKind.i64.wrap (F : Int) = F := by rw [← wr64]; exact u3
  clear d2 d3 d6 kp0 g2 g3 g6
  generalize hCE : num ((xs.drop 4).take 2) = C at *
  have HCE := hid hCE
  clear hCE
  have t4 : (4 : Int) ≤ 6 := by omega
  have t6 : (6 : Int) ≤ (cap : Int) := by omega
  have t2 : (2 : Int) < (xs.length : Int) := by omega
  have t3 : (3 : Int) < (xs.length : Int) := by omega
  have d11 : decide ((xs.length : Int) < 12) = false := decide_eq_false (by omega)
  have d20 : decide (20000 < (xs.length : Int)) = false := decide_eq_false (by omega)
  have hs0 : (w.alloc (.cells #[.int .i64 0, .int .i64 0, .int .i64 0, .slice none 0 0] 25)).heap.size = w.heap.size + 1 := by simp
  have hs1 : w.heap.size + 1 ≤ (w.alloc (.cells #[.int .i64 0, .int .i64 0, .int .i64 0, .slice none 0 0] 25)).heap.size := by omega
  clear hs0
  have HN : Hid (∀ w', Below (w.alloc (.cells #[.int .i64 0, .int .i64 0, .int .i64 0, .slice none 0 0] 25)).heap.size (w.alloc (.cells #[.int .i64 0, .int .i64 0, .int .i64 0, .slice none 0 0] 25)) w' → Calls Tryd.prog 28 #[.slice (some ⟨b, off + 4, none⟩) 2 (cap - 4)] w' fun e w2 => e = .returned (.int .i64 (C : Int)) ∧ w2 = w') := hid (fun w' hb => HN0.out w' (below_chain HB0.out hb))
  go_enter Tryd.func5, Tryd.ntmps5
  go_wp2_with fail
  generalize (w.alloc (.cells #[.int .i64 0, .int .i64 0, .int .i64 0, .slice none 0 0] 25)) = W0 at *
  refine region_turns3 (n := 14) (by kernel_rfl) (by kernel_rfl) ?_ (fun t => { tmps := #[.slice (some ⟨b, off, none⟩) xs.length cap, undef, .pointer (some ⟨w.heap.size, 0, none⟩), .int .i64 0, t 12, undef, undef, undef, undef, .slice (some ⟨b, off, none⟩) xs.length cap, .int .i64 (xs.length : Int), .bool false, .bool false, .slice (some ⟨b, off, none⟩) xs.length cap, .int .i64 (xs.length : Int), .bool false, .bool false, undef, t 0, t 1, t 2, t 3, t 4, t 5, t 6, t 7, t 8, t 9, t 10, t 11, undef, undef, undef, undef, undef, undef, undef, undef, undef, undef, undef, undef, undef, undef, undef, undef, undef, undef, undef, undef, undef, undef, undef, undef, undef, undef, undef, undef, undef, undef, undef, undef, undef, undef, undef, undef, undef, undef, undef, undef, undef, undef, undef, undef, undef, undef, undef, undef, undef, undef, undef, undef, undef, undef, undef, undef, undef, undef, undef, undef, undef, undef, undef, undef, undef], defers := [] }) (d3T W0.heap.size b off cap xs.length K F C) [13] (Fct.any) (d3H W0.heap.size K F C) W0 W0 (fun k => if k = 12 then [13] else []) (fun k => !(k == 12 || k == 13)) (fun _ _ _ => True) [13] (fun _ _ => false) (by kernel_rfl) (fun _ _ _ _ h => by cases h) (fun i hi hn => absurd hi hn) (fun j hj => by rcases (by omega : j = 0 ∨ j = 1 ∨ j = 2 ∨ j = 3 ∨ j = 4 ∨ j = 5 ∨ j = 6 ∨ j = 7 ∨ j = 8 ∨ j = 9 ∨ j = 10 ∨ j = 11 ∨ j = 12 ∨ j = 13) with rfl | rfl | rfl | rfl | rfl | rfl | rfl | rfl | rfl | rfl | rfl | rfl | rfl | rfl <;> rfl) (fun j hj hp => by rcases (by omega : j = 0 ∨ j = 1 ∨ j = 2 ∨ j = 3 ∨ j = 4 ∨ j = 5 ∨ j = 6 ∨ j = 7 ∨ j = 8 ∨ j = 9 ∨ j = 10 ∨ j = 11 ∨ j = 12 ∨ j = 13) with rfl | rfl | rfl | rfl | rfl | rfl | rfl | rfl | rfl | rfl | rfl | rfl | rfl | rfl <;> first | rfl | (exact absurd hp (by decide))) (fun j => ([undef, undef, undef, undef, undef, undef, undef, undef, undef, undef, undef, undef, undef, undef] : List Value).getD j undef) (fun h => by cases h) (Below.refl _ W0) (trivial) ?_ ?_
  · rfl
  · intro i hi x t wx hxi hsh h0 hbx hgx hdp hall hHx
    have p2 := (hbx.cell (World.block_lt_of_cell? _ _ k2)).trans k2
    have p3 := (hbx.cell (World.block_lt_of_cell? _ _ k3)).trans k3
    rcases (by omega : i = 0 ∨ i = 1 ∨ i = 2 ∨ i = 3 ∨ i = 4 ∨ i = 5 ∨ i = 6 ∨ i = 7 ∨ i = 8 ∨ i = 9 ∨ i = 10 ∨ i = 11 ∨ i = 12 ∨ i = 13) with rfl | rfl | rfl | rfl | rfl | rfl | rfl | rfl | rfl | rfl | rfl | rfl | rfl | rfl
    · 
      try dsimp only
      have hy := notYet hsh hxi 13 (by kernel_rfl)
      clear h0
      refine wpOp_step rfl (fun K' hK => ?_)
      go_simp
      exact hK _ _ ⟨.slice (some ⟨b, off, none⟩) xs.length cap, (by simp [upd]), FX.eq_mk rfl, fun _ => Below.refl _ _, fun h => absurd h (by decide), hbx, fun h => absurd h (by simp [hy])⟩
    · 
      try dsimp only
      have x0 := depX hdp 0 (by kernel_rfl)
      have d0 := hall 0 (by omega) x0
      have e0 : t 0 = .slice (some ⟨b, off, none⟩) xs.length cap := d0.1
      rw [e0]
      have hy := notYet hsh hxi 13 (by kernel_rfl)
      clear h0
      refine wpOp_step rfl (fun K' hK => ?_)
      go_simp
      exact hK _ _ ⟨.pointer (some ⟨b, off + 2, none⟩), (by simp [upd, e0]), FX.eq_mk rfl, fun _ => Below.refl _ _, fun h => absurd h (by decide), hbx, fun h => absurd h (by simp [hy])⟩
    · 
      try dsimp only
      have x1 := depX hdp 1 (by kernel_rfl)
      have d1 := hall 1 (by omega) x1
      have e1 : t 1 = .pointer (some ⟨b, off + 2, none⟩) := d1.1
      rw [e1]
      have hy := notYet hsh hxi 13 (by kernel_rfl)
      clear h0
      refine wpOp_step rfl (fun K' hK => ?_)
      go_simp
      exact hK _ _ ⟨.int .u8 (K : Int), (by simp [upd, e1]), FX.eq_mk rfl, fun _ => Below.refl _ _, fun h => absurd h (by decide), hbx, fun h => absurd h (by simp [hy])⟩
    · 
      try dsimp only
      have x2 := depX hdp 2 (by kernel_rfl)
      have d2 := hall 2 (by omega) x2
      have e2 : t 2 = .int .u8 (K : Int) := d2.1
      rw [e2]
      have hy := notYet hsh hxi 13 (by kernel_rfl)
      clear h0
      refine wpOp_step rfl (fun K' hK => ?_)
      go_simp
      exact hK _ _ ⟨.int .i64 (K : Int), (by simp [upd, e2]), FX.eq_mk rfl, fun _ => Below.refl _ _, fun h => absurd h (by decide), hbx, fun h => absurd h (by simp [hy])⟩
    · 
      try dsimp only
      have hy := notYet hsh hxi 13 (by kernel_rfl)
      clear h0
      refine wpOp_step rfl (fun K' hK => ?_)
      go_simp
      exact hK _ _ ⟨.slice (some ⟨b, off, none⟩) xs.length cap, (by simp [upd]), FX.eq_mk rfl, fun _ => Below.refl _ _, fun h => absurd h (by decide), hbx, fun h => absurd h (by simp [hy])⟩
    · 
      try dsimp only
      have x4 := depX hdp 4 (by kernel_rfl)
      have d4 := hall 4 (by omega) x4
      have e4 : t 4 = .slice (some ⟨b, off, none⟩) xs.length cap := d4.1
      rw [e4]
      have hy := notYet hsh hxi 13 (by kernel_rfl)
      clear h0
      refine wpOp_step rfl (fun K' hK => ?_)
      go_simp
      exact hK _ _ ⟨.pointer (some ⟨b, off + 3, none⟩), (by simp [upd, e4]), FX.eq_mk rfl, fun _ => Below.refl _ _, fun h => absurd h (by decide), hbx, fun h => absurd h (by simp [hy])⟩
    · 
      try dsimp only
      have x5 := depX hdp 5 (by kernel_rfl)
      have d5 := hall 5 (by omega) x5
      have e5 : t 5 = .pointer (some ⟨b, off + 3, none⟩) := d5.1
      rw [e5]
      have hy := notYet hsh hxi 13 (by kernel_rfl)
      clear h0
      refine wpOp_step rfl (fun K' hK => ?_)
      go_simp
      exact hK _ _ ⟨.int .u8 (F : Int), (by simp [upd, e5]), FX.eq_mk rfl, fun _ => Below.refl _ _, fun h => absurd h (by decide), hbx, fun h => absurd h (by simp [hy])⟩
    · 
      try dsimp only
      have x6 := depX hdp 6 (by kernel_rfl)
      have d6 := hall 6 (by omega) x6
      have e6 : t 6 = .int .u8 (F : Int) := d6.1
      rw [e6]
      have hy := notYet hsh hxi 13 (by kernel_rfl)
      clear h0
      refine wpOp_step rfl (fun K' hK => ?_)
      go_simp
      exact hK _ _ ⟨.int .i64 (F : Int), (by simp [upd, e6]), FX.eq_mk rfl, fun _ => Below.refl _ _, fun h => absurd h (by decide), hbx, fun h => absurd h (by simp [hy])⟩
    · 
      try dsimp only
      have hy := notYet hsh hxi 13 (by kernel_rfl)
      clear h0
      refine wpOp_step rfl (fun K' hK => ?_)
      go_simp
      exact hK _ _ ⟨.slice (some ⟨b, off, none⟩) xs.length cap, (by simp [upd]), FX.eq_mk rfl, fun _ => Below.refl _ _, fun h => absurd h (by decide), hbx, fun h => absurd h (by simp [hy])⟩
    · 
      try dsimp only
      have x8 := depX hdp 8 (by kernel_rfl)
      have d8 := hall 8 (by omega) x8
      have e8 : t 8 = .slice (some ⟨b, off, none⟩) xs.length cap := d8.1
      rw [e8]
      have hy := notYet hsh hxi 13 (by kernel_rfl)
      clear h0
      refine wpOp_step rfl (fun K' hK => ?_)
      go_simp
      exact hK _ _ ⟨.slice (some ⟨b, off + 4, none⟩) 2 (cap - 4), (by simp [upd, e8]), FX.eq_mk rfl, fun _ => Below.refl _ _, fun h => absurd h (by decide), hbx, fun h => absurd h (by simp [hy])⟩
    · 
      try dsimp only
      have x9 := depX hdp 9 (by kernel_rfl)
      have d9 := hall 9 (by omega) x9
      have e9 : t 9 = .slice (some ⟨b, off + 4, none⟩) 2 (cap - 4) := d9.1
      rw [e9]
      have hy := notYet hsh hxi 13 (by kernel_rfl)
      clear h0
      refine wpOp_step rfl (fun K' hK => ?_)
      go_simp
      refine (HN.out wx hbx).mono ?_
      rintro e w2 ⟨rfl, rfl⟩
      exact hK _ _ ⟨.int .i64 (C : Int), (by simp [upd, e9]), FX.eq_mk rfl, fun _ => Below.refl _ _, fun h => absurd h (by decide), hbx, fun h => absurd h (by simp [hy])⟩
    · 
      try dsimp only
      have x3 := depX hdp 3 (by kernel_rfl)
      have d3 := hall 3 (by omega) x3
      have e3 : t 3 = .int .i64 (K : Int) := d3.1
      have x7 := depX hdp 7 (by kernel_rfl)
      have d7 := hall 7 (by omega) x7
      have e7 : t 7 = .int .i64 (F : Int) := d7.1
      have x10 := depX hdp 10 (by kernel_rfl)
      have d10 := hall 10 (by omega) x10
      have e10 : t 10 = .int .i64 (C : Int) := d10.1
      rw [e3, e7, e10]
      have hy := notYet hsh hxi 13 (by kernel_rfl)
      clear h0
      refine wpOp_step rfl (fun K' hK => ?_)
      go_simp
      exact hK _ _ ⟨.agg #[.int .i64 (K : Int), .int .i64 (F : Int), .int .i64 (C : Int), .slice none 0 0], (by simp [upd, e3, e7, e10]), FX.eq_mk rfl, fun _ => Below.refl _ _, fun h => absurd h (by decide), hbx, fun h => absurd h (by simp [hy])⟩
    · 
      try dsimp only
      have hy := notYet hsh hxi 13 (by kernel_rfl)
      clear h0
      refine wpOp_step rfl (fun K' hK => ?_)
      go_simp
      exact hK _ _ ⟨.pointer (some ⟨wx.heap.size, 0, none⟩), (by simp [upd]), FX.pre_mk ⟨wx.heap.size, rfl, hbx.size, heap_alloc_new wx _⟩, fun _ => below_new1 _ _, fun h => absurd h (by decide), below_chain hbx (below_new1 _ _), fun h => absurd h (by simp [hy])⟩
    · 
      try dsimp only
      have x12 := depX hdp 12 (by kernel_rfl)
      have d12 := hall 12 (by omega) x12
      have x11 := depX hdp 11 (by kernel_rfl)
      have d11 := hall 11 (by omega) x11
      have e11 : t 11 = .agg #[.int .i64 (K : Int), .int .i64 (F : Int), .int .i64 (C : Int), .slice none 0 0] := d11.1
      rw [e11]
      obtain ⟨gs, e12, lg, hbox⟩ : (fcNewM W0.heap.size).p (t 12) wx := FX.pre_of d12 hxi
      rw [e12]
      have k0 := cell_of_row wx _ 0 _ _ _ hbox
      have k1 := cell_of_row wx _ 1 _ _ _ hbox
      have k2 := cell_of_row wx _ 2 _ _ _ hbox
      have k3 := cell_of_row wx _ 3 _ _ _ hbox
      have z0 := frozen_of_row wx _ 0 _ _ hbox
      have z1 := frozen_of_row wx _ 1 _ _ hbox
      have z2 := frozen_of_row wx _ 2 _ _ hbox
      have z3 := frozen_of_row wx _ 3 _ _ hbox
      simp only [List.getElem?_toArray, List.getElem?_cons_zero, List.getElem?_cons_succ] at k0 k1 k2 k3
      have HBX := hid hbox
      clear hbox
      clear h0
      refine wpOp_step rfl (fun K' hK => ?_)
      go_simp
      exact hK _ _ ⟨undef, (by simp [upd, e11, e12]), FX.is_mk trivial, fun h => absurd (by decide) h, fun _ => trivial, set4b hbx lg, fun _ => ⟨gs, (by simp [upd]; exact e12), lg, set4 HBX.out⟩⟩
  · intro x t3 w3 hx hbx hall hHx
    obtain ⟨gM, e12, lg, hM⟩ := hHx (hx 13 (by omega))
    try dsimp only
    rw [e12]
    have HM := hid hM
    have HBX := hid hbx
    have HT3 : Hid (∀ j, t3 j = t3 j) := hid (fun _ => rfl)
    clear hall hbx hM e12 hHx hx HT3
    have hgM : gM < w3.heap.size := (Array.getElem?_eq_some_iff.1 HM.out).1
    have k6c : w3.cell? ⟨b, off + 6, none⟩ = some (.int .u8 (N : Int)) := (HBX.out.cell (World.block_lt_of_cell? _ _ k6)).trans k6
    have hEV := evn_le (4 * N)
    have t6' : (6 : Int) < (xs.length : Int) := by omega
    have HS1 := hid hs1
    have HLG := hid lg
    clear k2 k3 HN HN0 d11 d20 hs1 lg hgM t2 t4 t6 hcl u2 u3 y2 y3
    generalize t3 0 = v0 at *
    generalize t3 1 = v1 at *
    generalize t3 2 = v2 at *
    generalize t3 3 = v3 at *
    generalize t3 4 = v4 at *
    generalize t3 5 = v5 at *
    generalize t3 6 = v6 at *
    generalize t3 7 = v7 at *
    generalize t3 8 = v8 at *
    generalize t3 9 = v9 at *
    generalize t3 10 = v10 at *
    generalize t3 11 = v11 at *
    go_wp2_with fail
    have HQ5 : Hid (Calls Tryd.prog 29 #[.int .i64 (4 * (N : Int))] w3 fun e w' => e = .returned (.int .i64 ((evn (4 * N) : Nat) : Int)) ∧ w' = w3) := hid (by
      have h := even_any (4 * N) w3 (by omega)
      rw [show ((4 * N : Nat) : Int) = 4 * (N : Int) from by omega] at h
      exact h)
    refine HQ5.out.mono ?_
    rintro e w5 ⟨rfl, rfl⟩
    have HNB : Hid (nB xs = N) := hid (by simp [nB, G6.out])
    have hE2 : evn (4 * N) ≤ 4 * N + 7 := hEV.2.1
    have HP0 : Hid (pst xs N 0 = some ([], 8 + evn (4 * N))) := hid rfl
    clear hEV HQ5 k6c
    generalize evn (4 * N) = E4 at *
    go_wp2
    go_loopw [6, 7, 8] (fun s6 i _ wr => ∃ (k : Nat) (bs : List (List Nat)) (at_ : Nat) (v : Value), k ≤ N ∧ i = .int .i64 k ∧ s6 = .int .i64 (at_ : Int) ∧ pst xs N k = some (bs, at_) ∧ Txts W0.heap.size wr v bs ∧ wr.heap[gM]? = some (.cells #[.int .i64 (K : Int), .int .i64 (F : Int), .int .i64 (C : Int), v] 25 (0, 0)) ∧ Below W0.heap.size W0 wr) (fun _ i _ _ => N - (intOf i).toNat)
    case atStart => exact ⟨0, [], 8 + E4, .slice none 0 0, Nat.zero_le _, rfl, by simp, HP0.out, Txts.nil _ _, HM.out, HBX.out⟩
    case round =>
      obtain ⟨k, bs, at_, v, hk, rfl, rfl, hp, htx, hM, hB⟩ := hrel
      have hpt := pst_tot hp
      have HPN := hid (pst_next hp)
      have HP := hid hp
      have HX := hid htx
      have HMr := hid hM
      have HB := hid hB
      have HBA := hid (below_chain HB0.out hB)
      have hG := (hB.block w.heap.size (by have := HS1.out; omega)).trans HK0.out
      have HG := hid hG
      have q0 := cell_of_row wr _ 0 _ _ _ hG
      have q1 := cell_of_row wr _ 1 _ _ _ hG
      have q2 := cell_of_row wr _ 2 _ _ _ hG
      have q3 := cell_of_row wr _ 3 _ _ _ hG
      have f0 := frozen_of_row wr _ 0 _ _ hG
      have f1 := frozen_of_row wr _ 1 _ _ hG
      have f2 := frozen_of_row wr _ 2 _ _ hG
      have f3 := frozen_of_row wr _ 3 _ _ hG
      simp only [List.getElem?_toArray, List.getElem?_cons_zero, List.getElem?_cons_succ] at q0 q1 q2 q3
      obtain ⟨av, cv, rfl⟩ := htx.len
      have hatb : at_ ≤ 1048576 := by have h1 := (evn_le (4 * N)).2.1; have h2 := hpt.2.2.2; omega
      have HPT := hid hpt
      clear hpt
      clear hp htx hM hG hB HP0
      by_cases hlt : k < N
      · have hki : (k : Int) < (N : Int) := by omega
        have hkb : k < 256 := by omega
        by_cases c1 : xs.length < 12 + 4 * k
        · have dc1 : decide ((xs.length : Int) < 12 + 4 * (k : Int)) = true := decide_eq_true (by omega)
          have HD := hid (dec_none (decR_stop (b := xs) (k := k + 1) (by rw [HNB.out]; omega) (by rw [HNB.out, HPN.out, if_pos (.inl c1)])))
          go_wp2
          refine bodyPost_ret (results_cell_row_tmpD rfl _ _ w.heap.size 25 #[.int .i64 0, .int .i64 0, .int .i64 0, .slice none 0 0] (0, 0) _ rfl (set4 HG.out) Tryd.underlying25 rfl (by kernel_rfl)) rfl ?_
          exact decPost_nil (set4b HBA.out (Nat.le_refl _)) HD.out.1 HD.out.2
        have dc1 : decide ((xs.length : Int) < 12 + 4 * (k : Int)) = false := decide_eq_false (by omega)
        have hcc : ¬ cap = 8 + 4 * k := by omega
        have hcc1 : 8 + 4 * (k : Int) ≤ 12 + 4 * (k : Int) := by omega
        have hcc2 : 12 + 4 * (k : Int) ≤ (cap : Int) := by omega
        have HQn : Hid (Calls Tryd.prog 28 #[.slice (some ⟨b, off + (8 + 4 * k), none⟩) (12 + 4 * k - (8 + 4 * k)) (cap - (8 + 4 * k))] wr fun e w' => e = .returned (.int .i64 ((num ((xs.drop (8 + 4 * k)).take 4) : Nat) : Int)) ∧ w' = wr) := hid (by
          have h := number_any (some ⟨b, off + (8 + 4 * k), none⟩) (cap - (8 + 4 * k)) ((xs.drop (8 + 4 * k)).take 4) wr (by
            have h2 := (rdB_cut HR.out (lo := 8 + 4 * k) (n := 4) (by omega)).later HBA.out
            rw [show ((xs.drop (8 + 4 * k)).take 4).length = 4 from by simp; omega]
            exact h2) (by simp; omega)
          rw [show ((xs.drop (8 + 4 * k)).take 4).length = 12 + 4 * k - (8 + 4 * k) from by simp; omega] at h
          exact h)
        have hzl : num ((xs.drop (8 + 4 * k)).take 4) < 4294967296 := by
          have h := num_lt ((xs.drop (8 + 4 * k)).take 4) (fun x hx => HBY.out x (List.mem_of_mem_drop (List.mem_of_mem_take hx)))
          rw [show ((xs.drop (8 + 4 * k)).take 4).length = 4 from by simp; omega] at h
          omega
        generalize num ((xs.drop (8 + 4 * k)).take 4) = z at *
        go_wp2_with fail
        refine HQn.out.mono ?_
        rintro e w6 ⟨rfl, rfl⟩
        clear HQn
        by_cases c2 : xs.length < at_
        · have d1 : decide ((xs.length : Int) < (at_ : Int)) = true := decide_eq_true (by omega)
          have HD := hid (dec_none (decR_stop (b := xs) (k := k + 1) (by rw [HNB.out]; omega) (by rw [HNB.out, HPN.out, if_pos (.inr (.inl c2))])))
          go_wp2
          refine bodyPost_ret (results_cell_row_tmpD rfl _ _ w.heap.size 25 #[.int .i64 0, .int .i64 0, .int .i64 0, .slice none 0 0] (0, 0) _ rfl (set4 HG.out) Tryd.underlying25 rfl (by kernel_rfl)) rfl ?_
          exact decPost_nil (set4b HBA.out (Nat.le_refl _)) HD.out.1 HD.out.2
        have d1 : decide ((xs.length : Int) < (at_ : Int)) = false := decide_eq_false (by omega)
        by_cases c3 : xs.length - at_ < z
        · have d2 : decide ((xs.length : Int) - (at_ : Int) < (z : Int)) = true := decide_eq_true (by omega)
          have HD := hid (dec_none (decR_stop (b := xs) (k := k + 1) (by rw [HNB.out]; omega) (by rw [HNB.out, HPN.out, if_pos (.inr (.inr c3))])))
          go_wp2
          refine bodyPost_ret (results_cell_row_tmpD rfl _ _ w.heap.size 25 #[.int .i64 0, .int .i64 0, .int .i64 0, .slice none 0 0] (0, 0) _ rfl (set4 HG.out) Tryd.underlying25 rfl (by kernel_rfl)) rfl ?_
          exact decPost_nil (set4b HBA.out (Nat.le_refl _)) HD.out.1 HD.out.2
        have d2 : decide ((xs.length : Int) - (at_ : Int) < (z : Int)) = false := decide_eq_false (by omega)
        go_wp2_with fail
        have HGM : Hid (gM < w6.heap.size) := hid (Array.getElem?_eq_some_iff.1 HMr.out).1
        generalize hys : (xs.drop at_).take z = ys at *
        have HYS := hid hys
        have hyl : ys.length = z := by rw [← HYS.out]; simp; omega
        have HYL := hid hyl
        have HYB : Hid (∀ x ∈ ys, x < 256) := hid (fun x hx => HBY.out x (List.mem_of_mem_drop (List.mem_of_mem_take (by rw [HYS.out]; exact hx))))
        have HPS : Hid (pst xs N (k + 1) = some (bs ++ [ys], at_ + evn z)) := hid (by rw [HPN.out, if_neg (by omega)])
        have HL2 : Hid ((bs ++ [ys]).length = bs.length + 1) := hid (by simp)
        have hbl : bs.length ≤ 256 := by have := HPT.out.2.2.1; omega
        clear hys hyl q0 q1 q2 q3 f0 f1 f2 f3
        by_cases hca : cap = at_
        · subst hca
          have HCP : Hid (∀ wx, Below w6.heap.size w6 wx → Calls Tryd.prog 30 #[.slice (some ⟨b, off, none⟩) z 0] wx fun e w' => ∃ v, e = .returned v ∧ w'.ownsRow wx.heap.size 5 1 v ys.length (byt ys) ∧ Below wx.heap.size wx w') := hid (fun wx hz => by
            have h0 : ys.length = 0 := by rw [HYL.out]; omega
            have h := l1copy_any (some ⟨b, off, none⟩) 0 ys wx ⟨_, _, rfl, by omega, by omega, (by simp), .inl (List.length_eq_zero_iff.1 h0)⟩ (by omega)
            rw [show ys.length = z from HYL.out] at h ⊢
            exact h)
          have hcz : (cap : Int) + (z : Int) ≤ (cap : Int) := by omega
          have hcz2 : (cap : Int) ≤ (cap : Int) + (z : Int) := by omega
          have HZ0 : Hid (z = 0) := hid (by omega)
          have hwz : IntKind.i64.wrap ((cap : Int) + (z : Int)) = (cap : Int) + (z : Int) := by rw [show (cap : Int) + (z : Int) = ((cap + z : Nat) : Int) from by omega, ← wr64]; exact wrap64_small _ (by omega)
          refine region_turns2 (n := 13) (by kernel_rfl) (by kernel_rfl) ?_ (fun t => { tmps := #[.slice (some ⟨b, off, none⟩) xs.length cap, undef, .pointer (some ⟨w.heap.size, 0, none⟩), u3, .pointer (some ⟨gM, 0, none⟩), .int .i64 (N : Int), .int .i64 (cap : Int), .int .i64 (k : Int), .int .i64 (z : Int), .slice (some ⟨b, off, none⟩) xs.length cap, .int .i64 (xs.length : Int), .bool false, .bool false, .slice (some ⟨b, off, none⟩) xs.length cap, .int .i64 (xs.length : Int), .bool false, .bool false, undef, v0, v1, v2, v3, v4, v5, v6, v7, v8, v9, v10, v11, .slice (some ⟨b, off, none⟩) xs.length cap, .pointer (some ⟨b, off + 6, none⟩), .int .u8 (N : Int), .int .i64 (N : Int), .int .i64 (N : Int), .int .i64 (4 * (N : Int)), .int .i64 (E4 : Int), .int .i64 (8 + (E4 : Int)), .int .i64 (k : Int), .int .i64 (N : Int), .bool true, u41, u42, .int .i64 (k : Int), .int .i64 (4 * (k : Int)), .int .i64 (12 + 4 * (k : Int)), .slice (some ⟨b, off, none⟩) xs.length cap, .int .i64 (xs.length : Int), .bool false, u49, .slice (some ⟨b, off, none⟩) xs.length cap, .int .i64 (k : Int), .int .i64 (4 * (k : Int)), .int .i64 (8 + 4 * (k : Int)), .int .i64 (k : Int), .int .i64 (4 * (k : Int)), .int .i64 (12 + 4 * (k : Int)), .slice (some ⟨b, off + (8 + 4 * k), none⟩) (12 + 4 * k - (8 + 4 * k)) (cap - (8 + 4 * k)), .int .i64 (z : Int), .int .i64 (cap : Int), .slice (some ⟨b, off, none⟩) xs.length cap, .int .i64 (xs.length : Int), .bool false, .bool false, .int .i64 (z : Int), .slice (some ⟨b, off, none⟩) xs.length cap, .int .i64 (xs.length : Int), .int .i64 (cap : Int), .int .i64 ((xs.length : Int) - (cap : Int)), .bool false, .bool false, u71, t 0, t 1, t 2, t 3, t 4, t 5, t 6, t 7, t 8, t 9, t 10, t 11, u84, u85, u86, u87, undef, undef, undef, undef, undef, undef, undef], defers := [] }) (d14T W0.heap.size gM b off cap xs.length cap z av cv bs ys (.slice (some ⟨b, off, none⟩) z 0) K F C #[.int .i64 (K : Int), .int .i64 (F : Int), .int .i64 (C : Int), .slice av bs.length cv]) [10, 12] (fcSameY w6) W0 w6 (fun k => if k = 8 then [10, 12] else if k = 9 then [10, 12] else if k = 10 then [12] else []) (fun k => !(k == 8 || k == 9 || k == 10 || k == 12)) (fun _ _ _ => True) [10, 12] (fun _ _ => false) (by kernel_rfl) (fun _ _ _ _ h => by cases h) (fun i hi hn => absurd hi hn) (fun j hj => by rcases (by omega : j = 0 ∨ j = 1 ∨ j = 2 ∨ j = 3 ∨ j = 4 ∨ j = 5 ∨ j = 6 ∨ j = 7 ∨ j = 8 ∨ j = 9 ∨ j = 10 ∨ j = 11 ∨ j = 12) with rfl | rfl | rfl | rfl | rfl | rfl | rfl | rfl | rfl | rfl | rfl | rfl | rfl <;> rfl) (fun j hj hp => by rcases (by omega : j = 0 ∨ j = 1 ∨ j = 2 ∨ j = 3 ∨ j = 4 ∨ j = 5 ∨ j = 6 ∨ j = 7 ∨ j = 8 ∨ j = 9 ∨ j = 10 ∨ j = 11 ∨ j = 12) with rfl | rfl | rfl | rfl | rfl | rfl | rfl | rfl | rfl | rfl | rfl | rfl | rfl <;> first | rfl | (exact absurd hp (by decide))) (fun j => ([u72, u73, u74, u75, u76, u77, u78, u79, u80, u81, u82, u83, undef] : List Value).getD j undef) HB.out (Below.refl _ _) ?_ ?_
          · rfl
          · intro i hi x t wx hxi hsh h0 hbx hgx hdp hall
            rcases (by omega : i = 0 ∨ i = 1 ∨ i = 2 ∨ i = 3 ∨ i = 4 ∨ i = 5 ∨ i = 6 ∨ i = 7 ∨ i = 8 ∨ i = 9 ∨ i = 10 ∨ i = 11 ∨ i = 12) with rfl | rfl | rfl | rfl | rfl | rfl | rfl | rfl | rfl | rfl | rfl | rfl | rfl
            · 
              try dsimp only
              clear h0
              refine wpOp_step rfl (fun K' hK => ?_)
              go_simp
              exact hK _ _ ⟨.pointer (some ⟨gM, 3, none⟩), (by simp [upd]), FX.eq_mk rfl, fun _ => Below.refl _ _, fun h => absurd h (by decide), hbx⟩
            · 
              try dsimp only
              have x0 := depX hdp 0 (by kernel_rfl)
              have d0 := hall 0 (by omega) x0
              have e0 : t 0 = .pointer (some ⟨gM, 3, none⟩) := d0.1
              rw [e0]
              have y10 := notYet hsh hxi 10 (by kernel_rfl)
              have y12 := notYet hsh hxi 12 (by kernel_rfl)
              have hz : Below w6.heap.size w6 wx := hgx (by simp [y10, y12])
              have k3 := cell_of_row _ _ 3 _ _ _ ((hz.block _ HGM.out).trans HMr.out)
              simp only [List.getElem?_toArray, List.getElem?_cons_zero, List.getElem?_cons_succ] at k3
              clear y10 y12 hz
              clear h0
              refine wpOp_step rfl (fun K' hK => ?_)
              go_simp
              exact hK _ _ ⟨.slice av bs.length cv, (by simp [upd, e0]), FX.eq_mk rfl, fun _ => Below.refl _ _, fun h => absurd h (by decide), hbx⟩
            · 
              try dsimp only
              clear h0
              refine wpOp_step rfl (fun K' hK => ?_)
              go_simp
              exact hK _ _ ⟨.slice (some ⟨b, off, none⟩) xs.length cap, (by simp [upd]), FX.eq_mk rfl, fun _ => Below.refl _ _, fun h => absurd h (by decide), hbx⟩
            · 
              try dsimp only
              clear h0
              refine wpOp_step rfl (fun K' hK => ?_)
              go_simp
              exact hK _ _ ⟨.int .i64 (cap : Int), (by simp [upd]), FX.eq_mk rfl, fun _ => Below.refl _ _, fun h => absurd h (by decide), hbx⟩
            · 
              try dsimp only
              clear h0
              refine wpOp_step rfl (fun K' hK => ?_)
              go_simp
              exact hK _ _ ⟨.int .i64 (cap : Int), (by simp [upd]), FX.eq_mk rfl, fun _ => Below.refl _ _, fun h => absurd h (by decide), hbx⟩
            · 
              try dsimp only
              clear h0
              refine wpOp_step rfl (fun K' hK => ?_)
              go_simp
              exact hK _ _ ⟨.int .i64 (z : Int), (by simp [upd]), FX.eq_mk rfl, fun _ => Below.refl _ _, fun h => absurd h (by decide), hbx⟩
            · 
              try dsimp only
              have x4 := depX hdp 4 (by kernel_rfl)
              have d4 := hall 4 (by omega) x4
              have e4 : t 4 = .int .i64 (cap : Int) := d4.1
              have x5 := depX hdp 5 (by kernel_rfl)
              have d5 := hall 5 (by omega) x5
              have e5 : t 5 = .int .i64 (z : Int) := d5.1
              rw [e4, e5]
              clear h0
              refine wpOp_step rfl (fun K' hK => ?_)
              go_simp
              exact hK _ _ ⟨.int .i64 ((cap : Int) + (z : Int)), (by simp [upd, e4, e5]), FX.eq_mk rfl, fun _ => Below.refl _ _, fun h => absurd h (by decide), hbx⟩
            · 
              try dsimp only
              have x2 := depX hdp 2 (by kernel_rfl)
              have d2 := hall 2 (by omega) x2
              have e2 : t 2 = .slice (some ⟨b, off, none⟩) xs.length cap := d2.1
              have x3 := depX hdp 3 (by kernel_rfl)
              have d3 := hall 3 (by omega) x3
              have e3 : t 3 = .int .i64 (cap : Int) := d3.1
              have x6 := depX hdp 6 (by kernel_rfl)
              have d6 := hall 6 (by omega) x6
              have e6 : t 6 = .int .i64 ((cap : Int) + (z : Int)) := d6.1
              rw [e2, e3, e6]
              clear h0
              refine wpOp_step rfl (fun K' hK => ?_)
              go_simp
              exact hK _ _ ⟨.slice (some ⟨b, off, none⟩) z 0, (by simp [upd, e2, e3, e6]; exact HZ0.out.symm), FX.eq_mk rfl, fun _ => Below.refl _ _, fun h => absurd h (by decide), hbx⟩
            · 
              try dsimp only
              have x7 := depX hdp 7 (by kernel_rfl)
              have d7 := hall 7 (by omega) x7
              have e7 : t 7 = .slice (some ⟨b, off, none⟩) z 0 := d7.1
              rw [e7]
              have y10 := notYet hsh hxi 10 (by kernel_rfl)
              have y12 := notYet hsh hxi 12 (by kernel_rfl)
              have hz : Below w6.heap.size w6 wx := hgx (by simp [y10, y12])
              clear y10 y12
              clear h0
              refine wpOp_step rfl (fun K' hK => ?_)
              go_simp
              refine (HCP.out wx hz).mono ?_
              rintro e w2 ⟨v2, rfl, o2, b2⟩
              exact hK _ _ ⟨v2, (by simp [upd, e7]), FX.pre_mk (own_mono o2 hbx.size), fun _ => b2, fun h => absurd h (by decide), below_chain hbx b2⟩
            · 
              try dsimp only
              have x8 := depX hdp 8 (by kernel_rfl)
              have d8 := hall 8 (by omega) x8
              have y10 := notYet hsh hxi 10 (by kernel_rfl)
              have y12 := notYet hsh hxi 12 (by kernel_rfl)
              have o8 : wx.ownsRow W0.heap.size 5 1 (t 8) ys.length (byt ys) := FX.pre_of2 d8 y10 y12
              obtain ⟨a8, c8, e8, -⟩ := rd_own o8
              rw [e8]
              clear y10 y12
              clear h0
              refine wpOp_step rfl (fun K' hK => ?_)
              go_simp
              exact hK _ _ ⟨.slice (some ⟨wx.heap.size, 0, none⟩) 1 1, (by simp [upd, e8]), FX.pre_mk (oneY_new (e8 ▸ o8)), fun _ => below_new1 _ _, fun h => absurd h (by decide), below_chain hbx (below_new1 _ _)⟩
            · 
              try dsimp only
              have x1 := depX hdp 1 (by kernel_rfl)
              have d1 := hall 1 (by omega) x1
              have e1 : t 1 = .slice av bs.length cv := d1.1
              have x9 := depX hdp 9 (by kernel_rfl)
              have d9 := hall 9 (by omega) x9
              rw [e1]
              have y12 := notYet hsh hxi 12 (by kernel_rfl)
              obtain ⟨g9, u, e9, c9, o8⟩ : (fcOneY W0.heap.size ys).p (t 9) wx := FX.pre_of2 d9 hxi y12
              rw [e9]
              have hz : Below w6.heap.size w6 wx := hgx (by simp [hxi, y12])
              obtain ⟨vals, ho, hi'⟩ := HX.out.later hz
              have hbm := (hz.block _ HGM.out).trans HMr.out
              clear h0
              refine wpOp_step rfl (fun K' hK => ?_)
              refine step_append_lies _ rfl (.tmp 73) (.tmp 81) 23 rfl W0.heap.size 22 j0 (.slice none 0 0) 1 24 Tryd.underlying23 hj hy0 hy1 hy2 rfl (by decide) (.slice av bs.length cv) bs.length vals rfl ho ⟨g9, 0, none⟩ 1 1 [u] rfl rfl (oneY_at c9) (one_cell (ownY_one o8)) (by omega) (by unfold maxLen; omega) (by omega) hbx.size _ rfl ?_
              intro g' cap' w9 hown hgrow hat hlt9
              exact hK _ _ ⟨.slice (some ⟨g', 0, none⟩) (bs.length + 1) cap', (by simp [upd, e1, e9, Act.put]), FX.pre_mk ⟨Txts.snoc ho hi' o8 HYB.out hown hgrow, (hgrow.block _ (Array.getElem?_eq_some_iff.1 hbm).1 (fun e => boxY_far hbm ho (by decide) e.symm)).trans hbm⟩, fun h => absurd (by decide) h, fun _ => trivial, hbx.grown hgrow hbx.size (fun p hp => (own_in ho hp).1)⟩
            · 
              try dsimp only
              clear h0
              refine wpOp_step rfl (fun K' hK => ?_)
              go_simp
              exact hK _ _ ⟨.pointer (some ⟨gM, 3, none⟩), (by simp [upd]), FX.eq_mk rfl, fun _ => Below.refl _ _, fun h => absurd h (by decide), hbx⟩
            · 
              try dsimp only
              have x11 := depX hdp 11 (by kernel_rfl)
              have d11 := hall 11 (by omega) x11
              have e11 : t 11 = .pointer (some ⟨gM, 3, none⟩) := d11.1
              have x10 := depX hdp 10 (by kernel_rfl)
              have d10 := hall 10 (by omega) x10
              rw [e11]
              obtain ⟨f10, hbm⟩ : (fcGotY W0.heap.size gM #[.int .i64 (K : Int), .int .i64 (F : Int), .int .i64 (C : Int), .slice av bs.length cv] bs ys).p (t 10) wx := FX.pre_of d10 hxi
              obtain ⟨a10, c10, e10⟩ := f10.len
              rw [HL2.out] at e10
              rw [e10]
              have k3 := cell_of_row wx _ 3 _ _ _ hbm
              have z3 := frozen_of_row wx _ 3 _ _ hbm
              simp only [List.getElem?_toArray, List.getElem?_cons_zero, List.getElem?_cons_succ] at k3
              have HBM := hid hbm
              clear hbm
              clear h0
              refine wpOp_step rfl (fun K' hK => ?_)
              go_simp
              exact hK _ _ ⟨undef, (by simp [upd, e11, e10]), FX.is_mk (putY HBM.out (e10 ▸ f10)), fun h => absurd (by decide) h, fun _ => trivial, hbx.setCell (p := ⟨gM, 3, none⟩) HLG.out _⟩
          · intro x t wx hx hbx hall
            obtain ⟨v', hMn, hTn⟩ : (fcPutY W0.heap.size gM K F C bs ys).p (t 12) wx := FX.is_of (hall 12 (by omega))
            have HMn := hid hMn
            have HTn := hid hTn
            have HBn := hid hbx
            clear hall hbx hMn hTn hx
            try dsimp only
            go_wp2_with fail
            have hez : evn z ≤ z + 7 := (evn_le z).2.1
            refine (even_any z wx (by omega)).mono ?_
            rintro e w8 ⟨rfl, rfl⟩
            generalize hEz : evn z = Ez at *
            have HEZ := hid hEz
            clear hEz
            go_wp2
            go_roundw
            case rel => exact ⟨k + 1, bs ++ [ys], cap + Ez, v', by omega, by go_num, by go_num, HPS.out, HTn.out, HMn.out, HBn.out⟩
            case measure => simp [intOf]; omega
        have HCP : Hid (∀ wx, Below w6.heap.size w6 wx → Calls Tryd.prog 30 #[.slice (some ⟨b, off + at_, none⟩) z (cap - at_)] wx fun e w' => ∃ v, e = .returned v ∧ w'.ownsRow wx.heap.size 5 1 v ys.length (byt ys) ∧ Below wx.heap.size wx w') := hid (fun wx hz => by
          have h2 := (rdB_cut HR.out (lo := at_) (n := z) (by omega)).later (below_chain HBA.out hz)
          rw [HYS.out] at h2
          have h := l1copy_any (some ⟨b, off + at_, none⟩) (cap - at_) ys wx (by rw [HYL.out]; exact h2) (by rw [HYL.out]; omega)
          rw [HYL.out] at h ⊢
          exact h)
        have hcz : (at_ : Int) + (z : Int) ≤ (cap : Int) := by omega
        have hcz2 : (at_ : Int) ≤ (at_ : Int) + (z : Int) := by omega
        have hwz : IntKind.i64.wrap ((at_ : Int) + (z : Int)) = (at_ : Int) + (z : Int) := by rw [show (at_ : Int) + (z : Int) = ((at_ + z : Nat) : Int) from by omega, ← wr64]; exact wrap64_small _ (by omega)
        refine region_turns2 (n := 13) (by kernel_rfl) (by kernel_rfl) ?_ (fun t => { tmps := #[.slice (some ⟨b, off, none⟩) xs.length cap, undef, .pointer (some ⟨w.heap.size, 0, none⟩), u3, .pointer (some ⟨gM, 0, none⟩), .int .i64 (N : Int), .int .i64 (at_ : Int), .int .i64 (k : Int), .int .i64 (z : Int), .slice (some ⟨b, off, none⟩) xs.length cap, .int .i64 (xs.length : Int), .bool false, .bool false, .slice (some ⟨b, off, none⟩) xs.length cap, .int .i64 (xs.length : Int), .bool false, .bool false, undef, v0, v1, v2, v3, v4, v5, v6, v7, v8, v9, v10, v11, .slice (some ⟨b, off, none⟩) xs.length cap, .pointer (some ⟨b, off + 6, none⟩), .int .u8 (N : Int), .int .i64 (N : Int), .int .i64 (N : Int), .int .i64 (4 * (N : Int)), .int .i64 (E4 : Int), .int .i64 (8 + (E4 : Int)), .int .i64 (k : Int), .int .i64 (N : Int), .bool true, u41, u42, .int .i64 (k : Int), .int .i64 (4 * (k : Int)), .int .i64 (12 + 4 * (k : Int)), .slice (some ⟨b, off, none⟩) xs.length cap, .int .i64 (xs.length : Int), .bool false, u49, .slice (some ⟨b, off, none⟩) xs.length cap, .int .i64 (k : Int), .int .i64 (4 * (k : Int)), .int .i64 (8 + 4 * (k : Int)), .int .i64 (k : Int), .int .i64 (4 * (k : Int)), .int .i64 (12 + 4 * (k : Int)), .slice (some ⟨b, off + (8 + 4 * k), none⟩) (12 + 4 * k - (8 + 4 * k)) (cap - (8 + 4 * k)), .int .i64 (z : Int), .int .i64 (at_ : Int), .slice (some ⟨b, off, none⟩) xs.length cap, .int .i64 (xs.length : Int), .bool false, .bool false, .int .i64 (z : Int), .slice (some ⟨b, off, none⟩) xs.length cap, .int .i64 (xs.length : Int), .int .i64 (at_ : Int), .int .i64 ((xs.length : Int) - (at_ : Int)), .bool false, .bool false, u71, t 0, t 1, t 2, t 3, t 4, t 5, t 6, t 7, t 8, t 9, t 10, t 11, u84, u85, u86, u87, undef, undef, undef, undef, undef, undef, undef], defers := [] }) (d14T W0.heap.size gM b off cap xs.length at_ z av cv bs ys (.slice (some ⟨b, off + at_, none⟩) z (cap - at_)) K F C #[.int .i64 (K : Int), .int .i64 (F : Int), .int .i64 (C : Int), .slice av bs.length cv]) [10, 12] (fcSameY w6) W0 w6 (fun k => if k = 8 then [10, 12] else if k = 9 then [10, 12] else if k = 10 then [12] else []) (fun k => !(k == 8 || k == 9 || k == 10 || k == 12)) (fun _ _ _ => True) [10, 12] (fun _ _ => false) (by kernel_rfl) (fun _ _ _ _ h => by cases h) (fun i hi hn => absurd hi hn) (fun j hj => by rcases (by omega : j = 0 ∨ j = 1 ∨ j = 2 ∨ j = 3 ∨ j = 4 ∨ j = 5 ∨ j = 6 ∨ j = 7 ∨ j = 8 ∨ j = 9 ∨ j = 10 ∨ j = 11 ∨ j = 12) with rfl | rfl | rfl | rfl | rfl | rfl | rfl | rfl | rfl | rfl | rfl | rfl | rfl <;> rfl) (fun j hj hp => by rcases (by omega : j = 0 ∨ j = 1 ∨ j = 2 ∨ j = 3 ∨ j = 4 ∨ j = 5 ∨ j = 6 ∨ j = 7 ∨ j = 8 ∨ j = 9 ∨ j = 10 ∨ j = 11 ∨ j = 12) with rfl | rfl | rfl | rfl | rfl | rfl | rfl | rfl | rfl | rfl | rfl | rfl | rfl <;> first | rfl | (exact absurd hp (by decide))) (fun j => ([u72, u73, u74, u75, u76, u77, u78, u79, u80, u81, u82, u83, undef] : List Value).getD j undef) HB.out (Below.refl _ _) ?_ ?_
        · rfl
        · intro i hi x t wx hxi hsh h0 hbx hgx hdp hall
          rcases (by omega : i = 0 ∨ i = 1 ∨ i = 2 ∨ i = 3 ∨ i = 4 ∨ i = 5 ∨ i = 6 ∨ i = 7 ∨ i = 8 ∨ i = 9 ∨ i = 10 ∨ i = 11 ∨ i = 12) with rfl | rfl | rfl | rfl | rfl | rfl | rfl | rfl | rfl | rfl | rfl | rfl | rfl
          · 
            try dsimp only
            clear h0
            refine wpOp_step rfl (fun K' hK => ?_)
            go_simp
            exact hK _ _ ⟨.pointer (some ⟨gM, 3, none⟩), (by simp [upd]), FX.eq_mk rfl, fun _ => Below.refl _ _, fun h => absurd h (by decide), hbx⟩
          · 
            try dsimp only
            have x0 := depX hdp 0 (by kernel_rfl)
            have d0 := hall 0 (by omega) x0
            have e0 : t 0 = .pointer (some ⟨gM, 3, none⟩) := d0.1
            rw [e0]
            have y10 := notYet hsh hxi 10 (by kernel_rfl)
            have y12 := notYet hsh hxi 12 (by kernel_rfl)
            have hz : Below w6.heap.size w6 wx := hgx (by simp [y10, y12])
            have k3 := cell_of_row _ _ 3 _ _ _ ((hz.block _ HGM.out).trans HMr.out)
            simp only [List.getElem?_toArray, List.getElem?_cons_zero, List.getElem?_cons_succ] at k3
            clear y10 y12 hz
            clear h0
            refine wpOp_step rfl (fun K' hK => ?_)
            go_simp
            exact hK _ _ ⟨.slice av bs.length cv, (by simp [upd, e0]), FX.eq_mk rfl, fun _ => Below.refl _ _, fun h => absurd h (by decide), hbx⟩
          · 
            try dsimp only
            clear h0
            refine wpOp_step rfl (fun K' hK => ?_)
            go_simp
            exact hK _ _ ⟨.slice (some ⟨b, off, none⟩) xs.length cap, (by simp [upd]), FX.eq_mk rfl, fun _ => Below.refl _ _, fun h => absurd h (by decide), hbx⟩
          · 
            try dsimp only
            clear h0
            refine wpOp_step rfl (fun K' hK => ?_)
            go_simp
            exact hK _ _ ⟨.int .i64 (at_ : Int), (by simp [upd]), FX.eq_mk rfl, fun _ => Below.refl _ _, fun h => absurd h (by decide), hbx⟩
          · 
            try dsimp only
            clear h0
            refine wpOp_step rfl (fun K' hK => ?_)
            go_simp
            exact hK _ _ ⟨.int .i64 (at_ : Int), (by simp [upd]), FX.eq_mk rfl, fun _ => Below.refl _ _, fun h => absurd h (by decide), hbx⟩
          · 
            try dsimp only
            clear h0
            refine wpOp_step rfl (fun K' hK => ?_)
            go_simp
            exact hK _ _ ⟨.int .i64 (z : Int), (by simp [upd]), FX.eq_mk rfl, fun _ => Below.refl _ _, fun h => absurd h (by decide), hbx⟩
          · 
            try dsimp only
            have x4 := depX hdp 4 (by kernel_rfl)
            have d4 := hall 4 (by omega) x4
            have e4 : t 4 = .int .i64 (at_ : Int) := d4.1
            have x5 := depX hdp 5 (by kernel_rfl)
            have d5 := hall 5 (by omega) x5
            have e5 : t 5 = .int .i64 (z : Int) := d5.1
            rw [e4, e5]
            clear h0
            refine wpOp_step rfl (fun K' hK => ?_)
            go_simp
            exact hK _ _ ⟨.int .i64 ((at_ : Int) + (z : Int)), (by simp [upd, e4, e5]), FX.eq_mk rfl, fun _ => Below.refl _ _, fun h => absurd h (by decide), hbx⟩
          · 
            try dsimp only
            have x2 := depX hdp 2 (by kernel_rfl)
            have d2 := hall 2 (by omega) x2
            have e2 : t 2 = .slice (some ⟨b, off, none⟩) xs.length cap := d2.1
            have x3 := depX hdp 3 (by kernel_rfl)
            have d3 := hall 3 (by omega) x3
            have e3 : t 3 = .int .i64 (at_ : Int) := d3.1
            have x6 := depX hdp 6 (by kernel_rfl)
            have d6 := hall 6 (by omega) x6
            have e6 : t 6 = .int .i64 ((at_ : Int) + (z : Int)) := d6.1
            rw [e2, e3, e6]
            clear h0
            refine wpOp_step rfl (fun K' hK => ?_)
            go_simp
            exact hK _ _ ⟨.slice (some ⟨b, off + at_, none⟩) z (cap - at_), (by simp [upd, e2, e3, e6]; omega), FX.eq_mk rfl, fun _ => Below.refl _ _, fun h => absurd h (by decide), hbx⟩
          · 
            try dsimp only
            have x7 := depX hdp 7 (by kernel_rfl)
            have d7 := hall 7 (by omega) x7
            have e7 : t 7 = .slice (some ⟨b, off + at_, none⟩) z (cap - at_) := d7.1
            rw [e7]
            have y10 := notYet hsh hxi 10 (by kernel_rfl)
            have y12 := notYet hsh hxi 12 (by kernel_rfl)
            have hz : Below w6.heap.size w6 wx := hgx (by simp [y10, y12])
            clear y10 y12
            clear h0
            refine wpOp_step rfl (fun K' hK => ?_)
            go_simp
            refine (HCP.out wx hz).mono ?_
            rintro e w2 ⟨v2, rfl, o2, b2⟩
            exact hK _ _ ⟨v2, (by simp [upd, e7]), FX.pre_mk (own_mono o2 hbx.size), fun _ => b2, fun h => absurd h (by decide), below_chain hbx b2⟩
          · 
            try dsimp only
            have x8 := depX hdp 8 (by kernel_rfl)
            have d8 := hall 8 (by omega) x8
            have y10 := notYet hsh hxi 10 (by kernel_rfl)
            have y12 := notYet hsh hxi 12 (by kernel_rfl)
            have o8 : wx.ownsRow W0.heap.size 5 1 (t 8) ys.length (byt ys) := FX.pre_of2 d8 y10 y12
            obtain ⟨a8, c8, e8, -⟩ := rd_own o8
            rw [e8]
            clear y10 y12
            clear h0
            refine wpOp_step rfl (fun K' hK => ?_)
            go_simp
            exact hK _ _ ⟨.slice (some ⟨wx.heap.size, 0, none⟩) 1 1, (by simp [upd, e8]), FX.pre_mk (oneY_new (e8 ▸ o8)), fun _ => below_new1 _ _, fun h => absurd h (by decide), below_chain hbx (below_new1 _ _)⟩
          · 
            try dsimp only
            have x1 := depX hdp 1 (by kernel_rfl)
            have d1 := hall 1 (by omega) x1
            have e1 : t 1 = .slice av bs.length cv := d1.1
            have x9 := depX hdp 9 (by kernel_rfl)
            have d9 := hall 9 (by omega) x9
            rw [e1]
            have y12 := notYet hsh hxi 12 (by kernel_rfl)
            obtain ⟨g9, u, e9, c9, o8⟩ : (fcOneY W0.heap.size ys).p (t 9) wx := FX.pre_of2 d9 hxi y12
            rw [e9]
            have hz : Below w6.heap.size w6 wx := hgx (by simp [hxi, y12])
            obtain ⟨vals, ho, hi'⟩ := HX.out.later hz
            have hbm := (hz.block _ HGM.out).trans HMr.out
            clear h0
            refine wpOp_step rfl (fun K' hK => ?_)
            refine step_append_lies _ rfl (.tmp 73) (.tmp 81) 23 rfl W0.heap.size 22 j0 (.slice none 0 0) 1 24 Tryd.underlying23 hj hy0 hy1 hy2 rfl (by decide) (.slice av bs.length cv) bs.length vals rfl ho ⟨g9, 0, none⟩ 1 1 [u] rfl rfl (oneY_at c9) (one_cell (ownY_one o8)) (by omega) (by unfold maxLen; omega) (by omega) hbx.size _ rfl ?_
            intro g' cap' w9 hown hgrow hat hlt9
            exact hK _ _ ⟨.slice (some ⟨g', 0, none⟩) (bs.length + 1) cap', (by simp [upd, e1, e9, Act.put]), FX.pre_mk ⟨Txts.snoc ho hi' o8 HYB.out hown hgrow, (hgrow.block _ (Array.getElem?_eq_some_iff.1 hbm).1 (fun e => boxY_far hbm ho (by decide) e.symm)).trans hbm⟩, fun h => absurd (by decide) h, fun _ => trivial, hbx.grown hgrow hbx.size (fun p hp => (own_in ho hp).1)⟩
          · 
            try dsimp only
            clear h0
            refine wpOp_step rfl (fun K' hK => ?_)
            go_simp
            exact hK _ _ ⟨.pointer (some ⟨gM, 3, none⟩), (by simp [upd]), FX.eq_mk rfl, fun _ => Below.refl _ _, fun h => absurd h (by decide), hbx⟩
          · 
            try dsimp only
            have x11 := depX hdp 11 (by kernel_rfl)
            have d11 := hall 11 (by omega) x11
            have e11 : t 11 = .pointer (some ⟨gM, 3, none⟩) := d11.1
            have x10 := depX hdp 10 (by kernel_rfl)
            have d10 := hall 10 (by omega) x10
            rw [e11]
            obtain ⟨f10, hbm⟩ : (fcGotY W0.heap.size gM #[.int .i64 (K : Int), .int .i64 (F : Int), .int .i64 (C : Int), .slice av bs.length cv] bs ys).p (t 10) wx := FX.pre_of d10 hxi
            obtain ⟨a10, c10, e10⟩ := f10.len
            rw [HL2.out] at e10
            rw [e10]
            have k3 := cell_of_row wx _ 3 _ _ _ hbm
            have z3 := frozen_of_row wx _ 3 _ _ hbm
            simp only [List.getElem?_toArray, List.getElem?_cons_zero, List.getElem?_cons_succ] at k3
            have HBM := hid hbm
            clear hbm
            clear h0
            refine wpOp_step rfl (fun K' hK => ?_)
            go_simp
            exact hK _ _ ⟨undef, (by simp [upd, e11, e10]), FX.is_mk (putY HBM.out (e10 ▸ f10)), fun h => absurd (by decide) h, fun _ => trivial, hbx.setCell (p := ⟨gM, 3, none⟩) HLG.out _⟩
        · intro x t wx hx hbx hall
          obtain ⟨v', hMn, hTn⟩ : (fcPutY W0.heap.size gM K F C bs ys).p (t 12) wx := FX.is_of (hall 12 (by omega))
          have HMn := hid hMn
          have HTn := hid hTn
          have HBn := hid hbx
          clear hall hbx hMn hTn hx
          try dsimp only
          go_wp2_with fail
          have hez : evn z ≤ z + 7 := (evn_le z).2.1
          refine (even_any z wx (by omega)).mono ?_
          rintro e w8 ⟨rfl, rfl⟩
          generalize hEz : evn z = Ez at *
          have HEZ := hid hEz
          clear hEz
          go_wp2
          go_roundw
          case rel => exact ⟨k + 1, bs ++ [ys], at_ + Ez, v', by omega, by go_num, by go_num, HPS.out, HTn.out, HMn.out, HBn.out⟩
          case measure => simp [intOf]; omega
      · obtain rfl : k = N := by omega
        have hki : ¬ (k : Int) < (k : Int) := by omega
        have htb : totL List.length bs ≤ 1048576 := by rw [totL_tot]; have h1 := HPT.out.2.1; have h2 := HPT.out.2.2.1; omega
        have HMM : Hid (decR xs = if encR ⟨(K : Nat), (F : Nat), (C : Nat), bs⟩ = xs then some ⟨(K : Nat), (F : Nat), (C : Nat), bs⟩ else none) := hid (by
          have h := decR_end (b := xs) (bs := bs) (at_ := at_) (by omega) (by rw [HNB.out]; exact HP.out)
          rw [G2.out, G3.out, HCE.out] at h
          simpa using h)
        have HRX := hid (HR.out.later HBA.out)
        have m0 := cell_of_row wr _ 0 _ _ _ HMr.out
        have m1 := cell_of_row wr _ 1 _ _ _ HMr.out
        have m2 := cell_of_row wr _ 2 _ _ _ HMr.out
        have m3 := cell_of_row wr _ 3 _ _ _ HMr.out
        simp only [List.getElem?_toArray, List.getElem?_cons_zero, List.getElem?_cons_succ] at m0 m1 m2 m3
        have HEL := hid (encR_len ⟨(K : Int), (F : Int), (C : Int), bs⟩)
        have HENC := hid (specEnc_any ⟨(K : Int), (F : Int), (C : Int), bs⟩ av cv wr HX.out.rd htb)
        have HEB : Hid (∀ x ∈ encR ⟨(K : Int), (F : Int), (C : Int), bs⟩, x < 256) := hid (encR_lt ⟨(K : Int), (F : Int), (C : Int), bs⟩ x2 x3 HX.out.rd.allOK)
        dsimp only at HENC
        generalize encR ⟨(K : Int), (F : Int), (C : Int), bs⟩ = R at *
        go_wp2_with fail
        refine HENC.out.mono ?_
        rintro e w7 ⟨aR, cR, rfl, oR, b7⟩
        have kp : ∀ p v, wr.cell? p = some v → w7.cell? p = some v := fun p v h => (b7.cell (World.block_lt_of_cell? _ _ h)).trans h
        have hG7 := (b7.block _ (Array.getElem?_eq_some_iff.1 HG.out).1).trans HG.out
        have HG7 := hid hG7
        have n0 := kp _ _ m0
        have n1 := kp _ _ m1
        have n2 := kp _ _ m2
        have n3 := kp _ _ m3
        have z0 := cell_of_row w7 _ 0 _ _ _ hG7
        have z1 := cell_of_row w7 _ 1 _ _ _ hG7
        have z2 := cell_of_row w7 _ 2 _ _ _ hG7
        have z3 := cell_of_row w7 _ 3 _ _ _ hG7
        have e0 := frozen_of_row w7 _ 0 _ _ hG7
        have e1 := frozen_of_row w7 _ 1 _ _ hG7
        have e2 := frozen_of_row w7 _ 2 _ _ hG7
        have e3 := frozen_of_row w7 _ 3 _ _ hG7
        simp only [List.getElem?_toArray, List.getElem?_cons_zero, List.getElem?_cons_succ] at z0 z1 z2 z3
        have HBA7 := hid (below_chain HBA.out b7)
        have HX7 := hid (HX.out.later b7)
        have HSM := hid (l1same_any aR (some ⟨b, off, none⟩) cR cap R xs w7 (rd_at oR) (HRX.out.later b7).rdB.1 HEB.out HBY.out)
        clear kp hG7 oR b7 m0 m1 m2 m3 q0 q1 q2 q3 f0 f1 f2 f3 HENC
        by_cases hRx : R = xs
        · have HD := hid (dec_some (HMM.out.trans (if_pos hRx)))
          rw [decide_eq_true hRx] at HSM
          clear hRx
          go_wp2_with fail
          refine HSM.out.mono ?_
          rintro e w8 ⟨rfl, rfl⟩
          go_wp2
          refine bodyPost_ret (results_cell_row_tmpD rfl _ _ w.heap.size 25 #[.int .i64 (K : Int), .int .i64 (F : Int), .int .i64 (C : Int), .slice av bs.length cv] (0, 0) _ rfl (set4 HG7.out) Tryd.underlying25 rfl (by kernel_rfl)) rfl ?_
          rw [HD.out.1, HD.out.2]
          refine ⟨av, cv, rfl, ?_, set4b HBA7.out (Nat.le_refl _)⟩
          exact (txts_far HG7.out HX7.out (fun p hp => set4o hp)).rd
        · have HD := hid (dec_none (HMM.out.trans (if_neg hRx)))
          rw [decide_eq_false hRx] at HSM
          clear hRx
          go_wp2_with fail
          refine HSM.out.mono ?_
          rintro e w8 ⟨rfl, rfl⟩
          go_wp2
          refine bodyPost_ret (results_cell_row_tmpD rfl _ _ w.heap.size 25 #[.int .i64 0, .int .i64 0, .int .i64 0, .slice none 0 0] (0, 0) _ rfl (set4 HG7.out) Tryd.underlying25 rfl (by kernel_rfl)) rfl ?_
          exact decPost_nil (set4b HBA7.out (Nat.le_refl _)) HD.out.1 HD.out.2
end Go.Proofs.YtfppfjklakdlfaaDoor
