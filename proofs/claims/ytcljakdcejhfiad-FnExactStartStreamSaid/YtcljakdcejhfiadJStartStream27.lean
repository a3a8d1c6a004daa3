import Derived.Test.YtcljakdcejhfiadJStartStream21
import Derived.Test.YtcljakdcejhfiadJStartStream22
import Derived.Test.YtcljakdcejhfiadJStartStream26
namespace Go.Proofs.Ytcljakdcejhfiad
open Go.RowKit
def fcSame (W : World) : Fct := ⟨fun _ w => Below W.heap.size W w, fun _ _ _ h hb => below_chain h hb⟩
def fcTwo (B lo : Nat) (f : PF) : Fct := ⟨fun v w => ∃ g, v = .slice (some ⟨g, 0, none⟩) 2 2 ∧ lo ≤ g ∧ w.ownsRow B 5 1 (.slice (some ⟨g, 0, none⟩) 2 2) 2 (byt [f.kind.toNat, f.width.toNat]), fun _ _ _ ⟨g, e, h1, h2⟩ hb => ⟨g, e, h1, own_later h2 hb⟩⟩
def fcHdr (B : Nat) (f : PF) : Fct := ⟨fun v w => ∃ g cp, v = .slice (some ⟨g, 0, none⟩) (hdrF f).length cp ∧ w.ownsRow B 5 1 (.slice (some ⟨g, 0, none⟩) (hdrF f).length cp) (hdrF f).length (byt (hdrF f)), fun _ _ _ ⟨g, cp, e, h⟩ hb => ⟨g, cp, e, own_later h hb⟩⟩
def fcOneT (B : Nat) (f : PF) : Fct := ⟨fun v w => ∃ g u, v = .slice (some ⟨g, 0, none⟩) 1 1 ∧ w.cell? ⟨g, 0, none⟩ = some u ∧ w.ownsRow B 5 1 u (hdrF f).length (byt (hdrF f)), fun _ _ _ ⟨g, u, e, h1, h2⟩ hb => ⟨g, u, e, (hb.cell (World.block_lt_of_cell? _ _ h1)).trans h1, own_later h2 hb⟩⟩
abbrev mbox (n : Nat) (v : Value) : Obj := .cells #[.int .i64 1, .int .i64 0, .int .i64 (n : Int), v] 121 (0, 0)
def fcGot (B gm : Nat) (acc : Value) (n : Nat) (bs : List (List Nat)) (f : PF) : Fct := ⟨fun v w => Txts B w v (bs ++ [hdrF f]) ∧ w.heap[gm]? = some (mbox n acc), fun _ _ _ ⟨h1, h2⟩ hb => ⟨h1.later hb, (hb.block _ (Array.getElem?_eq_some_iff.1 h2).1).trans h2⟩⟩
def fcPut (B gm n : Nat) (bs : List (List Nat)) (f : PF) : Fct := ⟨fun _ w => ∃ v, w.heap[gm]? = some (mbox n v) ∧ Txts B w v (bs ++ [hdrF f]), fun _ _ _ ⟨v, h1, h2⟩ hb => ⟨v, (hb.block _ (Array.getElem?_eq_some_iff.1 h1).1).trans h1, h2.later hb⟩⟩
theorem two_new8 {B lo : Nat} {w : World} {f : PF} (h0 : 0 ≤ f.kind ∧ f.kind ≤ 3) (h1 : 0 ≤ f.width ∧ f.width ≤ 8) (hlo : lo ≤ w.heap.size) (hB : B ≤ w.heap.size) : (fcTwo B lo f).p (.slice (some ⟨w.heap.size, 0, none⟩) 2 2) (w.alloc (.cells #[.int .u8 f.kind, .int .u8 f.width] 5)) := by
  refine ⟨_, rfl, hlo, ?_⟩
  have h := own_built (w := w) (B := B) (e := 5) (cs := #[.int .u8 f.kind, .int .u8 f.width]) hB (by unfold maxLen; simp)
  have e : byt [f.kind.toNat, f.width.toNat] = [.int .u8 f.kind, .int .u8 f.width] := by simp [byt, Int.toNat_of_nonneg h0.1, Int.toNat_of_nonneg h1.1]
  rw [e]
  exact h
theorem hdr_own {B : Nat} {w : World} {f : PF} {g cap : Nat} (h : w.ownsRow B 5 1 (.slice (some ⟨g, 0, none⟩) (2 + f.name.length) cap) (2 + f.name.length) (byt [f.kind.toNat, f.width.toNat] ++ byt f.name)) : (fcHdr B f).p (.slice (some ⟨g, 0, none⟩) (2 + f.name.length) cap) w := by
  have hl : 2 + f.name.length = (hdrF f).length := by simp [hdrF]; omega
  rw [hl, ← byt_append, show [f.kind.toNat, f.width.toNat] ++ f.name = hdrF f from rfl] at h
  exact ⟨g, cap, by rw [hl], h⟩
theorem oneT_new {B : Nat} {w : World} {f : PF} {u : Value} {e : TypeId} (h : w.ownsRow B 5 1 u (hdrF f).length (byt (hdrF f))) : (fcOneT B f).p (.slice (some ⟨w.heap.size, 0, none⟩) 1 1) (w.alloc (.cells #[u] e)) := by
  have p0 := cell_of_row _ _ 0 _ _ _ (heap_alloc_new w (.cells #[u] e))
  simp only [List.getElem?_toArray, List.getElem?_cons_zero] at p0
  exact ⟨_, u, rfl, p0, own_later h (below_new1 _ _)⟩
theorem one_at {w : World} {g : Nat} {u : Value} (h : w.cell? ⟨g, 0, none⟩ = some u) : ∀ j y, [u][j]? = some y → w.cell? ((⟨g, 0, none⟩ : Addr).add j) = some y := by
  intro j y hy
  match j, hy with
  | 0, hy => simp at hy; rw [addr_add0, ← hy]; exact h
theorem own_one {w : World} {B n : Nat} {e : TypeId} {u : Value} {vs : List Value} (h : w.ownsRow B e 1 u n vs) : u.oneCell' = true := by
  obtain ⟨a, c, rfl, -⟩ := rd_own h
  rfl
theorem name_cells {w : World} {xs : List Nat} {a : Option Addr} {n c : Nat} (h : RdSl cByte w xs (.slice a n c)) (hp : 1 ≤ xs.length) : ∃ ad, a = some ad ∧ ∀ j u, (byt xs)[j]? = some u → w.cell? (ad.add j) = some u := by
  obtain ⟨a', c', e, -, -, -, hr, -⟩ := h.bytes
  simp only [Value.slice.injEq] at e
  obtain ⟨rfl, -, -⟩ := e
  rcases hr with h0 | ⟨b, off, rfl, hc⟩
  · have : xs = [] := by simpa [byt] using h0
    subst this; simp at hp
  · refine ⟨_, rfl, fun j u hu => ?_⟩
    obtain ⟨hj, e⟩ := List.getElem?_eq_some_iff.1 hu
    rw [addr_add0, hc j hj, e]
theorem box_farH {w : World} {gm : Nat} {cs : Array Value} {t : TypeId} {B n s : Nat} {e : TypeId} {u : Value} {vs : List Value} (hb : w.heap[gm]? = some (.cells cs t (0, 0))) (ho : w.ownsRow B e s u n vs) (hne : e ≠ t) : u.ownBlock ≠ some gm := by
  intro hp
  rcases ho.2 with ⟨rfl, _⟩ | ⟨g, cap, cur, rfl, _, hh, _⟩
  · simp [Value.ownBlock] at hp
  · simp [Value.ownBlock] at hp
    subst hp
    rw [hb] at hh
    simp at hh
    exact hne hh.2.symm
theorem Txts.kept {B : Nat} {w w' : World} {v : Value} {xss : List (List Nat)} (h : Txts B w v xss) (hk : ∀ (b : Nat) e n vs u, w.ownsRow B e 1 u n vs → (e = 69 ∨ e = 5) → u.ownBlock = some b → w'.heap[b]? = w.heap[b]?) : Txts B w' v xss := by
  obtain ⟨vals, ho, hi⟩ := h
  exact ⟨vals, ownsRow_kept ho (fun b hb => hk b _ _ _ _ ho (.inl rfl) hb), fun i h => by
    obtain ⟨u, h1, h2, h3⟩ := hi i h
    exact ⟨u, h1, ownsRow_kept h2 (fun b hb => hk b _ _ _ _ h2 (.inr rfl) hb), h3⟩⟩
theorem put_box {B gm n : Nat} {w : World} {acc v x : Value} {bs : List (List Nat)} {f : PF} (hb : w.heap[gm]? = some (mbox n acc)) (h : Txts B w v (bs ++ [hdrF f])) : (fcPut B gm n bs f).p x (w.setCell ⟨gm, 3, none⟩ v) := by
  refine ⟨v, ?_, h.kept (fun b e n vs u ho he hp => Below.heap_setCell _ ⟨gm, 3, none⟩ _ _ (fun e' => ?_))⟩
  · have h1 := heap_setCell_same w gm 3 _ _ v hb
    exact h1
  · subst e'
    exact box_farH hb ho (by rcases he with rfl | rfl <;> decide) hp
theorem results_cell3 {P : Program} {fn : Func} {p u u' : Tmp} {ty : TypeId} (h : fn.results = #[.cell p ty, .tmp u, .tmp u']) (tmps : Array Value) (w : World) (g : Nat) (t : TypeId) (cs : Array Value) (fr : Nat × Nat) (d : TypeDesc)
    (hp : tmps.getD p undef = .pointer (some ⟨g, 0, none⟩)) (hg : w.heap[g]? = some (.cells cs t fr))
    (hu : P.underlying ty = some d) (hd : (match d with | .struct _ | .array _ _ => true | _ => false) = true) (hi : (P.info? ty).map (·.size) = some cs.size) :
    (results fn tmps).run P w = .ok (.tuple #[.agg cs, tmps.getD u undef, tmps.getD u' undef]) w := by
  have e : (results fn tmps).run P w = ((asAddr (tmps.getD p undef)).run P w).andThen fun a w₁ => ((loadVar ty a).run P w₁).andThen fun v w₂ => .ok (.tuple #[v, tmps.getD u undef, tmps.getD u' undef]) w₂ := by
    simp only [results, h]
    simp [Sem.run_bind, Result.andThen]
  rw [e, hp]
  simp [asAddr, run_loadVar_row w g t ty cs fr d hg hu hd hi]
end Go.Proofs.Ytcljakdcejhfiad
