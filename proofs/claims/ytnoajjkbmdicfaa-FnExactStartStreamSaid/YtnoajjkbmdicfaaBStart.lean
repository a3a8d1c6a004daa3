/- StartMath, SStart0. -/
import Derived.Test.YtnoajjkbmdicfaaStrm
import Derived.Test.YtnoajjkbmdicfaaFldMath
import Derived.Test.YtnoajjkbmdicfaaMsgMath
import Derived.Test.YtnoajjkbmdicfaaBFRow
import Derived.Test.YtnoajjkbmdicfaaMsgSpec
/- What StartStream answers, plainly. No program. -/
namespace Go.Proofs.Ytnoajjkbmdicfaa
open Go.RowKit

def hdrF (f : PF) : List Nat := f.kind.toNat :: f.width.toNat :: f.name
def hdrB (fs : List PF) (n : Nat) : List (List Nat) := digs n 8 :: fs.map hdrF
def startOK (fs : List PF) (next : Int) : Bool := fieldsOK fs && decide (0 ≤ next ∧ next ≤ 1000000000)
def startS (fs : List PF) (next : Int) : PStr := if startOK fs next = true then ⟨true, fs, next, List.replicate fs.length []⟩ else ⟨false, [], 0, []⟩
def startB (fs : List PF) (next : Int) : List Nat := if startOK fs next = true then encM 1 0 fs.length (hdrB fs next.toNat) else []
def startC (fs : List PF) (next : Int) : Int := if startOK fs next = true then 0 else 1

theorem okTo_at {fs : List PF} : ∀ m, okTo fs m = true → ∀ k, k < m → (h : k < fs.length) → fieldOK fs[k] = true := by
  intro m
  induction m with
  | zero => intro _ k h; omega
  | succ m ih =>
    intro h k hk hl
    simp only [okTo, Bool.and_eq_true] at h
    by_cases e : k = m
    · subst e
      have h2 := h.2
      rw [List.getElem?_eq_getElem hl] at h2
      simp only [Bool.and_eq_true] at h2
      exact h2.1
    · exact ih h.1 k (by omega) hl
/-- What a valid field keeps to. -/
theorem fieldOK_bounds {f : PF} (h : fieldOK f = true) : 1 ≤ f.name.length ∧ f.name.length ≤ 20 ∧ 0 ≤ f.kind ∧ f.kind ≤ 3 ∧ 0 ≤ f.width ∧ f.width ≤ 8 := by
  simp only [fieldOK, nameOK, Bool.and_eq_true, decide_eq_true_eq] at h
  obtain ⟨⟨⟨h1, h2⟩, _⟩, h3⟩ := h
  refine ⟨h1, h2, ?_⟩
  unfold kindOK at h3
  split at h3
  · rename_i e
    simp only [widthOK, decide_eq_true_eq] at h3
    omega
  · simp only [Bool.and_eq_true, decide_eq_true_eq] at h3
    omega
theorem fieldsOK_bounds {fs : List PF} (h : fieldsOK fs = true) : fs.length ≤ 12 ∧ ∀ k, (hk : k < fs.length) → 1 ≤ fs[k].name.length ∧ fs[k].name.length ≤ 20 ∧ 0 ≤ fs[k].kind ∧ fs[k].kind ≤ 3 ∧ 0 ≤ fs[k].width ∧ fs[k].width ≤ 8 := by
  simp only [fieldsOK, Bool.and_eq_true, decide_eq_true_eq] at h
  exact ⟨h.1.2, fun k hk => fieldOK_bounds (okTo_at _ h.2 k hk hk)⟩
theorem hdrB_len (fs : List PF) (n : Nat) : (hdrB fs n).length = fs.length + 1 := by simp [hdrB]
theorem hdrB_take (fs : List PF) (n k : Nat) (h : k < fs.length) : (hdrB fs n).take (k + 2) = (hdrB fs n).take (k + 1) ++ [hdrF fs[k]] := by
  have e : hdrF fs[k] = (fs.map hdrF)[k]'(by simpa using h) := by simp
  show (digs n 8 :: fs.map hdrF).take (k + 1 + 1) = (digs n 8 :: fs.map hdrF).take (k + 1) ++ [hdrF fs[k]]
  rw [List.take_succ_cons, List.take_succ_cons, List.take_succ_eq_append_getElem (by simpa using h), e]
  rfl
theorem hdr_tot {fs : List PF} (n : Nat) (h : fieldsOK fs = true) : tot (hdrB fs n) ≤ 272 := by
  obtain ⟨hl, hb⟩ := fieldsOK_bounds h
  have key : ∀ k, k ≤ fs.length → tot ((fs.map hdrF).take k) ≤ 22 * k := by
    intro k
    induction k with
    | zero => intro _; simp [tot]
    | succ k ih =>
      intro hk
      rw [tot_snoc _ k (by simp; omega)]
      have := ih (by omega)
      have := hb k hk
      simp [hdrF]
      omega
  have h1 := key fs.length (Nat.le_refl _)
  rw [List.take_of_length_le (by simp)] at h1
  have h2 : tot (hdrB fs n) = 8 + tot (fs.map hdrF) := by simp [hdrB, tot, digs_len]
  omega
theorem evn_tot (xss : List (List Nat)) : (xss.map fun b => evn b.length).sum ≤ tot xss + 7 * xss.length := by
  induction xss with
  | nil => simp [tot]
  | cons x l ih =>
    have := evn_le x.length
    simp [tot] at ih ⊢
    omega
theorem join_le (xss : List (List Nat)) : (join xss).length ≤ tot xss + 7 * xss.length := by
  have key : ∀ k, k ≤ xss.length → (join (xss.take k)).length ≤ tot (xss.take k) + 7 * k := by
    intro k
    induction k with
    | zero => intro _; simp [join]
    | succ k ih =>
      intro h
      rw [join_next xss k h, tot_snoc xss k h]
      have := ih (by omega)
      have := (evn_le xss[k].length).2.1
      omega
  have := key xss.length (Nat.le_refl _)
  rwa [List.take_length] at this
theorem hdr_fits {fs : List PF} (n : Nat) (h : fieldsOK fs = true) : (encM 1 0 fs.length (hdrB fs n)).length ≤ 20000 := by
  have h1 := hdr_tot n h
  have h2 := join_le (lensM (hdrB fs n) :: hdrB fs n)
  have h3 : tot (lensM (hdrB fs n) :: hdrB fs n) = 4 * (hdrB fs n).length + tot (hdrB fs n) := by simp [tot, lensM_len]
  have h4 := (fieldsOK_bounds h).1
  rw [hdrB_len] at h3
  simp only [encM, bodyM, List.length_append, headM_len, digs_len]
  simp only [List.length_cons, hdrB_len] at h2
  omega

end Go.Proofs.Ytnoajjkbmdicfaa

/- Pieces for spec.StartStream. -/
namespace Go.Proofs.Ytnoajjkbmdicfaa
open Go.RowKit

def fcSame (W : World) : Fct := ⟨fun _ w => Below W.heap.size W w, fun _ _ _ h hb => below_chain h hb⟩
def fcTwo (B lo : Nat) (f : PF) : Fct := ⟨fun v w => ∃ g, v = .slice (some ⟨g, 0, none⟩) 2 2 ∧ lo ≤ g ∧ w.ownsRow B 5 1 (.slice (some ⟨g, 0, none⟩) 2 2) 2 (byt [f.kind.toNat, f.width.toNat]), fun _ _ _ ⟨g, e, h1, h2⟩ hb => ⟨g, e, h1, own_later h2 hb⟩⟩
def fcHdr (B : Nat) (f : PF) : Fct := ⟨fun v w => ∃ g cp, v = .slice (some ⟨g, 0, none⟩) (hdrF f).length cp ∧ w.ownsRow B 5 1 (.slice (some ⟨g, 0, none⟩) (hdrF f).length cp) (hdrF f).length (byt (hdrF f)), fun _ _ _ ⟨g, cp, e, h⟩ hb => ⟨g, cp, e, own_later h hb⟩⟩
def fcOneT (B : Nat) (f : PF) : Fct := ⟨fun v w => ∃ g u, v = .slice (some ⟨g, 0, none⟩) 1 1 ∧ w.cell? ⟨g, 0, none⟩ = some u ∧ w.ownsRow B 5 1 u (hdrF f).length (byt (hdrF f)), fun _ _ _ ⟨g, u, e, h1, h2⟩ hb => ⟨g, u, e, (hb.cell (World.block_lt_of_cell? _ _ h1)).trans h1, own_later h2 hb⟩⟩
/-- The header's message in its box. -/
abbrev mbox (n : Nat) (v : Value) : Obj := .cells #[.int .i64 1, .int .i64 0, .int .i64 (n : Int), v] 28 (0, 0)
def fcGot (B gm : Nat) (acc : Value) (n : Nat) (bs : List (List Nat)) (f : PF) : Fct := ⟨fun v w => Txts B w v (bs ++ [hdrF f]) ∧ w.heap[gm]? = some (mbox n acc), fun _ _ _ ⟨h1, h2⟩ hb => ⟨h1.later hb, (hb.block _ (Array.getElem?_eq_some_iff.1 h2).1).trans h2⟩⟩
def fcPut (B gm n : Nat) (bs : List (List Nat)) (f : PF) : Fct := ⟨fun _ w => ∃ v, w.heap[gm]? = some (mbox n v) ∧ Txts B w v (bs ++ [hdrF f]), fun _ _ _ ⟨v, h1, h2⟩ hb => ⟨v, (hb.block _ (Array.getElem?_eq_some_iff.1 h1).1).trans h1, h2.later hb⟩⟩
theorem two_new8 {B lo : Nat} {w : World} {f : PF} (h0 : 0 ≤ f.kind ∧ f.kind ≤ 3) (h1 : 0 ≤ f.width ∧ f.width ≤ 8) (hlo : lo ≤ w.heap.size) (hB : B ≤ w.heap.size) : (fcTwo B lo f).p (.slice (some ⟨w.heap.size, 0, none⟩) 2 2) (w.alloc (.cells #[.int .u8 f.kind, .int .u8 f.width] 5)) := by
  refine ⟨_, rfl, hlo, ?_⟩
  have h := own_built (w := w) (B := B) (e := 5) (cs := #[.int .u8 f.kind, .int .u8 f.width]) hB (by unfold maxLen; simp)
  have e : byt [f.kind.toNat, f.width.toNat] = [.int .u8 f.kind, .int .u8 f.width] := by simp [byt, Int.toNat_of_nonneg h0.1, Int.toNat_of_nonneg h1.1]
  rw [e]
  exact h
theorem hdr_own {B : Nat} {w : World} {f : PF} {g cap : Nat} (h : w.ownsRow B 5 1 (.slice (some ⟨g, 0, none⟩) (2 + f.name.length) cap) (2 + f.name.length) (byt [f.kind.toNat, f.width.toNat] ++ byt f.name)) : (fcHdr B f).p (.slice (some ⟨g, 0, none⟩) (2 + f.name.length) cap) w := by
  have hl : 2 + f.name.length = (hdrF f).length := by simp [hdrF]; omega
  rw [hl, ← byt_append, show [f.kind.toNat, f.width.toNat] ++ f.name = hdrF f from rfl] at h
  exact ⟨g, cap, by rw [hl], h⟩
theorem oneT_new {B : Nat} {w : World} {f : PF} {u : Value} {e : TypeId} (h : w.ownsRow B 5 1 u (hdrF f).length (byt (hdrF f))) : (fcOneT B f).p (.slice (some ⟨w.heap.size, 0, none⟩) 1 1) (w.alloc (.cells #[u] e)) := by
  have p0 := cell_of_row _ _ 0 _ _ _ (heap_alloc_new w (.cells #[u] e))
  simp only [List.getElem?_toArray, List.getElem?_cons_zero] at p0
  exact ⟨_, u, rfl, p0, own_later h (below_new1 _ _)⟩
theorem one_at {w : World} {g : Nat} {u : Value} (h : w.cell? ⟨g, 0, none⟩ = some u) : ∀ j y, [u][j]? = some y → w.cell? ((⟨g, 0, none⟩ : Addr).add j) = some y := by
  intro j y hy
  match j, hy with
  | 0, hy => simp at hy; rw [addr_add0, ← hy]; exact h
theorem own_one {w : World} {B n : Nat} {e : TypeId} {u : Value} {vs : List Value} (h : w.ownsRow B e 1 u n vs) : u.oneCell' = true := by
  obtain ⟨a, c, rfl, -⟩ := rd_own h
  rfl
theorem name_cells {w : World} {xs : List Nat} {a : Option Addr} {n c : Nat} (h : RdSl cByte w xs (.slice a n c)) (hp : 1 ≤ xs.length) : ∃ ad, a = some ad ∧ ∀ j u, (byt xs)[j]? = some u → w.cell? (ad.add j) = some u := by
  obtain ⟨a', c', e, -, -, -, hr, -⟩ := h.bytes
  simp only [Value.slice.injEq] at e
  obtain ⟨rfl, -, -⟩ := e
  rcases hr with h0 | ⟨b, off, rfl, hc⟩
  · have : xs = [] := by simpa [byt] using h0
    subst this; simp at hp
  · refine ⟨_, rfl, fun j u hu => ?_⟩
    obtain ⟨hj, e⟩ := List.getElem?_eq_some_iff.1 hu
    rw [addr_add0, hc j hj, e]
/-- A box of another kind is no row. -/
theorem box_far {w : World} {gm : Nat} {cs : Array Value} {t : TypeId} {B n s : Nat} {e : TypeId} {u : Value} {vs : List Value} (hb : w.heap[gm]? = some (.cells cs t (0, 0))) (ho : w.ownsRow B e s u n vs) (hne : e ≠ t) : u.ownBlock ≠ some gm := by
  intro hp
  rcases ho.2 with ⟨rfl, _⟩ | ⟨g, cap, cur, rfl, _, hh, _⟩
  · simp [Value.ownBlock] at hp
  · simp [Value.ownBlock] at hp
    subst hp
    rw [hb] at hh
    simp at hh
    exact hne hh.2.symm
theorem Txts.kept {B : Nat} {w w' : World} {v : Value} {xss : List (List Nat)} (h : Txts B w v xss) (hk : ∀ (b : Nat) e n vs u, w.ownsRow B e 1 u n vs → (e = 26 ∨ e = 5) → u.ownBlock = some b → w'.heap[b]? = w.heap[b]?) : Txts B w' v xss := by
  obtain ⟨vals, ho, hi⟩ := h
  exact ⟨vals, ownsRow_kept ho (fun b hb => hk b _ _ _ _ ho (.inl rfl) hb), fun i h => by
    obtain ⟨u, h1, h2, h3⟩ := hi i h
    exact ⟨u, h1, ownsRow_kept h2 (fun b hb => hk b _ _ _ _ h2 (.inr rfl) hb), h3⟩⟩
theorem put_box {B gm n : Nat} {w : World} {acc v x : Value} {bs : List (List Nat)} {f : PF} (hb : w.heap[gm]? = some (mbox n acc)) (h : Txts B w v (bs ++ [hdrF f])) : (fcPut B gm n bs f).p x (w.setCell ⟨gm, 3, none⟩ v) := by
  refine ⟨v, ?_, h.kept (fun b e n vs u ho he hp => Below.heap_setCell _ ⟨gm, 3, none⟩ _ _ (fun e' => ?_))⟩
  · have h1 := heap_setCell_same w gm 3 _ _ v hb
    exact h1
  · subst e'
    exact box_far hb ho (by rcases he with rfl | rfl <;> decide) hp
theorem results_cell3 {P : Program} {fn : Func} {p u u' : Tmp} {ty : TypeId} (h : fn.results = #[.cell p ty, .tmp u, .tmp u']) (tmps : Array Value) (w : World) (g : Nat) (t : TypeId) (cs : Array Value) (fr : Nat × Nat) (d : TypeDesc)
    (hp : tmps.getD p undef = .pointer (some ⟨g, 0, none⟩)) (hg : w.heap[g]? = some (.cells cs t fr))
    (hu : P.underlying ty = some d) (hd : (match d with | .struct _ | .array _ _ => true | _ => false) = true) (hi : (P.info? ty).map (·.size) = some cs.size) :
    (results fn tmps).run P w = .ok (.tuple #[.agg cs, tmps.getD u undef, tmps.getD u' undef]) w := by
  have e : (results fn tmps).run P w = ((asAddr (tmps.getD p undef)).run P w).andThen fun a w₁ => ((loadVar ty a).run P w₁).andThen fun v w₂ => .ok (.tuple #[v, tmps.getD u undef, tmps.getD u' undef]) w₂ := by
    simp only [results, h]
    simp [Sem.run_bind, Result.andThen]
  rw [e, hp]
  simp [asAddr, run_loadVar_row w g t ty cs fr d hg hu hd hi]

end Go.Proofs.Ytnoajjkbmdicfaa
