/- PkMap, PkCopyI, TakeKit. -/
import Derived.Test.YtmaccmgmcahopaaJWindow13
import Derived.Maps.Own
import Derived.Maps.OwnOps
import Derived.Maps.OwnSet
import Derived.Carry
import Derived.Handy
import Derived.Test.YtmaccmgmcahopaaJWindow10
import Derived.Test.YtmaccmgmcahopaaJWindow24
import Derived.Test.YtmaccmgmcahopaaJWindow31
/- Packets by number: a map from int to a packet. -/
namespace Go.Proofs.Ytmaccmgmcahopaa
open Go.RowKit Go.Maps Go.WideMaps

/-- An element is held as it is. -/
def anyElem (v : Value) : Option (DataW Value × List MemPlace) := some (.held v, [])
theorem keyedI : Keyed Try.prog 3 := int_keyed Try.underlying3
abbrev kI (s : Int) : Lit := .int .i64 s
theorem wfI {n : Int} (h : IntIn n) : (Lit.int .i64 n).wf = true := by
  unfold IntIn at h
  simp [Lit.wf, IntKind.min, IntKind.max, IntKind.bits, IntKind.signed]; omega
theorem keyI {n : Int} (h : IntIn n) : keyOf Try.prog 3 (.int .i64 n) = some (kI n) := keyOf_int_mk Try.underlying3 (wfI h)
theorem keyLitI (s : Int) : WideAt.IsKeyLit (kI s) := by simp [WideAt.IsKeyLit]
abbrev zPk : Value := .agg #[.int .i64 0, .int .i64 0, .int .i64 0, .int .i64 0, .bool false, .slice none 0 0]
abbrev pkV (x : PP) (a : Option Addr) (c : Nat) : Value := .agg #[.int .i64 x.kind, .int .i64 x.epoch, .int .i64 x.seq, .int .i64 x.count, .bool x.last, .slice a x.data.length c]
theorem zeroPk (w : World) : (zeroValue 35).run Try.prog w = .ok zPk w := by kernel_rfl
/-- The packet with this number. -/
def findS (l : List PP) (s : Int) : Option PP := l.find? fun x => decide (x.seq = s)
theorem findS_nil (s : Int) : findS [] s = none := rfl
theorem findS_same {p : PP} {l : List PP} {s : Int} (h : p.seq = s) : findS (p :: l) s = some p := by simp [findS, h]
theorem findS_other {p : PP} {l : List PP} {s : Int} (h : ¬ p.seq = s) : findS (p :: l) s = findS l s := by simp [findS, h]
theorem findS_gone (l : List PP) (s : Int) : findS (l.filter fun x => decide (x.seq ≠ s)) s = none := by
  unfold findS
  rw [List.find?_eq_none]
  intro x hx
  simp only [List.mem_filter, decide_eq_true_eq] at hx
  simpa using hx.2
theorem findS_left (l : List PP) (s s' : Int) (h : s' ≠ s) : findS (l.filter fun x => decide (x.seq ≠ s)) s' = findS l s' := by
  unfold findS
  refine find_filter_keep (fun p hp => ?_) l
  simp only [decide_eq_true_eq] at hp ⊢
  omega
/-- Block m is a map of at most n packets by number, those of l; their data is read in w0. -/
def PkMap (w0 w : World) (m n : Nat) (l : List PP) : Prop :=
  ∃ D : DataW Value, w.ownsMap Try.prog 3 anyElem m n D ∧ ∀ s : Int, (findS l s = none → Maps.has D (kI s) = false) ∧
    ∀ x, findS l s = some x → Maps.has D (kI s) = true ∧ ∃ a c, D.atKey (kI s) (.held zPk) = .held (pkV x a c) ∧ RdSl cByte w0 x.data (.slice a x.data.length c) ∧ PPIn x
theorem PkMap.lt {w0 w : World} {m n : Nat} {l : List PP} (h : PkMap w0 w m n l) : m < w.heap.size := by obtain ⟨D, h, _⟩ := h; exact h.lt
theorem PkMap.kept {w0 w w' : World} {m n : Nat} {l : List PP} (h : PkMap w0 w m n l) (hk : w'.heap[m]? = w.heap[m]?) : PkMap w0 w' m n l := by
  obtain ⟨D, ⟨es, clock, h1, r⟩, h2⟩ := h
  exact ⟨D, ⟨es, clock, by rw [hk]; exact h1, r⟩, h2⟩
theorem PkMap.later {w0 w w' : World} {m n : Nat} {l : List PP} (h : PkMap w0 w m n l) (hb : Below w.heap.size w w') : PkMap w0 w' m n l := h.kept (hb.block m h.lt)
theorem PkMap.made (w0 w : World) : PkMap w0 (w.alloc (.map #[] 0)) w.heap.size 0 [] :=
  ⟨_, World.ownsMap_made w Try.prog 3 anyElem, fun s => ⟨fun _ => rfl, fun x h => by simp [findS_nil] at h⟩⟩
theorem PkMap.put {w0 w' : World} {m n : Nat} {l : List PP} {p : PP} {a : Option Addr} {c : Nat} {D : DataW Value}
    (hD : IsMap D) (h2 : ∀ s : Int, (findS l s = none → Maps.has D (kI s) = false) ∧ ∀ x, findS l s = some x → Maps.has D (kI s) = true ∧ ∃ a c, D.atKey (kI s) (.held zPk) = .held (pkV x a c) ∧ RdSl cByte w0 x.data (.slice a x.data.length c) ∧ PPIn x)
    (ho : w'.ownsMap Try.prog 3 anyElem m (n + 1) (D.put (kI p.seq) (.held (pkV p a c)))) (hr : RdSl cByte w0 p.data (.slice a p.data.length c)) (hi : PPIn p) : PkMap w0 w' m (n + 1) (p :: l) := by
  refine ⟨_, ho, fun s => ?_⟩
  by_cases hs : p.seq = s
  · subst hs
    rw [findS_same rfl]
    refine ⟨fun h => by simp at h, fun x hx => ?_⟩
    simp only [Option.some.injEq] at hx
    subst hx
    exact ⟨has_put_same hD (keyLitI _) _, a, c, atKey_put_same hD (keyLitI _) _ _, hr, hi⟩
  · rw [findS_other hs]
    have hne : kI s ≠ kI p.seq := by intro e; simp only [kI, Lit.int.injEq, true_and] at e; exact hs e.symm
    rw [has_put_other hne, atKey_put_other hne]
    exact h2 s
theorem PkMap.del {w0 w' : World} {m n : Nat} {l : List PP} {s0 : Int} {D : DataW Value}
    (h2 : ∀ s : Int, (findS l s = none → Maps.has D (kI s) = false) ∧ ∀ x, findS l s = some x → Maps.has D (kI s) = true ∧ ∃ a c, D.atKey (kI s) (.held zPk) = .held (pkV x a c) ∧ RdSl cByte w0 x.data (.slice a x.data.length c) ∧ PPIn x)
    (ho : w'.ownsMap Try.prog 3 anyElem m n (D.del (kI s0))) : PkMap w0 w' m n (l.filter fun x => decide (x.seq ≠ s0)) := by
  refine ⟨_, ho, fun s => ?_⟩
  by_cases hs : s = s0
  · subst hs
    rw [findS_gone]
    exact ⟨fun _ => has_del_same, fun x hx => by simp at hx⟩
  · rw [findS_left l s0 s hs]
    have hne : kI s ≠ kI s0 := by intro e; simp only [kI, Lit.int.injEq, true_and] at e; exact hs e
    rw [has_del_other hne, atKey_del_other hne]
    exact h2 s
section
variable {P : Program} {ops : Array Oper} {rest : List Oper} {o : Oper} {a : Act} {Q : Exit → Act → World → Prop}
/-- A look-up whose answer is known. -/
theorem wpList_lookup_held (w : World) (hg : o.guard = none) (m x : Operand) (t : TypeId) (hop : o.op = Op.lookup t m x true)
    (k e : TypeId) (K : Keyed P k) (ht : P.underlying t = some (.map k e)) {z : Value} (hz : (zeroValue e).run P w = .ok z w) (b n : Nat) (D : DataW Value)
    (hm : a.eval m = .map (some b)) (hown : w.ownsMap P k anyElem b n D) (key : Value) (kl : Lit) (hx : a.eval x = key) (hkey : keyOf P k key = some kl) (v : Value) (q : Bool) (hat : D.atKey kl (.held z) = .held v) (hq : Maps.has D kl = q)
    (hK : wpList P ops Q rest (a.put o.dst (.tuple #[v, .bool q])) w) : wpList P ops Q (o :: rest) a w := by
  refine wpList_lookup_own_ok w hg m x t hop k e K ht anyElem hz (.held z) [] rfl b n D hm hown key kl hx hkey (fun v' ps hv => ?_)
  have : v' = v := by
    unfold anyElem at hv
    rw [hat] at hv
    simp at hv
    exact hv.1
  subst this
  rw [hq]
  exact hK
end
/-- The packet of this number, or none. -/
theorem PkMap.look {w0 w : World} {m n : Nat} {l : List PP} (h : PkMap w0 w m n l) : ∃ D : DataW Value, w.ownsMap Try.prog 3 anyElem m n D ∧ IsMap D ∧ (∀ s : Int, (findS l s = none → Maps.has D (kI s) = false) ∧ ∀ x, findS l s = some x → Maps.has D (kI s) = true ∧ ∃ a c, D.atKey (kI s) (.held zPk) = .held (pkV x a c) ∧ RdSl cByte w0 x.data (.slice a x.data.length c) ∧ PPIn x) ∧ ∀ s, findS l s = none → D.atKey (kI s) (.held zPk) = .held zPk := by
  obtain ⟨D, h1, h2⟩ := h
  exact ⟨D, h1, h1.isMap, h2, fun s hs => atKey_of_not_has ((h2 s).1 hs) _⟩

end Go.Proofs.Ytmaccmgmcahopaa

/- impl.copyPacket. -/
namespace Go.Proofs.Ytmaccmgmcahopaa
open Go.RowKit

set_option maxRecDepth 100000 in
set_option maxHeartbeats 2000000 in
theorem copyPacket_any (p : PP) (a : Option Addr) (c : Nat) (w : World) (hr : RdSl cByte w p.data (.slice a p.data.length c)) (hl : p.data.length ≤ 1048576) :
    Calls Try.prog 67 #[.agg #[.int .i64 p.kind, .int .i64 p.epoch, .int .i64 p.seq, .int .i64 p.count, .bool p.last, .slice a p.data.length c]] w fun e w' => ∃ a2 c2 bk, e = .returned (.agg #[.int .i64 p.kind, .int .i64 p.epoch, .int .i64 p.seq, .int .i64 p.count, .bool p.last, .slice a2 p.data.length c2]) ∧ OwnSl cByte 5 w' p.data (.slice a2 p.data.length c2) bk ∧ (∀ b ∈ bk, w.heap.size ≤ b) ∧ bk.Nodup ∧ Below w.heap.size w w' := by
  have HR := hid hr
  have HBY : Hid (∀ x ∈ p.data, x < 256) := hid (by obtain ⟨_, _, _, _, _, _, _, h⟩ := hr.bytes; exact h)
  clear hr
  go_enter Try.func67, Try.ntmps67
  go_wp2_with fail
  refine (bclone_any a c p.data _ (HR.out.later (below_new2 _ _ _)) hl).mono ?_
  rintro e w2 ⟨v2, rfl, o2, b2⟩
  obtain ⟨a2, c2, rfl, -⟩ := rd_own o2
  have hg := fun g h => own_in (g := g) o2 h
  rw [size2] at hg b2
  obtain ⟨k0, k1⟩ := heap2 _ _ b2
  have c00 := cell_of_row w2 _ 0 _ _ _ k0
  have f00 := frozen_of_row w2 _ 0 _ _ k0
  have c10 := cell_of_row w2 _ 0 _ _ _ k1
  have f10 := frozen_of_row w2 _ 0 _ _ k1
  have c01 := cell_of_row w2 _ 1 _ _ _ k0
  have f01 := frozen_of_row w2 _ 1 _ _ k0
  have c11 := cell_of_row w2 _ 1 _ _ _ k1
  have f11 := frozen_of_row w2 _ 1 _ _ k1
  have c02 := cell_of_row w2 _ 2 _ _ _ k0
  have f02 := frozen_of_row w2 _ 2 _ _ k0
  have c12 := cell_of_row w2 _ 2 _ _ _ k1
  have f12 := frozen_of_row w2 _ 2 _ _ k1
  have c03 := cell_of_row w2 _ 3 _ _ _ k0
  have f03 := frozen_of_row w2 _ 3 _ _ k0
  have c13 := cell_of_row w2 _ 3 _ _ _ k1
  have f13 := frozen_of_row w2 _ 3 _ _ k1
  have c04 := cell_of_row w2 _ 4 _ _ _ k0
  have f04 := frozen_of_row w2 _ 4 _ _ k0
  have c14 := cell_of_row w2 _ 4 _ _ _ k1
  have f14 := frozen_of_row w2 _ 4 _ _ k1
  have c05 := cell_of_row w2 _ 5 _ _ _ k0
  have f05 := frozen_of_row w2 _ 5 _ _ k0
  have c15 := cell_of_row w2 _ 5 _ _ _ k1
  have f15 := frozen_of_row w2 _ 5 _ _ k1
  simp only [List.getElem?_toArray, List.getElem?_cons_zero, List.getElem?_cons_succ] at c00 c10 c01 c11 c02 c12 c03 c13 c04 c14 c05 c15
  have K1 := hid k1
  have HB : Hid (Below w.heap.size w w2) := hid ((below_new2 w _ _).trans (b2.mono (by omega)))
  have HO := hid (ownSl_bytes o2 HBY.out)
  have HG : Hid (∀ b ∈ (Value.slice a2 p.data.length c2).ownBlock.toList, w.heap.size + 2 ≤ b) := hid (fun b hb => (hg b (by simpa using hb)).1)
  have HN : Hid ((Value.slice a2 p.data.length c2).ownBlock.toList.Nodup) := hid (by cases (Value.slice a2 p.data.length c2).ownBlock <;> simp)
  generalize (Value.slice a2 p.data.length c2).ownBlock.toList = bk at *
  have h01 : w.heap.size + 1 ≠ w.heap.size := by omega
  clear k0 k1 b2 o2 hg
  go_wp2
  refine bodyPost_ret (results_cell_row rfl _ _ (w.heap.size + 1) 35 #[.int .i64 p.kind, .int .i64 p.epoch, .int .i64 p.seq, .int .i64 p.count, .bool p.last, .slice a2 p.data.length c2] (0, 0) _ rfl (set6 ((Below.heap_setCell _ ⟨w.heap.size, 5, none⟩ _ _ h01).trans K1.out)) Try.underlying35 rfl (by kernel_rfl)) rfl ?_
  refine ⟨a2, c2, bk, rfl, HO.out.kept (fun b hb => ?_), fun b hb => by have := HG.out b hb; omega, HN.out, set6b (HB.out.setCell (p := ⟨w.heap.size, 5, none⟩) (by simp only []; omega) _) (by omega)⟩
  have := HG.out b hb
  exact (set6o (by omega)).trans (Below.heap_setCell _ ⟨w.heap.size, 5, none⟩ _ _ (by simp only []; omega))

end Go.Proofs.Ytmaccmgmcahopaa

/- A receiving end made in a region that draws its order, and one whose packets grow. No program. -/
namespace Go.Proofs.Ytmaccmgmcahopaa
open Go.RowKit

def fcAggI (lo : Nat) (e x : Int) (D : List Nat) : Fct := ⟨fun v w => ∃ a c, v = .agg #[.int .i64 e, .int .i64 x, .slice none 0 0, .slice a D.length c] ∧ w.ownsRow lo 5 1 (.slice a D.length c) D.length (byt D), fun _ _ _ ⟨a, c, e, h⟩ hb => ⟨a, c, e, own_later h hb⟩⟩
def fcNewI (lo : Nat) : Fct := ⟨fun v w => ∃ g, v = .pointer (some ⟨g, 0, none⟩) ∧ lo ≤ g ∧ w.heap[g]? = some (.cells #[.int .i64 0, .int .i64 0, .slice none 0 0, .slice none 0 0] 48 (0, 0)), fun _ _ _ ⟨g, e, l, h⟩ hb => ⟨g, e, l, (hb.block _ (Array.getElem?_eq_some_iff.1 h).1).trans h⟩⟩
def niH (lo : Nat) (e x : Int) (D : List Nat) (y : Nat → Bool) (t : Nat → Value) (w : World) : Prop := y 9 = true → ∃ g a c, t 8 = .pointer (some ⟨g, 0, none⟩) ∧ lo ≤ g ∧ w.heap[g]? = some (.cells #[.int .i64 e, .int .i64 x, .slice none 0 0, .slice a D.length c] 48 (0, 0)) ∧ w.ownsRow lo 5 1 (.slice a D.length c) D.length (byt D) ∧ ∀ x, (Value.slice a D.length c).ownBlock = some x → x ≠ g
set_option linter.unusedVariables false in
def niT (lo gO : Nat) (e x : Int) (pv : Value) (D : List Nat) : Nat → FX
  | 0 => FX.eq (.pointer (some ⟨gO, 0, none⟩))
  | 1 => FX.eq (.int .i64 e)
  | 2 => FX.eq (.pointer (some ⟨gO, 1, none⟩))
  | 3 => FX.eq (.int .i64 x)
  | 4 => FX.eq (.pointer (some ⟨gO, 3, none⟩))
  | 5 => FX.eq (pv)
  | 6 => FX.pre [9] (fcRowD lo D)
  | 7 => FX.pre [9] (fcAggI lo e x D)
  | 8 => FX.pre [9] (fcNewI lo)
  | 9 => FX.is Fct.any
  | _ => FX.eq undef

/-- A receiving end in the box at 'gm', its packets the call's own, from B on; its part the call's own, in 'us'. -/
def InBox (B gm : Nat) (e x : Int) (pv : Value) (D us : List Nat) (xs : List PP) (w : World) : Prop :=
  ∃ a c bs, w.heap[gm]? = some (.cells #[.int .i64 e, .int .i64 x, .slice a xs.length c, pv] 48 (0, 0)) ∧ OwnSl cByte 5 w D pv us ∧ OwnSl cPkt 35 w xs (.slice a xs.length c) bs ∧ bs.Nodup ∧ (∀ b ∈ bs, B ≤ b) ∧ B ≤ w.heap.size
theorem InBox.later {B gm : Nat} {e x : Int} {pv : Value} {D us : List Nat} {xs : List PP} {w w' : World} (h : InBox B gm e x pv D us xs w) (hb : Below w.heap.size w w') : InBox B gm e x pv D us xs w' := by
  obtain ⟨a, c, bs, h1, h0, h2, h3, h4, h5⟩ := h
  exact ⟨a, c, bs, (hb.block _ (Array.getElem?_eq_some_iff.1 h1).1).trans h1, h0.kept (fun b hm => hb.block b (h0.lt b hm)), h2.kept (fun b hm => hb.block b (h2.lt b hm)), h3, h4, Nat.le_trans h5 hb.size⟩
def fcOneP (lo : Nat) (p : PP) : Fct := ⟨fun v w => ∃ g a c bk, v = .slice (some ⟨g, 0, none⟩) 1 1 ∧ w.heap[g]? = some (.cells #[.int .i64 p.kind, .int .i64 p.epoch, .int .i64 p.seq, .int .i64 p.count, .bool p.last, .slice a p.data.length c] 35 (0, 0)) ∧ OwnSl cByte 5 w p.data (.slice a p.data.length c) bk ∧ (∀ b ∈ bk, lo ≤ b) ∧ bk.Nodup,
  fun _ _ _ ⟨g, a, c, bk, e, h0, h1, h2, h3⟩ hb => ⟨g, a, c, bk, e, (hb.block _ (Array.getElem?_eq_some_iff.1 h0).1).trans h0, ownB_kept h1 hb, h2, h3⟩⟩
def fcGotP (B gm : Nat) (e x : Int) (pv : Value) (D us : List Nat) (acc : Value) (xs : List PP) : Fct := ⟨fun v w => w.heap[gm]? = some (.cells #[.int .i64 e, .int .i64 x, acc, pv] 48 (0, 0)) ∧ OwnSl cByte 5 w D pv us ∧ ∃ a c bs, v = .slice a xs.length c ∧ OwnSl cPkt 35 w xs (.slice a xs.length c) bs ∧ bs.Nodup ∧ (∀ b ∈ bs, B ≤ b) ∧ B ≤ w.heap.size,
  fun _ _ _ ⟨h1, h0, a, c, bs, e, h2, h3, h4, h5⟩ hb => ⟨(hb.block _ (Array.getElem?_eq_some_iff.1 h1).1).trans h1, h0.kept (fun b hm => hb.block b (h0.lt b hm)), a, c, bs, e, h2.kept (fun b hm => hb.block b (h2.lt b hm)), h3, h4, Nat.le_trans h5 hb.size⟩⟩
def fcPutP (B gm : Nat) (e x : Int) (pv : Value) (D us : List Nat) (xs : List PP) : Fct := ⟨fun _ w => InBox B gm e x pv D us xs w, fun _ _ _ h hb => h.later hb⟩
theorem inBox_put {B gm : Nat} {e x : Int} {pv acc : Value} {D us : List Nat} {xs : List PP} {w : World} {a : Option Addr} {c : Nat} {bs : List Nat} (h : w.heap[gm]? = some (.cells #[.int .i64 e, .int .i64 x, acc, pv] 48 (0, 0))) (h0 : OwnSl cByte 5 w D pv us) (ho : OwnSl cPkt 35 w xs (.slice a xs.length c) bs) (hn : bs.Nodup) (hb : ∀ b ∈ bs, B ≤ b) (h5 : B ≤ w.heap.size) (hg : gm < B) (hu : ∀ b ∈ us, b < B ∧ b ≠ gm) :
    InBox B gm e x pv D us xs (w.setCell ⟨gm, 2, none⟩ (.slice a xs.length c)) :=
  ⟨a, c, bs, heap_setCell_same _ _ 2 _ _ _ h, h0.kept (fun b hm => Below.heap_setCell _ ⟨gm, 2, none⟩ _ _ (hu b hm).2), ho.kept (fun b hm => Below.heap_setCell _ ⟨gm, 2, none⟩ _ _ (by have := hb b hm; simp only []; omega)), hn, hb, by simpa using h5⟩
set_option linter.unusedVariables false in
def shT (B lo gm gO bb off c n k : Nat) (p : PP) (an : Option Addr) (cn : Nat) (acc : Value) (e x : Int) (pv : Value) (D : List Nat) (us : List Nat) (xs : List PP) : Nat → FX
  | 0 => FX.eq (.pointer (some ⟨gm, 2, none⟩))
  | 1 => FX.eq (acc)
  | 2 => FX.eq (.pointer (some ⟨gO, 2, none⟩))
  | 3 => FX.eq (.slice (some ⟨bb, off, none⟩) n c)
  | 4 => FX.eq (.int .i64 (k : Int))
  | 5 => FX.eq (.pointer (some ⟨bb, off + k * 6, none⟩))
  | 6 => FX.eq (.agg #[.int .i64 p.kind, .int .i64 p.epoch, .int .i64 p.seq, .int .i64 p.count, .bool p.last, .slice an p.data.length cn])
  | 7 => FX.pre [9, 11] (fcPk lo p)
  | 8 => FX.pre [9, 11] (fcOneP lo p)
  | 9 => FX.pre [11] (fcGotP B gm e x pv D us acc (xs ++ [p]))
  | 10 => FX.eq (.pointer (some ⟨gm, 2, none⟩))
  | 11 => FX.is (fcPutP B gm e x pv D us (xs ++ [p]))
  | _ => FX.eq undef

end Go.Proofs.Ytmaccmgmcahopaa
