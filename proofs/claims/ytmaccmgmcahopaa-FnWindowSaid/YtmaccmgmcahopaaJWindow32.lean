import Derived.Test.YtmaccmgmcahopaaJWindow13
import Derived.Maps.Own
import Derived.Maps.OwnOps
import Derived.Maps.OwnSet
import Derived.Carry
import Derived.Handy
import Derived.Test.YtmaccmgmcahopaaJWindow10
import Derived.Test.YtmaccmgmcahopaaJWindow24
import Derived.Test.YtmaccmgmcahopaaJWindow31
namespace Go.Proofs.Ytmaccmgmcahopaa
open Go.RowKit Go.Maps Go.WideMaps
def anyElem (v : Value) : Option (DataW Value × List MemPlace) := some (.held v, [])
abbrev kI (s : Int) : Lit := .int .i64 s
theorem keyLitI (s : Int) : WideAt.IsKeyLit (kI s) := by simp [WideAt.IsKeyLit]
abbrev zPk : Value := .agg #[.int .i64 0, .int .i64 0, .int .i64 0, .int .i64 0, .bool false, .slice none 0 0]
abbrev pkV (x : PP) (a : Option Addr) (c : Nat) : Value := .agg #[.int .i64 x.kind, .int .i64 x.epoch, .int .i64 x.seq, .int .i64 x.count, .bool x.last, .slice a x.data.length c]
def findS (l : List PP) (s : Int) : Option PP := l.find? fun x => decide (x.seq = s)
theorem findS_same {p : PP} {l : List PP} {s : Int} (h : p.seq = s) : findS (p :: l) s = some p := by simp [findS, h]
theorem findS_other {p : PP} {l : List PP} {s : Int} (h : ¬ p.seq = s) : findS (p :: l) s = findS l s := by simp [findS, h]
def PkMap (w0 w : World) (m n : Nat) (l : List PP) : Prop :=
  ∃ D : DataW Value, w.ownsMap Try.prog 3 anyElem m n D ∧ ∀ s : Int, (findS l s = none → Maps.has D (kI s) = false) ∧
    ∀ x, findS l s = some x → Maps.has D (kI s) = true ∧ ∃ a c, D.atKey (kI s) (.held zPk) = .held (pkV x a c) ∧ RdSl cByte w0 x.data (.slice a x.data.length c) ∧ PPIn x
theorem PkMap.lt {w0 w : World} {m n : Nat} {l : List PP} (h : PkMap w0 w m n l) : m < w.heap.size := by obtain ⟨D, h, _⟩ := h; exact h.lt
theorem PkMap.kept {w0 w w' : World} {m n : Nat} {l : List PP} (h : PkMap w0 w m n l) (hk : w'.heap[m]? = w.heap[m]?) : PkMap w0 w' m n l := by
  obtain ⟨D, ⟨es, clock, h1, r⟩, h2⟩ := h
  exact ⟨D, ⟨es, clock, by rw [hk]; exact h1, r⟩, h2⟩
theorem PkMap.later {w0 w w' : World} {m n : Nat} {l : List PP} (h : PkMap w0 w m n l) (hb : Below w.heap.size w w') : PkMap w0 w' m n l := h.kept (hb.block m h.lt)
theorem PkMap.put {w0 w' : World} {m n : Nat} {l : List PP} {p : PP} {a : Option Addr} {c : Nat} {D : DataW Value}
    (hD : IsMap D) (h2 : ∀ s : Int, (findS l s = none → Maps.has D (kI s) = false) ∧ ∀ x, findS l s = some x → Maps.has D (kI s) = true ∧ ∃ a c, D.atKey (kI s) (.held zPk) = .held (pkV x a c) ∧ RdSl cByte w0 x.data (.slice a x.data.length c) ∧ PPIn x)
    (ho : w'.ownsMap Try.prog 3 anyElem m (n + 1) (D.put (kI p.seq) (.held (pkV p a c)))) (hr : RdSl cByte w0 p.data (.slice a p.data.length c)) (hi : PPIn p) : PkMap w0 w' m (n + 1) (p :: l) := by
  refine ⟨_, ho, fun s => ?_⟩
  by_cases hs : p.seq = s
  · subst hs
    rw [findS_same rfl]
    refine ⟨fun h => by simp at h, fun x hx => ?_⟩
    simp only [Option.some.injEq] at hx
    subst hx
    exact ⟨has_put_same hD (keyLitI _) _, a, c, atKey_put_same hD (keyLitI _) _ _, hr, hi⟩
  · rw [findS_other hs]
    have hne : kI s ≠ kI p.seq := by intro e; simp only [kI, Lit.int.injEq, true_and] at e; exact hs e.symm
    rw [has_put_other hne, atKey_put_other hne]
    exact h2 s
section
variable {P : Program} {ops : Array Oper} {rest : List Oper} {o : Oper} {a : Act} {Q : Exit → Act → World → Prop}
end
end Go.Proofs.Ytmaccmgmcahopaa
namespace Go.Proofs.Ytmaccmgmcahopaa
open Go.RowKit
set_option maxRecDepth 100000 in
set_option maxHeartbeats 2000000 in
theorem copyPacket_any (p : PP) (a : Option Addr) (c : Nat) (w : World) (hr : RdSl cByte w p.data (.slice a p.data.length c)) (hl : p.data.length ≤ 1048576) :
    Calls Try.prog 67 #[.agg #[.int .i64 p.kind, .int .i64 p.epoch, .int .i64 p.seq, .int .i64 p.count, .bool p.last, .slice a p.data.length c]] w fun e w' => ∃ a2 c2 bk, e = .returned (.agg #[.int .i64 p.kind, .int .i64 p.epoch, .int .i64 p.seq, .int .i64 p.count, .bool p.last, .slice a2 p.data.length c2]) ∧ OwnSl cByte 5 w' p.data (.slice a2 p.data.length c2) bk ∧ (∀ b ∈ bk, w.heap.size ≤ b) ∧ bk.Nodup ∧ Below w.heap.size w w' := by
  have HR := hid hr
  have HBY : Hid (∀ x ∈ p.data, x < 256) := hid (by obtain ⟨_, _, _, _, _, _, _, h⟩ := hr.bytes; exact h)
  clear hr
  go_enter Try.func67, Try.ntmps67
  go_wp2_with fail
  refine (bclone_any a c p.data _ (HR.out.later (below_new2 _ _ _)) hl).mono ?_
  rintro e w2 ⟨v2, rfl, o2, b2⟩
  obtain ⟨a2, c2, rfl, -⟩ := rd_own o2
  have hg := fun g h => own_in (g := g) o2 h
  rw [size2] at hg b2
  obtain ⟨k0, k1⟩ := heap2 _ _ b2
  have c00 := cell_of_row w2 _ 0 _ _ _ k0
  have f00 := frozen_of_row w2 _ 0 _ _ k0
  have c10 := cell_of_row w2 _ 0 _ _ _ k1
  have f10 := frozen_of_row w2 _ 0 _ _ k1
  have c01 := cell_of_row w2 _ 1 _ _ _ k0
  have f01 := frozen_of_row w2 _ 1 _ _ k0
  have c11 := cell_of_row w2 _ 1 _ _ _ k1
  have f11 := frozen_of_row w2 _ 1 _ _ k1
  have c02 := cell_of_row w2 _ 2 _ _ _ k0
  have f02 := frozen_of_row w2 _ 2 _ _ k0
  have c12 := cell_of_row w2 _ 2 _ _ _ k1
  have f12 := frozen_of_row w2 _ 2 _ _ k1
  have c03 := cell_of_row w2 _ 3 _ _ _ k0
  have f03 := frozen_of_row w2 _ 3 _ _ k0
  have c13 := cell_of_row w2 _ 3 _ _ _ k1
  have f13 := frozen_of_row w2 _ 3 _ _ k1
  have c04 := cell_of_row w2 _ 4 _ _ _ k0
  have f04 := frozen_of_row w2 _ 4 _ _ k0
  have c14 := cell_of_row w2 _ 4 _ _ _ k1
  have f14 := frozen_of_row w2 _ 4 _ _ k1
  have c05 := cell_of_row w2 _ 5 _ _ _ k0
  have f05 := frozen_of_row w2 _ 5 _ _ k0
  have c15 := cell_of_row w2 _ 5 _ _ _ k1
  have f15 := frozen_of_row w2 _ 5 _ _ k1
  simp only [List.getElem?_toArray, List.getElem?_cons_zero, List.getElem?_cons_succ] at c00 c10 c01 c11 c02 c12 c03 c13 c04 c14 c05 c15
  have K1 := hid k1
  have HB : Hid (Below w.heap.size w w2) := hid ((below_new2 w _ _).trans (b2.mono (by omega)))
  have HO := hid (ownSl_bytes o2 HBY.out)
  have HG : Hid (∀ b ∈ (Value.slice a2 p.data.length c2).ownBlock.toList, w.heap.size + 2 ≤ b) := hid (fun b hb => (hg b (by simpa using hb)).1)
  have HN : Hid ((Value.slice a2 p.data.length c2).ownBlock.toList.Nodup) := hid (by cases (Value.slice a2 p.data.length c2).ownBlock <;> simp)
  generalize (Value.slice a2 p.data.length c2).ownBlock.toList = bk at *
  have h01 : w.heap.size + 1 ≠ w.heap.size := by omega
  clear k0 k1 b2 o2 hg
  go_wp2
  refine bodyPost_ret (results_cell_row rfl _ _ (w.heap.size + 1) 35 #[.int .i64 p.kind, .int .i64 p.epoch, .int .i64 p.seq, .int .i64 p.count, .bool p.last, .slice a2 p.data.length c2] (0, 0) _ rfl (set6 ((Below.heap_setCell _ ⟨w.heap.size, 5, none⟩ _ _ h01).trans K1.out)) Try.underlying35 rfl (by kernel_rfl)) rfl ?_
  refine ⟨a2, c2, bk, rfl, HO.out.kept (fun b hb => ?_), fun b hb => by have := HG.out b hb; omega, HN.out, set6b (HB.out.setCell (p := ⟨w.heap.size, 5, none⟩) (by simp only []; omega) _) (by omega)⟩
  have := HG.out b hb
  exact (set6o (by omega)).trans (Below.heap_setCell _ ⟨w.heap.size, 5, none⟩ _ _ (by simp only []; omega))
end Go.Proofs.Ytmaccmgmcahopaa
namespace Go.Proofs.Ytmaccmgmcahopaa
open Go.RowKit
def InBox (B gm : Nat) (e x : Int) (pv : Value) (D us : List Nat) (xs : List PP) (w : World) : Prop :=
  ∃ a c bs, w.heap[gm]? = some (.cells #[.int .i64 e, .int .i64 x, .slice a xs.length c, pv] 48 (0, 0)) ∧ OwnSl cByte 5 w D pv us ∧ OwnSl cPkt 35 w xs (.slice a xs.length c) bs ∧ bs.Nodup ∧ (∀ b ∈ bs, B ≤ b) ∧ B ≤ w.heap.size
theorem InBox.later {B gm : Nat} {e x : Int} {pv : Value} {D us : List Nat} {xs : List PP} {w w' : World} (h : InBox B gm e x pv D us xs w) (hb : Below w.heap.size w w') : InBox B gm e x pv D us xs w' := by
  obtain ⟨a, c, bs, h1, h0, h2, h3, h4, h5⟩ := h
  exact ⟨a, c, bs, (hb.block _ (Array.getElem?_eq_some_iff.1 h1).1).trans h1, h0.kept (fun b hm => hb.block b (h0.lt b hm)), h2.kept (fun b hm => hb.block b (h2.lt b hm)), h3, h4, Nat.le_trans h5 hb.size⟩
end Go.Proofs.Ytmaccmgmcahopaa
