import Derived.Test.YtfaehioeepolhaaJLinkTake29
import Derived.Maps.Own
import Derived.Maps.OwnOps
import Derived.Maps.OwnSet
import Derived.Carry
import Derived.Handy
namespace Go.Proofs.Ytfaehioeepolhaa
open Go.RowKit Go.Maps Go.WideMaps
def anyElem (v : Value) : Option (DataW Value × List MemPlace) := some (.held v, [])
theorem keyedI : Keyed Try.prog 3 := int_keyed Try.underlying3
abbrev kI (s : Int) : Lit := .int .i64 s
theorem wfI {n : Int} (h : IntIn n) : (Lit.int .i64 n).wf = true := by
  unfold IntIn at h
  simp [Lit.wf, IntKind.min, IntKind.max, IntKind.bits, IntKind.signed]; omega
theorem keyI {n : Int} (h : IntIn n) : keyOf Try.prog 3 (.int .i64 n) = some (kI n) := keyOf_int_mk Try.underlying3 (wfI h)
theorem keyLitI (s : Int) : WideAt.IsKeyLit (kI s) := by simp [WideAt.IsKeyLit]
abbrev zPk : Value := .agg #[.int .i64 0, .int .i64 0, .int .i64 0, .int .i64 0, .bool false, .slice none 0 0]
abbrev pkV (x : PP) (a : Option Addr) (c : Nat) : Value := .agg #[.int .i64 x.kind, .int .i64 x.epoch, .int .i64 x.seq, .int .i64 x.count, .bool x.last, .slice a x.data.length c]
theorem zeroPk (w : World) : (zeroValue 37).run Try.prog w = .ok zPk w := by kernel_rfl
def findS (l : List PP) (s : Int) : Option PP := l.find? fun x => decide (x.seq = s)
theorem findS_nil (s : Int) : findS [] s = none := rfl
theorem findS_same {p : PP} {l : List PP} {s : Int} (h : p.seq = s) : findS (p :: l) s = some p := by simp [findS, h]
theorem findS_other {p : PP} {l : List PP} {s : Int} (h : ¬ p.seq = s) : findS (p :: l) s = findS l s := by simp [findS, h]
theorem findS_gone (l : List PP) (s : Int) : findS (l.filter fun x => decide (x.seq ≠ s)) s = none := by
  unfold findS
  rw [List.find?_eq_none]
  intro x hx
  simp only [List.mem_filter, decide_eq_true_eq] at hx
  simpa using hx.2
theorem findS_left (l : List PP) (s s' : Int) (h : s' ≠ s) : findS (l.filter fun x => decide (x.seq ≠ s)) s' = findS l s' := by
  unfold findS
  refine find_filter_keep (fun p hp => ?_) l
  simp only [decide_eq_true_eq] at hp ⊢
  omega
def PkMap (w0 w : World) (m n : Nat) (l : List PP) : Prop :=
  ∃ D : DataW Value, w.ownsMap Try.prog 3 anyElem m n D ∧ ∀ s : Int, (findS l s = none → Maps.has D (kI s) = false) ∧
    ∀ x, findS l s = some x → Maps.has D (kI s) = true ∧ ∃ a c, D.atKey (kI s) (.held zPk) = .held (pkV x a c) ∧ RdSl cByte w0 x.data (.slice a x.data.length c) ∧ PPIn x
theorem PkMap.lt {w0 w : World} {m n : Nat} {l : List PP} (h : PkMap w0 w m n l) : m < w.heap.size := by obtain ⟨D, h, _⟩ := h; exact h.lt
theorem PkMap.kept {w0 w w' : World} {m n : Nat} {l : List PP} (h : PkMap w0 w m n l) (hk : w'.heap[m]? = w.heap[m]?) : PkMap w0 w' m n l := by
  obtain ⟨D, ⟨es, clock, h1, r⟩, h2⟩ := h
  exact ⟨D, ⟨es, clock, by rw [hk]; exact h1, r⟩, h2⟩
theorem PkMap.later {w0 w w' : World} {m n : Nat} {l : List PP} (h : PkMap w0 w m n l) (hb : Below w.heap.size w w') : PkMap w0 w' m n l := h.kept (hb.block m h.lt)
theorem PkMap.made (w0 w : World) : PkMap w0 (w.alloc (.map #[] 0)) w.heap.size 0 [] :=
  ⟨_, World.ownsMap_made w Try.prog 3 anyElem, fun s => ⟨fun _ => rfl, fun x h => by simp [findS_nil] at h⟩⟩
theorem PkMap.put {w0 w' : World} {m n : Nat} {l : List PP} {p : PP} {a : Option Addr} {c : Nat} {D : DataW Value}
    (hD : IsMap D) (h2 : ∀ s : Int, (findS l s = none → Maps.has D (kI s) = false) ∧ ∀ x, findS l s = some x → Maps.has D (kI s) = true ∧ ∃ a c, D.atKey (kI s) (.held zPk) = .held (pkV x a c) ∧ RdSl cByte w0 x.data (.slice a x.data.length c) ∧ PPIn x)
    (ho : w'.ownsMap Try.prog 3 anyElem m (n + 1) (D.put (kI p.seq) (.held (pkV p a c)))) (hr : RdSl cByte w0 p.data (.slice a p.data.length c)) (hi : PPIn p) : PkMap w0 w' m (n + 1) (p :: l) := by
  refine ⟨_, ho, fun s => ?_⟩
  by_cases hs : p.seq = s
  · subst hs
    rw [findS_same rfl]
    refine ⟨fun h => by simp at h, fun x hx => ?_⟩
    simp only [Option.some.injEq] at hx
    subst hx
    exact ⟨has_put_same hD (keyLitI _) _, a, c, atKey_put_same hD (keyLitI _) _ _, hr, hi⟩
  · rw [findS_other hs]
    have hne : kI s ≠ kI p.seq := by intro e; simp only [kI, Lit.int.injEq, true_and] at e; exact hs e.symm
    rw [has_put_other hne, atKey_put_other hne]
    exact h2 s
theorem PkMap.del {w0 w' : World} {m n : Nat} {l : List PP} {s0 : Int} {D : DataW Value}
    (h2 : ∀ s : Int, (findS l s = none → Maps.has D (kI s) = false) ∧ ∀ x, findS l s = some x → Maps.has D (kI s) = true ∧ ∃ a c, D.atKey (kI s) (.held zPk) = .held (pkV x a c) ∧ RdSl cByte w0 x.data (.slice a x.data.length c) ∧ PPIn x)
    (ho : w'.ownsMap Try.prog 3 anyElem m n (D.del (kI s0))) : PkMap w0 w' m n (l.filter fun x => decide (x.seq ≠ s0)) := by
  refine ⟨_, ho, fun s => ?_⟩
  by_cases hs : s = s0
  · subst hs
    rw [findS_gone]
    exact ⟨fun _ => has_del_same, fun x hx => by simp at hx⟩
  · rw [findS_left l s0 s hs]
    have hne : kI s ≠ kI s0 := by intro e; simp only [kI, Lit.int.injEq, true_and] at e; exact hs e
    rw [has_del_other hne, atKey_del_other hne]
    exact h2 s
section
variable {P : Program} {ops : Array Oper} {rest : List Oper} {o : Oper} {a : Act} {Q : Exit → Act → World → Prop}
theorem wpList_lookup_held (w : World) (hg : o.guard = none) (m x : Operand) (t : TypeId) (hop : o.op = Op.lookup t m x true)
    (k e : TypeId) (K : Keyed P k) (ht : P.underlying t = some (.map k e)) {z : Value} (hz : (zeroValue e).run P w = .ok z w) (b n : Nat) (D : DataW Value)
    (hm : a.eval m = .map (some b)) (hown : w.ownsMap P k anyElem b n D) (key : Value) (kl : Lit) (hx : a.eval x = key) (hkey : keyOf P k key = some kl) (v : Value) (q : Bool) (hat : D.atKey kl (.held z) = .held v) (hq : Maps.has D kl = q)
    (hK : wpList P ops Q rest (a.put o.dst (.tuple #[v, .bool q])) w) : wpList P ops Q (o :: rest) a w := by
  refine wpList_lookup_own_ok w hg m x t hop k e K ht anyElem hz (.held z) [] rfl b n D hm hown key kl hx hkey (fun v' ps hv => ?_)
  have : v' = v := by
    unfold anyElem at hv
    rw [hat] at hv
    simp at hv
    exact hv.1
  subst this
  rw [hq]
  exact hK
end
theorem PkMap.look {w0 w : World} {m n : Nat} {l : List PP} (h : PkMap w0 w m n l) : ∃ D : DataW Value, w.ownsMap Try.prog 3 anyElem m n D ∧ IsMap D ∧ (∀ s : Int, (findS l s = none → Maps.has D (kI s) = false) ∧ ∀ x, findS l s = some x → Maps.has D (kI s) = true ∧ ∃ a c, D.atKey (kI s) (.held zPk) = .held (pkV x a c) ∧ RdSl cByte w0 x.data (.slice a x.data.length c) ∧ PPIn x) ∧ ∀ s, findS l s = none → D.atKey (kI s) (.held zPk) = .held zPk := by
  obtain ⟨D, h1, h2⟩ := h
  exact ⟨D, h1, h1.isMap, h2, fun s hs => atKey_of_not_has ((h2 s).1 hs) _⟩
end Go.Proofs.Ytfaehioeepolhaa
