import Derived.Test.YtmaccmgmcahopaaJWindow36
import Derived.Test.YtmaccmgmcahopaaJWindow33
import Derived.Test.YtmaccmgmcahopaaJWindow15
import Derived.Test.YtmaccmgmcahopaaJWindow42
import Derived.Test.YtmaccmgmcahopaaJWindow43
import Derived.Test.YtmaccmgmcahopaaJWindow22
import Derived.Test.YtmaccmgmcahopaaJWindow7
import Derived.Maps.AppendAt
namespace Go.Proofs.Ytmaccmgmcahopaa
open Go.RowKit
def RdBy (F : List Nat) (w : World) (P : World → Prop) : Prop := (∀ b ∈ F, b < w.heap.size) ∧ ∀ W : World, (∀ b ∈ F, W.heap[b]? = w.heap[b]?) → P W
theorem RdBy.now {F : List Nat} {w : World} {P : World → Prop} (h : RdBy F w P) : P w := h.2 w (fun _ _ => rfl)
theorem RdBy.kept {F : List Nat} {w w' : World} {P : World → Prop} (h : RdBy F w P) (hk : ∀ b ∈ F, w'.heap[b]? = w.heap[b]?) : RdBy F w' P := by
  refine ⟨fun b hb => ?_, fun W hW => h.2 W (fun b hb => (hW b hb).trans (hk b hb))⟩
  have h1 := hk b hb
  rw [Array.getElem?_eq_getElem (h.1 b hb)] at h1
  exact (Array.getElem?_eq_some_iff.1 h1).1
theorem RdBy.later {F : List Nat} {w w' : World} {P : World → Prop} (h : RdBy F w P) (hb : Below w.heap.size w w') : RdBy F w' P := h.kept (fun b hm => hb.block b (h.1 b hm))
theorem RdBy.right {F G : List Nat} {w : World} {P : World → Prop} (h : RdBy F w P) (hG : ∀ b ∈ G, b < w.heap.size) : RdBy (F ++ G) w P :=
  ⟨fun b hb => (List.mem_append.1 hb).elim (h.1 b) (hG b), fun W hW => h.2 W (fun b hb => hW b (List.mem_append_left _ hb))⟩
theorem RdBy.left {F G : List Nat} {w : World} {P : World → Prop} (h : RdBy G w P) (hF : ∀ b ∈ F, b < w.heap.size) : RdBy (F ++ G) w P :=
  ⟨fun b hb => (List.mem_append.1 hb).elim (hF b) (h.1 b), fun W hW => h.2 W (fun b hb => hW b (List.mem_append_right _ hb))⟩
theorem RdBy.mono {F : List Nat} {w : World} {P Q : World → Prop} (h : RdBy F w P) (hP : ∀ W, P W → Q W) : RdBy F w Q := ⟨h.1, fun W hW => hP W (h.2 W hW)⟩
theorem RdBy.and {F : List Nat} {w : World} {P Q : World → Prop} (h : RdBy F w P) (h2 : RdBy F w Q) : RdBy F w (fun W => P W ∧ Q W) := ⟨h.1, fun W hW => ⟨h.2 W hW, h2.2 W hW⟩⟩
theorem OwnSl.byF {α : Type} {c : Cod α} {e : TypeId} {w : World} {xs : List α} {v : Value} {bs : List Nat} (h : OwnSl c e w xs v bs) : RdBy bs w (fun W => RdSl c W xs v) := ⟨h.lt, fun _ hW => (h.kept hW).rd⟩
theorem OwnCut.byF {α : Type} {c : Cod α} {e : TypeId} {w : World} {ys : List α} {d : Nat} {a : Option Addr} {cap : Nat} {bs : List Nat} (h : OwnCut c e w ys d a cap bs) : RdBy bs w (fun W => RdSl c W (ys.drop d) (.slice a (ys.length - d) cap)) := ⟨h.lt, fun _ hW => (h.kept hW).rd⟩
theorem OwnIn.byF {w : World} {s : PI} {a b : Option Addr} {c d : Nat} {bs ds : List Nat} (h : OwnIn w s a c b d bs ds) : RdBy (bs ++ ds) w (fun W => RdIn W s a c b d) :=
  ⟨fun x hx => (List.mem_append.1 hx).elim (h.f.lt x) (h.t.lt x), fun _ hW => ⟨(h.f.kept (fun x hx => hW x (List.mem_append_left _ hx))).rd, (h.t.kept (fun x hx => hW x (List.mem_append_right _ hx))).rd⟩⟩
theorem box_byF {w : World} {g : Nat} {o : Obj} (h : w.heap[g]? = some o) : RdBy [g] w (fun W => W.heap[g]? = some o) :=
  ⟨fun b hb => by simp at hb; subst hb; exact (Array.getElem?_eq_some_iff.1 h).1, fun _ hW => (hW g (by simp)).trans h⟩
theorem OwnSl.texts {e : TypeId} {w : World} {G : List (List Nat)} {v : Value} {us : List Nat} (h : OwnSl cSS e w G v us) :
    ∃ a c vals, v = .slice a G.length c ∧ vals.length = G.length ∧ (a = none → G.length = 0 ∧ c = 0) ∧ (∀ u ∈ vals, u.oneCell' = true) ∧ RdBy us w (fun W => Rd W a vals ∧ ∀ i, (h : i < G.length) → ∃ u, vals[i]? = some u ∧ RdSl cByte W G[i] u) := by
  obtain ⟨a, c, hv, hr⟩ := h.rd.slice
  subst hv
  obtain ⟨vals, h1, h2, h3, h4⟩ := hr.vals1
  refine ⟨a, c, vals, rfl, h1, hr.nil0, h3, h.lt, fun W hW => ?_⟩
  have hW1 : RdSl cSS W G (.slice a G.length c) := (h.kept hW).rd
  obtain ⟨vals', g1, g2, g3, g4⟩ := hW1.vals1
  have he : vals' = vals := by
    by_cases hn : G.length = 0
    · have e1 : vals' = [] := List.length_eq_zero_iff.1 (by omega)
      have e2 : vals = [] := List.length_eq_zero_iff.1 (by omega)
      rw [e1, e2]
    rcases h2 with h2 | ⟨b, off, ha, h2⟩
    · rw [h2] at h1; simp at h1; omega
    rcases g2 with g2 | ⟨b', off', ha', g2⟩
    · rw [g2] at g1; simp at g1; omega
    rw [ha] at ha'
    simp only [Option.some.injEq, Addr.mk.injEq, and_true] at ha'
    obtain ⟨rfl, rfl⟩ := ha'
    have hb : b ∈ us := by
      rcases h with ⟨hv, _⟩ | ⟨g, cap, vs, bss, hv, _, rfl, _⟩
      · simp only [Value.slice.injEq] at hv; omega
      · simp only [Value.slice.injEq] at hv
        rw [ha] at hv
        simp only [Option.some.injEq, Addr.mk.injEq, and_true] at hv
        rw [hv.1.1]; simp
    apply List.ext_getElem (by omega)
    intro i hi hi'
    have q1 := g2 i hi
    have q2 := h2 i hi'
    rw [World.cell?_of_block (w := w) (w' := W) (a := ⟨b, off + i, none⟩) (hW b hb), q2] at q1
    exact (Option.some.inj q1).symm
  subst he
  exact ⟨g2, fun i hi => by obtain ⟨a', c', q1, q2⟩ := g4 i hi; exact ⟨_, q1, q2⟩⟩
structure LkF (B go gi : Nat) (o : PO) (s : PI) (got want : List (List Nat)) (vg vw : Value) (X : World → Prop) (F : List Nat) (ao : Option Addr) (co : Nat) (ah : Option Addr) (ch : Nat) (ap : Option Addr) (cp : Nat) (vals : List Value) (w : World) : Prop where
  bo : w.heap[go]? = some (.cells #[.int .i64 o.epoch, .int .i64 o.next, .int .i64 o.now, .slice ao o.wait.length co] 30 (0, 0))
  bi : w.heap[gi]? = some (.cells #[.int .i64 s.epoch, .int .i64 s.expect, .slice ah s.held.length ch, .slice ap s.part.length cp] 48 (0, 0))
  ne : go ≠ gi
  lo : go < B
  li : gi < B
  lB : B ≤ w.heap.size
  far : ∀ b ∈ F, b ≠ go ∧ b ≠ gi ∧ vg.ownBlock ≠ some b
  ro : RdBy F w (fun W => RdSl cSnt W o.wait (.slice ao o.wait.length co))
  ri : RdBy F w (fun W => RdIn W s ah ch ap cp)
  gr : w.ownsRow B 22 1 vg got.length vals
  gt : RdBy F w (fun W => ∀ i, (h : i < got.length) → ∃ u, vals[i]? = some u ∧ RdSl cByte W got[i] u)
  rt : RdBy F w (fun W => RdSl cSS W want vw)
  rx : RdBy F w X
def LkSt (B go gi : Nat) (o : PO) (s : PI) (got want : List (List Nat)) (vg vw : Value) (X : World → Prop) (w : World) : Prop := ∃ F ao co ah ch ap cp vals, LkF B go gi o s got want vg vw X F ao co ah ch ap cp vals w
section
variable {B go gi : Nat} {o : PO} {s : PI} {got want : List (List Nat)} {vg vw : Value} {X : World → Prop} {w w' : World}
theorem LkSt.later (h : LkSt B go gi o s got want vg vw X w) (hb : Below w.heap.size w w') : LkSt B go gi o s got want vg vw X w' := by
  obtain ⟨F, ao, co, ah, ch, ap, cp, vals, h⟩ := h
  exact ⟨F, ao, co, ah, ch, ap, cp, vals, box_laterP2 h.bo hb, box_laterP2 h.bi hb, h.ne, h.lo, h.li, Nat.le_trans h.lB hb.size, h.far, h.ro.later hb, h.ri.later hb, ownsRow_kept h.gr (fun b hm => hb.block b (World.ownsRow.lt h.gr b hm).2), h.gt.later hb, h.rt.later hb, h.rx.later hb⟩
theorem LkSt.size (h : LkSt B go gi o s got want vg vw X w) : go < w.heap.size ∧ gi < w.heap.size ∧ B ≤ w.heap.size ∧ go < B ∧ gi < B ∧ go ≠ gi := by
  obtain ⟨F, ao, co, ah, ch, ap, cp, vals, h⟩ := h
  exact ⟨Nat.lt_of_lt_of_le h.lo h.lB, Nat.lt_of_lt_of_le h.li h.lB, h.lB, h.lo, h.li, h.ne⟩
theorem LkSt.fresh (h : LkSt B go gi o s got want vg vw X w) {b : Nat} (hb : w.heap.size ≤ b) : b ≠ go ∧ b ≠ gi ∧ vg.ownBlock ≠ some b := by
  obtain ⟨F, ao, co, ah, ch, ap, cp, vals, h⟩ := h
  have h1 := h.lo
  have h2 := h.li
  have h3 := h.lB
  exact ⟨by omega, by omega, fun e => by have := (World.ownsRow.lt h.gr b e).2; omega⟩
theorem LkSt.setO (h : LkSt B go gi o s got want vg vw X w) {o' : PO} {a' : Option Addr} {c' : Nat} {bs : List Nat} (hn : RdBy bs w (fun W => RdSl cSnt W o'.wait (.slice a' o'.wait.length c'))) (hf : ∀ b ∈ bs, b ≠ go ∧ b ≠ gi ∧ vg.ownBlock ≠ some b) :
    LkSt B go gi o' s got want vg vw X ((((w.setCell ⟨go, 0, none⟩ (.int .i64 o'.epoch)).setCell ⟨go, 1, none⟩ (.int .i64 o'.next)).setCell ⟨go, 2, none⟩ (.int .i64 o'.now)).setCell ⟨go, 3, none⟩ (.slice a' o'.wait.length c')) := by
  obtain ⟨F, ao, co, ah, ch, ap, cp, vals, h⟩ := h
  have hF : ∀ b ∈ F ++ bs, b ≠ go ∧ b ≠ gi ∧ vg.ownBlock ≠ some b := fun b hb => (List.mem_append.1 hb).elim (h.far b) (hf b)
  have key : ∀ {P : World → Prop}, RdBy (F ++ bs) w P → RdBy (F ++ bs) ((((w.setCell ⟨go, 0, none⟩ (.int .i64 o'.epoch)).setCell ⟨go, 1, none⟩ (.int .i64 o'.next)).setCell ⟨go, 2, none⟩ (.int .i64 o'.now)).setCell ⟨go, 3, none⟩ (.slice a' o'.wait.length c')) P := fun hp => hp.kept (fun b hb => set4o (hF b hb).1)
  refine ⟨F ++ bs, a', c', ah, ch, ap, cp, vals, set4 h.bo, (set4o h.ne.symm).trans h.bi, h.ne, h.lo, h.li, by simpa using h.lB, hF, key (hn.left h.ro.1), key (h.ri.right hn.1), ownsRow_kept h.gr (fun b hm => set4o (fun e => by have := (World.ownsRow.lt h.gr b hm).1; have := h.lo; omega)), key (h.gt.right hn.1), key (h.rt.right hn.1), key (h.rx.right hn.1)⟩
theorem LkSt.withX (h : LkSt B go gi o s got want vg vw X w) {Y : World → Prop} {bs : List Nat} (hn : RdBy bs w Y) (hf : ∀ b ∈ bs, b ≠ go ∧ b ≠ gi ∧ vg.ownBlock ≠ some b) : LkSt B go gi o s got want vg vw (fun W => X W ∧ Y W) w := by
  obtain ⟨F, ao, co, ah, ch, ap, cp, vals, h⟩ := h
  exact ⟨F ++ bs, ao, co, ah, ch, ap, cp, vals, h.bo, h.bi, h.ne, h.lo, h.li, h.lB, fun b hb => (List.mem_append.1 hb).elim (h.far b) (hf b), h.ro.right hn.1, h.ri.right hn.1, h.gr, h.gt.right hn.1, h.rt.right hn.1, (h.rx.right hn.1).and (hn.left h.rx.1)⟩
theorem LkSt.monoX (h : LkSt B go gi o s got want vg vw X w) {Y : World → Prop} (hY : ∀ W, X W → Y W) : LkSt B go gi o s got want vg vw Y w := by
  obtain ⟨F, ao, co, ah, ch, ap, cp, vals, h⟩ := h
  exact ⟨F, ao, co, ah, ch, ap, cp, vals, h.bo, h.bi, h.ne, h.lo, h.li, h.lB, h.far, h.ro, h.ri, h.gr, h.gt, h.rt, h.rx.mono hY⟩
end
theorem outOK_tot {o : PO} (h : outOK o = true) : totL wN o.wait ≤ 1048576 := by
  have := pushK_tot (xs := []) h 0 (by omega)
  rwa [pushK_zero] at this
end Go.Proofs.Ytmaccmgmcahopaa
