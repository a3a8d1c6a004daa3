import Derived.Test.YtmaccmgmcahopaaJLink25
import Derived.Test.YtmaccmgmcahopaaJLink17
import Derived.Test.YtmaccmgmcahopaaJLink26
import Derived.Test.YtmaccmgmcahopaaJLink33
import Derived.Test.YtmaccmgmcahopaaJLink35
import Derived.Test.YtmaccmgmcahopaaJLink16
import Derived.Maps.AppendAt
namespace Go.Proofs.Ytmaccmgmcahopaa
open Go.RowKit
def RdBy (F : List Nat) (w : World) (P : World → Prop) : Prop := (∀ b ∈ F, b < w.heap.size) ∧ ∀ W : World, (∀ b ∈ F, W.heap[b]? = w.heap[b]?) → P W
theorem RdBy.now {F : List Nat} {w : World} {P : World → Prop} (h : RdBy F w P) : P w := h.2 w (fun _ _ => rfl)
theorem RdBy.kept {F : List Nat} {w w' : World} {P : World → Prop} (h : RdBy F w P) (hk : ∀ b ∈ F, w'.heap[b]? = w.heap[b]?) : RdBy F w' P := by
  refine ⟨fun b hb => ?_, fun W hW => h.2 W (fun b hb => (hW b hb).trans (hk b hb))⟩
  have h1 := hk b hb
  rw [Array.getElem?_eq_getElem (h.1 b hb)] at h1
  exact (Array.getElem?_eq_some_iff.1 h1).1
theorem RdBy.later {F : List Nat} {w w' : World} {P : World → Prop} (h : RdBy F w P) (hb : Below w.heap.size w w') : RdBy F w' P := h.kept (fun b hm => hb.block b (h.1 b hm))
theorem RdBy.right {F G : List Nat} {w : World} {P : World → Prop} (h : RdBy F w P) (hG : ∀ b ∈ G, b < w.heap.size) : RdBy (F ++ G) w P :=
  ⟨fun b hb => (List.mem_append.1 hb).elim (h.1 b) (hG b), fun W hW => h.2 W (fun b hb => hW b (List.mem_append_left _ hb))⟩
theorem RdBy.left {F G : List Nat} {w : World} {P : World → Prop} (h : RdBy G w P) (hF : ∀ b ∈ F, b < w.heap.size) : RdBy (F ++ G) w P :=
  ⟨fun b hb => (List.mem_append.1 hb).elim (hF b) (h.1 b), fun W hW => h.2 W (fun b hb => hW b (List.mem_append_right _ hb))⟩
theorem RdBy.mono {F : List Nat} {w : World} {P Q : World → Prop} (h : RdBy F w P) (hP : ∀ W, P W → Q W) : RdBy F w Q := ⟨h.1, fun W hW => hP W (h.2 W hW)⟩
theorem RdBy.and {F : List Nat} {w : World} {P Q : World → Prop} (h : RdBy F w P) (h2 : RdBy F w Q) : RdBy F w (fun W => P W ∧ Q W) := ⟨h.1, fun W hW => ⟨h.2 W hW, h2.2 W hW⟩⟩
theorem OwnSl.byF {α : Type} {c : Cod α} {e : TypeId} {w : World} {xs : List α} {v : Value} {bs : List Nat} (h : OwnSl c e w xs v bs) : RdBy bs w (fun W => RdSl c W xs v) := ⟨h.lt, fun _ hW => (h.kept hW).rd⟩
theorem OwnCut.byF {α : Type} {c : Cod α} {e : TypeId} {w : World} {ys : List α} {d : Nat} {a : Option Addr} {cap : Nat} {bs : List Nat} (h : OwnCut c e w ys d a cap bs) : RdBy bs w (fun W => RdSl c W (ys.drop d) (.slice a (ys.length - d) cap)) := ⟨h.lt, fun _ hW => (h.kept hW).rd⟩
theorem OwnIn.byF {w : World} {s : PI} {a b : Option Addr} {c d : Nat} {bs ds : List Nat} (h : OwnIn w s a c b d bs ds) : RdBy (bs ++ ds) w (fun W => RdIn W s a c b d) :=
  ⟨fun x hx => (List.mem_append.1 hx).elim (h.f.lt x) (h.t.lt x), fun _ hW => ⟨(h.f.kept (fun x hx => hW x (List.mem_append_left _ hx))).rd, (h.t.kept (fun x hx => hW x (List.mem_append_right _ hx))).rd⟩⟩
theorem box_byF {w : World} {g : Nat} {o : Obj} (h : w.heap[g]? = some o) : RdBy [g] w (fun W => W.heap[g]? = some o) :=
  ⟨fun b hb => by simp at hb; subst hb; exact (Array.getElem?_eq_some_iff.1 h).1, fun _ hW => (hW g (by simp)).trans h⟩
theorem row_byF {w : World} {B n : Nat} {v : Value} {xs : List Nat} (h : w.ownsRow B 5 1 v n (byt xs)) (hb : ∀ x ∈ xs, x < 256) : RdBy v.ownBlock.toList w (fun W => RdSl cByte W xs v) := by
  refine ⟨fun b hm => (World.ownsRow.lt h b (by simpa using hm)).2, fun W hW => ?_⟩
  exact own_rdSl (ownsRow_kept h (fun b hm => hW b (by simp [hm]))) hb
theorem OwnSl.texts {e : TypeId} {w : World} {G : List (List Nat)} {v : Value} {us : List Nat} (h : OwnSl cSS e w G v us) :
    ∃ a c vals, v = .slice a G.length c ∧ vals.length = G.length ∧ (a = none → G.length = 0 ∧ c = 0) ∧ (∀ u ∈ vals, u.oneCell' = true) ∧ RdBy us w (fun W => Rd W a vals ∧ ∀ i, (h : i < G.length) → ∃ u, vals[i]? = some u ∧ RdSl cByte W G[i] u) := by
  obtain ⟨a, c, hv, hr⟩ := h.rd.slice
  subst hv
  obtain ⟨vals, h1, h2, h3, h4⟩ := hr.vals1
  refine ⟨a, c, vals, rfl, h1, hr.nil0, h3, h.lt, fun W hW => ?_⟩
  have hW1 : RdSl cSS W G (.slice a G.length c) := (h.kept hW).rd
  obtain ⟨vals', g1, g2, g3, g4⟩ := hW1.vals1
  have he : vals' = vals := by
    by_cases hn : G.length = 0
    · have e1 : vals' = [] := List.length_eq_zero_iff.1 (by omega)
      have e2 : vals = [] := List.length_eq_zero_iff.1 (by omega)
      rw [e1, e2]
    rcases h2 with h2 | ⟨b, off, ha, h2⟩
    · rw [h2] at h1; simp at h1; omega
    rcases g2 with g2 | ⟨b', off', ha', g2⟩
    · rw [g2] at g1; simp at g1; omega
    rw [ha] at ha'
    simp only [Option.some.injEq, Addr.mk.injEq, and_true] at ha'
    obtain ⟨rfl, rfl⟩ := ha'
    have hb : b ∈ us := by
      rcases h with ⟨hv, _⟩ | ⟨g, cap, vs, bss, hv, _, rfl, _⟩
      · simp only [Value.slice.injEq] at hv; omega
      · simp only [Value.slice.injEq] at hv
        rw [ha] at hv
        simp only [Option.some.injEq, Addr.mk.injEq, and_true] at hv
        rw [hv.1.1]; simp
    apply List.ext_getElem (by omega)
    intro i hi hi'
    have q1 := g2 i hi
    have q2 := h2 i hi'
    rw [World.cell?_of_block (w := w) (w' := W) (a := ⟨b, off + i, none⟩) (hW b hb), q2] at q1
    exact (Option.some.inj q1).symm
  subst he
  exact ⟨g2, fun i hi => by obtain ⟨a', c', q1, q2⟩ := g4 i hi; exact ⟨_, q1, q2⟩⟩
structure LkF (B go gi : Nat) (o : PO) (s : PI) (got want : List (List Nat)) (vg vw : Value) (X : World → Prop) (F : List Nat) (ao : Option Addr) (co : Nat) (ah : Option Addr) (ch : Nat) (ap : Option Addr) (cp : Nat) (vals : List Value) (w : World) : Prop where
  bo : w.heap[go]? = some (.cells #[.int .i64 o.epoch, .int .i64 o.next, .int .i64 o.now, .slice ao o.wait.length co] 30 (0, 0))
  bi : w.heap[gi]? = some (.cells #[.int .i64 s.epoch, .int .i64 s.expect, .slice ah s.held.length ch, .slice ap s.part.length cp] 48 (0, 0))
  ne : go ≠ gi
  lo : go < B
  li : gi < B
  lB : B ≤ w.heap.size
  far : ∀ b ∈ F, b ≠ go ∧ b ≠ gi ∧ vg.ownBlock ≠ some b
  ro : RdBy F w (fun W => RdSl cSnt W o.wait (.slice ao o.wait.length co))
  ri : RdBy F w (fun W => RdIn W s ah ch ap cp)
  gr : w.ownsRow B 22 1 vg got.length vals
  gt : RdBy F w (fun W => ∀ i, (h : i < got.length) → ∃ u, vals[i]? = some u ∧ RdSl cByte W got[i] u)
  rt : RdBy F w (fun W => RdSl cSS W want vw)
  rx : RdBy F w X
def LkSt (B go gi : Nat) (o : PO) (s : PI) (got want : List (List Nat)) (vg vw : Value) (X : World → Prop) (w : World) : Prop := ∃ F ao co ah ch ap cp vals, LkF B go gi o s got want vg vw X F ao co ah ch ap cp vals w
section
variable {B go gi : Nat} {o : PO} {s : PI} {got want : List (List Nat)} {vg vw : Value} {X : World → Prop} {w w' : World}
theorem LkSt.later (h : LkSt B go gi o s got want vg vw X w) (hb : Below w.heap.size w w') : LkSt B go gi o s got want vg vw X w' := by
  obtain ⟨F, ao, co, ah, ch, ap, cp, vals, h⟩ := h
  exact ⟨F, ao, co, ah, ch, ap, cp, vals, box_laterP2 h.bo hb, box_laterP2 h.bi hb, h.ne, h.lo, h.li, Nat.le_trans h.lB hb.size, h.far, h.ro.later hb, h.ri.later hb, ownsRow_kept h.gr (fun b hm => hb.block b (World.ownsRow.lt h.gr b hm).2), h.gt.later hb, h.rt.later hb, h.rx.later hb⟩
theorem LkSt.size (h : LkSt B go gi o s got want vg vw X w) : go < w.heap.size ∧ gi < w.heap.size ∧ B ≤ w.heap.size ∧ go < B ∧ gi < B ∧ go ≠ gi := by
  obtain ⟨F, ao, co, ah, ch, ap, cp, vals, h⟩ := h
  exact ⟨Nat.lt_of_lt_of_le h.lo h.lB, Nat.lt_of_lt_of_le h.li h.lB, h.lB, h.lo, h.li, h.ne⟩
theorem LkSt.fresh (h : LkSt B go gi o s got want vg vw X w) {b : Nat} (hb : w.heap.size ≤ b) : b ≠ go ∧ b ≠ gi ∧ vg.ownBlock ≠ some b := by
  obtain ⟨F, ao, co, ah, ch, ap, cp, vals, h⟩ := h
  have h1 := h.lo
  have h2 := h.li
  have h3 := h.lB
  exact ⟨by omega, by omega, fun e => by have := (World.ownsRow.lt h.gr b e).2; omega⟩
theorem LkSt.setO (h : LkSt B go gi o s got want vg vw X w) {o' : PO} {a' : Option Addr} {c' : Nat} {bs : List Nat} (hn : RdBy bs w (fun W => RdSl cSnt W o'.wait (.slice a' o'.wait.length c'))) (hf : ∀ b ∈ bs, b ≠ go ∧ b ≠ gi ∧ vg.ownBlock ≠ some b) :
    LkSt B go gi o' s got want vg vw X ((((w.setCell ⟨go, 0, none⟩ (.int .i64 o'.epoch)).setCell ⟨go, 1, none⟩ (.int .i64 o'.next)).setCell ⟨go, 2, none⟩ (.int .i64 o'.now)).setCell ⟨go, 3, none⟩ (.slice a' o'.wait.length c')) := by
  obtain ⟨F, ao, co, ah, ch, ap, cp, vals, h⟩ := h
  have hF : ∀ b ∈ F ++ bs, b ≠ go ∧ b ≠ gi ∧ vg.ownBlock ≠ some b := fun b hb => (List.mem_append.1 hb).elim (h.far b) (hf b)
  have key : ∀ {P : World → Prop}, RdBy (F ++ bs) w P → RdBy (F ++ bs) ((((w.setCell ⟨go, 0, none⟩ (.int .i64 o'.epoch)).setCell ⟨go, 1, none⟩ (.int .i64 o'.next)).setCell ⟨go, 2, none⟩ (.int .i64 o'.now)).setCell ⟨go, 3, none⟩ (.slice a' o'.wait.length c')) P := fun hp => hp.kept (fun b hb => set4o (hF b hb).1)
  refine ⟨F ++ bs, a', c', ah, ch, ap, cp, vals, set4 h.bo, (set4o h.ne.symm).trans h.bi, h.ne, h.lo, h.li, by simpa using h.lB, hF, key (hn.left h.ro.1), key (h.ri.right hn.1), ownsRow_kept h.gr (fun b hm => set4o (fun e => by have := (World.ownsRow.lt h.gr b hm).1; have := h.lo; omega)), key (h.gt.right hn.1), key (h.rt.right hn.1), key (h.rx.right hn.1)⟩
theorem LkSt.setI (h : LkSt B go gi o s got want vg vw X w) {s' : PI} {a' b' : Option Addr} {c' d' : Nat} {bs : List Nat} (hn : RdBy bs w (fun W => RdIn W s' a' c' b' d')) (hf : ∀ b ∈ bs, b ≠ go ∧ b ≠ gi ∧ vg.ownBlock ≠ some b) :
    LkSt B go gi o s' got want vg vw X ((((w.setCell ⟨gi, 0, none⟩ (.int .i64 s'.epoch)).setCell ⟨gi, 1, none⟩ (.int .i64 s'.expect)).setCell ⟨gi, 2, none⟩ (.slice a' s'.held.length c')).setCell ⟨gi, 3, none⟩ (.slice b' s'.part.length d')) := by
  obtain ⟨F, ao, co, ah, ch, ap, cp, vals, h⟩ := h
  have hF : ∀ b ∈ F ++ bs, b ≠ go ∧ b ≠ gi ∧ vg.ownBlock ≠ some b := fun b hb => (List.mem_append.1 hb).elim (h.far b) (hf b)
  have key : ∀ {P : World → Prop}, RdBy (F ++ bs) w P → RdBy (F ++ bs) ((((w.setCell ⟨gi, 0, none⟩ (.int .i64 s'.epoch)).setCell ⟨gi, 1, none⟩ (.int .i64 s'.expect)).setCell ⟨gi, 2, none⟩ (.slice a' s'.held.length c')).setCell ⟨gi, 3, none⟩ (.slice b' s'.part.length d')) P := fun hp => hp.kept (fun b hb => set4o (hF b hb).2.1)
  refine ⟨F ++ bs, ao, co, a', c', b', d', vals, (set4o h.ne).trans h.bo, set4 h.bi, h.ne, h.lo, h.li, by simpa using h.lB, hF, key (h.ro.right hn.1), key (hn.left h.ri.1), ownsRow_kept h.gr (fun b hm => set4o (fun e => by have := (World.ownsRow.lt h.gr b hm).1; have := h.li; omega)), key (h.gt.right hn.1), key (h.rt.right hn.1), key (h.rx.right hn.1)⟩
theorem LkSt.withX (h : LkSt B go gi o s got want vg vw X w) {Y : World → Prop} {bs : List Nat} (hn : RdBy bs w Y) (hf : ∀ b ∈ bs, b ≠ go ∧ b ≠ gi ∧ vg.ownBlock ≠ some b) : LkSt B go gi o s got want vg vw (fun W => X W ∧ Y W) w := by
  obtain ⟨F, ao, co, ah, ch, ap, cp, vals, h⟩ := h
  exact ⟨F ++ bs, ao, co, ah, ch, ap, cp, vals, h.bo, h.bi, h.ne, h.lo, h.li, h.lB, fun b hb => (List.mem_append.1 hb).elim (h.far b) (hf b), h.ro.right hn.1, h.ri.right hn.1, h.gr, h.gt.right hn.1, h.rt.right hn.1, (h.rx.right hn.1).and (hn.left h.rx.1)⟩
theorem LkSt.monoX (h : LkSt B go gi o s got want vg vw X w) {Y : World → Prop} (hY : ∀ W, X W → Y W) : LkSt B go gi o s got want vg vw Y w := by
  obtain ⟨F, ao, co, ah, ch, ap, cp, vals, h⟩ := h
  exact ⟨F, ao, co, ah, ch, ap, cp, vals, h.bo, h.bi, h.ne, h.lo, h.li, h.lB, h.far, h.ro, h.ri, h.gr, h.gt, h.rt, h.rx.mono hY⟩
theorem LkSt.app (h : LkSt B go gi o s got want vg vw X w) {G : List (List Nat)} {news : List Value} (hm : ∀ W, X W → ∀ i, (h : i < G.length) → ∃ u, news[i]? = some u ∧ RdSl cByte W G[i] u) :
    ∃ vals : List Value, w.ownsRow B 22 1 vg got.length vals ∧ ∀ (v' : Value) (w' : World), w'.ownsRow B 22 1 v' (got.length + G.length) (vals ++ news) → w.grownBy w' vg.ownBlock → (v'.ownBlock = vg.ownBlock ∨ v'.ownBlock = some w.heap.size) → LkSt B go gi o s (got ++ G) want v' vw X w' := by
  obtain ⟨F, ao, co, ah, ch, ap, cp, vals, h⟩ := h
  refine ⟨vals, h.gr, fun v' w' hw hg hat => ?_⟩
  have hlo := h.lo
  have hli := h.li
  have hlB := h.lB
  have hFlt := h.ro.1
  have key : ∀ {P : World → Prop}, RdBy F w P → RdBy F w' P := fun hp => hp.kept (fun b hb => hg.block b (hp.1 b hb) (fun e => (h.far b hb).2.2 e.symm))
  have hvl : vals.length = got.length := by have := h.gr.1; omega
  have gbox : ∀ g, g < B → w'.heap[g]? = w.heap[g]? := fun g hgB => hg.block g (by omega) (fun e => by have := (World.ownsRow.lt h.gr g e.symm).1; omega)
  refine ⟨F, ao, co, ah, ch, ap, cp, vals ++ news, (gbox go hlo).trans h.bo, (gbox gi hli).trans h.bi, h.ne, hlo, hli, Nat.le_trans hlB hg.size, fun b hb => ⟨(h.far b hb).1, (h.far b hb).2.1, fun e => ?_⟩, key h.ro, key h.ri, by rw [List.length_append]; exact hw, ⟨(key h.ro).1, fun W hW i hi => ?_⟩, key h.rt, key h.rx⟩
  · rcases hat with h1 | h1
    · exact (h.far b hb).2.2 (h1.symm.trans e)
    · rw [h1] at e
      have := hFlt b hb
      simp only [Option.some.injEq] at e
      omega
  · by_cases hi2 : i < got.length
    · obtain ⟨u, hu, hr⟩ := (key h.gt).2 W hW i hi2
      exact ⟨u, by rw [List.getElem?_append_left (by omega)]; exact hu, by rw [List.getElem_append_left hi2]; exact hr⟩
    · have hi3 : i - got.length < G.length := by rw [List.length_append] at hi; omega
      obtain ⟨u, hu, hr⟩ := hm W ((key h.rx).2 W hW) (i - got.length) hi3
      exact ⟨u, by rw [List.getElem?_append_right (by omega), hvl]; exact hu, by rw [List.getElem_append_right (by omega)]; exact hr⟩
theorem LkSt.gotRd (h : LkSt B go gi o s got want vg vw X w) : RdSl cSS w got vg := by
  obtain ⟨F, ao, co, ah, ch, ap, cp, vals, h⟩ := h
  exact rdSS_of_row h.gr h.gt.now
theorem LkSt.turn (h : LkSt B go gi o s got want vg vw X w) : LkSt w.heap.size go gi o s [] got (.slice none 0 0) vg X w := by
  obtain ⟨F, ao, co, ah, ch, ap, cp, vals, h⟩ := h
  have hlo := h.lo
  have hli := h.li
  have hlB := h.lB
  have hF : ∀ b ∈ vg.ownBlock.toList, b < w.heap.size := fun b hb => (World.ownsRow.lt h.gr b (by simpa using hb)).2
  refine ⟨F ++ vg.ownBlock.toList, ao, co, ah, ch, ap, cp, [], h.bo, h.bi, h.ne, by omega, by omega, Nat.le_refl _, fun b hb => ?_, h.ro.right hF, h.ri.right hF, World.ownsRow_nil _ _ _ _, ⟨(h.ro.right hF).1, fun W _ i hi => by simp at hi⟩, ⟨(h.ro.right hF).1, fun W hW => ?_⟩, h.rx.right hF⟩
  · rcases List.mem_append.1 hb with hb | hb
    · exact ⟨(h.far b hb).1, (h.far b hb).2.1, by simp [Value.ownBlock]⟩
    · have := (World.ownsRow.lt h.gr b (by simpa using hb)).1
      exact ⟨by omega, by omega, by simp [Value.ownBlock]⟩
  · exact rdSS_of_row (ownsRow_kept h.gr (fun b hm => hW b (List.mem_append_right _ (by simp [hm])))) (h.gt.2 W (fun b hb => hW b (List.mem_append_left _ hb)))
end
theorem append_at {P : Program} {w : World} {ops : Array Oper} {rest : List Oper} {o : Oper} {a : Act} {Q : Exit → Act → World → Prop} (hgd : o.guard = none) (s x : Operand) (t : TypeId)
    (ho : o.op = .call { callee := .builtin .append, args := #[s, x], argTypes := #[t, t] })
    (base : Nat) (e : TypeId) (i : TypeInfo) (z : Value) (bytes : Nat) (ht : P.underlying t = some (.slice e)) (hi : P.info? e = some i) (hz : i.zero = some z)
    (hsize : i.size = 1) (hby : i.bytes = bytes) (hzs : z.cells.size = 1)
    (v : Value) (n : Nat) (xs : List Value) (hs : a.eval s = v) (hown : w.ownsRow base e 1 v n xs)
    (ax : Option Addr) (m c : Nat) (news : List Value) (hx : a.eval x = .slice ax m c) (hl : news.length = m) (hnone : ax = none → m = 0 ∧ c = 0) (hrd : Rd w ax news) (h1 : ∀ u ∈ news, u.oneCell' = true)
    (h63 : n + m ≤ maxLen) (hbytes : (n + m) * bytes ≤ 140737488355328) (hbase : base ≤ w.heap.size)
    (h : ∀ v' w', w'.ownsRow base e 1 v' (n + m) (xs ++ news) → w.grownBy w' v.ownBlock → (v'.ownBlock = v.ownBlock ∨ v'.ownBlock = some w.heap.size) → wpList P ops Q rest (a.put o.dst v') w') : wpList P ops Q (o :: rest) a w := by
  cases ax with
  | none =>
    obtain ⟨h2, h3⟩ := hnone rfl
    subst h2 h3
    have hnil : news = [] := List.length_eq_zero_iff.1 hl
    subst hnil
    exact wpList_append_own_none hgd s x t ho base e i 1 ht hi v n xs hs hown hx (h v w (by simpa using hown) (World.grownBy.refl _ _) (.inl rfl))
  | some ad =>
    refine wpList_append_own_at w hgd s x t ho base e i z 1 bytes ht hi hz hsize hby hzs (by decide) v n xs hs hown ad m c news hx (by omega) (fun j u hu => ?_) h1 h63 hbytes hbase fun v' w' g1 g2 _ g4 => h v' w' g1 g2 g4
    rcases hrd with h | ⟨b, off, h2, h3⟩
    · subst h; simp at hu
    · cases h2
      obtain ⟨hj, he⟩ := List.getElem?_eq_some_iff.1 hu
      rw [show (⟨b, off, none⟩ : Addr).add j = ⟨b, off + j, none⟩ from by unfold Addr.add; split <;> simp_all]
      rw [h3 j hj, he]
theorem dataB_in {p : PP} {e : Int} (h : dataB p e = true) : PPIn p := by
  unfold dataB at h
  rw [Bool.and_eq_true, Bool.and_eq_true] at h
  have h1 := of_decide_eq_true h.1
  have h2 := of_decide_eq_true h.2.1
  unfold PktOK at h1
  refine ⟨?_, ?_, ?_, ?_⟩ <;> unfold IntIn <;> omega
theorem pkP_lt {xs : List Nat} (h : ∀ x ∈ xs, x < 256) : ∀ x ∈ (pkP xs).data, x < 256 := by
  unfold pkP
  split
  · exact fun x hx => h x (List.mem_of_mem_drop (List.mem_of_mem_take hx))
  · simp [noPkt]
theorem outOK_tot {o : PO} (h : outOK o = true) : totL wN o.wait ≤ 1048576 := by
  have := pushK_tot (xs := []) h 0 (by omega)
  rwa [pushK_zero] at this
end Go.Proofs.Ytmaccmgmcahopaa
