import Derived.Test.YtcljakdcejhfiabJEncodePacket22
import Derived.Laws.AppendOwnNone
import Derived.Handy
namespace Go.Proofs.Ytcljakdcejhfiab
open Go.RowKit
theorem append_any {P : Program} {w : World} {ops : Array Oper} {rest : List Oper} {o : Oper} {a : Act} {Q : Exit → Act → World → Prop} (hgd : o.guard = none) (s x : Operand) (t : TypeId)
    (ho : o.op = .call { callee := .builtin .append, args := #[s, x], argTypes := #[t, t] })
    (base : Nat) (e : TypeId) (i : TypeInfo) (z : Value) (bytes : Nat) (ht : P.underlying t = some (.slice e)) (hi : P.info? e = some i) (hz : i.zero = some z)
    (hsize : i.size = 1) (hby : i.bytes = bytes) (hzs : z.cells.size = 1)
    (v : Value) (n : Nat) (xs : List Value) (hs : a.eval s = v) (hown : w.ownsRow base e 1 v n xs)
    (ax : Option Addr) (m c : Nat) (news : List Value) (hx : a.eval x = .slice ax m c) (hl : news.length = m) (hnone : ax = none → m = 0 ∧ c = 0) (hrd : Rd w ax news) (h1 : ∀ u ∈ news, u.oneCell' = true)
    (h63 : n + m ≤ maxLen) (hbytes : (n + m) * bytes ≤ 140737488355328) (hbase : base ≤ w.heap.size)
    (h : ∀ v' w', w'.ownsRow base e 1 v' (n + m) (xs ++ news) → w.grownBy w' v.ownBlock → wpList P ops Q rest (a.put o.dst v') w') : wpList P ops Q (o :: rest) a w := by
  cases ax with
  | none =>
    obtain ⟨h2, h3⟩ := hnone rfl
    subst h2 h3
    have hnil : news = [] := List.length_eq_zero_iff.1 hl
    subst hnil
    exact wpList_append_own_none hgd s x t ho base e i 1 ht hi v n xs hs hown hx (h v w (by simpa using hown) (World.grownBy.refl _ _))
  | some ad =>
    refine wpList_append_own w hgd s x t ho base e i z 1 bytes ht hi hz hsize hby hzs (by decide) v n xs hs hown ad m c news hx (by omega) (fun j u hu => ?_) h1 h63 hbytes hbase fun v' w' g1 g2 _ => h v' w' g1 g2
    rcases hrd with h | ⟨b, off, h2, h3⟩
    · subst h; simp at hu
    · cases h2
      obtain ⟨hj, he⟩ := List.getElem?_eq_some_iff.1 hu
      rw [show (⟨b, off, none⟩ : Addr).add j = ⟨b, off + j, none⟩ from by unfold Addr.add; split <;> simp_all]
      rw [h3 j hj, he]
theorem RdSl.nil0 {α : Type} {c : Cod α} {w : World} {xs : List α} {a : Option Addr} {cap : Nat} (h : RdSl c w xs (.slice a xs.length cap)) : a = none → xs.length = 0 ∧ cap = 0 := by
  obtain ⟨a', cap', e, h1, _, h2, _⟩ := h
  simp at e
  obtain ⟨rfl, rfl⟩ := e
  intro ha
  have := h2 ha
  omega
theorem RdSl.rdB {w : World} {xs : List Nat} {a : Option Addr} {cap : Nat} (h : RdSl cByte w xs (.slice a xs.length cap)) : Rd w a (byt xs) ∧ ∀ x ∈ xs, x < 256 := by
  obtain ⟨_, _, e', -, -, -, hrd, hby⟩ := h.bytes
  simp only [Value.slice.injEq] at e'
  obtain ⟨rfl, -, rfl⟩ := e'
  exact ⟨hrd, hby⟩
def Txts (B : Nat) (wr : World) (v : Value) (xss : List (List Nat)) : Prop :=
  ∃ vals : List Value, wr.ownsRow B 24 1 v xss.length vals ∧ ∀ i, (h : i < xss.length) → ∃ u, vals[i]? = some u ∧ wr.ownsRow B 5 1 u xss[i].length (byt xss[i]) ∧ ∀ x ∈ xss[i], x < 256
theorem Txts.nil (B : Nat) (w : World) : Txts B w (.slice none 0 0) [] := ⟨[], World.ownsRow_nil _ _ _ _, fun i h => by simp at h⟩
theorem Txts.later {B : Nat} {w w' : World} {v : Value} {xss : List (List Nat)} (h : Txts B w v xss) (hb : Below w.heap.size w w') : Txts B w' v xss := by
  obtain ⟨vals, ho, hi⟩ := h
  exact ⟨vals, own_later ho hb, fun i h => by obtain ⟨u, h1, h2, h3⟩ := hi i h; exact ⟨u, h1, own_later h2 hb, h3⟩⟩
theorem Txts.mono {B B' : Nat} {w : World} {v : Value} {xss : List (List Nat)} (h : Txts B w v xss) (hb : B' ≤ B) : Txts B' w v xss := by
  obtain ⟨vals, ho, hi⟩ := h
  exact ⟨vals, own_mono ho hb, fun i h => by obtain ⟨u, h1, h2, h3⟩ := hi i h; exact ⟨u, h1, own_mono h2 hb, h3⟩⟩
theorem own_rdSl {B n : Nat} {w : World} {u : Value} {xs : List Nat} (h : w.ownsRow B 5 1 u n (byt xs)) (h3 : ∀ x ∈ xs, x < 256) : RdSl cByte w xs u := (ownSl_bytes h h3).rd
theorem Txts.rd {B : Nat} {w : World} {v : Value} {xss : List (List Nat)} (h : Txts B w v xss) : RdSl cSS w xss v := by
  obtain ⟨vals, ho, hi⟩ := h
  have hvl : vals.length = xss.length := by have := ho.1; omega
  rcases ho.2 with ⟨rfl, h0⟩ | ⟨g, cap, cur, rfl, hg, hh, hn, hm, r⟩
  · obtain rfl := List.length_eq_zero_iff.1 h0
    exact RdSl.empty none
  · refine ⟨_, cap, rfl, hn, hm, (fun h => by cases h), .inr ⟨g, 0, rfl, fun i h => ?_⟩⟩
    obtain ⟨u, hu, hr, h3⟩ := hi i h
    refine ⟨[u], ⟨u, rfl, own_rdSl hr h3⟩, fun j hj => ?_⟩
    have hj0 : j = 0 := by simpa using hj
    subst hj0
    have := World.ownsRow.cellAt ho i (by omega)
    rw [show 0 + (i * cSS.n + 0) = i from by simp [cSl], this, hu]; rfl
theorem Txts.len {B : Nat} {w : World} {v : Value} {xss : List (List Nat)} (h : Txts B w v xss) : ∃ a c, v = .slice a xss.length c := by
  obtain ⟨a, c, e, _⟩ := h.rd
  exact ⟨a, c, e⟩
end Go.Proofs.Ytcljakdcejhfiab
