import Derived.Test.YtcljakdcejhfiabJApplyDict6
import Derived.Laws.AppendOwnNone
import Derived.Handy
namespace Go.Proofs.Ytcljakdcejhfiab
open Go.RowKit
theorem own_apart {w : World} {B B' n n' : Nat} {e e' : TypeId} {v v' : Value} {vs vs' : List Value} (h : w.ownsRow B e 1 v n vs) (h' : w.ownsRow B' e' 1 v' n' vs') (hne : e ≠ e') : ∀ k p, v.ownBlock = some k → v'.ownBlock = some p → k ≠ p := by
  intro k p hk hp
  rcases h.2 with ⟨rfl, _⟩ | ⟨g, cap, cur, rfl, _, hh, _⟩
  · simp [Value.ownBlock] at hk
  rcases h'.2 with ⟨rfl, _⟩ | ⟨g', cap', cur', rfl, _, hh', _⟩
  · simp [Value.ownBlock] at hp
  simp [Value.ownBlock] at hk hp
  subst hk hp
  intro e
  subst e
  rw [hh] at hh'
  simp at hh'
  exact hne hh'.2
theorem append_any {P : Program} {w : World} {ops : Array Oper} {rest : List Oper} {o : Oper} {a : Act} {Q : Exit → Act → World → Prop} (hgd : o.guard = none) (s x : Operand) (t : TypeId)
    (ho : o.op = .call { callee := .builtin .append, args := #[s, x], argTypes := #[t, t] })
    (base : Nat) (e : TypeId) (i : TypeInfo) (z : Value) (bytes : Nat) (ht : P.underlying t = some (.slice e)) (hi : P.info? e = some i) (hz : i.zero = some z)
    (hsize : i.size = 1) (hby : i.bytes = bytes) (hzs : z.cells.size = 1)
    (v : Value) (n : Nat) (xs : List Value) (hs : a.eval s = v) (hown : w.ownsRow base e 1 v n xs)
    (ax : Option Addr) (m c : Nat) (news : List Value) (hx : a.eval x = .slice ax m c) (hl : news.length = m) (hnone : ax = none → m = 0 ∧ c = 0) (hrd : Rd w ax news) (h1 : ∀ u ∈ news, u.oneCell' = true)
    (h63 : n + m ≤ maxLen) (hbytes : (n + m) * bytes ≤ 140737488355328) (hbase : base ≤ w.heap.size)
    (h : ∀ v' w', w'.ownsRow base e 1 v' (n + m) (xs ++ news) → w.grownBy w' v.ownBlock → wpList P ops Q rest (a.put o.dst v') w') : wpList P ops Q (o :: rest) a w := by
  cases ax with
  | none =>
    obtain ⟨h2, h3⟩ := hnone rfl
    subst h2 h3
    have hnil : news = [] := List.length_eq_zero_iff.1 hl
    subst hnil
    exact wpList_append_own_none hgd s x t ho base e i 1 ht hi v n xs hs hown hx (h v w (by simpa using hown) (World.grownBy.refl _ _))
  | some ad =>
    refine wpList_append_own w hgd s x t ho base e i z 1 bytes ht hi hz hsize hby hzs (by decide) v n xs hs hown ad m c news hx (by omega) (fun j u hu => ?_) h1 h63 hbytes hbase fun v' w' g1 g2 _ => h v' w' g1 g2
    rcases hrd with h | ⟨b, off, h2, h3⟩
    · subst h; simp at hu
    · cases h2
      obtain ⟨hj, he⟩ := List.getElem?_eq_some_iff.1 hu
      rw [show (⟨b, off, none⟩ : Addr).add j = ⟨b, off + j, none⟩ from by unfold Addr.add; split <;> simp_all]
      rw [h3 j hj, he]
theorem infoByteT : (Try.prog.info? 5).map (fun i => (i.zero, i.size, i.bytes)) = some (some (.int .u8 0), 1, 1) := by kernel_rfl
theorem infoSlT : (Try.prog.info? 24).map (fun i => (i.zero, i.size, i.bytes)) = some (some (.slice none 0 0), 1, 24) := by kernel_rfl
theorem RdSl.nil0 {α : Type} {c : Cod α} {w : World} {xs : List α} {a : Option Addr} {cap : Nat} (h : RdSl c w xs (.slice a xs.length cap)) : a = none → xs.length = 0 ∧ cap = 0 := by
  obtain ⟨a', cap', e, h1, _, h2, _⟩ := h
  simp at e
  obtain ⟨rfl, rfl⟩ := e
  intro ha
  have := h2 ha
  omega
theorem RdSl.rdB {w : World} {xs : List Nat} {a : Option Addr} {cap : Nat} (h : RdSl cByte w xs (.slice a xs.length cap)) : Rd w a (byt xs) ∧ ∀ x ∈ xs, x < 256 := by
  obtain ⟨_, _, e', -, -, -, hrd, hby⟩ := h.bytes
  simp only [Value.slice.injEq] at e'
  obtain ⟨rfl, -, rfl⟩ := e'
  exact ⟨hrd, hby⟩
set_option maxHeartbeats 1000000 in
theorem l1copy_any (a : Option Addr) (cap : Nat) (xs : List Nat) (w : World) (hr : RdSl cByte w xs (.slice a xs.length cap)) (hl : xs.length ≤ 1048576) :
    Calls Try.prog 59 #[.slice a xs.length cap] w fun e w' => ∃ v, e = .returned v ∧ w'.ownsRow w.heap.size 5 1 v xs.length (byt xs) ∧ Below w.heap.size w w' := by
  obtain ⟨i0, hi, hz0, hz1, hz2⟩ := info_parts infoByteT
  have HR := hid hr.rdB.1
  have HN := hid hr.nil0
  clear hr
  go_enter Try.func59, Try.ntmps59
  go_wp2_with (first | (at_builtin; refine append_any rfl _ _ 24 rfl w.heap.size 5 i0 (.int .u8 0) 1 Try.underlying24 hi hz0 hz1 hz2 rfl _ 0 [] rfl (World.ownsRow_nil _ _ _ _) a xs.length cap (byt xs) rfl (byt_len _) HN.out HR.out (byt_one _) (by unfold maxLen; omega) (by omega) (Nat.le_refl _) ?_))
  intro v' w1 hown hgrow
  have HB : Hid (Below w.heap.size w w1) := hid ((Below.refl _ w).grown hgrow (Nat.le_refl _) (by intro k h; cases h))
  have HO : Hid (w1.ownsRow w.heap.size 5 1 v' xs.length (byt xs)) := hid (by simpa using hown)
  clear hown hgrow
  go_wp2
  go_ret
  exact ⟨_, rfl, HO.out, HB.out⟩
def Txts (B : Nat) (wr : World) (v : Value) (xss : List (List Nat)) : Prop :=
  ∃ vals : List Value, wr.ownsRow B 24 1 v xss.length vals ∧ ∀ i, (h : i < xss.length) → ∃ u, vals[i]? = some u ∧ wr.ownsRow B 5 1 u xss[i].length (byt xss[i]) ∧ ∀ x ∈ xss[i], x < 256
theorem Txts.nil (B : Nat) (w : World) : Txts B w (.slice none 0 0) [] := ⟨[], World.ownsRow_nil _ _ _ _, fun i h => by simp at h⟩
theorem Txts.later {B : Nat} {w w' : World} {v : Value} {xss : List (List Nat)} (h : Txts B w v xss) (hb : Below w.heap.size w w') : Txts B w' v xss := by
  obtain ⟨vals, ho, hi⟩ := h
  exact ⟨vals, own_later ho hb, fun i h => by obtain ⟨u, h1, h2, h3⟩ := hi i h; exact ⟨u, h1, own_later h2 hb, h3⟩⟩
theorem Txts.mono {B B' : Nat} {w : World} {v : Value} {xss : List (List Nat)} (h : Txts B w v xss) (hb : B' ≤ B) : Txts B' w v xss := by
  obtain ⟨vals, ho, hi⟩ := h
  exact ⟨vals, own_mono ho hb, fun i h => by obtain ⟨u, h1, h2, h3⟩ := hi i h; exact ⟨u, h1, own_mono h2 hb, h3⟩⟩
theorem own_rdSl {B n : Nat} {w : World} {u : Value} {xs : List Nat} (h : w.ownsRow B 5 1 u n (byt xs)) (h3 : ∀ x ∈ xs, x < 256) : RdSl cByte w xs u := (ownSl_bytes h h3).rd
theorem Txts.rd {B : Nat} {w : World} {v : Value} {xss : List (List Nat)} (h : Txts B w v xss) : RdSl cSS w xss v := by
  obtain ⟨vals, ho, hi⟩ := h
  have hvl : vals.length = xss.length := by have := ho.1; omega
  rcases ho.2 with ⟨rfl, h0⟩ | ⟨g, cap, cur, rfl, hg, hh, hn, hm, r⟩
  · obtain rfl := List.length_eq_zero_iff.1 h0
    exact RdSl.empty none
  · refine ⟨_, cap, rfl, hn, hm, (fun h => by cases h), .inr ⟨g, 0, rfl, fun i h => ?_⟩⟩
    obtain ⟨u, hu, hr, h3⟩ := hi i h
    refine ⟨[u], ⟨u, rfl, own_rdSl hr h3⟩, fun j hj => ?_⟩
    have hj0 : j = 0 := by simpa using hj
    subst hj0
    have := World.ownsRow.cellAt ho i (by omega)
    rw [show 0 + (i * cSS.n + 0) = i from by simp [cSl], this, hu]; rfl
theorem Txts.join {B : Nat} {w w1 : World} {v v' : Value} {xss yss : List (List Nat)} {vals us : List Value} (ho : w.ownsRow B 24 1 v xss.length vals)
    (hi : ∀ i, (h : i < xss.length) → ∃ u, vals[i]? = some u ∧ w.ownsRow B 5 1 u xss[i].length (byt xss[i]) ∧ ∀ x ∈ xss[i], x < 256)
    (_hul : us.length = yss.length)
    (hj : ∀ i, (h : i < yss.length) → ∃ u, us[i]? = some u ∧ w.ownsRow B 5 1 u yss[i].length (byt yss[i]) ∧ ∀ x ∈ yss[i], x < 256)
    (ho1 : w1.ownsRow B 24 1 v' (xss.length + yss.length) (vals ++ us)) (hg : w.grownBy w1 v.ownBlock) : Txts B w1 v' (xss ++ yss) := by
  have hvl : vals.length = xss.length := by have := ho.1; omega
  have keep : ∀ (u : Value) (xs : List Nat), w.ownsRow B 5 1 u xs.length (byt xs) → w1.ownsRow B 5 1 u xs.length (byt xs) := fun u xs hu => own_marked hu hg (own_apart hu ho (by decide))
  refine ⟨vals ++ us, by simpa using ho1, fun i h => ?_⟩
  by_cases e : i < xss.length
  · obtain ⟨u, h1, h2, h3⟩ := hi i e
    rw [List.getElem_append_left e]
    exact ⟨u, by rw [List.getElem?_append_left (by omega)]; exact h1, keep _ _ h2, h3⟩
  · have h' : i - xss.length < yss.length := by simp at h; omega
    obtain ⟨u, h1, h2, h3⟩ := hj (i - xss.length) h'
    rw [List.getElem_append_right (by omega)]
    exact ⟨u, by rw [List.getElem?_append_right (by omega), hvl]; exact h1, keep _ _ h2, h3⟩
theorem Txts.snoc {B : Nat} {w w1 : World} {v v' u : Value} {xss : List (List Nat)} {t : List Nat} {vals : List Value} (ho : w.ownsRow B 24 1 v xss.length vals)
    (hi : ∀ i, (h : i < xss.length) → ∃ u, vals[i]? = some u ∧ w.ownsRow B 5 1 u xss[i].length (byt xss[i]) ∧ ∀ x ∈ xss[i], x < 256)
    (hu : w.ownsRow B 5 1 u t.length (byt t)) (h3 : ∀ x ∈ t, x < 256)
    (ho1 : w1.ownsRow B 24 1 v' (xss.length + 1) (vals ++ [u])) (hg : w.grownBy w1 v.ownBlock) : Txts B w1 v' (xss ++ [t]) :=
  Txts.join ho hi (us := [u]) (yss := [t]) rfl (fun i h => by
    have hi0 : i = 0 := by simpa using h
    subst hi0
    exact ⟨u, rfl, hu, h3⟩) ho1 hg
theorem Txts.len {B : Nat} {w : World} {v : Value} {xss : List (List Nat)} (h : Txts B w v xss) : ∃ a c, v = .slice a xss.length c := by
  obtain ⟨a, c, e, _⟩ := h.rd
  exact ⟨a, c, e⟩
end Go.Proofs.Ytcljakdcejhfiab
