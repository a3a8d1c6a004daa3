import Derived.Test.YtfaehioeepolhabGreatJCrashSender14
import Derived.Test.YtfaehioeepolhabGreatJCrashSender8
import Derived.Test.YtfaehioeepolhabGreatJCrashSender6
import Derived.Test.YtfaehioeepolhabGreatJCrashSender7
import Derived.Test.YtfaehioeepolhabGreatJCrashSender13
import Derived.Laws.ResultCell
import Derived.Deep.Cut
import Derived.Deep.RegionHeld
import Derived.Test.YtfaehioeepolhabGreatJCrashSender9
import Derived.Test.YtfaehioeepolhabGreatJCrashSender12
namespace Go.Proofs.YtfaehioeepolhabGreat
open Go.RowKit
theorem RowT.keptB {α : Type} {c : Cod α} {tk : Tk c} {e : TypeId} {B : Nat} {w w' : World} {v : Value} {xs : List α} (h : RowT tk e B w v xs) (hk : ∀ b, B ≤ b → b < w.heap.size → w'.heap[b]? = w.heap[b]?) : RowT tk e B w' v xs :=
 h.kept (fun b _ _ _ _ _ ho _ hp => hk b (World.ownsRow.lt ho b hp).1 (World.ownsRow.lt ho b hp).2)
section
variable {α : Type} (f : α → Nat) (mk : Nat → α → α)
def sumL (xs : List α) : Nat := (xs.map f).sum
def mkL : Nat → List α → List α
 | _, [] => []
 | m, x :: xs => mk m x :: mkL (m + f x) xs
theorem mkL_len : ∀ (m : Nat) (xs : List α), (mkL f mk m xs).length = xs.length
 | _, [] => rfl
 | m, x :: xs => by simp [mkL, mkL_len]
theorem mkL_at : ∀ (m : Nat) (xs : List α) (k : Nat) (h : k < xs.length), (mkL f mk m xs)[k]? = some (mk (m + sumL f (xs.take k)) xs[k])
 | m, x :: xs, 0, _ => by simp [mkL, sumL]
 | m, x :: xs, k + 1, h => by
  have hk : k < xs.length := by simpa using h
  rw [mkL, gU, mkL_at (m + f x) xs k hk]
  simp [sumL, Nat.add_assoc]
theorem sumL_snoc (xs : List α) (k : Nat) (h : k < xs.length) : sumL f (xs.take (k + 1)) = sumL f (xs.take k) + f xs[k] := sum_snoc f xs k h
theorem sumL_take (xs : List α) (k : Nat) : sumL f (xs.take k) ≤ sumL f xs := sum_take f xs k
def mixL (m : Nat) (ys : List α) (d k : Nat) : List α := ys.take d ++ ((mkL f mk m (ys.drop d)).take k ++ ys.drop (d + k))
theorem mixL_len (m : Nat) (ys : List α) (d k : Nat) (h : d + k ≤ ys.length) : (mixL f mk m ys d k).length = ys.length := by
 simp [mixL, mkL_len]; omega
theorem mixL_zero (m : Nat) (ys : List α) (d : Nat) : mixL f mk m ys d 0 = ys := by simp [mixL]
theorem mixL_at (m : Nat) (ys : List α) (d k : Nat) (h : d + k < ys.length) : (mixL f mk m ys d k)[d + k]? = some ys[d + k] := by
 have h1 : (ys.take d).length = d := by simp; omega
 have h2 : ((mkL f mk m (ys.drop d)).take k).length = k := by rw [List.length_take, mkL_len]; simp; omega
 unfold mixL
 rw [List.getElem?_append_right (by omega), h1, List.getElem?_append_right (by omega), h2]
 simp [h]
theorem mixL_succ (m : Nat) (ys : List α) (d k : Nat) (h : d + k < ys.length) : (mixL f mk m ys d k).set (d + k) (mk (m + sumL f ((ys.drop d).take k)) ys[d + k]) = mixL f mk m ys d (k + 1) := by
 have h1 : (ys.take d).length = d := by simp; omega
 have h2 : ((mkL f mk m (ys.drop d)).take k).length = k := by rw [List.length_take, mkL_len]; simp; omega
 have hd : ys.drop (d + k) = ys[d + k] :: ys.drop (d + (k + 1)) := List.drop_eq_getElem_cons h
 have hk : k < (ys.drop d).length := by simp; omega
 have ha := mkL_at f mk m (ys.drop d) k hk
 have hkk : k < (mkL f mk m (ys.drop d)).length := by rw [mkL_len]; exact hk
 rw [List.getElem?_eq_getElem hkk, Option.some.injEq] at ha
 unfold mixL
 rw [List.set_append_right _ _ (by omega), h1, show d + k - d = k from by omega, List.set_append_right _ _ (by omega), h2, Nat.sub_self, hd, List.set_cons_zero, List.take_succ_eq_append_getElem hkk, ha]
 simp
theorem mixL_done (m : Nat) (ys : List α) (d k : Nat) (h : d + k = ys.length) : mixL f mk m ys d k = ys.take d ++ mkL f mk m (ys.drop d) := by
 unfold mixL
 have h1 : (mkL f mk m (ys.drop d)).take k = mkL f mk m (ys.drop d) := List.take_of_length_le (by rw [mkL_len]; simp; omega)
 have h2 : ys.drop (d + k) = [] := List.drop_eq_nil_of_le (by omega)
 rw [h1, h2, List.append_nil]
end
theorem part_setAll {vs us : List Value} {n m k j0 : Nat} (hv : vs.length = m * n) (hk : k < m) (hj : j0 + us.length ≤ n) : part (setAll vs (k * n + j0) us) n k = setAll (part vs n k) j0 us := by
 have h : (k + 1) * n ≤ m * n := Nat.mul_le_mul_right _ hk
 rw [Nat.add_mul, Nat.one_mul] at h
 have hp := part_len hv hk
 apply List.ext_getElem?
 intro j
 rw [setAll_at us (part vs n k) j0 j (by omega)]
 by_cases hjn : j < n
 ·rw [part_at hjn, part_at hjn, setAll_at _ _ _ _ (by omega)]
  by_cases hc : j0 ≤ j ∧ j < j0 + us.length
  ·rw [if_pos (by omega), if_pos hc, show k * n + j - (k * n + j0) = j - j0 from by omega]
  ·rw [if_neg (by omega), if_neg hc]
 ·rw [if_neg (by omega), List.getElem?_eq_none (by simp [part]; omega), List.getElem?_eq_none (by omega)]
theorem part_setAllo {vs us : List Value} {n m k j0 i : Nat} (hv : vs.length = m * n) (hk : k < m) (hj : j0 + us.length ≤ n) (hne : i ≠ k) : part (setAll vs (k * n + j0) us) n i = part vs n i := by
 have h : (k + 1) * n ≤ m * n := Nat.mul_le_mul_right _ hk
 rw [Nat.add_mul, Nat.one_mul] at h
 apply List.ext_getElem?
 intro j
 by_cases hjn : j < n
 ·rw [part_at hjn, part_at hjn, setAll_at _ _ _ _ (by omega), if_neg]
  intro ⟨h1, h2⟩
  rcases Nat.lt_or_gt_of_ne hne with h3 | h3
  ·have : (i + 1) * n ≤ k * n := Nat.mul_le_mul_right _ h3
   rw [Nat.add_mul, Nat.one_mul] at this; omega
  ·have : (k + 1) * n ≤ i * n := Nat.mul_le_mul_right _ h3
   rw [Nat.add_mul, Nat.one_mul] at this; omega
 ·rw [List.getElem?_eq_none (by simp [part]; omega), List.getElem?_eq_none (by simp [part]; omega)]
theorem wsetAll_only {g : Nat} : ∀ (us : List Value) (w : World) (off : Nat), Only [g] w (wsetAll w g off us)
 | [], w, _ => Only.refl _ w
 | u :: us, w, off => (Only.mk rfl rfl rfl (by simp) (fun i _ hn => Below.heap_setCell _ ⟨g, off, none⟩ _ _ (fun e => hn (by simp [e]))) : Only [g] w (w.setCell ⟨g, off, none⟩ u)).trans (wsetAll_only us _ _)
theorem OwnSl.store {α : Type} {c : Cod α} {e : TypeId} {w : World} {xs : List α} {g n cap : Nat} {bs : List Nat} (h : OwnSl c e w xs (.slice (some ⟨g, 0, none⟩) n cap) bs) (hnd : bs.Nodup) {k : Nat} (hk : k < xs.length) (off j0 : Nat) (us : List Value) (hoff : off = k * c.n + j0) (hj : j0 + us.length ≤ c.n) (y : α)
  (hy : ∀ cs bk w', c.own w xs[k] cs bk → (∀ b ∈ bk, w'.heap[b]? = w.heap[b]?) → c.own w' y (setAll cs j0 us) bk) :
  OwnSl c e (wsetAll w g off us) (xs.set k y) (.slice (some ⟨g, 0, none⟩) n cap) bs ∧ Only bs w (wsetAll w g off us) := by
 rcases h with ⟨h0, _⟩ | ⟨g', cap', vs, bss, ev, ho, hb, hbl, hi⟩
 ·cases h0
 simp only [Value.slice.injEq, Option.some.injEq, Addr.mk.injEq, and_true] at ev
 obtain ⟨rfl, rfl, rfl⟩ := ev
 subst hoff hb
 have hvl : vs.length = xs.length * c.n := ho.1
 have hng := (List.nodup_cons.1 hnd).1
 have keep : ∀ j, j ≠ g → (wsetAll w g (k * c.n + j0) us).heap[j]? = w.heap[j]? := fun j hj => wsetAll_other us w g _ hj
 refine ⟨.inr ⟨g, cap, _, bss, by simp, by rw [List.length_set]; exact wsetAll_owns us w vs (k * c.n + j0) ho, rfl, by simpa using hbl, fun i h1 h2 => ?_⟩, (wsetAll_only us w _).mono (by simp)⟩
 have h1' : i < xs.length := by simpa using h1
 have hmem : ∀ b ∈ bss[i], b ≠ g := fun b hb e => hng (e ▸ List.mem_flatten.2 ⟨_, List.getElem_mem h2, hb⟩)
 by_cases ei : i = k
 ·subst ei
  rw [List.getElem_set_self, part_setAll hvl h1' hj]
  exact hy _ _ _ (hi i h1' h2) (fun b hb => keep b (hmem b hb))
 ·rw [List.getElem_set_ne (fun h => ei h.symm), part_setAllo hvl hk hj ei]
  exact c.kept (hi i h1' h2) (fun b hb => keep b (hmem b hb))
theorem OwnSl.cellAt {α : Type} {c : Cod α} {e : TypeId} {w : World} {xs : List α} {g n cap : Nat} {bs : List Nat} (h : OwnSl c e w xs (.slice (some ⟨g, 0, none⟩) n cap) bs) {j : Nat} (hj : j < xs.length * c.n) : ∃ y, w.cell? ⟨g, j, none⟩ = some y := by
 rcases h with ⟨h0, _⟩ | ⟨g', cap', vs, bss, ev, ho, hb, hbl, hi⟩
 ·cases h0
 simp only [Value.slice.injEq, Option.some.injEq, Addr.mk.injEq, and_true] at ev
 obtain ⟨rfl, rfl, rfl⟩ := ev
 have hvl : vs.length = xs.length * c.n := ho.1
 exact ⟨vs[j]'(by omega), by rw [ho.cellAt j hj, List.getElem?_eq_getElem]⟩
theorem OwnSl.frozenAt {α : Type} {c : Cod α} {e : TypeId} {w : World} {xs : List α} {g n cap : Nat} {bs : List Nat} (h : OwnSl c e w xs (.slice (some ⟨g, 0, none⟩) n cap) bs) (j : Nat) : w.frozen? ⟨g, j, none⟩ = false := by
 rcases h with ⟨h0, _⟩ | ⟨g', cap', vs, bss, ev, ho, hb, hbl, hi⟩
 ·cases h0
 simp only [Value.slice.injEq, Option.some.injEq, Addr.mk.injEq, and_true] at ev
 obtain ⟨rfl, rfl, rfl⟩ := ev
 exact ho.frozenAt j
theorem OwnSl.focus2 {α : Type} {c : Cod α} {e : TypeId} {w : World} {xs : List α} {v : Value} {bs : List Nat} (h : OwnSl c e w xs v bs) (hnd : bs.Nodup) {k : Nat} (hk : k < xs.length) :
  ∃ g cap cs bk, v = .slice (some ⟨g, 0, none⟩) xs.length cap ∧ c.own w xs[k] cs bk ∧ bk.Nodup ∧ (∀ b ∈ bk, b ∈ bs) ∧ g ∉ bk ∧ (∀ j, j < c.n → w.cell? ⟨g, k * c.n + j, none⟩ = cs[j]?) ∧
   ∀ w' y, c.own w' y cs bk → Only bk w w' → OwnSl c e w' (xs.set k y) v bs := by
 rcases h with ⟨_, rfl, _⟩ | ⟨g, cap, vs, bss, rfl, ho, rfl, hbl, hi⟩
 ·simp at hk
 ·have hkb : k < bss.length := by omega
  have hnf := (List.nodup_cons.1 hnd).2
  have hng := (List.nodup_cons.1 hnd).1
  have hmem : ∀ i, (h : i < bss.length) → ∀ b ∈ bss[i], b ∈ List.flatten bss := fun i h b hb => List.mem_flatten.2 ⟨_, List.getElem_mem h, hb⟩
  refine ⟨g, cap, part vs c.n k, bss[k], rfl, hi k hk hkb, ?_, fun b hb => List.mem_cons_of_mem _ (hmem k hkb b hb), fun h => hng (hmem k hkb _ h), fun j hj => ?_, fun w' y hy hon => ?_⟩
  ·exact flat_one hnf k hkb
  ·have hlt : k * c.n + j < xs.length * c.n := by
    have : (k + 1) * c.n ≤ xs.length * c.n := Nat.mul_le_mul_right _ hk
    rw [Nat.add_mul, Nat.one_mul] at this; omega
   rw [ho.cellAt _ hlt, part_at hj]
  ·have hgl := (World.ownsRow.lt ho g rfl).2
   refine .inr ⟨g, cap, vs, bss, by simp, ?_, rfl, by simp [hbl], fun i h1 h2 => ?_⟩
   ·have := ownsRow_kept ho (w' := w') (fun b hb => by
     simp [Value.ownBlock] at hb; subst hb
     exact hon.block _ hgl (fun hm => hng (hmem k hkb _ hm)))
    simpa using this
   ·have h1' : i < xs.length := by simpa using h1
    by_cases e : i = k
    ·subst e
     simpa using hy
    ·rw [List.getElem_set_ne (fun h => e h.symm)]
     exact c.only (hi i h1' h2) hon (flat_other hnf h2 hkb e)
structure OwnCut {α : Type} (c : Cod α) (e : TypeId) (w : World) (ys : List α) (d : Nat) (a : Option Addr) (cap : Nat) (bs : List Nat) : Prop where
 le : d ≤ ys.length
 len : ys.length - d ≤ cap
 room : cap ≤ maxLen
 nil : a = none → cap = 0
 own : ∃ v, OwnSl c e w ys v bs ∧ (d < ys.length → ∃ g cp, v = .slice (some ⟨g, 0, none⟩) ys.length cp ∧ a = some ⟨g, d * c.n, none⟩)
theorem OwnCut.rd {α : Type} {c : Cod α} {e : TypeId} {w : World} {ys : List α} {d : Nat} {a : Option Addr} {cap : Nat} {bs : List Nat} (h : OwnCut c e w ys d a cap bs) : RdSl c w (ys.drop d) (.slice a (ys.length - d) cap) := by
 obtain ⟨hle, hlen, hroom, hnil, v, ho, hv⟩ := h
 refine ⟨a, cap, by simp, by simpa using hlen, hroom, hnil, ?_⟩
 by_cases hd : d < ys.length
 ·obtain ⟨g, cp, rfl, rfl⟩ := hv hd
  obtain ⟨a', cap', e', _, _, _, h4⟩ := ho.rd
  simp only [Value.slice.injEq] at e'
  obtain ⟨rfl, _, rfl⟩ := e'
  rcases h4 with h0 | ⟨b, off, e2, hat⟩
  ·subst h0; simp at hd
  ·simp only [Option.some.injEq, Addr.mk.injEq, and_true] at e2
   obtain ⟨rfl, rfl⟩ := e2
   refine .inr ⟨g, d * c.n, rfl, fun i hi => ?_⟩
   have hi' : d + i < ys.length := by simp at hi; omega
   obtain ⟨es, he, hc⟩ := hat (d + i) hi'
   refine ⟨es, by simpa using he, fun j hj => ?_⟩
   have := hc j hj
   rw [show d * c.n + (i * c.n + j) = 0 + ((d + i) * c.n + j) from by rw [Nat.add_mul]; omega]
   exact this
 ·exact .inl (List.drop_eq_nil_of_le (by omega))
theorem OwnCut.kept {α : Type} {c : Cod α} {e : TypeId} {w w' : World} {ys : List α} {d : Nat} {a : Option Addr} {cap : Nat} {bs : List Nat} (h : OwnCut c e w ys d a cap bs) (hk : ∀ b ∈ bs, w'.heap[b]? = w.heap[b]?) : OwnCut c e w' ys d a cap bs := by
 obtain ⟨hle, hlen, hroom, hnil, v, ho, hv⟩ := h
 exact ⟨hle, hlen, hroom, hnil, v, ho.kept hk, hv⟩
theorem OwnCut.lt {α : Type} {c : Cod α} {e : TypeId} {w : World} {ys : List α} {d : Nat} {a : Option Addr} {cap : Nat} {bs : List Nat} (h : OwnCut c e w ys d a cap bs) : ∀ b ∈ bs, b < w.heap.size := by
 obtain ⟨hle, hlen, hroom, hnil, v, ho, hv⟩ := h
 exact ho.lt
theorem OwnCut.later {α : Type} {c : Cod α} {e : TypeId} {w w' : World} {ys : List α} {d : Nat} {a : Option Addr} {cap : Nat} {bs : List Nat} (h : OwnCut c e w ys d a cap bs) (hb : Below w.heap.size w w') : OwnCut c e w' ys d a cap bs := h.kept (fun b hm => hb.block b (h.lt b hm))
theorem OwnSl.cut0 {α : Type} {c : Cod α} {e : TypeId} {w : World} {xs : List α} {a : Option Addr} {n cap : Nat} {bs : List Nat} (h : OwnSl c e w xs (.slice a n cap) bs) : OwnCut c e w xs 0 a cap bs := by
 obtain ⟨a', cap', e', h1, h2, h3, h4⟩ := id h.rd
 simp only [Value.slice.injEq] at e'
 obtain ⟨rfl, rfl, rfl⟩ := e'
 refine ⟨Nat.zero_le _, by omega, h2, h3, _, h, fun hd => ?_⟩
 rcases h with ⟨h0, h5, _⟩ | ⟨g, cp, vs, bss, ev, _⟩
 ·subst h5; simp at hd
 ·refine ⟨g, cp, ev, ?_⟩
  simp only [Value.slice.injEq] at ev
  rw [ev.1, Nat.zero_mul]
theorem ownB_kept {w w' : World} {xs : List Nat} {v : Value} {bs : List Nat} (h : OwnSl cByte 5 w xs v bs) (hb : Below w.heap.size w w') : OwnSl cByte 5 w' xs v bs := h.kept (fun b hm => hb.block b (h.lt b hm))
def fcSameL (W : World) : Fct := ⟨fun _ w => Below W.heap.size W w, fun _ _ _ h hb => bC h hb⟩
def fcPk (lo : Nat) (p : PP) : Fct := ⟨fun v w => ∃ a c bk, v = .agg #[.int .i64 p.kind, .int .i64 p.epoch, .int .i64 p.seq, .int .i64 p.count, .bool p.last, .slice a p.data.length c] ∧ OwnSl cByte 5 w p.data (.slice a p.data.length c) bk ∧ (∀ b ∈ bk, lo ≤ b) ∧ bk.Nodup, fun _ _ _ ⟨a, c, bk, e, h1, h2, h3⟩ hb => ⟨a, c, bk, e, ownB_kept h1 hb, h2, h3⟩⟩
theorem MadeN.later {α : Type} {n : Nat} {c : Cod α} {e : TypeId} {w wr w2 : World} {xs : List α} {k : Nat} (hm : MadeN n c e w wr xs k) (b2 : Below wr.heap.size wr w2) : MadeN n c e w w2 xs k := by
 obtain ⟨vs, bss, how, hbl, hown, hin, hnn⟩ := hm
 refine ⟨vs, bss, ownsRow_kept how (fun b hb => b2.block b (World.ownsRow.lt how b hb).2), hbl, fun i h1 h2 => c.ownLater (hown i h1 h2) b2, fun b hb => ?_, hnn⟩
 have := hin b hb
 have := b2.size
 omega
theorem ownsRow_mono {w : World} {B B' n s : Nat} {e : TypeId} {v : Value} {vs : List Value} (h : w.ownsRow B e s v n vs) (hB : ∀ g, v.ownBlock = some g → B' ≤ g) : w.ownsRow B' e s v n vs := by
 refine ⟨h.1, ?_⟩
 rcases h.2 with h2 | ⟨g, cap, cur, rfl, hg, r⟩
 ·exact .inl h2
 ·exact .inr ⟨g, cap, cur, rfl, hB g rfl, r⟩
theorem part_left {vs cs : List Value} {n m i : Nat} (hv : vs.length = m * n) (hi : i < m) : part (vs ++ cs) n i = part vs n i := by
 have h : (i + 1) * n ≤ m * n := Nat.mul_le_mul_right _ hi
 rw [Nat.add_mul, Nat.one_mul] at h
 apply List.ext_getElem?
 intro j
 by_cases hj : j < n
 ·rw [part_at hj, part_at hj, List.getElem?_append_left (by omega)]
 ·rw [List.getElem?_eq_none (by simp [part]; omega), List.getElem?_eq_none (by simp [part]; omega)]
theorem part_last {vs cs : List Value} {n m : Nat} (hv : vs.length = m * n) (hc : cs.length = n) : part (vs ++ cs) n m = cs := by
 apply List.ext_getElem?
 intro j
 by_cases hj : j < n
 ·rw [part_at hj, List.getElem?_append_right (by omega)]
  congr 1
  omega
 ·rw [List.getElem?_eq_none (by simp [part]; omega), List.getElem?_eq_none (by omega)]
theorem OwnSl.grow {α : Type} {c : Cod α} {e : TypeId} {w : World} {xs : List α} {v : Value} {bs : List Nat} {B : Nat} {x : α} {cs : List Value} {bk : List Nat} (h : OwnSl c e w xs v bs) (hnd : bs.Nodup) (hB : ∀ b ∈ bs, B ≤ b) (hBs : B ≤ w.heap.size)
  (ho : c.own w x cs bk) (hbn : bk.Nodup) (hbB : ∀ b ∈ bk, B ≤ b) (hdis : ∀ b ∈ bk, b ∉ bs) :
  ∃ vals, w.ownsRow B e c.n v xs.length vals ∧ ∀ g cap w', w'.ownsRow B e c.n (.slice (some ⟨g, 0, none⟩) (xs.length + 1) cap) (xs.length + 1) (vals ++ cs) → w.grownBy w' v.ownBlock → (v.ownBlock = some g ∨ g = w.heap.size) →
   ∃ bs', OwnSl c e w' (xs ++ [x]) (.slice (some ⟨g, 0, none⟩) (xs ++ [x]).length cap) bs' ∧ bs'.Nodup ∧ (∀ b ∈ bs', B ≤ b ∧ (b ∈ bs ∨ b ∈ bk ∨ b = w.heap.size)) := by
 have hlt := c.lt ho
 rcases h with ⟨rfl, rfl, rfl⟩ | ⟨g0, cap0, vs, bss, rfl, hr, rfl, hbl, hi⟩
 ·refine ⟨[], World.ownsRow_nil _ _ _ _, fun g cap w' hw hg hat => ?_⟩
  have hgs : g = w.heap.size := by
   rcases hat with h1 | h1
   ·simp [Value.ownBlock] at h1
   ·exact h1
  have hkeep : ∀ b ∈ bk, w'.heap[b]? = w.heap[b]? := fun b hb => hg.block b (hlt b hb) (by simp [Value.ownBlock])
  refine ⟨g :: List.flatten [bk], .inr ⟨g, cap, [] ++ cs, [bk], by simp, ?_, rfl, by simp, fun i h1 h2 => ?_⟩, ?_, ?_⟩
  ·have := ownsRow_mono hw (B' := 0) (fun _ _ => Nat.zero_le _)
   simpa using this
  ·obtain rfl : i = 0 := by simp at h1; omega
   have hp : part ([] ++ cs) c.n 0 = cs := part_last (m := 0) (by simp) (c.len (c.ownRd ho))
   rw [hp]
   simpa using c.kept ho hkeep
  ·simp only [List.flatten_cons, List.flatten_nil, List.append_nil]
   exact List.nodup_cons.2 ⟨fun hb => by have := hlt g hb; omega, hbn⟩
  ·intro b hb
   simp only [List.flatten_cons, List.flatten_nil, List.append_nil, List.mem_cons] at hb
   rcases hb with rfl | hb
   ·exact ⟨by omega, .inr (.inr hgs)⟩
   ·exact ⟨hbB b hb, .inr (.inl hb)⟩
 ·have hng := (List.nodup_cons.1 hnd).1
  have hnf := (List.nodup_cons.1 hnd).2
  have hvl : vs.length = xs.length * c.n := hr.1
  refine ⟨vs, ownsRow_mono hr (fun g h => by simp [Value.ownBlock] at h; subst h; exact hB _ (by simp)), fun g cap w' hw hg hat => ?_⟩
  have hg0 : g0 < w.heap.size := (World.ownsRow.lt hr g0 rfl).2
  have hmem : ∀ i, (h : i < bss.length) → ∀ b ∈ bss[i], b ∈ List.flatten bss := fun i h b hb => List.mem_flatten.2 ⟨_, List.getElem_mem h, hb⟩
  have hfl : ∀ b ∈ List.flatten bss, b < w.heap.size := fun b hb => by
   obtain ⟨l, hl, hb⟩ := List.mem_flatten.1 hb
   obtain ⟨i, hi', rfl⟩ := List.getElem_of_mem hl
   exact c.lt (hi i (by omega) hi') b hb
  have hgn : g ∉ List.flatten bss ∧ g ∉ bk := by
   rcases hat with h1 | h1
   ·simp [Value.ownBlock] at h1
    subst h1
    exact ⟨hng, fun hb => hdis _ hb (by simp)⟩
   ·exact ⟨fun hb => by have := hfl g hb; omega, fun hb => by have := hlt g hb; omega⟩
  have kf : ∀ b ∈ List.flatten bss, w'.heap[b]? = w.heap[b]? := fun b hb => hg.block b (hfl b hb) (fun e => by simp [Value.ownBlock] at e; subst e; exact hng hb)
  have kb : ∀ b ∈ bk, w'.heap[b]? = w.heap[b]? := fun b hb => hg.block b (hlt b hb) (fun e => by simp [Value.ownBlock] at e; subst e; exact hdis _ hb (by simp))
  refine ⟨g :: List.flatten (bss ++ [bk]), .inr ⟨g, cap, vs ++ cs, bss ++ [bk], by simp, ?_, rfl, by simp [hbl], fun i h1 h2 => ?_⟩, ?_, ?_⟩
  ·have := ownsRow_mono hw (B' := 0) (fun _ _ => Nat.zero_le _)
   simpa using this
  ·by_cases he : i = xs.length
   ·subst he
    rw [part_last hvl (c.len (c.ownRd ho))]
    have e1 : (xs ++ [x])[xs.length] = x := by simp
    have e2 : (bss ++ [bk])[xs.length] = bk := by simp [← hbl]
    rw [e1, e2]
    exact c.kept ho kb
   ·have h1' : i < xs.length := by simp at h1; omega
    have h2' : i < bss.length := by omega
    rw [part_left hvl h1']
    have e1 : (xs ++ [x])[i] = xs[i] := List.getElem_append_left h1'
    have e2 : (bss ++ [bk])[i] = bss[i] := List.getElem_append_left h2'
    rw [e1, e2]
    exact c.kept (hi i h1' h2') (fun b hb => kf b (hmem i h2' b hb))
  ·rw [List.flatten_append]
   simp only [List.flatten_cons, List.flatten_nil, List.append_nil]
   refine List.nodup_cons.2 ⟨fun hb => ?_, List.nodup_append.2 ⟨hnf, hbn, fun a ha b hb e => ?_⟩⟩
   ·rcases List.mem_append.1 hb with h1 | h1
    ·exact hgn.1 h1
    ·exact hgn.2 h1
   ·subst e
    exact hdis _ hb (List.mem_cons_of_mem _ ha)
  ·intro b hb
   rw [List.flatten_append] at hb
   simp only [List.flatten_cons, List.flatten_nil, List.append_nil, List.mem_cons, List.mem_append] at hb
   rcases hb with rfl | hb | hb
   ·rcases hat with h1 | h1
    ·simp [Value.ownBlock] at h1
     subst h1
     exact ⟨hB _ (by simp), .inl (by simp)⟩
    ·exact ⟨by omega, .inr (.inr h1)⟩
   ·exact ⟨hB b (List.mem_cons_of_mem _ hb), .inl (List.mem_cons_of_mem _ hb)⟩
   ·exact ⟨hbB b hb, .inr (.inl hb)⟩
theorem own_block_mem {α : Type} {c : Cod α} {e : TypeId} {w : World} {xs : List α} {v : Value} {bs : List Nat} {g : Nat} (h : OwnSl c e w xs v bs) (hg : v.ownBlock = some g) : g ∈ bs := by
 rcases h with ⟨rfl, _⟩ | ⟨g', cap, vs, bss, rfl, ho, rfl, hbl, hi⟩
 ·simp [Value.ownBlock] at hg
 ·simp [Value.ownBlock] at hg
  subst hg
  simp
theorem own_in7 {w : World} {B n s g : Nat} {e : TypeId} {v : Value} {vs : List Value} (h : w.ownsRow B e s v n vs) (hg : v.ownBlock = some g) : B ≤ g ∧ g < w.heap.size := World.ownsRow.lt h g hg
def fcSn (lo : Nat) (s : PW) : Fct := ⟨fun v w => ∃ a c bk, v = .agg #[.int .i64 s.pkt.kind, .int .i64 s.pkt.epoch, .int .i64 s.pkt.seq, .int .i64 s.pkt.count, .bool s.pkt.last, .slice a s.pkt.data.length c, .int .i64 s.at_] ∧ OwnSl cByte 5 w s.pkt.data (.slice a s.pkt.data.length c) bk ∧ (∀ b ∈ bk, lo ≤ b) ∧ bk.Nodup, fun _ _ _ ⟨a, c, bk, e, h1, h2, h3⟩ hb => ⟨a, c, bk, e, ownB_kept h1 hb, h2, h3⟩⟩
def fcMadeS (w : World) (xs : List PW) (k : Nat) : Fct := ⟨fun _ wx => MadeN 7 cSnt 141 w wx xs k, fun _ _ _ h hb => h.later hb⟩
def OutBox (B gm : Nat) (e n t : Int) (xs : List PW) (w : World) : Prop :=
 ∃ a c bs, w.heap[gm]? = some (.cells #[.int .i64 e, .int .i64 n, .int .i64 t, .slice a xs.length c] 41 (0, 0)) ∧ OwnSl cSnt 141 w xs (.slice a xs.length c) bs ∧ bs.Nodup ∧ ∀ b ∈ bs, B ≤ b ∧ b ≠ gm
theorem OutBox.later {B gm : Nat} {e n t : Int} {xs : List PW} {w w' : World} (h : OutBox B gm e n t xs w) (hb : Below w.heap.size w w') : OutBox B gm e n t xs w' := by
 obtain ⟨a, c, bs, h1, h2, h3, h4⟩ := h
 exact ⟨a, c, bs, (hb.block _ (Array.getElem?_eq_some_iff.1 h1).1).trans h1, h2.kept (fun b hm => hb.block b (h2.lt b hm)), h3, h4⟩
def fcOneS (lo : Nat) (s : PW) : Fct := ⟨fun v w => ∃ g a c bk, v = .slice (some ⟨g, 0, none⟩) 1 1 ∧ w.heap[g]? = some (.cells #[.int .i64 s.pkt.kind, .int .i64 s.pkt.epoch, .int .i64 s.pkt.seq, .int .i64 s.pkt.count, .bool s.pkt.last, .slice a s.pkt.data.length c, .int .i64 s.at_] 141 (0, 0)) ∧ OwnSl cByte 5 w s.pkt.data (.slice a s.pkt.data.length c) bk ∧ (∀ b ∈ bk, lo ≤ b) ∧ bk.Nodup,
 fun _ _ _ ⟨g, a, c, bk, e, h0, h1, h2, h3⟩ hb => ⟨g, a, c, bk, e, (hb.block _ (Array.getElem?_eq_some_iff.1 h0).1).trans h0, ownB_kept h1 hb, h2, h3⟩⟩
def fcGotS (B gm : Nat) (e n t : Int) (acc : Value) (xs : List PW) : Fct := ⟨fun v w => w.heap[gm]? = some (.cells #[.int .i64 e, .int .i64 n, .int .i64 t, acc] 41 (0, 0)) ∧ ∃ a c bs, v = .slice a xs.length c ∧ OwnSl cSnt 141 w xs (.slice a xs.length c) bs ∧ bs.Nodup ∧ ∀ b ∈ bs, B ≤ b ∧ b ≠ gm,
 fun _ _ _ ⟨h1, a, c, bs, e, h2, h3⟩ hb => ⟨(hb.block _ (Array.getElem?_eq_some_iff.1 h1).1).trans h1, a, c, bs, e, h2.kept (fun b hm => hb.block b (h2.lt b hm)), h3⟩⟩
def fcPutS (B gm : Nat) (e n t : Int) (xs : List PW) : Fct := ⟨fun _ w => OutBox B gm e n t xs w, fun _ _ _ h hb => h.later hb⟩
theorem outBox_put {B gm : Nat} {e n t : Int} {acc : Value} {xs : List PW} {w : World} {a : Option Addr} {c : Nat} {bs : List Nat} (h : w.heap[gm]? = some (.cells #[.int .i64 e, .int .i64 n, .int .i64 t, acc] 41 (0, 0))) (ho : OwnSl cSnt 141 w xs (.slice a xs.length c) bs) (hn : bs.Nodup) (hb : ∀ b ∈ bs, B ≤ b ∧ b ≠ gm) :
  OutBox B gm e n t xs (w.setCell ⟨gm, 3, none⟩ (.slice a xs.length c)) :=
 ⟨a, c, bs, heap_setCell_same _ _ 3 _ _ _ h, ho.kept (fun b hm => Below.heap_setCell _ ⟨gm, 3, none⟩ _ _ (hb b hm).2), hn, hb⟩
set_option linter.unusedVariables false in
def soT (B lo gm gO b off c n k : Nat) (s : PW) (an : Option Addr) (cn : Nat) (acc : Value) (e nx t : Int) (xs : List PW) : Nat → FX
 | 0 => FX.eq (.pointer (some ⟨gm, 3, none⟩))
 | 1 => FX.eq (acc)
 | 2 => FX.eq (.pointer (some ⟨gO, 3, none⟩))
 | 3 => FX.eq (.slice (some ⟨b, off, none⟩) n c)
 | 4 => FX.eq (.int .i64 (k : Int))
 | 5 => FX.eq (.pointer (some ⟨b, off + k * 7, none⟩))
 | 6 => FX.eq (.pointer (some ⟨b, off + k * 7, none⟩))
 | 7 => FX.eq (.agg #[.int .i64 s.pkt.kind, .int .i64 s.pkt.epoch, .int .i64 s.pkt.seq, .int .i64 s.pkt.count, .bool s.pkt.last, .slice an s.pkt.data.length cn])
 | 8 => FX.pre [17, 19] (fcPk lo s.pkt)
 | 9 => FX.eq (.pointer (some ⟨gO, 3, none⟩))
 | 10 => FX.eq (.slice (some ⟨b, off, none⟩) n c)
 | 11 => FX.eq (.int .i64 (k : Int))
 | 12 => FX.eq (.pointer (some ⟨b, off + k * 7, none⟩))
 | 13 => FX.eq (.pointer (some ⟨b, off + k * 7 + 6, none⟩))
 | 14 => FX.eq (.int .i64 s.at_)
 | 15 => FX.pre [17, 19] (fcSn lo s)
 | 16 => FX.pre [17, 19] (fcOneS lo s)
 | 17 => FX.pre [19] (fcGotS B gm e nx t acc (xs ++ [s]))
 | 18 => FX.eq (.pointer (some ⟨gm, 3, none⟩))
 | 19 => FX.is (fcPutS B gm e nx t (xs ++ [s]))
 | _ => FX.eq undef
set_option maxRecDepth 100000 in
set_option maxHeartbeats 2000000 in
theorem l5packet_any (p : PP) (a : Option Addr) (c : Nat) (w : World) (hr : RdSl cByte w p.data (.slice a p.data.length c)) (hl : p.data.length ≤ 1048576) :
  Calls Tryz.prog 113 #[.agg #[.int .i64 p.kind, .int .i64 p.epoch, .int .i64 p.seq, .int .i64 p.count, .bool p.last, .slice a p.data.length c]] w fun e w' => ∃ a2 c2 bk, e = .returned (.agg #[.int .i64 p.kind, .int .i64 p.epoch, .int .i64 p.seq, .int .i64 p.count, .bool p.last, .slice a2 p.data.length c2]) ∧ OwnSl cByte 5 w' p.data (.slice a2 p.data.length c2) bk ∧ (∀ b ∈ bk, w.heap.size ≤ b) ∧ bk.Nodup ∧ Below w.heap.size w w' := by
 have HR := hid hr
 have HBY : Hid (∀ x ∈ p.data, x < 256) := hid (by obtain ⟨_, _, _, _, _, _, _, h⟩ := hr.bytes; exact h)
 clear hr
 go_enter Tryz.func113, Tryz.ntmps113
 go_wp2_with fail
 refine (l1copy_any a c p.data _ (HR.out.later (below_new2 _ _ _)) hl).mono ?_
 rintro e w2 ⟨v2, rfl, o2, b2⟩
 obtain ⟨a2, c2, rfl, -⟩ := rd_own o2
 have hg := fun g h => own_in (g := g) o2 h
 rw [size2] at hg b2
 obtain ⟨k0, k1⟩ := heap2 _ _ b2
 have c00 := cR w2 _ 0 _ _ _ k0
 have f00 := fR w2 _ 0 _ _ k0
 have c10 := cR w2 _ 0 _ _ _ k1
 have f10 := fR w2 _ 0 _ _ k1
 have c01 := cR w2 _ 1 _ _ _ k0
 have f01 := fR w2 _ 1 _ _ k0
 have c11 := cR w2 _ 1 _ _ _ k1
 have f11 := fR w2 _ 1 _ _ k1
 have c02 := cR w2 _ 2 _ _ _ k0
 have f02 := fR w2 _ 2 _ _ k0
 have c12 := cR w2 _ 2 _ _ _ k1
 have f12 := fR w2 _ 2 _ _ k1
 have c03 := cR w2 _ 3 _ _ _ k0
 have f03 := fR w2 _ 3 _ _ k0
 have c13 := cR w2 _ 3 _ _ _ k1
 have f13 := fR w2 _ 3 _ _ k1
 have c04 := cR w2 _ 4 _ _ _ k0
 have f04 := fR w2 _ 4 _ _ k0
 have c14 := cR w2 _ 4 _ _ _ k1
 have f14 := fR w2 _ 4 _ _ k1
 have c05 := cR w2 _ 5 _ _ _ k0
 have f05 := fR w2 _ 5 _ _ k0
 have c15 := cR w2 _ 5 _ _ _ k1
 have f15 := fR w2 _ 5 _ _ k1
 simp only [gA, gZ, gU] at c00 c10 c01 c11 c02 c12 c03 c13 c04 c14 c05 c15
 have K1 := hid k1
 have HB : Hid (Below w.heap.size w w2) := hid ((below_new2 w _ _).trans (b2.mono (by omega)))
 have HO := hid (ownSl_bytes o2 HBY.out)
 have HG : Hid (∀ b ∈ (Value.slice a2 p.data.length c2).ownBlock.toList, w.heap.size + 2 ≤ b) := hid (fun b hb => (hg b (by simpa using hb)).1)
 have HN : Hid ((Value.slice a2 p.data.length c2).ownBlock.toList.Nodup) := hid (by cases (Value.slice a2 p.data.length c2).ownBlock <;> simp)
 generalize (Value.slice a2 p.data.length c2).ownBlock.toList = bk at *
 have h01 : w.heap.size + 1 ≠ w.heap.size := by omega
 clear k0 k1 b2 o2 hg
 go_wp2
 refine bodyPost_ret (results_cell_row rfl _ _ (w.heap.size + 1) 139 #[.int .i64 p.kind, .int .i64 p.epoch, .int .i64 p.seq, .int .i64 p.count, .bool p.last, .slice a2 p.data.length c2] (0, 0) _ rfl (set6 ((Below.heap_setCell _ ⟨w.heap.size, 5, none⟩ _ _ h01).trans K1.out)) Tryz.underlying139 rfl (by kernel_rfl)) rfl ?_
 refine ⟨a2, c2, bk, rfl, HO.out.kept (fun b hb => ?_), fun b hb => by have := HG.out b hb; omega, HN.out, set6b (HB.out.setCell (p := ⟨w.heap.size, 5, none⟩) (by simp only []; omega) _) (by omega)⟩
 have := HG.out b hb
 exact (set6o (by omega)).trans (Below.heap_setCell _ ⟨w.heap.size, 5, none⟩ _ _ (by simp only []; omega))
end Go.Proofs.YtfaehioeepolhabGreat
