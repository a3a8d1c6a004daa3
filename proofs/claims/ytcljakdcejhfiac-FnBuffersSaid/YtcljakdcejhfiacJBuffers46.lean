import Derived.Test.YtcljakdcejhfiacJBuffers1
import Derived.Test.YtcljakdcejhfiacJBuffers3
import Derived.Test.YtcljakdcejhfiacJBuffers11
import Derived.Test.YtcljakdcejhfiacJBuffers13
import Derived.Test.YtcljakdcejhfiacJBuffers17
import Derived.Test.YtcljakdcejhfiacJBuffers18
import Derived.Test.YtcljakdcejhfiacJBuffers20
import Derived.Test.YtcljakdcejhfiacJBuffers32
import Derived.Test.YtcljakdcejhfiacJBuffers42
import Derived.Test.YtcljakdcejhfiacJBuffers43
import Derived.Test.YtcljakdcejhfiacJBuffers44
import Derived.Test.YtcljakdcejhfiacJBuffers45
import Derived.Laws.AppendOwnNone
import Derived.Deep.DeepCutAuto
namespace Go.Proofs.Ytcljakdcejhfiac
open Go.RowKit
theorem unb_packed (a : Option Addr) (cap : Nat) (bs : List Bool) (w : World) (hr : Rd w a (byt (packed bs))) (hcap : nb bs.length ≤ cap) (hl : bs.length ≤ 1048576) :
    Calls Try.prog 24 #[.slice a (nb bs.length) cap, .int .i64 (bs.length : Int)] w (UnbPost w (bs, 0)) := by
  have hb := nb_le bs.length
  have := implUnb_any a cap (packed bs) (bs.length : Int) w hr (packed_lt bs) (by rw [packed_len]; exact hcap) (by rw [packed_len]; omega) ⟨by omega, by omega⟩
  rwa [unp_packed, packed_len] at this
theorem packed_unp (ys : List Nat) (n : Int) (hy : ∀ y ∈ ys, y < 256) (h : (unp ys n).2 = 0) : packed (unp ys n).1 = ys := by
  by_cases h0 : n < 0
  · rw [unp_neg ys n h0] at h; simp at h
  obtain ⟨m, rfl⟩ : ∃ m : Nat, n = (m : Int) := ⟨n.toNat, by omega⟩
  by_cases h1 : nb m = ys.length
  · cases hc : clearFrom ys m with
    | false => rw [unp_bad ys m hc] at h; simp at h
    | true => rw [unp_ok ys m h1 hc]; exact packed_bitsOf ys m hy h1 hc
  · rw [unp_len ys m h1] at h; simp at h
theorem pack_back (a : Option Addr) (cap : Nat) (ys : List Nat) (n : Int) (w : World) (hr : Rd w a (bls (unp ys n).1)) (h : (unp ys n).2 = 0) (hy : ∀ y ∈ ys, y < 256) (hl : ys.length ≤ 1048576) :
    Calls Try.prog 25 #[.slice a (unp ys n).1.length cap] w fun e w' => ∃ a' c', e = .returned (.slice a' ys.length c') ∧ Rd w' a' (byt ys) ∧ Below w.heap.size w w' := by
  have hs := unp_short ys n
  have hp := packed_unp ys n hy h
  have hn : nb (unp ys n).1.length = ys.length := by rw [← packed_len, hp]
  refine (implPack_any a cap (unp ys n).1 w hr (by omega)).mono ?_
  rintro e w' ⟨g, rfl, ho, hb⟩
  rw [hp, hn] at ho
  exact ⟨_, _, by rw [hn], rd_at ho, hb⟩
theorem uni_back (a : Option Addr) (cap : Nat) (xs : List Int) (n : Int) (w : World) (hr : Rd w a (byt (pki xs n).1)) (h : (pki xs n).2 = 0) (hx : ∀ x ∈ (pki xs n).1, x < 256) (hcap : (pki xs n).1.length ≤ cap) (hl : xs.length ≤ 1048576) (hn : IntIn n) :
    Calls Try.prog 32 #[.slice a (pki xs n).1.length cap, .int .i64 n] w (UniPost w (xs, 0)) := by
  have hs := pki_short xs n
  have := implUni_any a cap (pki xs n).1 n w hr hx hcap (by omega) hn
  rwa [(uni_pki xs n h).1] at this
theorem pkiR_lt (W : Nat) (k : IntKind) (xs : List Int) : ∀ x ∈ (pkiR W k xs).1, x < 256 := by
  unfold pkiR
  split
  · exact flat_lt W xs
  · simp
theorem pki_lt (xs : List Int) (n : Int) : ∀ x ∈ (pki xs n).1, x < 256 := by
  by_cases h1 : n = 1
  · subst h1; exact pkiR_lt 1 .i8 xs
  by_cases h2 : n = 2
  · subst h2; exact pkiR_lt 2 .i16 xs
  by_cases h4 : n = 4
  · subst h4; exact pkiR_lt 4 .i32 xs
  by_cases h8 : n = 8
  · subst h8; exact pkiR_lt 8 .i64 xs
  rw [pki_no xs n (by omega)]; simp
theorem own_room {w : World} {B n c : Nat} {e : TypeId} {a : Option Addr} {vs : List Value} (h : w.ownsRow B e 1 (.slice a n c) n vs) : n ≤ c := by
  rcases h.2 with ⟨h1, h2⟩ | ⟨g, cap, cur, h1, _, _, hn, _⟩
  · omega
  · simp at h1; omega
theorem append_row {P : Program} {w : World} {ops : Array Oper} {rest : List Oper} {o : Oper} {a : Act} {Q : Exit → Act → World → Prop} (hgd : o.guard = none) (s x : Operand) (t : TypeId)
    (ho : o.op = .call { callee := .builtin .append, args := #[s, x], argTypes := #[t, t] })
    (base : Nat) (e : TypeId) (i : TypeInfo) (z : Value) (bytes : Nat) (ht : P.underlying t = some (.slice e)) (hi : P.info? e = some i) (hz : i.zero = some z)
    (hsize : i.size = 1) (hby : i.bytes = bytes) (hzs : z.cells.size = 1)
    (v : Value) (hs : a.eval s = v) (hown : w.ownsRow base e 1 v 0 [])
    (B : Nat) (ax : Option Addr) (m c : Nat) (news : List Value) (hx : a.eval x = .slice ax m c) (hsrc : w.ownsRow B e 1 (.slice ax m c) m news) (h1 : ∀ u ∈ news, u.oneCell' = true)
    (h63 : m ≤ maxLen) (hbytes : m * bytes ≤ 140737488355328) (hbase : base ≤ w.heap.size)
    (h : ∀ v' w', w'.ownsRow base e 1 v' m news → w.grownBy w' v.ownBlock → wpList P ops Q rest (a.put o.dst v') w') : wpList P ops Q (o :: rest) a w := by
  rcases hsrc.2 with ⟨h2, h3⟩ | ⟨g, cap, cur, h2, _⟩
  · rw [h2] at hx
    subst h3
    have hnil : news = [] := by have := hsrc.1; exact List.length_eq_zero_iff.1 (by omega)
    subst hnil
    exact wpList_append_own_none hgd s x t ho base e i 1 ht hi v 0 [] hs hown hx (h v w hown (World.grownBy.refl _ _))
  · rw [h2] at hx
    have hl : news.length = m := by have := hsrc.1; omega
    rw [h2] at hsrc
    refine wpList_append_own w hgd s x t ho base e i z 1 bytes ht hi hz hsize hby hzs (by decide) v 0 [] hs hown ⟨g, 0, none⟩ m cap news hx (by omega) (fun j u hu => ?_) h1 (by omega) (by rw [Nat.zero_add]; exact hbytes) hbase fun v' w' g1 g2 _ => h v' w' ?_ g2
    · have hj : j < m := by have := (List.getElem?_eq_some_iff.1 hu).1; omega
      have := hsrc.cellAt j (by omega)
      rw [show (⟨g, 0, none⟩ : Addr).add j = ⟨g, j, none⟩ from by unfold Addr.add; split <;> simp_all]
      rw [this]; exact hu
    · rw [Nat.zero_add] at g1; exact g1
theorem join_mod (xss : List (List Nat)) : ∀ k, k ≤ xss.length → (join (xss.take k)).length % 8 = 0 := by
  intro k
  induction k with
  | zero => intro _; simp [join]
  | succ k ih =>
    intro h
    rw [join_snoc xss k (by omega), joinStep_len]
    unfold padn
    omega
theorem join_at (xss : List (List Nat)) (k : Nat) (hk : k < xss.length) :
    (join (xss.take k)).length + xss[k].length + padn ((join (xss.take k)).length + xss[k].length) = (join (xss.take (k + 1))).length ∧
    (join (xss.take (k + 1))).length ≤ (join xss).length ∧
    (∀ i, i < xss[k].length → (join xss)[(join (xss.take k)).length + i]? = xss[k][i]?) ∧
    (∀ p, p < padn ((join (xss.take k)).length + xss[k].length) → (join xss)[(join (xss.take k)).length + xss[k].length + p]? = some 0) := by
  obtain ⟨r, hr⟩ := join_pre xss (k + 1) (by omega)
  have hs := join_snoc xss k hk
  have hl := joinStep_len (join (xss.take k)) xss[k]
  rw [← hs] at hl
  refine ⟨hl.symm, by rw [hr]; simp, fun i hi => ?_, fun p hp => ?_⟩
  · rw [hr, List.getElem?_append_left (by omega), hs]
    unfold joinStep
    rw [List.getElem?_append_left (by simp; omega), List.getElem?_append_right (by omega)]
    congr 1
    omega
  · rw [hr, List.getElem?_append_left (by omega), hs]
    unfold joinStep
    rw [List.getElem?_append_right (by simp), List.getElem?_replicate, if_pos (by simp; omega)]
theorem join_len2 (xss : List (List Nat)) : ∀ k, k ≤ xss.length → (join (xss.take k)).length ≤ tot (xss.take k) + 7 * k := by
  intro k
  induction k with
  | zero => intro _; simp [join]
  | succ k ih =>
    intro h
    have := padn_le ((join (xss.take k)).length + xss[k].length)
    rw [join_snoc xss k (by omega), joinStep_len, tot_snoc xss k (by omega)]
    have := ih (by omega)
    omega
theorem tot_le (m : Nat) : ∀ xss : List (List Nat), (∀ p ∈ xss, p.length ≤ m) → tot xss ≤ m * xss.length := by
  intro xss
  induction xss with
  | nil => intro _; simp [tot]
  | cons x xs ih =>
    intro h
    have h1 := h x (by simp)
    have h2 := ih (fun p hp => h p (by simp [hp]))
    simp only [tot, List.map_cons, List.sum_cons, List.length_cons] at *
    rw [Nat.mul_add]
    omega
theorem rd_piece {w : World} {b off A : Nat} {J ys : List Nat} (h : Rd w (some ⟨b, off, none⟩) (byt J)) (hy : ∀ i, i < ys.length → J[A + i]? = ys[i]?) (hl : A + ys.length ≤ J.length) : Rd w (some ⟨b, off + A, none⟩) (byt ys) := by
  by_cases h0 : ys = []
  · subst h0; exact .inl rfl
  have hpos : 0 < ys.length := by cases ys with | nil => exact absurd rfl h0 | cons => simp
  rcases h with h | ⟨b', off', e, hc⟩
  · have : (byt J).length = 0 := by rw [h]; rfl
    rw [byt_len] at this; omega
  simp only [Option.some.injEq, Addr.mk.injEq, and_true] at e
  obtain ⟨rfl, rfl⟩ := e
  refine .inr ⟨b, off + A, rfl, fun i hi => ?_⟩
  rw [byt_len] at hi
  have h2 := rdByte hc (A + i) (by omega)
  have h3 := hy i hi
  rw [List.getElem?_eq_getElem (by omega), List.getElem?_eq_getElem hi] at h3
  simp only [Option.some.injEq] at h3
  rw [Nat.add_assoc, h2, h3]
  simp [byt]
theorem rd_cell {w : World} {b off j x : Nat} {J : List Nat} (h : Rd w (some ⟨b, off, none⟩) (byt J)) (hj : J[j]? = some x) : w.cell? ⟨b, off + j, none⟩ = some (.int .u8 (x : Int)) := by
  obtain ⟨hlt, hx⟩ := List.getElem?_eq_some_iff.1 hj
  rcases h with h | ⟨b', off', e, hc⟩
  · have : (byt J).length = 0 := by rw [h]; rfl
    rw [byt_len] at this; omega
  simp only [Option.some.injEq, Addr.mk.injEq, and_true] at e
  obtain ⟨rfl, rfl⟩ := e
  rw [rdByte hc j hlt, hx]
end Go.Proofs.Ytcljakdcejhfiac
