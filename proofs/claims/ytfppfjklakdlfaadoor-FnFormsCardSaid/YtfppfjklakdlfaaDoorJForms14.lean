import Derived.Test.YtfppfjklakdlfaaDoorJForms6
import Derived.Test.YtfppfjklakdlfaaDoorJForms7
import Derived.Test.YtfppfjklakdlfaaDoorJForms13
namespace Go.Proofs.YtfppfjklakdlfaaDoor
open Go.RowKit
theorem xor_zero_eq {a b : Nat} (h : a ^^^ b = 0) : a = b := by
  have : a ^^^ b ^^^ b = b := by rw [h, Nat.zero_xor]
  rwa [Nat.xor_assoc, Nat.xor_self, Nat.xor_zero] at this
theorem xor_left_inj {a x y : Nat} (h : a ^^^ x = a ^^^ y) : x = y := by
  have : a ^^^ (a ^^^ x) = a ^^^ (a ^^^ y) := by rw [h]
  rwa [← Nat.xor_assoc, ← Nat.xor_assoc, Nat.xor_self, Nat.zero_xor, Nat.zero_xor] at this
theorem cstep_zero {n : Nat} (hn : n < 4294967296) (h : cstep n = 0) : n = 0 := by
  unfold cstep at h
  split at h
  · have := xor_zero_eq h
    omega
  · omega
theorem csteps_zero (k : Nat) {n : Nat} (hn : n < 4294967296) (h : csteps k n = 0) : n = 0 := by
  induction k with
  | zero => exact h
  | succ k ih => exact ih (cstep_zero (csteps_lt k hn) h)
theorem csteps_inj (k : Nat) {a b : Nat} (ha : a < 4294967296) (hb : b < 4294967296) (h : csteps k a = csteps k b) : a = b := by
  have e : csteps k (a ^^^ b) = 0 := by rw [csteps_xor, h, Nat.xor_self]
  exact xor_zero_eq (csteps_zero k (Nat.xor_lt_two_pow (n := 32) ha hb) e)
theorem crcIn_inj {a b x : Nat} (ha : a < 4294967296) (hb : b < 4294967296) (hx : x < 256) (h : crcIn a x = crcIn b x) : a = b := by
  unfold crcIn at h
  have h2 := csteps_inj 8 (Nat.xor_lt_two_pow (n := 32) ha (by omega)) (Nat.xor_lt_two_pow (n := 32) hb (by omega)) h
  rw [Nat.xor_comm a, Nat.xor_comm b] at h2
  exact xor_left_inj h2
theorem crcIn_inj2 {a x y : Nat} (ha : a < 4294967296) (hx : x < 256) (hy : y < 256) (h : crcIn a x = crcIn a y) : x = y := by
  unfold crcIn at h
  exact xor_left_inj (csteps_inj 8 (Nat.xor_lt_two_pow (n := 32) ha (by omega)) (Nat.xor_lt_two_pow (n := 32) ha (by omega)) h)
theorem fold_inj (xs : List Nat) (hx : ∀ x ∈ xs, x < 256) : ∀ {a b : Nat}, a < 4294967296 → b < 4294967296 → xs.foldl crcIn a = xs.foldl crcIn b → a = b := by
  induction xs with
  | nil => intro a b _ _ h; exact h
  | cons x xs ih =>
    intro a b ha hb h
    have hx0 := hx x List.mem_cons_self
    exact crcIn_inj ha hb hx0 (ih (fun y hy => hx y (List.mem_cons_of_mem _ hy)) (crcIn_lt ha hx0) (crcIn_lt hb hx0) h)
theorem crcM_set {h : List Nat} {i y : Nat} (hh : ∀ x ∈ h, x < 256) (hi : i < h.length) (hy : y < 256) (e : crcM (h.set i y) = crcM h) : y = h[i] := by
  have e2 : crcFold (h.set i y) = crcFold h := by
    unfold crcM at e
    rw [Nat.xor_comm _ 4294967295, Nat.xor_comm _ 4294967295] at e
    exact xor_left_inj e
  have e1 : h.set i y = h.take i ++ y :: h.drop (i + 1) := List.set_eq_take_append_cons_drop.trans (by rw [if_pos hi])
  have e3 : h = h.take i ++ h[i] :: h.drop (i + 1) := by rw [← List.drop_eq_getElem_cons hi, List.take_append_drop]
  unfold crcFold at e2
  rw [e1] at e2
  conv at e2 => rhs; rw [e3]
  rw [List.foldl_append, List.foldl_append, List.foldl_cons, List.foldl_cons] at e2
  have hp : (h.take i).foldl crcIn 4294967295 < 4294967296 := fold_lt _ (fun x hx => hh x (List.mem_of_mem_take hx)) _ (by decide)
  have hz : h[i] < 256 := hh _ (List.getElem_mem _)
  exact crcIn_inj2 hp hy hz (fold_inj _ (fun x hx => hh x (List.mem_of_mem_drop hx)) (crcIn_lt hp hy) (crcIn_lt hp hz) e2)
theorem crcM_ltF {h : List Nat} (hh : ∀ x ∈ h, x < 256) : crcM h < 4294967296 := Nat.xor_lt_two_pow (n := 32) (fold_lt _ hh _ (by decide)) (by decide)
def Sealed (b : List Nat) : Prop := ∃ h, b = h ++ digs (crcM h) 4
theorem sealed_set {b : List Nat} {i y : Nat} (hb : ∀ x ∈ b, x < 256) (hi : i < b.length) (hy : y < 256) (hne : y ≠ b[i]) (h1 : Sealed b) : ¬ Sealed (b.set i y) := by
  obtain ⟨h, rfl⟩ := h1
  rintro ⟨g, e⟩
  have hl : g.length = h.length := by
    have := congrArg List.length e
    simp [digs_len] at this
    omega
  have hh : ∀ x ∈ h, x < 256 := fun x hx => hb x (List.mem_append_left _ hx)
  by_cases hc : i < h.length
  · rw [List.set_append_left _ _ hc] at e
    obtain ⟨e1, e2⟩ := List.append_inj e (by simp [hl])
    subst e1
    have hg : ∀ x ∈ h.set i y, x < 256 := fun x hx => by
      rcases List.mem_or_eq_of_mem_set hx with h | h
      · exact hh x h
      · omega
    have e3 : crcM (h.set i y) = crcM h := by
      have := congrArg num e2
      rw [num_digsM, num_digsM, Nat.mod_eq_of_lt (crcM_ltF hh), Nat.mod_eq_of_lt (crcM_ltF hg)] at this
      exact this.symm
    have := crcM_set hh hc hy e3
    exact hne (by rw [this, List.getElem_append_left hc])
  · rw [List.set_append_right _ _ (by omega)] at e
    obtain ⟨e1, e2⟩ := List.append_inj e hl.symm
    subst e1
    have hi2 : i - h.length < (digs (crcM h) 4).length := by simp at hi; omega
    have := congrArg (fun l => l[i - h.length]?) e2
    simp only [List.getElem?_set, hi2, if_true] at this
    rw [List.getElem?_eq_getElem hi2] at this
    simp only [Option.some.injEq] at this
    exact hne (by rw [this, List.getElem_append_right (by omega)])
def flipB (b : List Nat) (bit : Nat) : List Nat := b.set (bit % (8 * b.length) / 8) ((b[bit % (8 * b.length) / 8]?.getD 0) ^^^ 2 ^ (bit % (8 * b.length) % 8))
theorem flip_at {b : List Nat} (bit : Nat) (hb : b ≠ []) : bit % (8 * b.length) / 8 < b.length := by
  have h0 : 0 < b.length := by rcases b with _ | ⟨x, l⟩; exact absurd rfl hb; simp
  have := Nat.mod_lt bit (show 0 < 8 * b.length by omega)
  omega
theorem two_pow_lt8 (k : Nat) : 2 ^ (k % 8) < 256 := Nat.pow_lt_pow_right (a := 2) (by decide) (m := k % 8) (n := 8) (by omega)
theorem xor_pow_ne (x k : Nat) : x ^^^ 2 ^ k ≠ x := fun h => by
  have h2 : x ^^^ 2 ^ k = x ^^^ 0 := by rw [Nat.xor_zero]; exact h
  have := xor_left_inj h2
  have := Nat.two_pow_pos k
  omega
theorem flip_len (b : List Nat) (bit : Nat) : (flipB b bit).length = b.length := by simp [flipB]
theorem flip_lt {b : List Nat} (bit : Nat) (hb : ∀ x ∈ b, x < 256) : ∀ x ∈ flipB b bit, x < 256 := by
  intro x hx
  rcases List.mem_or_eq_of_mem_set hx with h | h
  · exact hb x h
  · subst h
    refine Nat.xor_lt_two_pow (n := 8) ?_ (two_pow_lt8 _)
    cases hg : b[bit % (8 * b.length) / 8]? with
    | none => simp
    | some z => simpa using hb z (List.mem_of_getElem? hg)
theorem flip_sealed {b : List Nat} (bit : Nat) (hb : ∀ x ∈ b, x < 256) (hne : b ≠ []) (h : Sealed b) : ¬ Sealed (flipB b bit) := by
  have hi := flip_at bit hne
  unfold flipB
  rw [List.getElem?_eq_getElem hi]
  have hx : b[bit % (8 * b.length) / 8] < 256 := hb _ (List.getElem_mem _)
  exact sealed_set hb hi (Nat.xor_lt_two_pow (n := 8) hx (two_pow_lt8 _)) (xor_pow_ne _ _) h
theorem encR_sealed {m : PM} (h : encR m ≠ []) : Sealed (encR m) := by
  obtain ⟨_, _, h3⟩ := encR_some rfl h
  rw [← h3]
  exact ⟨_, rfl⟩
theorem pktR_sealed {p : PP} (h : pktR p ≠ []) : Sealed (pktR p) := by
  unfold pktR at h ⊢
  split
  · exact ⟨_, rfl⟩
  · rename_i hc
    rw [if_neg hc] at h
    exact absurd rfl h
theorem dec_flip {m : PM} (bit : Nat) (hb : ∀ x ∈ encR m, x < 256) (hne : encR m ≠ []) : decR (flipB (encR m) bit) = none := by
  cases h : decR (flipB (encR m) bit) with
  | none => rfl
  | some m' =>
    obtain ⟨he, h0⟩ := decR_enc h
    have hs := flip_sealed bit hb hne (encR_sealed hne)
    rw [← he] at hs h0
    exact absurd (encR_sealed h0) hs
theorem ok_flip {p : PP} (bit : Nat) (hb : ∀ x ∈ pktR p, x < 256) (hne : pktR p ≠ []) : okB (flipB (pktR p) bit) = false := by
  cases h : okB (flipB (pktR p) bit) with
  | false => rfl
  | true =>
    unfold okB at h
    simp only [Bool.and_eq_true, decide_eq_true_eq] at h
    have hs := flip_sealed bit hb hne (pktR_sealed hne)
    have h0 : flipB (pktR p) bit ≠ [] := fun e => by rw [e] at h; simp at h
    rw [← h.2] at hs h0
    exact absurd (pktR_sealed h0) hs
theorem digs2 (n : Nat) : digs n 2 = [n % 256, n / 256 % 256] := by simp [digs, List.range_succ]
theorem digs4 (n : Nat) : digs n 4 = [n % 256, n / 256 % 256, n / 65536 % 256, n / 16777216 % 256] := by simp [digs, List.range_succ]
theorem digs8 (n : Nat) : digs n 8 = [n % 256, n / 256 % 256, n / 65536 % 256, n / 16777216 % 256, n / 4294967296 % 256, n / 1099511627776 % 256, n / 281474976710656 % 256, n / 72057594037927936 % 256] := by simp [digs, List.range_succ]
theorem encP_at (K E S C : Nat) (L : Bool) (D : List Nat) : (encP K E S C L D)[1]?.getD 0 = K ∧ ((encP K E S C L D).drop 2).take 4 = digs E 4 ∧ ((encP K E S C L D).drop 6).take 8 = digs S 8 ∧ ((encP K E S C L D).drop 14).take 4 = digs C 4 ∧ (encP K E S C L D)[18]?.getD 0 = lastN L ∧ ((encP K E S C L D).drop 21).take D.length = D := by
  have e : encP K E S C L D = [67, K] ++ (digs E 4 ++ (digs S 8 ++ (digs C 4 ++ ([lastN L] ++ (digs D.length 2 ++ (D ++ digs (crcM (headP K E S C L D)) 4)))))) := by simp [encP, headP]
  generalize digs (crcM (headP K E S C L D)) 4 = Z at e
  rw [e]
  simp only [digs2, digs4, digs8]
  refine ⟨by simp, by simp, by simp, by simp, by simp, by simp⟩
theorem pktG_enc {p : PP} (h : pktOK p = true) : pktG (pktB p) = p := by
  have hk := pktOK_kind h
  have hd := of_decide_eq_true h
  unfold PktOK at hd
  obtain ⟨h1, h2, h3, h4, h5, h6, -⟩ := hd
  obtain ⟨kind, epoch, seq, count, last, data⟩ := p
  dsimp only at *
  obtain ⟨e1, e2, e3, e4, e5, e6⟩ := encP_at kind.toNat epoch.toNat seq.toNat count.toNat last data
  have hl := encP_len kind.toNat epoch.toNat seq.toNat count.toNat last data
  unfold pktB pktG
  dsimp only
  rw [hl, show 25 + data.length - 25 = data.length from by omega, e1, e2, e3, e4, e5, e6, num_digsM, num_digsM, num_digsM]
  have w1 : epoch.toNat % 256 ^ 4 = epoch.toNat := Nat.mod_eq_of_lt (by omega)
  have w2 : seq.toNat % 256 ^ 8 = seq.toNat := Nat.mod_eq_of_lt (by omega)
  have w3 : count.toNat % 256 ^ 4 = count.toNat := Nat.mod_eq_of_lt (by omega)
  have w4 : IntKind.i64.wrap ((seq.toNat : Nat) : Int) = seq := by simp [IntKind.wrap, IntKind.bits, IntKind.signed]; omega
  rw [w1, w2, w3, w4]
  have w5 : (lastN last == 1) = last := by cases last <;> rfl
  rw [w5]
  congr 1 <;> omega
theorem pk_round {p : PP} (h : pktR p ≠ []) : pkP (pktR p) = p ∧ pkC (pktR p) = 0 := by
  have hk : pktOK p = true := by
    cases hc : pktOK p with
    | true => rfl
    | false => exact absurd (pktR_bad hc) h
  have hg := pktG_enc hk
  rw [pktR_ok hk]
  have hl : 25 ≤ (pktB p).length := by show 25 ≤ (encP _ _ _ _ _ _).length; rw [encP_len]; omega
  have := pk_yes (okB_yes hl (by rw [hg, pktR_ok hk]))
  rw [hg] at this
  exact this
theorem pk_back {b : List Nat} (h : pkC b = 0) : pktR (pkP b) = b := by
  cases hc : okB b with
  | false => rw [(pk_no hc).2] at h; cases h
  | true =>
    rw [(pk_yes hc).1]
    unfold okB at hc
    simp only [Bool.and_eq_true, decide_eq_true_eq] at hc
    exact hc.2
theorem dec_back {b : List Nat} (h : decC b = 0) : encR (decP b) = b := by
  cases hd : decR b with
  | none => rw [(dec_none hd).2] at h; cases h
  | some m => rw [(dec_some hd).1]; exact (decR_enc hd).1
theorem dec_round {m : PM} (h : encR m ≠ []) : decP (encR m) = m ∧ decC (encR m) = 0 := dec_some (decR_of rfl h)
end Go.Proofs.YtfppfjklakdlfaaDoor
