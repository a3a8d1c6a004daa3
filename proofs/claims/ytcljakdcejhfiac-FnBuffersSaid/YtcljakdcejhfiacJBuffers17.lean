import Derived.Test.YtcljakdcejhfiacJBuffers15
import Derived.Test.YtcljakdcejhfiacJBuffers5
import Derived.Test.YtcljakdcejhfiacJBuffers16
namespace Go.Proofs.Ytcljakdcejhfiac
open Go.RowKit
theorem low_bit (bs : List Bool) (j : Nat) : ∀ m k, k < m → low bs j m / 2 ^ k % 2 = bitN bs (8 * j + k) := by
  intro m
  induction m with
  | zero => intro k h; omega
  | succ m ih =>
    intro k h
    show (low bs j m + bitN bs (8 * j + m) * 2 ^ m) / 2 ^ k % 2 = _
    by_cases e : k = m
    · subst e
      have h1 := low_lt bs j k
      rw [Nat.add_mul_div_right _ _ (Nat.two_pow_pos k), Nat.div_eq_of_lt h1, Nat.zero_add]
      have := bitN_le bs (8 * j + k)
      omega
    · have hk : k < m := by omega
      rw [show 2 ^ m = 2 ^ (m - k) * 2 ^ k from by rw [← Nat.pow_add]; congr 1; omega, ← Nat.mul_assoc, Nat.add_mul_div_right _ _ (Nat.two_pow_pos k)]
      rw [show m - k = (m - k - 1) + 1 from by omega, Nat.pow_succ, ← Nat.mul_assoc, Nat.add_mul_mod_self_right, ih k hk]
theorem bitOf_packed (bs : List Bool) (i : Nat) (h : i / 8 < nb bs.length) : bitOf (packed bs) i = bs[i]?.getD false := by
  unfold bitOf
  have e : (packed bs)[i / 8]?.getD 0 = low bs (i / 8) 8 := by simp [packed, h]
  rw [e, low_bit bs (i / 8) 8 (i % 8) (by omega), show 8 * (i / 8) + i % 8 = i from by omega]
  unfold bitN
  cases bs[i]?.getD false <;> rfl
theorem unp_packed (bs : List Bool) : unp (packed bs) (bs.length : Int) = (bs, 0) := by
  have hc : clearFrom (packed bs) bs.length = true := by
    rw [clearFrom_iff]
    intro i h1 h2
    rw [packed_len] at h2
    rw [bitOf_packed bs i (by omega), List.getElem?_eq_none h1]
    rfl
  rw [unp_ok _ _ (packed_len bs).symm hc]
  have : bitsOf (packed bs) bs.length = bs := by
    apply List.ext_getElem (by simp [bitsOf])
    intro i h1 h2
    have hi : i / 8 < nb bs.length := by unfold nb; split <;> omega
    simp [bitsOf, bitOf_packed bs i hi, h2]
  rw [this]
theorem byte_bits (x : Nat) (h : x < 256) : x = x % 2 + x / 2 % 2 * 2 + x / 4 % 2 * 4 + x / 8 % 2 * 8 + x / 16 % 2 * 16 + x / 32 % 2 * 32 + x / 64 % 2 * 64 + x / 128 % 2 * 128 := by omega
theorem packed_bitsOf (ys : List Nat) (n : Nat) (hy : ∀ y ∈ ys, y < 256) (hf : nb n = ys.length) (hc : clearFrom ys n = true) : packed (bitsOf ys n) = ys := by
  apply List.ext_getElem (by rw [packed_len, bitsOf_len, hf])
  intro j h1 h2
  have hb : ∀ k, k < 8 → bitN (bitsOf ys n) (8 * j + k) = ys[j] / 2 ^ k % 2 := by
    intro k hk
    have hbit : bitOf ys (8 * j + k) = (ys[j] / 2 ^ k % 2 == 1) := by
      have hd : (8 * j + k) / 8 = j := by omega
      unfold bitOf
      rw [hd, show (8 * j + k) % 8 = k from by omega, List.getElem?_eq_getElem h2]; rfl
    have h01 : ys[j] / 2 ^ k % 2 = 0 ∨ ys[j] / 2 ^ k % 2 = 1 := by omega
    unfold bitN
    by_cases hn : 8 * j + k < n
    · have e : (bitsOf ys n)[8 * j + k]?.getD false = bitOf ys (8 * j + k) := by simp [bitsOf, hn]
      rw [e, hbit]
      rcases h01 with h | h <;> simp [h]
    · have e : (bitsOf ys n)[8 * j + k]?.getD false = false := by simp [bitsOf, hn]
      have h0 := clearFrom_iff.1 hc (8 * j + k) (by omega) (by omega)
      rw [hbit] at h0
      rw [e]
      rcases h01 with h | h
      · simp [h]
      · simp [h] at h0
  have hyj : ys[j] < 256 := hy _ (List.getElem_mem _)
  have hl : (packed (bitsOf ys n))[j] = low (bitsOf ys n) j 8 := by simp [packed]
  rw [hl]
  simp only [low]
  rw [hb 0 (by omega), hb 1 (by omega), hb 2 (by omega), hb 3 (by omega), hb 4 (by omega), hb 5 (by omega), hb 6 (by omega), hb 7 (by omega)]
  have := byte_bits ys[j] hyj
  simp only [Nat.pow_zero, Nat.mul_one, Nat.div_one, show (2 : Nat) ^ 1 = 2 from rfl, show (2 : Nat) ^ 2 = 4 from rfl, show (2 : Nat) ^ 3 = 8 from rfl, show (2 : Nat) ^ 4 = 16 from rfl, show (2 : Nat) ^ 5 = 32 from rfl, show (2 : Nat) ^ 6 = 64 from rfl, show (2 : Nat) ^ 7 = 128 from rfl]
  omega
theorem num_digs (u : Nat) : ∀ W, num (digs u W) = u % 256 ^ W := by
  intro W
  induction W with
  | zero => simp [digs, num, Nat.mod_one]
  | succ W ih =>
    have e : digs u (W + 1) = digs u W ++ [u / 256 ^ W % 256] := by simp [digs, List.range_succ]
    rw [e, num_append, ih, digs_len]
    simp only [num, Nat.mul_zero, Nat.add_zero]
    rw [Nat.pow_succ, Nat.mod_mul]
theorem flat_drop (W : Nat) (xs : List Int) (j : Nat) (h : j < xs.length) : chunk (flat W xs) W j = digs (U xs[j]) W := by
  have e : flat W xs = flat W (xs.take j) ++ (digs (U xs[j]) W ++ flat W (xs.drop (j + 1))) := by
    have h1 : xs = xs.take j ++ (xs[j] :: xs.drop (j + 1)) := by
      rw [← List.drop_eq_getElem_cons h, List.take_append_drop]
    conv => lhs; rw [h1]
    unfold flat
    rw [List.flatMap_append, List.flatMap_cons]
  have hl : (flat W (xs.take j)).length = W * j := by rw [flat_len, List.length_take, Nat.min_eq_left (by omega)]
  unfold chunk
  rw [e, List.drop_append, ← hl, List.drop_length, Nat.sub_self, List.drop_zero, List.nil_append, List.take_append, digs_len, Nat.sub_self, List.take_zero, List.append_nil, List.take_of_length_le (by rw [digs_len]; exact Nat.le_refl _)]
theorem wrap_digs_i8 (v : Int) (h : IntKind.i8.wrap v = v) : IntKind.i8.wrap ((num (digs (U v) 1) : Nat) : Int) = v := by
  have h2 := (fit_i8 v).1 h
  rw [num_digs]
  unfold U
  rw [IntKind.wrap_u64]
  simp only [IntKind.wrap, IntKind.bits, IntKind.signed]
  simp
  split <;> omega
theorem wrap_digs_i16 (v : Int) (h : IntKind.i16.wrap v = v) : IntKind.i16.wrap ((num (digs (U v) 2) : Nat) : Int) = v := by
  have h2 := (fit_i16 v).1 h
  rw [num_digs]
  unfold U
  rw [IntKind.wrap_u64]
  simp only [IntKind.wrap, IntKind.bits, IntKind.signed]
  simp
  split <;> omega
theorem wrap_digs_i32 (v : Int) (h : IntKind.i32.wrap v = v) : IntKind.i32.wrap ((num (digs (U v) 4) : Nat) : Int) = v := by
  have h2 := (fit_i32 v).1 h
  rw [num_digs]
  unfold U
  rw [IntKind.wrap_u64]
  simp only [IntKind.wrap, IntKind.bits, IntKind.signed]
  simp
  split <;> omega
theorem wrap_digs_i64 (v : Int) (h : IntKind.i64.wrap v = v) : IntKind.i64.wrap ((num (digs (U v) 8) : Nat) : Int) = v := by
  have h2 := (fit_i64 v).1 h
  rw [num_digs]
  unfold U
  rw [IntKind.wrap_u64]
  simp only [IntKind.wrap, IntKind.bits, IntKind.signed]
  simp
  split <;> omega
theorem uniR_flat {W : Nat} {k : IntKind} (hW : 1 ≤ W) (hk : ∀ v : Int, k.wrap v = v → k.wrap ((num (digs (U v) W) : Nat) : Int) = v) (xs : List Int) (hf : fits k xs = true) : uniR W k (flat W xs) = (xs, 0) := by
  have hl : (flat W xs).length = W * xs.length := flat_len W xs
  rw [uniR_ok (by rw [hl]; exact Nat.mul_mod_right _ _)]
  have : uniL W k (flat W xs) = xs := by
    have hd : (flat W xs).length / W = xs.length := by rw [hl, Nat.mul_div_cancel_left _ (by omega)]
    apply List.ext_getElem (by rw [uniL_len, hd])
    intro j h1 h2
    have := uniL_at W k (flat W xs) j (by rw [hd]; exact h2)
    obtain ⟨_, h4⟩ := List.getElem?_eq_some_iff.1 this
    rw [h4, flat_drop W xs j h2, hk _ (fits_iff.1 hf _ (List.getElem_mem _))]
  rw [this]
theorem uni_pki (xs : List Int) (n : Int) (h : (pki xs n).2 = 0) : uni (pki xs n).1 n = (xs, 0) ∧ (((pki xs n).1.length : Nat) : Int) = n * (xs.length : Int) ∧ 1 ≤ n ∧ n ≤ 8 := by
  have key : ∀ (W : Nat) (k : IntKind), (pkiR W k xs).2 = 0 → pkiR W k xs = (flat W xs, 0) ∧ fits k xs = true := by
    intro W k hh
    unfold pkiR at hh ⊢
    by_cases hf : fits k xs = true
    · rw [if_pos hf]; exact ⟨rfl, hf⟩
    · rw [if_neg hf] at hh; simp at hh
  by_cases h1 : n = 1
  · subst h1
    have e : pki xs 1 = pkiR 1 .i8 xs := rfl
    rw [e] at h ⊢
    obtain ⟨e1, e2⟩ := key 1 .i8 h
    rw [e1]
    refine ⟨uniR_flat (by omega) wrap_digs_i8 xs e2, by rw [flat_len]; simp, by omega, by omega⟩
  by_cases h2 : n = 2
  · subst h2
    have e : pki xs 2 = pkiR 2 .i16 xs := rfl
    rw [e] at h ⊢
    obtain ⟨e1, e2⟩ := key 2 .i16 h
    rw [e1]
    refine ⟨uniR_flat (by omega) wrap_digs_i16 xs e2, by rw [flat_len]; simp, by omega, by omega⟩
  by_cases h4 : n = 4
  · subst h4
    have e : pki xs 4 = pkiR 4 .i32 xs := rfl
    rw [e] at h ⊢
    obtain ⟨e1, e2⟩ := key 4 .i32 h
    rw [e1]
    refine ⟨uniR_flat (by omega) wrap_digs_i32 xs e2, by rw [flat_len]; simp, by omega, by omega⟩
  by_cases h8 : n = 8
  · subst h8
    have e : pki xs 8 = pkiR 8 .i64 xs := rfl
    rw [e] at h ⊢
    obtain ⟨e1, e2⟩ := key 8 .i64 h
    rw [e1]
    refine ⟨uniR_flat (by omega) wrap_digs_i64 xs e2, by rw [flat_len]; simp, by omega, by omega⟩
  rw [pki_no xs n (by omega)] at h
  simp at h
theorem join_pre (xss : List (List Nat)) (k : Nat) : k ≤ xss.length → ∃ rest, join xss = join (xss.take k) ++ rest := by
  intro hk
  have key : ∀ d, d ≤ xss.length - k → ∃ rest, join (xss.take (k + d)) = join (xss.take k) ++ rest := by
    intro d
    induction d with
    | zero => intro _; exact ⟨[], by simp⟩
    | succ d ih =>
      intro h
      obtain ⟨r, hr⟩ := ih (by omega)
      refine ⟨r ++ xss[k + d] ++ List.replicate (padn (join (xss.take (k + d)) ++ xss[k + d]).length) 0, ?_⟩
      rw [show k + (d + 1) = (k + d) + 1 from rfl, join_snoc xss (k + d) (by omega)]
      unfold joinStep
      rw [hr]
      simp only [List.append_assoc]
  obtain ⟨r, hr⟩ := key (xss.length - k) (Nat.le_refl _)
  rw [show k + (xss.length - k) = xss.length from by omega, List.take_length] at hr
  exact ⟨r, hr⟩
end Go.Proofs.Ytcljakdcejhfiac
