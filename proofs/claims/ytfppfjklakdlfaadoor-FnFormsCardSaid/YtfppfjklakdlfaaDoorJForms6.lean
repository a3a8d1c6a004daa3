import Derived.Test.YtfppfjklakdlfaaDoorJForms4
import Derived.Test.YtfppfjklakdlfaaDoorJForms5
namespace Go.Proofs.YtfppfjklakdlfaaDoor
open Go.RowKit
theorem num_digsM (u : Nat) : ∀ W, num (digs u W) = u % 256 ^ W := by
  intro W
  induction W with
  | zero => simp [digs, num, Nat.mod_one]
  | succ W ih =>
    have h : digs u (W + 1) = digs u W ++ [u / 256 ^ W % 256] := by simp [digs, List.range_succ]
    rw [h, num_append, ih, digs_len]
    simp only [num, Nat.mul_zero, Nat.add_zero]
    rw [Nat.pow_succ, Nat.mod_mul]
def evn (n : Nat) : Nat := (n + 7) / 8 * 8
theorem evn_pad (a n : Nat) (h : a % 8 = 0) : n + padn (a + n) = evn n := by unfold padn evn; omega
theorem evn_le (n : Nat) : n ≤ evn n ∧ evn n ≤ n + 7 ∧ evn n % 8 = 0 := by unfold evn; omega
theorem foldJ (l : List (List Nat)) : ∀ acc, ∃ s, l.foldl joinStep acc = acc ++ s := by
  induction l with
  | nil => exact fun acc => ⟨[], by simp⟩
  | cons x l ih =>
    intro acc
    obtain ⟨s, hs⟩ := ih (joinStep acc x)
    exact ⟨x ++ (List.replicate (padn (acc ++ x).length) 0 ++ s), by rw [List.foldl_cons, hs]; simp [joinStep]⟩
theorem join_part (xss : List (List Nat)) (k : Nat) (hk : k < xss.length) : ∃ s, join xss = join (xss.take k) ++ (xss[k] ++ s) := by
  have h : xss = xss.take k ++ xss[k] :: xss.drop (k + 1) := by rw [← List.drop_eq_getElem_cons hk, List.take_append_drop]
  obtain ⟨s, hs⟩ := foldJ (xss.drop (k + 1)) (joinStep (join (xss.take k)) xss[k])
  refine ⟨List.replicate (padn (join (xss.take k) ++ xss[k]).length) 0 ++ s, ?_⟩
  conv => lhs; rw [h]
  unfold join at hs ⊢
  rw [List.foldl_append, List.foldl_cons, hs]
  simp [joinStep]
theorem join_mod8 (xss : List (List Nat)) : ∀ k, k ≤ xss.length → (join (xss.take k)).length % 8 = 0 := by
  intro k
  induction k with
  | zero => intro _; simp [join]
  | succ k ih =>
    intro h
    rw [join_snoc xss k (by omega), joinStep_len]
    have := ih (by omega)
    have h2 := evn_pad (join (xss.take k)).length xss[k].length this
    have h3 := (evn_le xss[k].length).2.2
    omega
theorem join_next (xss : List (List Nat)) (k : Nat) (hk : k < xss.length) : (join (xss.take (k + 1))).length = (join (xss.take k)).length + evn xss[k].length := by
  rw [join_snoc xss k hk, joinStep_len]
  have h2 := evn_pad (join (xss.take k)).length xss[k].length (join_mod8 xss k (by omega))
  omega
def lensM (bs : List (List Nat)) : List Nat := bs.flatMap fun b => digs b.length 4
theorem lensM_len (bs : List (List Nat)) : (lensM bs).length = 4 * bs.length := by
  induction bs with
  | nil => rfl
  | cons b bs ih =>
    unfold lensM at ih ⊢
    rw [List.flatMap_cons, List.length_append, ih, digs_len]; simp; omega
theorem lensM_snoc (bs : List (List Nat)) (k : Nat) (h : k < bs.length) : lensM (bs.take (k + 1)) = lensM (bs.take k) ++ digs bs[k].length 4 := by
  unfold lensM
  rw [List.take_succ_eq_append_getElem h, List.flatMap_append]; simp
theorem lensM_lt (bs : List (List Nat)) : ∀ x ∈ lensM bs, x < 256 := by
  intro x hx
  simp only [lensM, List.mem_flatMap] at hx
  obtain ⟨b, _, h⟩ := hx
  exact digs_lt _ _ x h
theorem lensM_at (bs : List (List Nat)) (k : Nat) (h : k < bs.length) (s : List Nat) : ((lensM bs ++ s).drop (4 * k)).take 4 = digs bs[k].length 4 := by
  have h1 : lensM bs = lensM (bs.take k) ++ (digs bs[k].length 4 ++ lensM (bs.drop (k + 1))) := by
    have e : bs = bs.take k ++ bs[k] :: bs.drop (k + 1) := by rw [← List.drop_eq_getElem_cons h, List.take_append_drop]
    unfold lensM
    conv => lhs; rw [e]
    rw [List.flatMap_append, List.flatMap_cons]
  have h2 : (lensM (bs.take k)).length = 4 * k := by rw [lensM_len]; simp; omega
  rw [h1, List.append_assoc, ← h2, List.drop_left, List.append_assoc, List.take_append_of_le_length (by rw [digs_len]; omega), List.take_of_length_le (by rw [digs_len]; omega)]
def crcM (xs : List Nat) : Nat := crcFold xs ^^^ 4294967295
def headM (K F C n : Nat) : List Nat := [67, 77, K, F] ++ digs C 2 ++ [n, 0]
theorem headM_len (K F C n : Nat) : (headM K F C n).length = 8 := by simp [headM, digs_len]
def bodyM (K F C : Nat) (bs : List (List Nat)) : List Nat := headM K F C bs.length ++ join (lensM bs :: bs)
def encM (K F C : Nat) (bs : List (List Nat)) : List Nat := bodyM K F C bs ++ digs (crcM (bodyM K F C bs)) 4
structure PM where
  kind : Int
  field : Int
  count : Int
  bufs : List (List Nat)
def msgOK (m : PM) : Bool := decide (1 ≤ m.kind ∧ m.kind ≤ 4 ∧ 0 ≤ m.field ∧ m.field < 12 ∧ 0 ≤ m.count ∧ m.count ≤ 1000 ∧ m.bufs.length ≤ 40 ∧ (m.field = 0 ∨ m.kind = 2 ∨ m.kind = 3))
def encB (m : PM) : List Nat := encM m.kind.toNat m.field.toNat m.count.toNat m.bufs
def encR (m : PM) : List Nat := if msgOK m = true ∧ (encB m).length ≤ 20000 then encB m else []
def pst (b : List Nat) (n : Nat) : Nat → Option (List (List Nat) × Nat)
  | 0 => some ([], 8 + evn (4 * n))
  | k + 1 => match pst b n k with
    | none => none
    | some (bs, at_) =>
      if b.length < 12 + 4 * k ∨ b.length < at_ ∨ b.length - at_ < num ((b.drop (8 + 4 * k)).take 4) then none
      else some (bs ++ [(b.drop at_).take (num ((b.drop (8 + 4 * k)).take 4))], at_ + evn (num ((b.drop (8 + 4 * k)).take 4)))
def nB (b : List Nat) : Nat := b[6]?.getD 0
def parseM (b : List Nat) : Option PM :=
  if b.length < 12 ∨ 20000 < b.length then none
  else match pst b (nB b) (nB b) with
    | none => none
    | some (bs, _) => some ⟨(b[2]?.getD 0 : Nat), (b[3]?.getD 0 : Nat), (num ((b.drop 4).take 2) : Nat), bs⟩
def decR (b : List Nat) : Option PM := match parseM b with
  | none => none
  | some m => if encR m = b then some m else none
theorem pst_enc (K F C : Nat) (bs : List (List Nat)) (ht : (encM K F C bs).length ≤ 20000) : ∀ k, k ≤ bs.length → pst (encM K F C bs) bs.length k = some (bs.take k, 8 + (join ((lensM bs :: bs).take (k + 1))).length) := by
  intro k
  induction k with
  | zero =>
    intro _
    have h : join ((lensM bs :: bs).take 1) = joinStep [] (lensM bs) := rfl
    rw [h, joinStep_len]
    have h2 := evn_pad 0 (4 * bs.length) rfl
    simp only [pst, List.take_zero, lensM_len]
    simp at h2 ⊢
    omega
  | succ k ih =>
    intro hk
    have hk' : k < bs.length := hk
    obtain ⟨s, hs⟩ := join_part (lensM bs :: bs) (k + 1) (by simp; omega)
    have hg : (lensM bs :: bs)[k + 1]'(by simp; omega) = bs[k] := by simp
    rw [hg] at hs
    obtain ⟨s0, hs0⟩ := join_part (lensM bs :: bs) 0 (by simp)
    have hj0 : join ((lensM bs :: bs).take 0) = [] := rfl
    rw [hj0, List.nil_append] at hs0
    simp only [List.getElem_cons_zero] at hs0
    have hb : encM K F C bs = headM K F C bs.length ++ (join (lensM bs :: bs) ++ digs (crcM (bodyM K F C bs)) 4) := by simp [encM, bodyM]
    have hlen : (encM K F C bs).length = 12 + (join (lensM bs :: bs)).length := by rw [hb]; simp [headM_len, digs_len]; omega
    
    have hsz : num (((encM K F C bs).drop (8 + 4 * k)).take 4) = bs[k].length := by
      have e1 : (encM K F C bs).drop (8 + 4 * k) = (lensM bs ++ (s0 ++ digs (crcM (bodyM K F C bs)) 4)).drop (4 * k) := by
        rw [hb, ← List.drop_drop, ← headM_len K F C bs.length, List.drop_left, hs0, List.append_assoc]
      rw [e1, lensM_at bs k hk', num_digsM]
      have h1 : bs[k].length ≤ (join (lensM bs :: bs)).length := by rw [hs]; simp; omega
      exact Nat.mod_eq_of_lt (by omega)
    have hjl : (join (lensM bs :: bs)).length = (join ((lensM bs :: bs).take (k + 1))).length + (bs[k].length + s.length) := by rw [hs]; simp
    have hat : ((encM K F C bs).drop (8 + (join ((lensM bs :: bs).take (k + 1))).length)).take bs[k].length = bs[k] := by
      have e1 : (encM K F C bs).drop (8 + (join ((lensM bs :: bs).take (k + 1))).length) = bs[k] ++ (s ++ digs (crcM (bodyM K F C bs)) 4) := by
        rw [hb, ← List.drop_drop, ← headM_len K F C bs.length, List.drop_left, hs, List.append_assoc, List.drop_left, List.append_assoc]
      rw [e1, List.take_left]
    have h4 : 4 * (k + 1) ≤ (join (lensM bs :: bs)).length := by rw [hs0]; rw [List.length_append, lensM_len]; omega
    have hn := join_next (lensM bs :: bs) (k + 1) (by simp; omega)
    rw [hg] at hn
    rw [pst, ih (by omega)]
    simp only [hsz, hat]
    rw [if_neg (by omega)]
    rw [hn, List.take_succ_eq_append_getElem hk', Nat.add_assoc]
theorem headM_at (K F C n : Nat) (s : List Nat) : (headM K F C n ++ s)[2]?.getD 0 = K ∧ (headM K F C n ++ s)[3]?.getD 0 = F ∧ (headM K F C n ++ s)[6]?.getD 0 = n ∧ (((headM K F C n ++ s).drop 4).take 2) = digs C 2 := by
  have h : digs C 2 = [C % 256, C / 256 % 256] := by simp [digs, List.range_succ]
  simp [headM, h]
theorem parse_enc {m : PM} (hm : msgOK m = true) (hl : (encB m).length ≤ 20000) : parseM (encB m) = some m := by
  simp only [msgOK, decide_eq_true_eq] at hm
  obtain ⟨h1, h2, h3, h4, h5, h6, h7, h8⟩ := hm
  have hb : encB m = headM m.kind.toNat m.field.toNat m.count.toNat m.bufs.length ++ (join (lensM m.bufs :: m.bufs) ++ digs (crcM (bodyM m.kind.toNat m.field.toNat m.count.toNat m.bufs)) 4) := by simp [encB, encM, bodyM]
  obtain ⟨e2, e3, e6, e4⟩ := headM_at m.kind.toNat m.field.toNat m.count.toNat m.bufs.length (join (lensM m.bufs :: m.bufs) ++ digs (crcM (bodyM m.kind.toNat m.field.toNat m.count.toNat m.bufs)) 4)
  rw [← hb] at e2 e3 e6 e4
  have hn : nB (encB m) = m.bufs.length := e6
  have h12 : 12 ≤ (encB m).length := by rw [hb]; simp [headM_len, digs_len]; omega
  unfold parseM
  rw [if_neg (by omega), hn]
  have hp := pst_enc m.kind.toNat m.field.toNat m.count.toNat m.bufs hl m.bufs.length (Nat.le_refl _)
  rw [List.take_length] at hp
  have hp' : pst (encB m) m.bufs.length m.bufs.length = some (m.bufs, 8 + (join ((lensM m.bufs :: m.bufs).take (m.bufs.length + 1))).length) := hp
  rw [hp']
  simp only [e2, e3, e4, num_digsM]
  have hc : m.count.toNat % 256 ^ 2 = m.count.toNat := Nat.mod_eq_of_lt (by omega)
  rw [hc]
  cases m
  simp only [Option.some.injEq, PM.mk.injEq, and_true]
  simp only at h1 h3 h5
  omega
theorem encR_some {m : PM} {b : List Nat} (h : encR m = b) (hb : b ≠ []) : msgOK m = true ∧ (encB m).length ≤ 20000 ∧ encB m = b := by
  unfold encR at h
  split at h
  · rename_i h2
    exact ⟨h2.1, h2.2, h⟩
  · exact absurd h.symm hb
theorem decR_of {m : PM} {b : List Nat} (h : encR m = b) (hb : b ≠ []) : decR b = some m := by
  obtain ⟨h1, h2, h3⟩ := encR_some h hb
  unfold decR
  rw [← h3, parse_enc h1 h2, h3]
  simp [h]
theorem decR_enc {m : PM} {b : List Nat} (h : decR b = some m) : encR m = b ∧ b ≠ [] := by
  unfold decR at h
  split at h
  · cases h
  · rename_i m' hp
    split at h
    · rename_i he
      simp at h
      subst h
      refine ⟨he, fun e => ?_⟩
      subst e
      simp [parseM] at hp
    · cases h
end Go.Proofs.YtfppfjklakdlfaaDoor
