import Derived.Test.YtcljakdcejhfiadJStartStream13
import Derived.Test.YtcljakdcejhfiadJStartStream14
import Derived.Test.YtcljakdcejhfiadJStartStream15
namespace Go.Proofs.Ytcljakdcejhfiad
open Go.RowKit
def evn (n : Nat) : Nat := (n + 7) / 8 * 8
theorem evn_pad (a n : Nat) (h : a % 8 = 0) : n + padn (a + n) = evn n := by unfold padn evn; omega
theorem evn_le (n : Nat) : n ≤ evn n ∧ evn n ≤ n + 7 ∧ evn n % 8 = 0 := by unfold evn; omega
theorem join_mod8 (xss : List (List Nat)) : ∀ k, k ≤ xss.length → (join (xss.take k)).length % 8 = 0 := by
  intro k
  induction k with
  | zero => intro _; simp [join]
  | succ k ih =>
    intro h
    rw [join_snoc xss k (by omega), joinStep_len]
    have := ih (by omega)
    have h2 := evn_pad (join (xss.take k)).length xss[k].length this
    have h3 := (evn_le xss[k].length).2.2
    omega
theorem join_next (xss : List (List Nat)) (k : Nat) (hk : k < xss.length) : (join (xss.take (k + 1))).length = (join (xss.take k)).length + evn xss[k].length := by
  rw [join_snoc xss k hk, joinStep_len]
  have h2 := evn_pad (join (xss.take k)).length xss[k].length (join_mod8 xss k (by omega))
  omega
def lensM (bs : List (List Nat)) : List Nat := bs.flatMap fun b => digs b.length 4
theorem lensM_len (bs : List (List Nat)) : (lensM bs).length = 4 * bs.length := by
  induction bs with
  | nil => rfl
  | cons b bs ih =>
    unfold lensM at ih ⊢
    rw [List.flatMap_cons, List.length_append, ih, digs_len]; simp; omega
theorem lensM_snoc (bs : List (List Nat)) (k : Nat) (h : k < bs.length) : lensM (bs.take (k + 1)) = lensM (bs.take k) ++ digs bs[k].length 4 := by
  unfold lensM
  rw [List.take_succ_eq_append_getElem h, List.flatMap_append]; simp
theorem lensM_lt (bs : List (List Nat)) : ∀ x ∈ lensM bs, x < 256 := by
  intro x hx
  simp only [lensM, List.mem_flatMap] at hx
  obtain ⟨b, _, h⟩ := hx
  exact digs_lt _ _ x h
def crcM (xs : List Nat) : Nat := crcFold xs ^^^ 4294967295
def headM (K F C n : Nat) : List Nat := [67, 77, K, F] ++ digs C 2 ++ [n, 0]
theorem headM_len (K F C n : Nat) : (headM K F C n).length = 8 := by simp [headM, digs_len]
def bodyM (K F C : Nat) (bs : List (List Nat)) : List Nat := headM K F C bs.length ++ join (lensM bs :: bs)
def encM (K F C : Nat) (bs : List (List Nat)) : List Nat := bodyM K F C bs ++ digs (crcM (bodyM K F C bs)) 4
structure PM where
  kind : Int
  field : Int
  count : Int
  bufs : List (List Nat)
def msgOK (m : PM) : Bool := decide (1 ≤ m.kind ∧ m.kind ≤ 4 ∧ 0 ≤ m.field ∧ m.field < 12 ∧ 0 ≤ m.count ∧ m.count ≤ 1000 ∧ m.bufs.length ≤ 40 ∧ (m.field = 0 ∨ m.kind = 2 ∨ m.kind = 3))
def encB (m : PM) : List Nat := encM m.kind.toNat m.field.toNat m.count.toNat m.bufs
def encR (m : PM) : List Nat := if msgOK m = true ∧ (encB m).length ≤ 20000 then encB m else []
end Go.Proofs.Ytcljakdcejhfiad
