import Derived.Test.YtmaccmgmcahopaaJLink1
import Derived.Test.YtmaccmgmcahopaaJLink2
namespace Go.Proofs.Ytmaccmgmcahopaa
open Go.RowKit
theorem num_digsM (u : Nat) : ∀ W, num (digs u W) = u % 256 ^ W := by
  intro W
  induction W with
  | zero => simp [digs, num, Nat.mod_one]
  | succ W ih =>
    have h : digs u (W + 1) = digs u W ++ [u / 256 ^ W % 256] := by simp [digs, List.range_succ]
    rw [h, num_append, ih, digs_len]
    simp only [num, Nat.mul_zero, Nat.add_zero]
    rw [Nat.pow_succ, Nat.mod_mul]
def crcM (xs : List Nat) : Nat := crcFold xs ^^^ 4294967295
structure PM where
  kind : Int
  field : Int
  count : Int
  bufs : List (List Nat)
end Go.Proofs.Ytmaccmgmcahopaa
