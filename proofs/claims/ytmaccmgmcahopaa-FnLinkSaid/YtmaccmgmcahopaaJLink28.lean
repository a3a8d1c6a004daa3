import Derived.Test.YtmaccmgmcahopaaJLink16
import Derived.Test.YtmaccmgmcahopaaJLink22
namespace Go.Proofs.Ytmaccmgmcahopaa
open Go.RowKit
def fcAggW (lo : Nat) (e nx : Int) (k N : Nat) (D : List Nat) : Fct := ⟨fun v w => ∃ a c, v = .agg #[.int .i64 1, .int .i64 e, .int .i64 (nx + (k : Int)), .int .i64 0, .bool ((k : Int) == (N : Int) - 1), .slice a D.length c] ∧ w.ownsRow lo 5 1 (.slice a D.length c) D.length (byt D), fun _ _ _ ⟨a, c, e, h⟩ hb => ⟨a, c, e, own_later h hb⟩⟩
def npH (lo : Nat) (e nx : Int) (k N : Nat) (D : List Nat) (AL ST : Nat) (x : Nat → Bool) (t : Nat → Value) (w : World) : Prop := x ST = true → ∃ g a c, t AL = .pointer (some ⟨g, 0, none⟩) ∧ lo ≤ g ∧ w.heap[g]? = some (.cells #[.int .i64 1, .int .i64 e, .int .i64 (nx + (k : Int)), .int .i64 0, .bool ((k : Int) == (N : Int) - 1), .slice a D.length c] 35 (0, 0)) ∧ w.ownsRow lo 5 1 (.slice a D.length c) D.length (byt D) ∧ ∀ x, (Value.slice a D.length c).ownBlock = some x → x ≠ g
set_option linter.unusedVariables false in
def npIT (lo gO k N bm om cm PL : Nat) (e nx : Int) (D : List Nat) : Nat → FX
  | 0 => FX.eq (.pointer (some ⟨gO, 0, none⟩))
  | 1 => FX.eq (.int .i64 e)
  | 2 => FX.eq (.pointer (some ⟨gO, 1, none⟩))
  | 3 => FX.eq (.int .i64 nx)
  | 4 => FX.eq (.int .i64 (k : Int))
  | 5 => FX.eq (.int .i64 (nx + (k : Int)))
  | 6 => FX.eq (.int .i64 (k : Int))
  | 7 => FX.eq (.int .i64 (N : Int))
  | 8 => FX.eq (.int .i64 ((N : Int) - 1))
  | 9 => FX.eq (.bool ((k : Int) == (N : Int) - 1))
  | 10 => FX.eq (.slice (some ⟨bm, om, none⟩) PL cm)
  | 11 => FX.eq (.int .i64 (k : Int))
  | 12 => FX.pre [15] (fcRowD lo D)
  | 13 => FX.pre [15] (fcAggW lo e nx k N D)
  | 14 => FX.pre [15] (fcNewD lo)
  | 15 => FX.is Fct.any
  | _ => FX.eq undef
end Go.Proofs.Ytmaccmgmcahopaa
