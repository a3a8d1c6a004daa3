/-
  No cell of these rows narrows 'for every input' (looked for: loops, veiled, ifaces, maps, wideKeys, modest, calm, conditions, laid).
  DERIVED. THE GIVEN ROWS OF THIS SEAT. 4 by the template 'for every input the law returns true; each argument reads behind the call as it read before'; 0 by the template 'total and deterministic' (their statements: YtcljakdcejhfiadTotals.lean).
  GIVEN WITH THE SEED: the statements are not yours to turn. If you find one false, say at which input.
  Laid BY PROGRAM, IN A SANDBOX (cutbox-rows.mjs): the forced cells as the released guide's own fill.sh prints them over the translation 509a79583fa6a302… (all of the seat's roots in one cut). By AI agents, Wed Nov 11 2026. No macro, syntax, notation, axiom, sorry.
-/
import Derived.Test.YtcljakdcejhfiadChecked
import GoSem.Claim
import GoSem.ClaimJoined
import GoSem.ClaimMapViews
import Derived.JoinedTies
import Derived.KernelRfl
namespace Go.Proofs.Ytcljakdcejhfiad
/- THE CELL 'sum', in the pinned program and in every row, IS THE sha256 OF THE DUMP (.gsa) THAT YtcljakdcejhfiadProg.lean LOADS. Nothing in Lean hashes anything: it is a label: what it is worth is what the hold of that sum in a sandbox is worth. -/
noncomputable def Try.pinned : Pinned := { name := "ytcljakdcejhfiad", sum := "509a79583fa6a30207cb2b41b2d7545c655f55c39f1b9710d0ff7f4ee6c3f179", checked := Try.checked }
namespace Rows
def none {H : Type} : Left H := { results := [], args := [] }

/-- 'laws.FnExactValidTable': WHATEVER THE INPUT: true; the input reads as it did. -/
def fnExactValidTableSpec : ChangeSpec := { name := "fnExactValidTable", fn := fun _ => fun
  | [d1, d2] => { results := [.lit (.bool true)], args := [d1, d2] }
  | _ => none }
def fnExactValidTableRow : OpenClaim := { program := "ytcljakdcejhfiad", sum := "509a79583fa6a30207cb2b41b2d7545c655f55c39f1b9710d0ff7f4ee6c3f179", func := "loop.example/s01316/laws.FnExactValidTable", spec := "fnExactValidTable", apart := false }
def FnExactValidTableSaid : Prop := fnExactValidTableRow.holds Try.pinned (OpenSpec.ofChange fnExactValidTableSpec)

/-- ITS FALSE NEIGHBOUR: 'it returns false'. Refute it at one input. -/
def fnExactValidTableWrong : ChangeSpec := { name := "fnExactValidTable", fn := fun _ => fun
  | [d1, d2] => { results := [.lit (.bool false)], args := [d1, d2] }
  | _ => none }
def FnExactValidTableWrongFalsely : Prop := fnExactValidTableRow.holds Try.pinned (OpenSpec.ofChange fnExactValidTableWrong)

/-- 'laws.FnExactLinkTick': WHATEVER THE INPUT: true; the input reads as it did. -/
def fnExactLinkTickSpec : ChangeSpec := { name := "fnExactLinkTick", fn := fun _ => fun
  | [d] => { results := [.lit (.bool true)], args := [d] }
  | _ => none }
def fnExactLinkTickRow : OpenClaim := { program := "ytcljakdcejhfiad", sum := "509a79583fa6a30207cb2b41b2d7545c655f55c39f1b9710d0ff7f4ee6c3f179", func := "loop.example/s01316/laws.FnExactLinkTick", spec := "fnExactLinkTick", apart := false }
def FnExactLinkTickSaid : Prop := fnExactLinkTickRow.holds Try.pinned (OpenSpec.ofChange fnExactLinkTickSpec)

/-- ITS FALSE NEIGHBOUR: 'it returns false'. Refute it at one input. -/
def fnExactLinkTickWrong : ChangeSpec := { name := "fnExactLinkTick", fn := fun _ => fun
  | [d] => { results := [.lit (.bool false)], args := [d] }
  | _ => none }
def FnExactLinkTickWrongFalsely : Prop := fnExactLinkTickRow.holds Try.pinned (OpenSpec.ofChange fnExactLinkTickWrong)

/-- 'laws.FnExactPlanDict': WHATEVER THE INPUT: true; the input reads as it did. -/
def fnExactPlanDictSpec : ChangeSpec := { name := "fnExactPlanDict", fn := fun _ => fun
  | [d1, d2] => { results := [.lit (.bool true)], args := [d1, d2] }
  | _ => none }
def fnExactPlanDictRow : OpenClaim := { program := "ytcljakdcejhfiad", sum := "509a79583fa6a30207cb2b41b2d7545c655f55c39f1b9710d0ff7f4ee6c3f179", func := "loop.example/s01316/laws.FnExactPlanDict", spec := "fnExactPlanDict", apart := false }
def FnExactPlanDictSaid : Prop := fnExactPlanDictRow.holds Try.pinned (OpenSpec.ofChange fnExactPlanDictSpec)

/-- ITS FALSE NEIGHBOUR: 'it returns false'. Refute it at one input. -/
def fnExactPlanDictWrong : ChangeSpec := { name := "fnExactPlanDict", fn := fun _ => fun
  | [d1, d2] => { results := [.lit (.bool false)], args := [d1, d2] }
  | _ => none }
def FnExactPlanDictWrongFalsely : Prop := fnExactPlanDictRow.holds Try.pinned (OpenSpec.ofChange fnExactPlanDictWrong)

/-- 'laws.FnExactStartStream': WHATEVER THE INPUT: true; the input reads as it did. -/
def fnExactStartStreamSpec : ChangeSpec := { name := "fnExactStartStream", fn := fun _ => fun
  | [d1, d2] => { results := [.lit (.bool true)], args := [d1, d2] }
  | _ => none }
def fnExactStartStreamRow : OpenClaim := { program := "ytcljakdcejhfiad", sum := "509a79583fa6a30207cb2b41b2d7545c655f55c39f1b9710d0ff7f4ee6c3f179", func := "loop.example/s01316/laws.FnExactStartStream", spec := "fnExactStartStream", apart := false }
def FnExactStartStreamSaid : Prop := fnExactStartStreamRow.holds Try.pinned (OpenSpec.ofChange fnExactStartStreamSpec)

/-- ITS FALSE NEIGHBOUR: 'it returns false'. Refute it at one input. -/
def fnExactStartStreamWrong : ChangeSpec := { name := "fnExactStartStream", fn := fun _ => fun
  | [d1, d2] => { results := [.lit (.bool false)], args := [d1, d2] }
  | _ => none }
def FnExactStartStreamWrongFalsely : Prop := fnExactStartStreamRow.holds Try.pinned (OpenSpec.ofChange fnExactStartStreamWrong)

/- THE SECOND FORM. 'bulk': how many values and letters a reading holds, each counted each time it is reached (what is shared counts as often as it is met; a slice's spare places count too). A statement '..UptoSaid' is the law's where the arguments, and the package variables that the reading takes, are together of bulk at most 1048576: NARROWER than '..Said'. Prove '..Said' where nothing that the law and all that it calls make is longer than what came in: it says more and counts as full. Else prove '..UptoSaid'. A law counts once. -/
mutual
def uptoBulk {H : Type} : DataW H → Nat
  | .lit (.string bytes) => bytes.length + 1
  | .lit _ => 1
  | .nil => 1
  | .ptr d => uptoBulk d + 1
  | .slice elems spare => uptoBulkAll elems + uptoBulkAll spare + 1
  | .agg parts => uptoBulkAll parts + 1
  | .iface _ d => uptoBulk d + 1
  | .map entries => uptoBulkEntries entries + 1
  | .held _ => 1
def uptoBulkAll {H : Type} : List (DataW H) → Nat
  | [] => 0
  | d :: r => uptoBulk d + uptoBulkAll r
def uptoBulkEntries {H : Type} : List (Lit × DataW H) → Nat
  | [] => 0
  | x :: r => uptoBulkEntry x + uptoBulkEntries r
def uptoBulkEntry {H : Type} : Lit × DataW H → Nat
  | (.string bytes, d) => bytes.length + uptoBulk d + 1
  | (_, d) => uptoBulk d + 1
 end
def uptoSmall : (H : Type) → List (DataW H) → Bool := fun _ ds => decide (uptoBulkAll ds ≤ 1048576)
def OpenSpec.upto (s : _root_.Go.ChangeSpec) : _root_.Go.OpenSpec := { _root_.Go.OpenSpec.ofChange s with cond := some uptoSmall }

/-- 'laws.FnExactValidTable', WHERE WHAT IT READS IS OF BULK AT MOST 1048576: true; the input reads as it did. -/
def fnExactValidTableUptoRow : OpenClaim := { program := "ytcljakdcejhfiad", sum := "509a79583fa6a30207cb2b41b2d7545c655f55c39f1b9710d0ff7f4ee6c3f179", func := "loop.example/s01316/laws.FnExactValidTable", spec := "fnExactValidTable", apart := false, narrowed := true }
def FnExactValidTableUptoSaid : Prop := fnExactValidTableUptoRow.holds Try.pinned (OpenSpec.upto fnExactValidTableSpec)

/-- 'laws.FnExactLinkTick', WHERE WHAT IT READS IS OF BULK AT MOST 1048576: true; the input reads as it did. -/
def fnExactLinkTickUptoRow : OpenClaim := { program := "ytcljakdcejhfiad", sum := "509a79583fa6a30207cb2b41b2d7545c655f55c39f1b9710d0ff7f4ee6c3f179", func := "loop.example/s01316/laws.FnExactLinkTick", spec := "fnExactLinkTick", apart := false, narrowed := true }
def FnExactLinkTickUptoSaid : Prop := fnExactLinkTickUptoRow.holds Try.pinned (OpenSpec.upto fnExactLinkTickSpec)

/-- 'laws.FnExactPlanDict', WHERE WHAT IT READS IS OF BULK AT MOST 1048576: true; the input reads as it did. -/
def fnExactPlanDictUptoRow : OpenClaim := { program := "ytcljakdcejhfiad", sum := "509a79583fa6a30207cb2b41b2d7545c655f55c39f1b9710d0ff7f4ee6c3f179", func := "loop.example/s01316/laws.FnExactPlanDict", spec := "fnExactPlanDict", apart := false, narrowed := true }
def FnExactPlanDictUptoSaid : Prop := fnExactPlanDictUptoRow.holds Try.pinned (OpenSpec.upto fnExactPlanDictSpec)

/-- 'laws.FnExactStartStream', WHERE WHAT IT READS IS OF BULK AT MOST 1048576: true; the input reads as it did. -/
def fnExactStartStreamUptoRow : OpenClaim := { program := "ytcljakdcejhfiad", sum := "509a79583fa6a30207cb2b41b2d7545c655f55c39f1b9710d0ff7f4ee6c3f179", func := "loop.example/s01316/laws.FnExactStartStream", spec := "fnExactStartStream", apart := false, narrowed := true }
def FnExactStartStreamUptoSaid : Prop := fnExactStartStreamUptoRow.holds Try.pinned (OpenSpec.upto fnExactStartStreamSpec)

end Rows
end Go.Proofs.Ytcljakdcejhfiad
