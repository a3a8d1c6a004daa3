/-
  No cell of these rows narrows 'for every input' (looked for: loops, veiled, ifaces, maps, wideKeys, modest, calm, conditions, laid).
  DERIVED. THE GIVEN ROWS OF THIS SEAT. 6 by the template 'for every input the law returns true; each argument reads behind the call as it read before'; 0 by the template 'total and deterministic' (their statements: YtcljakdcejhfiabTotals.lean).
  GIVEN WITH THE SEED: the statements are not yours to turn. If you find one false, say at which input.
  Laid BY PROGRAM, IN A SANDBOX (cutbox-rows.mjs): the forced cells as the released guide's own fill.sh prints them over the translation e3b0358155dcf16d… (all of the seat's roots in one cut). By AI agents, Wed Nov 11 2026. No macro, syntax, notation, axiom, sorry.
-/
import Derived.Test.YtcljakdcejhfiabChecked
import GoSem.Claim
import GoSem.ClaimJoined
import GoSem.ClaimMapViews
import Derived.JoinedTies
import Derived.KernelRfl
namespace Go.Proofs.Ytcljakdcejhfiab
/- THE CELL 'sum', in the pinned program and in every row, IS THE sha256 OF THE DUMP (.gsa) THAT YtcljakdcejhfiabProg.lean LOADS. Nothing in Lean hashes anything: it is a label: what it is worth is what the hold of that sum in a sandbox is worth. -/
noncomputable def Try.pinned : Pinned := { name := "ytcljakdcejhfiab", sum := "e3b0358155dcf16d9a8550a2c264d4ecdafccece6c597442de765948da7f5c88", checked := Try.checked }
namespace Rows
def none {H : Type} : Left H := { results := [], args := [] }

/-- 'laws.FnExactJoinAligned': WHATEVER THE INPUT: true; the input reads as it did. -/
def fnExactJoinAlignedSpec : ChangeSpec := { name := "fnExactJoinAligned", fn := fun _ => fun
  | [d] => { results := [.lit (.bool true)], args := [d] }
  | _ => none }
def fnExactJoinAlignedRow : OpenClaim := { program := "ytcljakdcejhfiab", sum := "e3b0358155dcf16d9a8550a2c264d4ecdafccece6c597442de765948da7f5c88", func := "loop.example/s01316/laws.FnExactJoinAligned", spec := "fnExactJoinAligned", apart := false }
def FnExactJoinAlignedSaid : Prop := fnExactJoinAlignedRow.holds Try.pinned (OpenSpec.ofChange fnExactJoinAlignedSpec)

/-- ITS FALSE NEIGHBOUR: 'it returns false'. Refute it at one input. -/
def fnExactJoinAlignedWrong : ChangeSpec := { name := "fnExactJoinAligned", fn := fun _ => fun
  | [d] => { results := [.lit (.bool false)], args := [d] }
  | _ => none }
def FnExactJoinAlignedWrongFalsely : Prop := fnExactJoinAlignedRow.holds Try.pinned (OpenSpec.ofChange fnExactJoinAlignedWrong)

/-- 'laws.FnExactEncodePacket': WHATEVER THE INPUT: true; the input reads as it did. -/
def fnExactEncodePacketSpec : ChangeSpec := { name := "fnExactEncodePacket", fn := fun _ => fun
  | [d] => { results := [.lit (.bool true)], args := [d] }
  | _ => none }
def fnExactEncodePacketRow : OpenClaim := { program := "ytcljakdcejhfiab", sum := "e3b0358155dcf16d9a8550a2c264d4ecdafccece6c597442de765948da7f5c88", func := "loop.example/s01316/laws.FnExactEncodePacket", spec := "fnExactEncodePacket", apart := false }
def FnExactEncodePacketSaid : Prop := fnExactEncodePacketRow.holds Try.pinned (OpenSpec.ofChange fnExactEncodePacketSpec)

/-- ITS FALSE NEIGHBOUR: 'it returns false'. Refute it at one input. -/
def fnExactEncodePacketWrong : ChangeSpec := { name := "fnExactEncodePacket", fn := fun _ => fun
  | [d] => { results := [.lit (.bool false)], args := [d] }
  | _ => none }
def FnExactEncodePacketWrongFalsely : Prop := fnExactEncodePacketRow.holds Try.pinned (OpenSpec.ofChange fnExactEncodePacketWrong)

/-- 'laws.FnExactValidFields': WHATEVER THE INPUT: true; the input reads as it did. -/
def fnExactValidFieldsSpec : ChangeSpec := { name := "fnExactValidFields", fn := fun _ => fun
  | [d] => { results := [.lit (.bool true)], args := [d] }
  | _ => none }
def fnExactValidFieldsRow : OpenClaim := { program := "ytcljakdcejhfiab", sum := "e3b0358155dcf16d9a8550a2c264d4ecdafccece6c597442de765948da7f5c88", func := "loop.example/s01316/laws.FnExactValidFields", spec := "fnExactValidFields", apart := false }
def FnExactValidFieldsSaid : Prop := fnExactValidFieldsRow.holds Try.pinned (OpenSpec.ofChange fnExactValidFieldsSpec)

/-- ITS FALSE NEIGHBOUR: 'it returns false'. Refute it at one input. -/
def fnExactValidFieldsWrong : ChangeSpec := { name := "fnExactValidFields", fn := fun _ => fun
  | [d] => { results := [.lit (.bool false)], args := [d] }
  | _ => none }
def FnExactValidFieldsWrongFalsely : Prop := fnExactValidFieldsRow.holds Try.pinned (OpenSpec.ofChange fnExactValidFieldsWrong)

/-- 'laws.FnExactDecodePacket': WHATEVER THE INPUT: true; the input reads as it did. -/
def fnExactDecodePacketSpec : ChangeSpec := { name := "fnExactDecodePacket", fn := fun _ => fun
  | [d] => { results := [.lit (.bool true)], args := [d] }
  | _ => none }
def fnExactDecodePacketRow : OpenClaim := { program := "ytcljakdcejhfiab", sum := "e3b0358155dcf16d9a8550a2c264d4ecdafccece6c597442de765948da7f5c88", func := "loop.example/s01316/laws.FnExactDecodePacket", spec := "fnExactDecodePacket", apart := false }
def FnExactDecodePacketSaid : Prop := fnExactDecodePacketRow.holds Try.pinned (OpenSpec.ofChange fnExactDecodePacketSpec)

/-- ITS FALSE NEIGHBOUR: 'it returns false'. Refute it at one input. -/
def fnExactDecodePacketWrong : ChangeSpec := { name := "fnExactDecodePacket", fn := fun _ => fun
  | [d] => { results := [.lit (.bool false)], args := [d] }
  | _ => none }
def FnExactDecodePacketWrongFalsely : Prop := fnExactDecodePacketRow.holds Try.pinned (OpenSpec.ofChange fnExactDecodePacketWrong)

/-- 'laws.FnExactValidIn': WHATEVER THE INPUT: true; the input reads as it did. -/
def fnExactValidInSpec : ChangeSpec := { name := "fnExactValidIn", fn := fun _ => fun
  | [d] => { results := [.lit (.bool true)], args := [d] }
  | _ => none }
def fnExactValidInRow : OpenClaim := { program := "ytcljakdcejhfiab", sum := "e3b0358155dcf16d9a8550a2c264d4ecdafccece6c597442de765948da7f5c88", func := "loop.example/s01316/laws.FnExactValidIn", spec := "fnExactValidIn", apart := false }
def FnExactValidInSaid : Prop := fnExactValidInRow.holds Try.pinned (OpenSpec.ofChange fnExactValidInSpec)

/-- ITS FALSE NEIGHBOUR: 'it returns false'. Refute it at one input. -/
def fnExactValidInWrong : ChangeSpec := { name := "fnExactValidIn", fn := fun _ => fun
  | [d] => { results := [.lit (.bool false)], args := [d] }
  | _ => none }
def FnExactValidInWrongFalsely : Prop := fnExactValidInRow.holds Try.pinned (OpenSpec.ofChange fnExactValidInWrong)

/-- 'laws.FnExactApplyDict': WHATEVER THE INPUT: true; the input reads as it did. -/
def fnExactApplyDictSpec : ChangeSpec := { name := "fnExactApplyDict", fn := fun _ => fun
  | [d1, d2, d3] => { results := [.lit (.bool true)], args := [d1, d2, d3] }
  | _ => none }
def fnExactApplyDictRow : OpenClaim := { program := "ytcljakdcejhfiab", sum := "e3b0358155dcf16d9a8550a2c264d4ecdafccece6c597442de765948da7f5c88", func := "loop.example/s01316/laws.FnExactApplyDict", spec := "fnExactApplyDict", apart := false }
def FnExactApplyDictSaid : Prop := fnExactApplyDictRow.holds Try.pinned (OpenSpec.ofChange fnExactApplyDictSpec)

/-- ITS FALSE NEIGHBOUR: 'it returns false'. Refute it at one input. -/
def fnExactApplyDictWrong : ChangeSpec := { name := "fnExactApplyDict", fn := fun _ => fun
  | [d1, d2, d3] => { results := [.lit (.bool false)], args := [d1, d2, d3] }
  | _ => none }
def FnExactApplyDictWrongFalsely : Prop := fnExactApplyDictRow.holds Try.pinned (OpenSpec.ofChange fnExactApplyDictWrong)

/- THE SECOND FORM. 'bulk': how many values and letters a reading holds, each counted each time it is reached (what is shared counts as often as it is met; a slice's spare places count too). A statement '..UptoSaid' is the law's where the arguments, and the package variables that the reading takes, are together of bulk at most 1048576: NARROWER than '..Said'. Prove '..Said' where nothing that the law and all that it calls make is longer than what came in: it says more and counts as full. Else prove '..UptoSaid'. A law counts once. -/
mutual
def uptoBulk {H : Type} : DataW H → Nat
  | .lit (.string bytes) => bytes.length + 1
  | .lit _ => 1
  | .nil => 1
  | .ptr d => uptoBulk d + 1
  | .slice elems spare => uptoBulkAll elems + uptoBulkAll spare + 1
  | .agg parts => uptoBulkAll parts + 1
  | .iface _ d => uptoBulk d + 1
  | .map entries => uptoBulkEntries entries + 1
  | .held _ => 1
def uptoBulkAll {H : Type} : List (DataW H) → Nat
  | [] => 0
  | d :: r => uptoBulk d + uptoBulkAll r
def uptoBulkEntries {H : Type} : List (Lit × DataW H) → Nat
  | [] => 0
  | x :: r => uptoBulkEntry x + uptoBulkEntries r
def uptoBulkEntry {H : Type} : Lit × DataW H → Nat
  | (.string bytes, d) => bytes.length + uptoBulk d + 1
  | (_, d) => uptoBulk d + 1
 end
def uptoSmall : (H : Type) → List (DataW H) → Bool := fun _ ds => decide (uptoBulkAll ds ≤ 1048576)
def OpenSpec.upto (s : _root_.Go.ChangeSpec) : _root_.Go.OpenSpec := { _root_.Go.OpenSpec.ofChange s with cond := some uptoSmall }

/-- 'laws.FnExactJoinAligned', WHERE WHAT IT READS IS OF BULK AT MOST 1048576: true; the input reads as it did. -/
def fnExactJoinAlignedUptoRow : OpenClaim := { program := "ytcljakdcejhfiab", sum := "e3b0358155dcf16d9a8550a2c264d4ecdafccece6c597442de765948da7f5c88", func := "loop.example/s01316/laws.FnExactJoinAligned", spec := "fnExactJoinAligned", apart := false, narrowed := true }
def FnExactJoinAlignedUptoSaid : Prop := fnExactJoinAlignedUptoRow.holds Try.pinned (OpenSpec.upto fnExactJoinAlignedSpec)

/-- 'laws.FnExactEncodePacket', WHERE WHAT IT READS IS OF BULK AT MOST 1048576: true; the input reads as it did. -/
def fnExactEncodePacketUptoRow : OpenClaim := { program := "ytcljakdcejhfiab", sum := "e3b0358155dcf16d9a8550a2c264d4ecdafccece6c597442de765948da7f5c88", func := "loop.example/s01316/laws.FnExactEncodePacket", spec := "fnExactEncodePacket", apart := false, narrowed := true }
def FnExactEncodePacketUptoSaid : Prop := fnExactEncodePacketUptoRow.holds Try.pinned (OpenSpec.upto fnExactEncodePacketSpec)

/-- 'laws.FnExactValidFields', WHERE WHAT IT READS IS OF BULK AT MOST 1048576: true; the input reads as it did. -/
def fnExactValidFieldsUptoRow : OpenClaim := { program := "ytcljakdcejhfiab", sum := "e3b0358155dcf16d9a8550a2c264d4ecdafccece6c597442de765948da7f5c88", func := "loop.example/s01316/laws.FnExactValidFields", spec := "fnExactValidFields", apart := false, narrowed := true }
def FnExactValidFieldsUptoSaid : Prop := fnExactValidFieldsUptoRow.holds Try.pinned (OpenSpec.upto fnExactValidFieldsSpec)

/-- 'laws.FnExactDecodePacket', WHERE WHAT IT READS IS OF BULK AT MOST 1048576: true; the input reads as it did. -/
def fnExactDecodePacketUptoRow : OpenClaim := { program := "ytcljakdcejhfiab", sum := "e3b0358155dcf16d9a8550a2c264d4ecdafccece6c597442de765948da7f5c88", func := "loop.example/s01316/laws.FnExactDecodePacket", spec := "fnExactDecodePacket", apart := false, narrowed := true }
def FnExactDecodePacketUptoSaid : Prop := fnExactDecodePacketUptoRow.holds Try.pinned (OpenSpec.upto fnExactDecodePacketSpec)

/-- 'laws.FnExactValidIn', WHERE WHAT IT READS IS OF BULK AT MOST 1048576: true; the input reads as it did. -/
def fnExactValidInUptoRow : OpenClaim := { program := "ytcljakdcejhfiab", sum := "e3b0358155dcf16d9a8550a2c264d4ecdafccece6c597442de765948da7f5c88", func := "loop.example/s01316/laws.FnExactValidIn", spec := "fnExactValidIn", apart := false, narrowed := true }
def FnExactValidInUptoSaid : Prop := fnExactValidInUptoRow.holds Try.pinned (OpenSpec.upto fnExactValidInSpec)

/-- 'laws.FnExactApplyDict', WHERE WHAT IT READS IS OF BULK AT MOST 1048576: true; the input reads as it did. -/
def fnExactApplyDictUptoRow : OpenClaim := { program := "ytcljakdcejhfiab", sum := "e3b0358155dcf16d9a8550a2c264d4ecdafccece6c597442de765948da7f5c88", func := "loop.example/s01316/laws.FnExactApplyDict", spec := "fnExactApplyDict", apart := false, narrowed := true }
def FnExactApplyDictUptoSaid : Prop := fnExactApplyDictUptoRow.holds Try.pinned (OpenSpec.upto fnExactApplyDictSpec)

end Rows
end Go.Proofs.Ytcljakdcejhfiab
