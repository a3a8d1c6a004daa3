/-
  No cell of these rows narrows 'for every input' (looked for: loops, veiled, ifaces, maps, wideKeys, modest, calm, conditions, laid).
  DERIVED. THE GIVEN ROWS OF THIS SEAT. 6 by the template 'for every input the law returns true; each argument reads behind the call as it read before'; 0 by the template 'total and deterministic' (their statements: YtmfgeieelpojdaaTotals.lean).
  GIVEN WITH THE SEED: the statements are not yours to turn. If you find one false, say at which input.
  Laid BY PROGRAM, IN A SANDBOX (cutbox-rows.mjs): the forced cells as the released guide's own fill.sh prints them over the translation 84bd323506de0693… (all of the seat's roots in one cut). By AI agents, Wed Nov 11 2026. No macro, syntax, notation, axiom, sorry.
-/
import Derived.Test.YtmfgeieelpojdaaChecked
import GoSem.Claim
import GoSem.ClaimJoined
import GoSem.ClaimMapViews
import Derived.JoinedTies
import Derived.KernelRfl
namespace Go.Proofs.Ytmfgeieelpojdaa
/- THE CELL 'sum', in the pinned program and in every row, IS THE sha256 OF THE DUMP (.gsa) THAT YtmfgeieelpojdaaProg.lean LOADS. Nothing in Lean hashes anything: it is a label: what it is worth is what the hold of that sum in a sandbox is worth. -/
noncomputable def Try.pinned : Pinned := { name := "ytmfgeieelpojdaa", sum := "84bd323506de0693ca1ad44a9e5b69a075be9cc77af78e5b3fd45c2b08a0fee1", checked := Try.checked }
namespace Rows
def none {H : Type} : Left H := { results := [], args := [] }

/-- 'laws.FnExactEncodePacket': WHATEVER THE INPUT: true; the input reads as it did. -/
def fnExactEncodePacketSpec : ChangeSpec := { name := "fnExactEncodePacket", fn := fun _ => fun
  | [d] => { results := [.lit (.bool true)], args := [d] }
  | _ => none }
def fnExactEncodePacketRow : OpenClaim := { program := "ytmfgeieelpojdaa", sum := "84bd323506de0693ca1ad44a9e5b69a075be9cc77af78e5b3fd45c2b08a0fee1", func := "loop.example/s01316/laws.FnExactEncodePacket", spec := "fnExactEncodePacket", apart := false }
def FnExactEncodePacketSaid : Prop := fnExactEncodePacketRow.holds Try.pinned (OpenSpec.ofChange fnExactEncodePacketSpec)

/-- ITS FALSE NEIGHBOUR: 'it returns false'. Refute it at one input. -/
def fnExactEncodePacketWrong : ChangeSpec := { name := "fnExactEncodePacket", fn := fun _ => fun
  | [d] => { results := [.lit (.bool false)], args := [d] }
  | _ => none }
def FnExactEncodePacketWrongFalsely : Prop := fnExactEncodePacketRow.holds Try.pinned (OpenSpec.ofChange fnExactEncodePacketWrong)

/-- 'laws.FnExactDecodePacket': WHATEVER THE INPUT: true; the input reads as it did. -/
def fnExactDecodePacketSpec : ChangeSpec := { name := "fnExactDecodePacket", fn := fun _ => fun
  | [d] => { results := [.lit (.bool true)], args := [d] }
  | _ => none }
def fnExactDecodePacketRow : OpenClaim := { program := "ytmfgeieelpojdaa", sum := "84bd323506de0693ca1ad44a9e5b69a075be9cc77af78e5b3fd45c2b08a0fee1", func := "loop.example/s01316/laws.FnExactDecodePacket", spec := "fnExactDecodePacket", apart := false }
def FnExactDecodePacketSaid : Prop := fnExactDecodePacketRow.holds Try.pinned (OpenSpec.ofChange fnExactDecodePacketSpec)

/-- ITS FALSE NEIGHBOUR: 'it returns false'. Refute it at one input. -/
def fnExactDecodePacketWrong : ChangeSpec := { name := "fnExactDecodePacket", fn := fun _ => fun
  | [d] => { results := [.lit (.bool false)], args := [d] }
  | _ => none }
def FnExactDecodePacketWrongFalsely : Prop := fnExactDecodePacketRow.holds Try.pinned (OpenSpec.ofChange fnExactDecodePacketWrong)

/-- 'laws.FnExactValidIn': WHATEVER THE INPUT: true; the input reads as it did. -/
def fnExactValidInSpec : ChangeSpec := { name := "fnExactValidIn", fn := fun _ => fun
  | [d] => { results := [.lit (.bool true)], args := [d] }
  | _ => none }
def fnExactValidInRow : OpenClaim := { program := "ytmfgeieelpojdaa", sum := "84bd323506de0693ca1ad44a9e5b69a075be9cc77af78e5b3fd45c2b08a0fee1", func := "loop.example/s01316/laws.FnExactValidIn", spec := "fnExactValidIn", apart := false }
def FnExactValidInSaid : Prop := fnExactValidInRow.holds Try.pinned (OpenSpec.ofChange fnExactValidInSpec)

/-- ITS FALSE NEIGHBOUR: 'it returns false'. Refute it at one input. -/
def fnExactValidInWrong : ChangeSpec := { name := "fnExactValidIn", fn := fun _ => fun
  | [d] => { results := [.lit (.bool false)], args := [d] }
  | _ => none }
def FnExactValidInWrongFalsely : Prop := fnExactValidInRow.holds Try.pinned (OpenSpec.ofChange fnExactValidInWrong)

/-- 'laws.FnExactValidOut': WHATEVER THE INPUT: true; the input reads as it did. -/
def fnExactValidOutSpec : ChangeSpec := { name := "fnExactValidOut", fn := fun _ => fun
  | [d] => { results := [.lit (.bool true)], args := [d] }
  | _ => none }
def fnExactValidOutRow : OpenClaim := { program := "ytmfgeieelpojdaa", sum := "84bd323506de0693ca1ad44a9e5b69a075be9cc77af78e5b3fd45c2b08a0fee1", func := "loop.example/s01316/laws.FnExactValidOut", spec := "fnExactValidOut", apart := false }
def FnExactValidOutSaid : Prop := fnExactValidOutRow.holds Try.pinned (OpenSpec.ofChange fnExactValidOutSpec)

/-- ITS FALSE NEIGHBOUR: 'it returns false'. Refute it at one input. -/
def fnExactValidOutWrong : ChangeSpec := { name := "fnExactValidOut", fn := fun _ => fun
  | [d] => { results := [.lit (.bool false)], args := [d] }
  | _ => none }
def FnExactValidOutWrongFalsely : Prop := fnExactValidOutRow.holds Try.pinned (OpenSpec.ofChange fnExactValidOutWrong)

/-- 'laws.FnExactLinkPush': WHATEVER THE INPUT: true; the input reads as it did. -/
def fnExactLinkPushSpec : ChangeSpec := { name := "fnExactLinkPush", fn := fun _ => fun
  | [d1, d2] => { results := [.lit (.bool true)], args := [d1, d2] }
  | _ => none }
def fnExactLinkPushRow : OpenClaim := { program := "ytmfgeieelpojdaa", sum := "84bd323506de0693ca1ad44a9e5b69a075be9cc77af78e5b3fd45c2b08a0fee1", func := "loop.example/s01316/laws.FnExactLinkPush", spec := "fnExactLinkPush", apart := false }
def FnExactLinkPushSaid : Prop := fnExactLinkPushRow.holds Try.pinned (OpenSpec.ofChange fnExactLinkPushSpec)

/-- ITS FALSE NEIGHBOUR: 'it returns false'. Refute it at one input. -/
def fnExactLinkPushWrong : ChangeSpec := { name := "fnExactLinkPush", fn := fun _ => fun
  | [d1, d2] => { results := [.lit (.bool false)], args := [d1, d2] }
  | _ => none }
def FnExactLinkPushWrongFalsely : Prop := fnExactLinkPushRow.holds Try.pinned (OpenSpec.ofChange fnExactLinkPushWrong)

/-- 'laws.FnExactLinkAcked': WHATEVER THE INPUT: true; the input reads as it did. -/
def fnExactLinkAckedSpec : ChangeSpec := { name := "fnExactLinkAcked", fn := fun _ => fun
  | [d1, d2] => { results := [.lit (.bool true)], args := [d1, d2] }
  | _ => none }
def fnExactLinkAckedRow : OpenClaim := { program := "ytmfgeieelpojdaa", sum := "84bd323506de0693ca1ad44a9e5b69a075be9cc77af78e5b3fd45c2b08a0fee1", func := "loop.example/s01316/laws.FnExactLinkAcked", spec := "fnExactLinkAcked", apart := false }
def FnExactLinkAckedSaid : Prop := fnExactLinkAckedRow.holds Try.pinned (OpenSpec.ofChange fnExactLinkAckedSpec)

/-- ITS FALSE NEIGHBOUR: 'it returns false'. Refute it at one input. -/
def fnExactLinkAckedWrong : ChangeSpec := { name := "fnExactLinkAcked", fn := fun _ => fun
  | [d1, d2] => { results := [.lit (.bool false)], args := [d1, d2] }
  | _ => none }
def FnExactLinkAckedWrongFalsely : Prop := fnExactLinkAckedRow.holds Try.pinned (OpenSpec.ofChange fnExactLinkAckedWrong)

/- THE SECOND FORM. 'bulk': how many values and letters a reading holds, each counted each time it is reached (what is shared counts as often as it is met; a slice's spare places count too). A statement '..UptoSaid' is the law's where the arguments, and the package variables that the reading takes, are together of bulk at most 1048576: NARROWER than '..Said'. Prove '..Said' where nothing that the law and all that it calls make is longer than what came in: it says more and counts as full. Else prove '..UptoSaid'. A law counts once. -/
mutual
def uptoBulk {H : Type} : DataW H → Nat
  | .lit (.string bytes) => bytes.length + 1
  | .lit _ => 1
  | .nil => 1
  | .ptr d => uptoBulk d + 1
  | .slice elems spare => uptoBulkAll elems + uptoBulkAll spare + 1
  | .agg parts => uptoBulkAll parts + 1
  | .iface _ d => uptoBulk d + 1
  | .map entries => uptoBulkEntries entries + 1
  | .held _ => 1
def uptoBulkAll {H : Type} : List (DataW H) → Nat
  | [] => 0
  | d :: r => uptoBulk d + uptoBulkAll r
def uptoBulkEntries {H : Type} : List (Lit × DataW H) → Nat
  | [] => 0
  | x :: r => uptoBulkEntry x + uptoBulkEntries r
def uptoBulkEntry {H : Type} : Lit × DataW H → Nat
  | (.string bytes, d) => bytes.length + uptoBulk d + 1
  | (_, d) => uptoBulk d + 1
 end
def uptoSmall : (H : Type) → List (DataW H) → Bool := fun _ ds => decide (uptoBulkAll ds ≤ 1048576)
def OpenSpec.upto (s : _root_.Go.ChangeSpec) : _root_.Go.OpenSpec := { _root_.Go.OpenSpec.ofChange s with cond := some uptoSmall }

/-- 'laws.FnExactEncodePacket', WHERE WHAT IT READS IS OF BULK AT MOST 1048576: true; the input reads as it did. -/
def fnExactEncodePacketUptoRow : OpenClaim := { program := "ytmfgeieelpojdaa", sum := "84bd323506de0693ca1ad44a9e5b69a075be9cc77af78e5b3fd45c2b08a0fee1", func := "loop.example/s01316/laws.FnExactEncodePacket", spec := "fnExactEncodePacket", apart := false, narrowed := true }
def FnExactEncodePacketUptoSaid : Prop := fnExactEncodePacketUptoRow.holds Try.pinned (OpenSpec.upto fnExactEncodePacketSpec)

/-- 'laws.FnExactDecodePacket', WHERE WHAT IT READS IS OF BULK AT MOST 1048576: true; the input reads as it did. -/
def fnExactDecodePacketUptoRow : OpenClaim := { program := "ytmfgeieelpojdaa", sum := "84bd323506de0693ca1ad44a9e5b69a075be9cc77af78e5b3fd45c2b08a0fee1", func := "loop.example/s01316/laws.FnExactDecodePacket", spec := "fnExactDecodePacket", apart := false, narrowed := true }
def FnExactDecodePacketUptoSaid : Prop := fnExactDecodePacketUptoRow.holds Try.pinned (OpenSpec.upto fnExactDecodePacketSpec)

/-- 'laws.FnExactValidIn', WHERE WHAT IT READS IS OF BULK AT MOST 1048576: true; the input reads as it did. -/
def fnExactValidInUptoRow : OpenClaim := { program := "ytmfgeieelpojdaa", sum := "84bd323506de0693ca1ad44a9e5b69a075be9cc77af78e5b3fd45c2b08a0fee1", func := "loop.example/s01316/laws.FnExactValidIn", spec := "fnExactValidIn", apart := false, narrowed := true }
def FnExactValidInUptoSaid : Prop := fnExactValidInUptoRow.holds Try.pinned (OpenSpec.upto fnExactValidInSpec)

/-- 'laws.FnExactValidOut', WHERE WHAT IT READS IS OF BULK AT MOST 1048576: true; the input reads as it did. -/
def fnExactValidOutUptoRow : OpenClaim := { program := "ytmfgeieelpojdaa", sum := "84bd323506de0693ca1ad44a9e5b69a075be9cc77af78e5b3fd45c2b08a0fee1", func := "loop.example/s01316/laws.FnExactValidOut", spec := "fnExactValidOut", apart := false, narrowed := true }
def FnExactValidOutUptoSaid : Prop := fnExactValidOutUptoRow.holds Try.pinned (OpenSpec.upto fnExactValidOutSpec)

/-- 'laws.FnExactLinkPush', WHERE WHAT IT READS IS OF BULK AT MOST 1048576: true; the input reads as it did. -/
def fnExactLinkPushUptoRow : OpenClaim := { program := "ytmfgeieelpojdaa", sum := "84bd323506de0693ca1ad44a9e5b69a075be9cc77af78e5b3fd45c2b08a0fee1", func := "loop.example/s01316/laws.FnExactLinkPush", spec := "fnExactLinkPush", apart := false, narrowed := true }
def FnExactLinkPushUptoSaid : Prop := fnExactLinkPushUptoRow.holds Try.pinned (OpenSpec.upto fnExactLinkPushSpec)

/-- 'laws.FnExactLinkAcked', WHERE WHAT IT READS IS OF BULK AT MOST 1048576: true; the input reads as it did. -/
def fnExactLinkAckedUptoRow : OpenClaim := { program := "ytmfgeieelpojdaa", sum := "84bd323506de0693ca1ad44a9e5b69a075be9cc77af78e5b3fd45c2b08a0fee1", func := "loop.example/s01316/laws.FnExactLinkAcked", spec := "fnExactLinkAcked", apart := false, narrowed := true }
def FnExactLinkAckedUptoSaid : Prop := fnExactLinkAckedUptoRow.holds Try.pinned (OpenSpec.upto fnExactLinkAckedSpec)

end Rows
end Go.Proofs.Ytmfgeieelpojdaa
