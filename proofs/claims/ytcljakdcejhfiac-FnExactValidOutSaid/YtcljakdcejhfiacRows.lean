/-
  No cell of these rows narrows 'for every input' (looked for: loops, veiled, ifaces, maps, wideKeys, modest, calm, conditions, laid).
  DERIVED. THE GIVEN ROWS OF THIS SEAT. 6 by the template 'for every input the law returns true; each argument reads behind the call as it read before'; 0 by the template 'total and deterministic' (their statements: YtcljakdcejhfiacTotals.lean).
  GIVEN WITH THE SEED: the statements are not yours to turn. If you find one false, say at which input.
  Laid BY PROGRAM, IN A SANDBOX (cutbox-rows.mjs): the forced cells as the released guide's own fill.sh prints them over the translation 04decdca8f33d8bf… (all of the seat's roots in one cut). By AI agents, Wed Nov 11 2026. No macro, syntax, notation, axiom, sorry.
-/
import Derived.Test.YtcljakdcejhfiacChecked
import GoSem.Claim
import GoSem.ClaimJoined
import GoSem.ClaimMapViews
import Derived.JoinedTies
import Derived.KernelRfl
namespace Go.Proofs.Ytcljakdcejhfiac
/- THE CELL 'sum', in the pinned program and in every row, IS THE sha256 OF THE DUMP (.gsa) THAT YtcljakdcejhfiacProg.lean LOADS. Nothing in Lean hashes anything: it is a label: what it is worth is what the hold of that sum in a sandbox is worth. -/
noncomputable def Try.pinned : Pinned := { name := "ytcljakdcejhfiac", sum := "04decdca8f33d8bfa40b835df73339dde3b3447265e353ab21125a2bfd91c144", checked := Try.checked }
namespace Rows
def none {H : Type} : Left H := { results := [], args := [] }

/-- 'laws.FnExactValidOut': WHATEVER THE INPUT: true; the input reads as it did. -/
def fnExactValidOutSpec : ChangeSpec := { name := "fnExactValidOut", fn := fun _ => fun
  | [d] => { results := [.lit (.bool true)], args := [d] }
  | _ => none }
def fnExactValidOutRow : OpenClaim := { program := "ytcljakdcejhfiac", sum := "04decdca8f33d8bfa40b835df73339dde3b3447265e353ab21125a2bfd91c144", func := "loop.example/s01316/laws.FnExactValidOut", spec := "fnExactValidOut", apart := false }
def FnExactValidOutSaid : Prop := fnExactValidOutRow.holds Try.pinned (OpenSpec.ofChange fnExactValidOutSpec)

/-- ITS FALSE NEIGHBOUR: 'it returns false'. Refute it at one input. -/
def fnExactValidOutWrong : ChangeSpec := { name := "fnExactValidOut", fn := fun _ => fun
  | [d] => { results := [.lit (.bool false)], args := [d] }
  | _ => none }
def FnExactValidOutWrongFalsely : Prop := fnExactValidOutRow.holds Try.pinned (OpenSpec.ofChange fnExactValidOutWrong)

/-- 'laws.FnExactEncodeMessage': WHATEVER THE INPUT: true; the input reads as it did. -/
def fnExactEncodeMessageSpec : ChangeSpec := { name := "fnExactEncodeMessage", fn := fun _ => fun
  | [d] => { results := [.lit (.bool true)], args := [d] }
  | _ => none }
def fnExactEncodeMessageRow : OpenClaim := { program := "ytcljakdcejhfiac", sum := "04decdca8f33d8bfa40b835df73339dde3b3447265e353ab21125a2bfd91c144", func := "loop.example/s01316/laws.FnExactEncodeMessage", spec := "fnExactEncodeMessage", apart := false }
def FnExactEncodeMessageSaid : Prop := fnExactEncodeMessageRow.holds Try.pinned (OpenSpec.ofChange fnExactEncodeMessageSpec)

/-- ITS FALSE NEIGHBOUR: 'it returns false'. Refute it at one input. -/
def fnExactEncodeMessageWrong : ChangeSpec := { name := "fnExactEncodeMessage", fn := fun _ => fun
  | [d] => { results := [.lit (.bool false)], args := [d] }
  | _ => none }
def FnExactEncodeMessageWrongFalsely : Prop := fnExactEncodeMessageRow.holds Try.pinned (OpenSpec.ofChange fnExactEncodeMessageWrong)

/-- 'laws.FnBuffers': WHATEVER THE INPUT: true; the input reads as it did. -/
def fnBuffersSpec : ChangeSpec := { name := "fnBuffers", fn := fun _ => fun
  | [d] => { results := [.lit (.bool true)], args := [d] }
  | _ => none }
def fnBuffersRow : OpenClaim := { program := "ytcljakdcejhfiac", sum := "04decdca8f33d8bfa40b835df73339dde3b3447265e353ab21125a2bfd91c144", func := "loop.example/s01316/laws.FnBuffers", spec := "fnBuffers", apart := false }
def FnBuffersSaid : Prop := fnBuffersRow.holds Try.pinned (OpenSpec.ofChange fnBuffersSpec)

/-- ITS FALSE NEIGHBOUR: 'it returns false'. Refute it at one input. -/
def fnBuffersWrong : ChangeSpec := { name := "fnBuffers", fn := fun _ => fun
  | [d] => { results := [.lit (.bool false)], args := [d] }
  | _ => none }
def FnBuffersWrongFalsely : Prop := fnBuffersRow.holds Try.pinned (OpenSpec.ofChange fnBuffersWrong)

/-- 'laws.FnExactValidStream': WHATEVER THE INPUT: true; the input reads as it did. -/
def fnExactValidStreamSpec : ChangeSpec := { name := "fnExactValidStream", fn := fun _ => fun
  | [d] => { results := [.lit (.bool true)], args := [d] }
  | _ => none }
def fnExactValidStreamRow : OpenClaim := { program := "ytcljakdcejhfiac", sum := "04decdca8f33d8bfa40b835df73339dde3b3447265e353ab21125a2bfd91c144", func := "loop.example/s01316/laws.FnExactValidStream", spec := "fnExactValidStream", apart := false }
def FnExactValidStreamSaid : Prop := fnExactValidStreamRow.holds Try.pinned (OpenSpec.ofChange fnExactValidStreamSpec)

/-- ITS FALSE NEIGHBOUR: 'it returns false'. Refute it at one input. -/
def fnExactValidStreamWrong : ChangeSpec := { name := "fnExactValidStream", fn := fun _ => fun
  | [d] => { results := [.lit (.bool false)], args := [d] }
  | _ => none }
def FnExactValidStreamWrongFalsely : Prop := fnExactValidStreamRow.holds Try.pinned (OpenSpec.ofChange fnExactValidStreamWrong)

/-- 'laws.FnExactLinkPush': WHATEVER THE INPUT: true; the input reads as it did. -/
def fnExactLinkPushSpec : ChangeSpec := { name := "fnExactLinkPush", fn := fun _ => fun
  | [d1, d2] => { results := [.lit (.bool true)], args := [d1, d2] }
  | _ => none }
def fnExactLinkPushRow : OpenClaim := { program := "ytcljakdcejhfiac", sum := "04decdca8f33d8bfa40b835df73339dde3b3447265e353ab21125a2bfd91c144", func := "loop.example/s01316/laws.FnExactLinkPush", spec := "fnExactLinkPush", apart := false }
def FnExactLinkPushSaid : Prop := fnExactLinkPushRow.holds Try.pinned (OpenSpec.ofChange fnExactLinkPushSpec)

/-- ITS FALSE NEIGHBOUR: 'it returns false'. Refute it at one input. -/
def fnExactLinkPushWrong : ChangeSpec := { name := "fnExactLinkPush", fn := fun _ => fun
  | [d1, d2] => { results := [.lit (.bool false)], args := [d1, d2] }
  | _ => none }
def FnExactLinkPushWrongFalsely : Prop := fnExactLinkPushRow.holds Try.pinned (OpenSpec.ofChange fnExactLinkPushWrong)

/-- 'laws.FnExactLinkAcked': WHATEVER THE INPUT: true; the input reads as it did. -/
def fnExactLinkAckedSpec : ChangeSpec := { name := "fnExactLinkAcked", fn := fun _ => fun
  | [d1, d2] => { results := [.lit (.bool true)], args := [d1, d2] }
  | _ => none }
def fnExactLinkAckedRow : OpenClaim := { program := "ytcljakdcejhfiac", sum := "04decdca8f33d8bfa40b835df73339dde3b3447265e353ab21125a2bfd91c144", func := "loop.example/s01316/laws.FnExactLinkAcked", spec := "fnExactLinkAcked", apart := false }
def FnExactLinkAckedSaid : Prop := fnExactLinkAckedRow.holds Try.pinned (OpenSpec.ofChange fnExactLinkAckedSpec)

/-- ITS FALSE NEIGHBOUR: 'it returns false'. Refute it at one input. -/
def fnExactLinkAckedWrong : ChangeSpec := { name := "fnExactLinkAcked", fn := fun _ => fun
  | [d1, d2] => { results := [.lit (.bool false)], args := [d1, d2] }
  | _ => none }
def FnExactLinkAckedWrongFalsely : Prop := fnExactLinkAckedRow.holds Try.pinned (OpenSpec.ofChange fnExactLinkAckedWrong)

/- THE SECOND FORM. 'bulk': how many values and letters a reading holds, each counted each time it is reached (what is shared counts as often as it is met; a slice's spare places count too). A statement '..UptoSaid' is the law's where the arguments, and the package variables that the reading takes, are together of bulk at most 1048576: NARROWER than '..Said'. Prove '..Said' where nothing that the law and all that it calls make is longer than what came in: it says more and counts as full. Else prove '..UptoSaid'. A law counts once. -/
mutual
def uptoBulk {H : Type} : DataW H → Nat
  | .lit (.string bytes) => bytes.length + 1
  | .lit _ => 1
  | .nil => 1
  | .ptr d => uptoBulk d + 1
  | .slice elems spare => uptoBulkAll elems + uptoBulkAll spare + 1
  | .agg parts => uptoBulkAll parts + 1
  | .iface _ d => uptoBulk d + 1
  | .map entries => uptoBulkEntries entries + 1
  | .held _ => 1
def uptoBulkAll {H : Type} : List (DataW H) → Nat
  | [] => 0
  | d :: r => uptoBulk d + uptoBulkAll r
def uptoBulkEntries {H : Type} : List (Lit × DataW H) → Nat
  | [] => 0
  | x :: r => uptoBulkEntry x + uptoBulkEntries r
def uptoBulkEntry {H : Type} : Lit × DataW H → Nat
  | (.string bytes, d) => bytes.length + uptoBulk d + 1
  | (_, d) => uptoBulk d + 1
 end
def uptoSmall : (H : Type) → List (DataW H) → Bool := fun _ ds => decide (uptoBulkAll ds ≤ 1048576)
def OpenSpec.upto (s : _root_.Go.ChangeSpec) : _root_.Go.OpenSpec := { _root_.Go.OpenSpec.ofChange s with cond := some uptoSmall }

/-- 'laws.FnExactValidOut', WHERE WHAT IT READS IS OF BULK AT MOST 1048576: true; the input reads as it did. -/
def fnExactValidOutUptoRow : OpenClaim := { program := "ytcljakdcejhfiac", sum := "04decdca8f33d8bfa40b835df73339dde3b3447265e353ab21125a2bfd91c144", func := "loop.example/s01316/laws.FnExactValidOut", spec := "fnExactValidOut", apart := false, narrowed := true }
def FnExactValidOutUptoSaid : Prop := fnExactValidOutUptoRow.holds Try.pinned (OpenSpec.upto fnExactValidOutSpec)

/-- 'laws.FnExactEncodeMessage', WHERE WHAT IT READS IS OF BULK AT MOST 1048576: true; the input reads as it did. -/
def fnExactEncodeMessageUptoRow : OpenClaim := { program := "ytcljakdcejhfiac", sum := "04decdca8f33d8bfa40b835df73339dde3b3447265e353ab21125a2bfd91c144", func := "loop.example/s01316/laws.FnExactEncodeMessage", spec := "fnExactEncodeMessage", apart := false, narrowed := true }
def FnExactEncodeMessageUptoSaid : Prop := fnExactEncodeMessageUptoRow.holds Try.pinned (OpenSpec.upto fnExactEncodeMessageSpec)

/-- 'laws.FnBuffers', WHERE WHAT IT READS IS OF BULK AT MOST 1048576: true; the input reads as it did. -/
def fnBuffersUptoRow : OpenClaim := { program := "ytcljakdcejhfiac", sum := "04decdca8f33d8bfa40b835df73339dde3b3447265e353ab21125a2bfd91c144", func := "loop.example/s01316/laws.FnBuffers", spec := "fnBuffers", apart := false, narrowed := true }
def FnBuffersUptoSaid : Prop := fnBuffersUptoRow.holds Try.pinned (OpenSpec.upto fnBuffersSpec)

/-- 'laws.FnExactValidStream', WHERE WHAT IT READS IS OF BULK AT MOST 1048576: true; the input reads as it did. -/
def fnExactValidStreamUptoRow : OpenClaim := { program := "ytcljakdcejhfiac", sum := "04decdca8f33d8bfa40b835df73339dde3b3447265e353ab21125a2bfd91c144", func := "loop.example/s01316/laws.FnExactValidStream", spec := "fnExactValidStream", apart := false, narrowed := true }
def FnExactValidStreamUptoSaid : Prop := fnExactValidStreamUptoRow.holds Try.pinned (OpenSpec.upto fnExactValidStreamSpec)

/-- 'laws.FnExactLinkPush', WHERE WHAT IT READS IS OF BULK AT MOST 1048576: true; the input reads as it did. -/
def fnExactLinkPushUptoRow : OpenClaim := { program := "ytcljakdcejhfiac", sum := "04decdca8f33d8bfa40b835df73339dde3b3447265e353ab21125a2bfd91c144", func := "loop.example/s01316/laws.FnExactLinkPush", spec := "fnExactLinkPush", apart := false, narrowed := true }
def FnExactLinkPushUptoSaid : Prop := fnExactLinkPushUptoRow.holds Try.pinned (OpenSpec.upto fnExactLinkPushSpec)

/-- 'laws.FnExactLinkAcked', WHERE WHAT IT READS IS OF BULK AT MOST 1048576: true; the input reads as it did. -/
def fnExactLinkAckedUptoRow : OpenClaim := { program := "ytcljakdcejhfiac", sum := "04decdca8f33d8bfa40b835df73339dde3b3447265e353ab21125a2bfd91c144", func := "loop.example/s01316/laws.FnExactLinkAcked", spec := "fnExactLinkAcked", apart := false, narrowed := true }
def FnExactLinkAckedUptoSaid : Prop := fnExactLinkAckedUptoRow.holds Try.pinned (OpenSpec.upto fnExactLinkAckedSpec)

end Rows
end Go.Proofs.Ytcljakdcejhfiac
