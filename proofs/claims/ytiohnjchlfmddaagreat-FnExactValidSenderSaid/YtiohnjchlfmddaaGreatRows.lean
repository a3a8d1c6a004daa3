/-
  No cell of these rows narrows 'for every input' (looked for: loops, veiled, ifaces, maps, wideKeys, modest, calm, conditions, laid).
  DERIVED. THE GIVEN ROWS OF THIS SEAT. 6 by the template 'for every input the law returns true; each argument reads behind the call as it read before'; 0 by the template 'total and deterministic' (their statements: YtiohnjchlfmddaaGreatTotals.lean).
  GIVEN WITH THE SEED: the statements are not yours to turn. If you find one false, say at which input.
  Laid BY PROGRAM, IN A SANDBOX (cutbox-rows.mjs): the forced cells as the released guide's own fill.sh prints them over the translation da56baf50d985852… (all of the seat's roots in one cut). By AI agents, Wed Nov 11 2026. No macro, syntax, notation, axiom, sorry.
-/
import Derived.Test.YtiohnjchlfmddaaGreatChecked
import GoSem.Claim
import GoSem.ClaimJoined
import GoSem.ClaimMapViews
import Derived.JoinedTies
import Derived.KernelRfl
namespace Go.Proofs.YtiohnjchlfmddaaGreat
/- THE CELL 'sum', in the pinned program and in every row, IS THE sha256 OF THE DUMP (.gsa) THAT YtiohnjchlfmddaaGreatProg.lean LOADS. Nothing in Lean hashes anything: it is a label: what it is worth is what the hold of that sum in a sandbox is worth. -/
noncomputable def Tryz.pinned : Pinned := { name := "ytiohnjchlfmddaagreat", sum := "da56baf50d98585287717edc54c707947a6c89305b642ad6bbee9325b8c66995", checked := Tryz.checked }
namespace Rows
def none {H : Type} : Left H := { results := [], args := [] }

/-- 'laws.FnExactValidSender': WHATEVER THE INPUT: true; the input reads as it did. -/
def fnExactValidSenderSpec : ChangeSpec := { name := "fnExactValidSender", fn := fun _ => fun
  | [d] => { results := [.lit (.bool true)], args := [d] }
  | _ => none }
def fnExactValidSenderRow : OpenClaim := { program := "ytiohnjchlfmddaagreat", sum := "da56baf50d98585287717edc54c707947a6c89305b642ad6bbee9325b8c66995", func := "loop.example/s01316/laws.FnExactValidSender", spec := "fnExactValidSender", unfollowed := true, recurses := true, apart := false }
def FnExactValidSenderSaid : Prop := fnExactValidSenderRow.holds Tryz.pinned (OpenSpec.ofChange fnExactValidSenderSpec)

/-- ITS FALSE NEIGHBOUR: 'it returns false'. Refute it at one input. -/
def fnExactValidSenderWrong : ChangeSpec := { name := "fnExactValidSender", fn := fun _ => fun
  | [d] => { results := [.lit (.bool false)], args := [d] }
  | _ => none }
def FnExactValidSenderWrongFalsely : Prop := fnExactValidSenderRow.holds Tryz.pinned (OpenSpec.ofChange fnExactValidSenderWrong)

/-- 'laws.FnExactValidReceiver': WHATEVER THE INPUT: true; the input reads as it did. -/
def fnExactValidReceiverSpec : ChangeSpec := { name := "fnExactValidReceiver", fn := fun _ => fun
  | [d] => { results := [.lit (.bool true)], args := [d] }
  | _ => none }
def fnExactValidReceiverRow : OpenClaim := { program := "ytiohnjchlfmddaagreat", sum := "da56baf50d98585287717edc54c707947a6c89305b642ad6bbee9325b8c66995", func := "loop.example/s01316/laws.FnExactValidReceiver", spec := "fnExactValidReceiver", apart := false }
def FnExactValidReceiverSaid : Prop := fnExactValidReceiverRow.holds Tryz.pinned (OpenSpec.ofChange fnExactValidReceiverSpec)

/-- ITS FALSE NEIGHBOUR: 'it returns false'. Refute it at one input. -/
def fnExactValidReceiverWrong : ChangeSpec := { name := "fnExactValidReceiver", fn := fun _ => fun
  | [d] => { results := [.lit (.bool false)], args := [d] }
  | _ => none }
def FnExactValidReceiverWrongFalsely : Prop := fnExactValidReceiverRow.holds Tryz.pinned (OpenSpec.ofChange fnExactValidReceiverWrong)

/-- 'laws.FnExactOpenSender': WHATEVER THE INPUT: true; the input reads as it did. -/
def fnExactOpenSenderSpec : ChangeSpec := { name := "fnExactOpenSender", fn := fun _ => fun
  | [d] => { results := [.lit (.bool true)], args := [d] }
  | _ => none }
def fnExactOpenSenderRow : OpenClaim := { program := "ytiohnjchlfmddaagreat", sum := "da56baf50d98585287717edc54c707947a6c89305b642ad6bbee9325b8c66995", func := "loop.example/s01316/laws.FnExactOpenSender", spec := "fnExactOpenSender", apart := false }
def FnExactOpenSenderSaid : Prop := fnExactOpenSenderRow.holds Tryz.pinned (OpenSpec.ofChange fnExactOpenSenderSpec)

/-- ITS FALSE NEIGHBOUR: 'it returns false'. Refute it at one input. -/
def fnExactOpenSenderWrong : ChangeSpec := { name := "fnExactOpenSender", fn := fun _ => fun
  | [d] => { results := [.lit (.bool false)], args := [d] }
  | _ => none }
def FnExactOpenSenderWrongFalsely : Prop := fnExactOpenSenderRow.holds Tryz.pinned (OpenSpec.ofChange fnExactOpenSenderWrong)

/-- 'laws.FnExactSend': WHATEVER THE INPUT: true; the input reads as it did. -/
def fnExactSendSpec : ChangeSpec := { name := "fnExactSend", fn := fun _ => fun
  | [d1, d2] => { results := [.lit (.bool true)], args := [d1, d2] }
  | _ => none }
def fnExactSendRow : OpenClaim := { program := "ytiohnjchlfmddaagreat", sum := "da56baf50d98585287717edc54c707947a6c89305b642ad6bbee9325b8c66995", func := "loop.example/s01316/laws.FnExactSend", spec := "fnExactSend", unfollowed := true, recurses := true, apart := false }
def FnExactSendSaid : Prop := fnExactSendRow.holds Tryz.pinned (OpenSpec.ofChange fnExactSendSpec)

/-- ITS FALSE NEIGHBOUR: 'it returns false'. Refute it at one input. -/
def fnExactSendWrong : ChangeSpec := { name := "fnExactSend", fn := fun _ => fun
  | [d1, d2] => { results := [.lit (.bool false)], args := [d1, d2] }
  | _ => none }
def FnExactSendWrongFalsely : Prop := fnExactSendRow.holds Tryz.pinned (OpenSpec.ofChange fnExactSendWrong)

/-- 'laws.FnExactPoll': WHATEVER THE INPUT: true; the input reads as it did. -/
def fnExactPollSpec : ChangeSpec := { name := "fnExactPoll", fn := fun _ => fun
  | [d] => { results := [.lit (.bool true)], args := [d] }
  | _ => none }
def fnExactPollRow : OpenClaim := { program := "ytiohnjchlfmddaagreat", sum := "da56baf50d98585287717edc54c707947a6c89305b642ad6bbee9325b8c66995", func := "loop.example/s01316/laws.FnExactPoll", spec := "fnExactPoll", apart := false }
def FnExactPollSaid : Prop := fnExactPollRow.holds Tryz.pinned (OpenSpec.ofChange fnExactPollSpec)

/-- ITS FALSE NEIGHBOUR: 'it returns false'. Refute it at one input. -/
def fnExactPollWrong : ChangeSpec := { name := "fnExactPoll", fn := fun _ => fun
  | [d] => { results := [.lit (.bool false)], args := [d] }
  | _ => none }
def FnExactPollWrongFalsely : Prop := fnExactPollRow.holds Tryz.pinned (OpenSpec.ofChange fnExactPollWrong)

/-- 'laws.FnExactCrashSender': WHATEVER THE INPUT: true; the input reads as it did. -/
def fnExactCrashSenderSpec : ChangeSpec := { name := "fnExactCrashSender", fn := fun _ => fun
  | [d] => { results := [.lit (.bool true)], args := [d] }
  | _ => none }
def fnExactCrashSenderRow : OpenClaim := { program := "ytiohnjchlfmddaagreat", sum := "da56baf50d98585287717edc54c707947a6c89305b642ad6bbee9325b8c66995", func := "loop.example/s01316/laws.FnExactCrashSender", spec := "fnExactCrashSender", unfollowed := true, recurses := true, apart := false }
def FnExactCrashSenderSaid : Prop := fnExactCrashSenderRow.holds Tryz.pinned (OpenSpec.ofChange fnExactCrashSenderSpec)

/-- ITS FALSE NEIGHBOUR: 'it returns false'. Refute it at one input. -/
def fnExactCrashSenderWrong : ChangeSpec := { name := "fnExactCrashSender", fn := fun _ => fun
  | [d] => { results := [.lit (.bool false)], args := [d] }
  | _ => none }
def FnExactCrashSenderWrongFalsely : Prop := fnExactCrashSenderRow.holds Tryz.pinned (OpenSpec.ofChange fnExactCrashSenderWrong)

/- THE SECOND FORM. 'bulk': how many values and letters a reading holds, each counted each time it is reached (what is shared counts as often as it is met; a slice's spare places count too). A statement '..UptoSaid' is the law's where the arguments, and the package variables that the reading takes, are together of bulk at most 1048576: NARROWER than '..Said'. Prove '..Said' where nothing that the law and all that it calls make is longer than what came in: it says more and counts as full. Else prove '..UptoSaid'. A law counts once. -/
mutual
def uptoBulk {H : Type} : DataW H → Nat
  | .lit (.string bytes) => bytes.length + 1
  | .lit _ => 1
  | .nil => 1
  | .ptr d => uptoBulk d + 1
  | .slice elems spare => uptoBulkAll elems + uptoBulkAll spare + 1
  | .agg parts => uptoBulkAll parts + 1
  | .iface _ d => uptoBulk d + 1
  | .map entries => uptoBulkEntries entries + 1
  | .held _ => 1
def uptoBulkAll {H : Type} : List (DataW H) → Nat
  | [] => 0
  | d :: r => uptoBulk d + uptoBulkAll r
def uptoBulkEntries {H : Type} : List (Lit × DataW H) → Nat
  | [] => 0
  | x :: r => uptoBulkEntry x + uptoBulkEntries r
def uptoBulkEntry {H : Type} : Lit × DataW H → Nat
  | (.string bytes, d) => bytes.length + uptoBulk d + 1
  | (_, d) => uptoBulk d + 1
 end
def uptoSmall : (H : Type) → List (DataW H) → Bool := fun _ ds => decide (uptoBulkAll ds ≤ 1048576)
def OpenSpec.upto (s : _root_.Go.ChangeSpec) : _root_.Go.OpenSpec := { _root_.Go.OpenSpec.ofChange s with cond := some uptoSmall }

/-- 'laws.FnExactValidSender', WHERE WHAT IT READS IS OF BULK AT MOST 1048576: true; the input reads as it did. -/
def fnExactValidSenderUptoRow : OpenClaim := { program := "ytiohnjchlfmddaagreat", sum := "da56baf50d98585287717edc54c707947a6c89305b642ad6bbee9325b8c66995", func := "loop.example/s01316/laws.FnExactValidSender", spec := "fnExactValidSender", unfollowed := true, recurses := true, apart := false, narrowed := true }
def FnExactValidSenderUptoSaid : Prop := fnExactValidSenderUptoRow.holds Tryz.pinned (OpenSpec.upto fnExactValidSenderSpec)

/-- 'laws.FnExactValidReceiver', WHERE WHAT IT READS IS OF BULK AT MOST 1048576: true; the input reads as it did. -/
def fnExactValidReceiverUptoRow : OpenClaim := { program := "ytiohnjchlfmddaagreat", sum := "da56baf50d98585287717edc54c707947a6c89305b642ad6bbee9325b8c66995", func := "loop.example/s01316/laws.FnExactValidReceiver", spec := "fnExactValidReceiver", apart := false, narrowed := true }
def FnExactValidReceiverUptoSaid : Prop := fnExactValidReceiverUptoRow.holds Tryz.pinned (OpenSpec.upto fnExactValidReceiverSpec)

/-- 'laws.FnExactOpenSender', WHERE WHAT IT READS IS OF BULK AT MOST 1048576: true; the input reads as it did. -/
def fnExactOpenSenderUptoRow : OpenClaim := { program := "ytiohnjchlfmddaagreat", sum := "da56baf50d98585287717edc54c707947a6c89305b642ad6bbee9325b8c66995", func := "loop.example/s01316/laws.FnExactOpenSender", spec := "fnExactOpenSender", apart := false, narrowed := true }
def FnExactOpenSenderUptoSaid : Prop := fnExactOpenSenderUptoRow.holds Tryz.pinned (OpenSpec.upto fnExactOpenSenderSpec)

/-- 'laws.FnExactSend', WHERE WHAT IT READS IS OF BULK AT MOST 1048576: true; the input reads as it did. -/
def fnExactSendUptoRow : OpenClaim := { program := "ytiohnjchlfmddaagreat", sum := "da56baf50d98585287717edc54c707947a6c89305b642ad6bbee9325b8c66995", func := "loop.example/s01316/laws.FnExactSend", spec := "fnExactSend", unfollowed := true, recurses := true, apart := false, narrowed := true }
def FnExactSendUptoSaid : Prop := fnExactSendUptoRow.holds Tryz.pinned (OpenSpec.upto fnExactSendSpec)

/-- 'laws.FnExactPoll', WHERE WHAT IT READS IS OF BULK AT MOST 1048576: true; the input reads as it did. -/
def fnExactPollUptoRow : OpenClaim := { program := "ytiohnjchlfmddaagreat", sum := "da56baf50d98585287717edc54c707947a6c89305b642ad6bbee9325b8c66995", func := "loop.example/s01316/laws.FnExactPoll", spec := "fnExactPoll", apart := false, narrowed := true }
def FnExactPollUptoSaid : Prop := fnExactPollUptoRow.holds Tryz.pinned (OpenSpec.upto fnExactPollSpec)

/-- 'laws.FnExactCrashSender', WHERE WHAT IT READS IS OF BULK AT MOST 1048576: true; the input reads as it did. -/
def fnExactCrashSenderUptoRow : OpenClaim := { program := "ytiohnjchlfmddaagreat", sum := "da56baf50d98585287717edc54c707947a6c89305b642ad6bbee9325b8c66995", func := "loop.example/s01316/laws.FnExactCrashSender", spec := "fnExactCrashSender", unfollowed := true, recurses := true, apart := false, narrowed := true }
def FnExactCrashSenderUptoSaid : Prop := fnExactCrashSenderUptoRow.holds Tryz.pinned (OpenSpec.upto fnExactCrashSenderSpec)

end Rows
end Go.Proofs.YtiohnjchlfmddaaGreat
