/-
  No cell of these rows narrows 'for every input' (looked for: loops, veiled, ifaces, maps, wideKeys, modest, calm, conditions, laid).
  DERIVED. THE GIVEN ROWS OF THIS SEAT. 5 by the template 'for every input the law returns true; each argument reads behind the call as it read before'; 0 by the template 'total and deterministic' (their statements: YtfaehioeepolhaaGreatTotals.lean).
  GIVEN WITH THE SEED: the statements are not yours to turn. If you find one false, say at which input.
  Laid BY PROGRAM, IN A SANDBOX (cutbox-rows.mjs): the forced cells as the released guide's own fill.sh prints them over the translation da3f7ebe0d237274… (all of the seat's roots in one cut). By AI agents, Wed Nov 11 2026. No macro, syntax, notation, axiom, sorry.
-/
import Derived.Test.YtfaehioeepolhaaGreatChecked
import GoSem.Claim
import GoSem.ClaimJoined
import GoSem.ClaimMapViews
import Derived.JoinedTies
import Derived.KernelRfl
namespace Go.Proofs.YtfaehioeepolhaaGreat
/- THE CELL 'sum', in the pinned program and in every row, IS THE sha256 OF THE DUMP (.gsa) THAT YtfaehioeepolhaaGreatProg.lean LOADS. Nothing in Lean hashes anything: it is a label: what it is worth is what the hold of that sum in a sandbox is worth. -/
noncomputable def Tryz.pinned : Pinned := { name := "ytfaehioeepolhaagreat", sum := "da3f7ebe0d23727408ac8d92b296f613f8ee7e952ed4c8310258d35607c70bf6", checked := Tryz.checked }
namespace Rows
def none {H : Type} : Left H := { results := [], args := [] }

/-- 'laws.FnExactValidReceiver': WHATEVER THE INPUT: true; the input reads as it did. -/
def fnExactValidReceiverSpec : ChangeSpec := { name := "fnExactValidReceiver", fn := fun _ => fun
  | [d] => { results := [.lit (.bool true)], args := [d] }
  | _ => none }
def fnExactValidReceiverRow : OpenClaim := { program := "ytfaehioeepolhaagreat", sum := "da3f7ebe0d23727408ac8d92b296f613f8ee7e952ed4c8310258d35607c70bf6", func := "loop.example/s01316/laws.FnExactValidReceiver", spec := "fnExactValidReceiver", apart := false }
def FnExactValidReceiverSaid : Prop := fnExactValidReceiverRow.holds Tryz.pinned (OpenSpec.ofChange fnExactValidReceiverSpec)

/-- ITS FALSE NEIGHBOUR: 'it returns false'. Refute it at one input. -/
def fnExactValidReceiverWrong : ChangeSpec := { name := "fnExactValidReceiver", fn := fun _ => fun
  | [d] => { results := [.lit (.bool false)], args := [d] }
  | _ => none }
def FnExactValidReceiverWrongFalsely : Prop := fnExactValidReceiverRow.holds Tryz.pinned (OpenSpec.ofChange fnExactValidReceiverWrong)

/-- 'laws.FnExactValidSender': WHATEVER THE INPUT: true; the input reads as it did. -/
def fnExactValidSenderSpec : ChangeSpec := { name := "fnExactValidSender", fn := fun _ => fun
  | [d] => { results := [.lit (.bool true)], args := [d] }
  | _ => none }
def fnExactValidSenderRow : OpenClaim := { program := "ytfaehioeepolhaagreat", sum := "da3f7ebe0d23727408ac8d92b296f613f8ee7e952ed4c8310258d35607c70bf6", func := "loop.example/s01316/laws.FnExactValidSender", spec := "fnExactValidSender", unfollowed := true, recurses := true, apart := false }
def FnExactValidSenderSaid : Prop := fnExactValidSenderRow.holds Tryz.pinned (OpenSpec.ofChange fnExactValidSenderSpec)

/-- ITS FALSE NEIGHBOUR: 'it returns false'. Refute it at one input. -/
def fnExactValidSenderWrong : ChangeSpec := { name := "fnExactValidSender", fn := fun _ => fun
  | [d] => { results := [.lit (.bool false)], args := [d] }
  | _ => none }
def FnExactValidSenderWrongFalsely : Prop := fnExactValidSenderRow.holds Tryz.pinned (OpenSpec.ofChange fnExactValidSenderWrong)

/-- 'laws.FnExactOpenSender': WHATEVER THE INPUT: true; the input reads as it did. -/
def fnExactOpenSenderSpec : ChangeSpec := { name := "fnExactOpenSender", fn := fun _ => fun
  | [d] => { results := [.lit (.bool true)], args := [d] }
  | _ => none }
def fnExactOpenSenderRow : OpenClaim := { program := "ytfaehioeepolhaagreat", sum := "da3f7ebe0d23727408ac8d92b296f613f8ee7e952ed4c8310258d35607c70bf6", func := "loop.example/s01316/laws.FnExactOpenSender", spec := "fnExactOpenSender", apart := false }
def FnExactOpenSenderSaid : Prop := fnExactOpenSenderRow.holds Tryz.pinned (OpenSpec.ofChange fnExactOpenSenderSpec)

/-- ITS FALSE NEIGHBOUR: 'it returns false'. Refute it at one input. -/
def fnExactOpenSenderWrong : ChangeSpec := { name := "fnExactOpenSender", fn := fun _ => fun
  | [d] => { results := [.lit (.bool false)], args := [d] }
  | _ => none }
def FnExactOpenSenderWrongFalsely : Prop := fnExactOpenSenderRow.holds Tryz.pinned (OpenSpec.ofChange fnExactOpenSenderWrong)

/-- 'laws.FnExactCrashReceiver': WHATEVER THE INPUT: true; the input reads as it did. -/
def fnExactCrashReceiverSpec : ChangeSpec := { name := "fnExactCrashReceiver", fn := fun _ => fun
  | [d] => { results := [.lit (.bool true)], args := [d] }
  | _ => none }
def fnExactCrashReceiverRow : OpenClaim := { program := "ytfaehioeepolhaagreat", sum := "da3f7ebe0d23727408ac8d92b296f613f8ee7e952ed4c8310258d35607c70bf6", func := "loop.example/s01316/laws.FnExactCrashReceiver", spec := "fnExactCrashReceiver", apart := false }
def FnExactCrashReceiverSaid : Prop := fnExactCrashReceiverRow.holds Tryz.pinned (OpenSpec.ofChange fnExactCrashReceiverSpec)

/-- ITS FALSE NEIGHBOUR: 'it returns false'. Refute it at one input. -/
def fnExactCrashReceiverWrong : ChangeSpec := { name := "fnExactCrashReceiver", fn := fun _ => fun
  | [d] => { results := [.lit (.bool false)], args := [d] }
  | _ => none }
def FnExactCrashReceiverWrongFalsely : Prop := fnExactCrashReceiverRow.holds Tryz.pinned (OpenSpec.ofChange fnExactCrashReceiverWrong)

/-- 'laws.FnExactPoll': WHATEVER THE INPUT: true; the input reads as it did. -/
def fnExactPollSpec : ChangeSpec := { name := "fnExactPoll", fn := fun _ => fun
  | [d] => { results := [.lit (.bool true)], args := [d] }
  | _ => none }
def fnExactPollRow : OpenClaim := { program := "ytfaehioeepolhaagreat", sum := "da3f7ebe0d23727408ac8d92b296f613f8ee7e952ed4c8310258d35607c70bf6", func := "loop.example/s01316/laws.FnExactPoll", spec := "fnExactPoll", apart := false }
def FnExactPollSaid : Prop := fnExactPollRow.holds Tryz.pinned (OpenSpec.ofChange fnExactPollSpec)

/-- ITS FALSE NEIGHBOUR: 'it returns false'. Refute it at one input. -/
def fnExactPollWrong : ChangeSpec := { name := "fnExactPoll", fn := fun _ => fun
  | [d] => { results := [.lit (.bool false)], args := [d] }
  | _ => none }
def FnExactPollWrongFalsely : Prop := fnExactPollRow.holds Tryz.pinned (OpenSpec.ofChange fnExactPollWrong)

/- THE SECOND FORM. 'bulk': how many values and letters a reading holds, each counted each time it is reached (what is shared counts as often as it is met; a slice's spare places count too). A statement '..UptoSaid' is the law's where the arguments, and the package variables that the reading takes, are together of bulk at most 1048576: NARROWER than '..Said'. Prove '..Said' where nothing that the law and all that it calls make is longer than what came in: it says more and counts as full. Else prove '..UptoSaid'. A law counts once. -/
mutual
def uptoBulk {H : Type} : DataW H → Nat
  | .lit (.string bytes) => bytes.length + 1
  | .lit _ => 1
  | .nil => 1
  | .ptr d => uptoBulk d + 1
  | .slice elems spare => uptoBulkAll elems + uptoBulkAll spare + 1
  | .agg parts => uptoBulkAll parts + 1
  | .iface _ d => uptoBulk d + 1
  | .map entries => uptoBulkEntries entries + 1
  | .held _ => 1
def uptoBulkAll {H : Type} : List (DataW H) → Nat
  | [] => 0
  | d :: r => uptoBulk d + uptoBulkAll r
def uptoBulkEntries {H : Type} : List (Lit × DataW H) → Nat
  | [] => 0
  | x :: r => uptoBulkEntry x + uptoBulkEntries r
def uptoBulkEntry {H : Type} : Lit × DataW H → Nat
  | (.string bytes, d) => bytes.length + uptoBulk d + 1
  | (_, d) => uptoBulk d + 1
 end
def uptoSmall : (H : Type) → List (DataW H) → Bool := fun _ ds => decide (uptoBulkAll ds ≤ 1048576)
def OpenSpec.upto (s : _root_.Go.ChangeSpec) : _root_.Go.OpenSpec := { _root_.Go.OpenSpec.ofChange s with cond := some uptoSmall }

/-- 'laws.FnExactValidReceiver', WHERE WHAT IT READS IS OF BULK AT MOST 1048576: true; the input reads as it did. -/
def fnExactValidReceiverUptoRow : OpenClaim := { program := "ytfaehioeepolhaagreat", sum := "da3f7ebe0d23727408ac8d92b296f613f8ee7e952ed4c8310258d35607c70bf6", func := "loop.example/s01316/laws.FnExactValidReceiver", spec := "fnExactValidReceiver", apart := false, narrowed := true }
def FnExactValidReceiverUptoSaid : Prop := fnExactValidReceiverUptoRow.holds Tryz.pinned (OpenSpec.upto fnExactValidReceiverSpec)

/-- 'laws.FnExactValidSender', WHERE WHAT IT READS IS OF BULK AT MOST 1048576: true; the input reads as it did. -/
def fnExactValidSenderUptoRow : OpenClaim := { program := "ytfaehioeepolhaagreat", sum := "da3f7ebe0d23727408ac8d92b296f613f8ee7e952ed4c8310258d35607c70bf6", func := "loop.example/s01316/laws.FnExactValidSender", spec := "fnExactValidSender", unfollowed := true, recurses := true, apart := false, narrowed := true }
def FnExactValidSenderUptoSaid : Prop := fnExactValidSenderUptoRow.holds Tryz.pinned (OpenSpec.upto fnExactValidSenderSpec)

/-- 'laws.FnExactOpenSender', WHERE WHAT IT READS IS OF BULK AT MOST 1048576: true; the input reads as it did. -/
def fnExactOpenSenderUptoRow : OpenClaim := { program := "ytfaehioeepolhaagreat", sum := "da3f7ebe0d23727408ac8d92b296f613f8ee7e952ed4c8310258d35607c70bf6", func := "loop.example/s01316/laws.FnExactOpenSender", spec := "fnExactOpenSender", apart := false, narrowed := true }
def FnExactOpenSenderUptoSaid : Prop := fnExactOpenSenderUptoRow.holds Tryz.pinned (OpenSpec.upto fnExactOpenSenderSpec)

/-- 'laws.FnExactCrashReceiver', WHERE WHAT IT READS IS OF BULK AT MOST 1048576: true; the input reads as it did. -/
def fnExactCrashReceiverUptoRow : OpenClaim := { program := "ytfaehioeepolhaagreat", sum := "da3f7ebe0d23727408ac8d92b296f613f8ee7e952ed4c8310258d35607c70bf6", func := "loop.example/s01316/laws.FnExactCrashReceiver", spec := "fnExactCrashReceiver", apart := false, narrowed := true }
def FnExactCrashReceiverUptoSaid : Prop := fnExactCrashReceiverUptoRow.holds Tryz.pinned (OpenSpec.upto fnExactCrashReceiverSpec)

/-- 'laws.FnExactPoll', WHERE WHAT IT READS IS OF BULK AT MOST 1048576: true; the input reads as it did. -/
def fnExactPollUptoRow : OpenClaim := { program := "ytfaehioeepolhaagreat", sum := "da3f7ebe0d23727408ac8d92b296f613f8ee7e952ed4c8310258d35607c70bf6", func := "loop.example/s01316/laws.FnExactPoll", spec := "fnExactPoll", apart := false, narrowed := true }
def FnExactPollUptoSaid : Prop := fnExactPollUptoRow.holds Tryz.pinned (OpenSpec.upto fnExactPollSpec)

end Rows
end Go.Proofs.YtfaehioeepolhaaGreat
