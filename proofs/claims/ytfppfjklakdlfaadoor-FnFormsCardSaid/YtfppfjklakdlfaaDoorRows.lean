/-
  NARROWER THAN 'FOR EVERY INPUT', by the rows' own cells (each row's printed sentence says how): FnExactDecodeMessage: ifaces, laid · FnForms: ifaces, laid.
  DERIVED. THE GIVEN ROWS OF THIS SEAT. 2 by the template 'for every input the law returns true; each argument reads behind the call as it read before'; 0 by the template 'total and deterministic' (their statements: YtfppfjklakdlfaaDoorTotals.lean).
  GIVEN WITH THE SEED: the statements are not yours to turn. If you find one false, say at which input.
  Laid BY PROGRAM, IN A SANDBOX (cutbox-rows.mjs): the forced cells as the released guide's own fill.sh prints them over the translation 77c45ceab196c497… (all of the seat's roots in one cut). By AI agents, Wed Nov 11 2026. No macro, syntax, notation, axiom, sorry.
-/
import Derived.Test.YtfppfjklakdlfaaDoorChecked
import GoSem.Claim
import GoSem.ClaimJoined
import GoSem.ClaimMapViews
import Derived.JoinedTies
import Derived.KernelRfl
namespace Go.Proofs.YtfppfjklakdlfaaDoor
/- THE CELL 'sum', in the pinned program and in every row, IS THE sha256 OF THE DUMP (.gsa) THAT YtfppfjklakdlfaaDoorProg.lean LOADS. Nothing in Lean hashes anything: it is a label: what it is worth is what the hold of that sum in a sandbox is worth. -/
noncomputable def Tryd.pinned : Pinned := { name := "ytfppfjklakdlfaadoor", sum := "77c45ceab196c497e79b11bb482fc2a69384156afe7e714e3a803770200627d1", checked := Tryd.checked }
namespace Rows
def none {H : Type} : Left H := { results := [], args := [] }

/- WHAT THE LISTED PACKAGE-LEVEL VARIABLES READ AS WHEN THE CALL BEGINS. Each datum BY PROGRAM (the guide's laid-datum.mjs) off the statement by which the dump's own 'gosem.cut.vars' lays the variable. In a bare row this is a premise. The card (YtfppfjklakdlfaaDoorCards.lean) ties it to the program's text. -/
def laid_loop_example_s01316_impl_errCorrupt {H : Type} : DataW H := .iface "*errors.errorString" (.ptr (.agg [.lit (.string [98, 121, 116, 101, 115, 32, 116, 104, 97, 116, 32, 97, 114, 101, 32, 110, 111, 116, 32, 97, 115, 32, 116, 104, 101, 121, 32, 109, 117, 115, 116, 32, 98, 101])]))

/-- 'laws.FnExactDecodeMessage': WHATEVER THE INPUT: true; the input reads as it did. -/
def fnExactDecodeMessageSpec : ChangeSpec := { name := "fnExactDecodeMessage", vars := ["loop.example/s01316/impl.errCorrupt"], fn := fun _ => fun
  | [d, g1] => { results := [.lit (.bool true)], args := [d], vars := [g1] }
  | _ => none }
def fnExactDecodeMessageRow : OpenClaim := { program := "ytfppfjklakdlfaadoor", sum := "77c45ceab196c497e79b11bb482fc2a69384156afe7e714e3a803770200627d1", func := "loop.example/s01316/laws.FnExactDecodeMessage", spec := "fnExactDecodeMessage", inPlace := ["internal/reflectlite.TypeOf"], unfollowed := true, recurses := true, named := ["loop.example/s01316/impl.errCorrupt"], ifaces := true, apart := false, laid := [("loop.example/s01316/impl.errCorrupt", laid_loop_example_s01316_impl_errCorrupt)] }
def FnExactDecodeMessageSaid : Prop := fnExactDecodeMessageRow.holds Tryd.pinned (OpenSpec.ofChange fnExactDecodeMessageSpec)

/-- ITS FALSE NEIGHBOUR: 'it returns false'. Refute it at one input. -/
def fnExactDecodeMessageWrong : ChangeSpec := { name := "fnExactDecodeMessage", vars := ["loop.example/s01316/impl.errCorrupt"], fn := fun _ => fun
  | [d, g1] => { results := [.lit (.bool false)], args := [d], vars := [g1] }
  | _ => none }
def FnExactDecodeMessageWrongFalsely : Prop := fnExactDecodeMessageRow.holds Tryd.pinned (OpenSpec.ofChange fnExactDecodeMessageWrong)

/-- 'laws.FnForms': WHATEVER THE INPUT: true; the input reads as it did. -/
def fnFormsSpec : ChangeSpec := { name := "fnForms", vars := ["loop.example/s01316/impl.errCorrupt"], fn := fun _ => fun
  | [d1, d2, g1] => { results := [.lit (.bool true)], args := [d1, d2], vars := [g1] }
  | _ => none }
def fnFormsRow : OpenClaim := { program := "ytfppfjklakdlfaadoor", sum := "77c45ceab196c497e79b11bb482fc2a69384156afe7e714e3a803770200627d1", func := "loop.example/s01316/laws.FnForms", spec := "fnForms", inPlace := ["internal/reflectlite.TypeOf"], unfollowed := true, recurses := true, named := ["loop.example/s01316/impl.errCorrupt"], ifaces := true, apart := false, laid := [("loop.example/s01316/impl.errCorrupt", laid_loop_example_s01316_impl_errCorrupt)] }
def FnFormsSaid : Prop := fnFormsRow.holds Tryd.pinned (OpenSpec.ofChange fnFormsSpec)

/-- ITS FALSE NEIGHBOUR: 'it returns false'. Refute it at one input. -/
def fnFormsWrong : ChangeSpec := { name := "fnForms", vars := ["loop.example/s01316/impl.errCorrupt"], fn := fun _ => fun
  | [d1, d2, g1] => { results := [.lit (.bool false)], args := [d1, d2], vars := [g1] }
  | _ => none }
def FnFormsWrongFalsely : Prop := fnFormsRow.holds Tryd.pinned (OpenSpec.ofChange fnFormsWrong)

/- THE SECOND FORM. 'bulk': how many values and letters a reading holds, each counted each time it is reached (what is shared counts as often as it is met; a slice's spare places count too). A statement '..UptoSaid' is the law's where the arguments, and the package variables that the reading takes, are together of bulk at most 1048576: NARROWER than '..Said'. Prove '..Said' where nothing that the law and all that it calls make is longer than what came in: it says more and counts as full. Else prove '..UptoSaid'. A law counts once. -/
mutual
def uptoBulk {H : Type} : DataW H → Nat
  | .lit (.string bytes) => bytes.length + 1
  | .lit _ => 1
  | .nil => 1
  | .ptr d => uptoBulk d + 1
  | .slice elems spare => uptoBulkAll elems + uptoBulkAll spare + 1
  | .agg parts => uptoBulkAll parts + 1
  | .iface _ d => uptoBulk d + 1
  | .map entries => uptoBulkEntries entries + 1
  | .held _ => 1
def uptoBulkAll {H : Type} : List (DataW H) → Nat
  | [] => 0
  | d :: r => uptoBulk d + uptoBulkAll r
def uptoBulkEntries {H : Type} : List (Lit × DataW H) → Nat
  | [] => 0
  | x :: r => uptoBulkEntry x + uptoBulkEntries r
def uptoBulkEntry {H : Type} : Lit × DataW H → Nat
  | (.string bytes, d) => bytes.length + uptoBulk d + 1
  | (_, d) => uptoBulk d + 1
 end
def uptoSmall : (H : Type) → List (DataW H) → Bool := fun _ ds => decide (uptoBulkAll ds ≤ 1048576)
def OpenSpec.upto (s : _root_.Go.ChangeSpec) : _root_.Go.OpenSpec := { _root_.Go.OpenSpec.ofChange s with cond := some uptoSmall }

/-- 'laws.FnExactDecodeMessage', WHERE WHAT IT READS IS OF BULK AT MOST 1048576: true; the input reads as it did. -/
def fnExactDecodeMessageUptoRow : OpenClaim := { program := "ytfppfjklakdlfaadoor", sum := "77c45ceab196c497e79b11bb482fc2a69384156afe7e714e3a803770200627d1", func := "loop.example/s01316/laws.FnExactDecodeMessage", spec := "fnExactDecodeMessage", inPlace := ["internal/reflectlite.TypeOf"], unfollowed := true, recurses := true, named := ["loop.example/s01316/impl.errCorrupt"], ifaces := true, apart := false, laid := [("loop.example/s01316/impl.errCorrupt", laid_loop_example_s01316_impl_errCorrupt)], narrowed := true }
def FnExactDecodeMessageUptoSaid : Prop := fnExactDecodeMessageUptoRow.holds Tryd.pinned (OpenSpec.upto fnExactDecodeMessageSpec)

/-- 'laws.FnForms', WHERE WHAT IT READS IS OF BULK AT MOST 1048576: true; the input reads as it did. -/
def fnFormsUptoRow : OpenClaim := { program := "ytfppfjklakdlfaadoor", sum := "77c45ceab196c497e79b11bb482fc2a69384156afe7e714e3a803770200627d1", func := "loop.example/s01316/laws.FnForms", spec := "fnForms", inPlace := ["internal/reflectlite.TypeOf"], unfollowed := true, recurses := true, named := ["loop.example/s01316/impl.errCorrupt"], ifaces := true, apart := false, laid := [("loop.example/s01316/impl.errCorrupt", laid_loop_example_s01316_impl_errCorrupt)], narrowed := true }
def FnFormsUptoSaid : Prop := fnFormsUptoRow.holds Tryd.pinned (OpenSpec.upto fnFormsSpec)

end Rows
end Go.Proofs.YtfppfjklakdlfaaDoor
