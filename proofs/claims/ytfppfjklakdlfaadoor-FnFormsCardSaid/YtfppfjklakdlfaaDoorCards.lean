/-
  DERIVED. GIVEN WITH THE SEED: THE CARDS: each row of YtfppfjklakdlfaaDoorRows.lean that lists a variable, with what it lists TIED to the program's text (the seventh form; the later family's looks); each row that meets fmt, with fmt's text TOLD by the authors' own Lean function (tested against real Go, not proved from fmt's source: count such statements apart). THE CARD IS WHAT COUNTS. Prove the row's statement (the work); the ties are given (YtfppfjklakdlfaaDoorTie.lean); close each card by the builder's one call (the guide's Derived/Test/ToyasCard.lean, 'card_holds'). Laid BY PROGRAM, IN A SANDBOX (cutbox-door.mjs). By AI agents, Wed Nov 11 2026. No macro, syntax, notation, axiom, sorry.
-/
import Derived.Test.YtfppfjklakdlfaaDoorRows
import GoSem.ClaimSeven
namespace Go.Proofs.YtfppfjklakdlfaaDoor
namespace Rows

/-- THE TIED CARD OF 'laws.FnExactDecodeMessage'. -/
def fnExactDecodeMessageCard : Claim7 := { stood := { row := fnExactDecodeMessageRow, standIns := [], harness := (true, "153805db5fdb58abaef932c85fb963fb16ae99b2283bec840c7a0b8c2f638609"), looks := true }, kinds := [], alts := [], laidByText := true, laidKinds := [.sentinel], laidTests := true, laidLooks := .later }
def FnExactDecodeMessageCardSaid : Prop := Claim7.holds Tryd.pinned (.plain (OpenSpec.ofChange fnExactDecodeMessageSpec)) fnExactDecodeMessageCard

/-- THE TIED CARD OF 'laws.FnForms'. -/
def fnFormsCard : Claim7 := { stood := { row := fnFormsRow, standIns := [], harness := (true, "153805db5fdb58abaef932c85fb963fb16ae99b2283bec840c7a0b8c2f638609"), looks := true }, kinds := [], alts := [], laidByText := true, laidKinds := [.sentinel], laidTests := true, laidLooks := .later }
def FnFormsCardSaid : Prop := Claim7.holds Tryd.pinned (.plain (OpenSpec.ofChange fnFormsSpec)) fnFormsCard

/-- THE SECOND FORM's CARD OF 'laws.FnExactDecodeMessage'. -/
def fnExactDecodeMessageUptoCard : Claim7 := { stood := { row := fnExactDecodeMessageUptoRow, standIns := [], harness := (true, "153805db5fdb58abaef932c85fb963fb16ae99b2283bec840c7a0b8c2f638609"), looks := true }, kinds := [], alts := [], laidByText := true, laidKinds := [.sentinel], laidTests := true, laidLooks := .later }
def FnExactDecodeMessageUptoCardSaid : Prop := Claim7.holds Tryd.pinned (.plain (OpenSpec.upto fnExactDecodeMessageSpec)) fnExactDecodeMessageUptoCard

/-- THE SECOND FORM's CARD OF 'laws.FnForms'. -/
def fnFormsUptoCard : Claim7 := { stood := { row := fnFormsUptoRow, standIns := [], harness := (true, "153805db5fdb58abaef932c85fb963fb16ae99b2283bec840c7a0b8c2f638609"), looks := true }, kinds := [], alts := [], laidByText := true, laidKinds := [.sentinel], laidTests := true, laidLooks := .later }
def FnFormsUptoCardSaid : Prop := Claim7.holds Tryd.pinned (.plain (OpenSpec.upto fnFormsSpec)) fnFormsUptoCard
end Rows
end Go.Proofs.YtfppfjklakdlfaaDoor
