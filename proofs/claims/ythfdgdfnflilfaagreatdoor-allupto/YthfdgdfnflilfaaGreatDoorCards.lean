/-
  DERIVED. GIVEN WITH THE SEED: THE CARDS: each row of YthfdgdfnflilfaaGreatDoorRows.lean that lists a variable, with what it lists TIED to the program's text (the seventh form; the later family's looks); each row that meets fmt, with fmt's text TOLD by the authors' own Lean function (tested against real Go, not proved from fmt's source: count such statements apart). THE CARD IS WHAT COUNTS. Prove the row's statement (the work); the ties are given (YthfdgdfnflilfaaGreatDoorTie.lean); close each card by the builder's one call (the guide's Derived/Test/ToyasCard.lean, 'card_holds'). Laid BY PROGRAM, IN A SANDBOX (cutbox-door.mjs). By AI agents, Wed Nov 11 2026. No macro, syntax, notation, axiom, sorry.
-/
import Derived.Test.YthfdgdfnflilfaaGreatDoorRows
import GoSem.ClaimSeven
namespace Go.Proofs.YthfdgdfnflilfaaGreatDoor
namespace Rows

/-- THE TIED CARD OF 'millracelaw.Steps'. -/
def stepsCard : Claim7 := { stood := { row := stepsRow, standIns := [], harness := (true, "4dcd642d50ca87d205bc87574a661dc8948d3eb96d6d8f29bbf787950395d900"), looks := true }, kinds := [], alts := [], laidByText := true, laidKinds := [.sentinel], laidTests := true, laidLooks := .later }
def StepsCardSaid : Prop := Claim7.holds Tryz.pinned (.plain (OpenSpec.ofChange stepsSpec)) stepsCard

/-- THE TIED CARD OF 'millracelaw.Flows'. -/
def flowsCard : Claim7 := { stood := { row := flowsRow, standIns := [], harness := (true, "4dcd642d50ca87d205bc87574a661dc8948d3eb96d6d8f29bbf787950395d900"), looks := true }, kinds := [], alts := [], laidByText := true, laidKinds := [.sentinel], laidTests := true, laidLooks := .later }
def FlowsCardSaid : Prop := Claim7.holds Tryz.pinned (.plain (OpenSpec.ofChange flowsSpec)) flowsCard

/-- THE TIED CARD OF 'millracelaw.States'. -/
def statesCard : Claim7 := { stood := { row := statesRow, standIns := [], harness := (true, "4dcd642d50ca87d205bc87574a661dc8948d3eb96d6d8f29bbf787950395d900"), looks := true }, kinds := [], alts := [], laidByText := true, laidKinds := [.sentinel], laidTests := true, laidLooks := .later }
def StatesCardSaid : Prop := Claim7.holds Tryz.pinned (.plain (OpenSpec.ofChange statesSpec)) statesCard

/-- THE TIED CARD OF 'millracelaw.All'. -/
def allCard : Claim7 := { stood := { row := allRow, standIns := [], harness := (true, "4dcd642d50ca87d205bc87574a661dc8948d3eb96d6d8f29bbf787950395d900"), looks := true }, kinds := [], alts := [], laidByText := true, laidKinds := [.sentinel], laidTests := true, laidLooks := .later }
def AllCardSaid : Prop := Claim7.holds Tryz.pinned (.plain (OpenSpec.ofChange allSpec)) allCard

/-- THE SECOND FORM's CARD OF 'millracelaw.Steps'. -/
def stepsUptoCard : Claim7 := { stood := { row := stepsUptoRow, standIns := [], harness := (true, "4dcd642d50ca87d205bc87574a661dc8948d3eb96d6d8f29bbf787950395d900"), looks := true }, kinds := [], alts := [], laidByText := true, laidKinds := [.sentinel], laidTests := true, laidLooks := .later }
def StepsUptoCardSaid : Prop := Claim7.holds Tryz.pinned (.plain (OpenSpec.upto stepsSpec)) stepsUptoCard

/-- THE SECOND FORM's CARD OF 'millracelaw.Flows'. -/
def flowsUptoCard : Claim7 := { stood := { row := flowsUptoRow, standIns := [], harness := (true, "4dcd642d50ca87d205bc87574a661dc8948d3eb96d6d8f29bbf787950395d900"), looks := true }, kinds := [], alts := [], laidByText := true, laidKinds := [.sentinel], laidTests := true, laidLooks := .later }
def FlowsUptoCardSaid : Prop := Claim7.holds Tryz.pinned (.plain (OpenSpec.upto flowsSpec)) flowsUptoCard

/-- THE SECOND FORM's CARD OF 'millracelaw.States'. -/
def statesUptoCard : Claim7 := { stood := { row := statesUptoRow, standIns := [], harness := (true, "4dcd642d50ca87d205bc87574a661dc8948d3eb96d6d8f29bbf787950395d900"), looks := true }, kinds := [], alts := [], laidByText := true, laidKinds := [.sentinel], laidTests := true, laidLooks := .later }
def StatesUptoCardSaid : Prop := Claim7.holds Tryz.pinned (.plain (OpenSpec.upto statesSpec)) statesUptoCard

/-- THE SECOND FORM's CARD OF 'millracelaw.All'. -/
def allUptoCard : Claim7 := { stood := { row := allUptoRow, standIns := [], harness := (true, "4dcd642d50ca87d205bc87574a661dc8948d3eb96d6d8f29bbf787950395d900"), looks := true }, kinds := [], alts := [], laidByText := true, laidKinds := [.sentinel], laidTests := true, laidLooks := .later }
def AllUptoCardSaid : Prop := Claim7.holds Tryz.pinned (.plain (OpenSpec.upto allSpec)) allUptoCard
end Rows
end Go.Proofs.YthfdgdfnflilfaaGreatDoor
