/-
  DERIVED. GIVEN WITH THE SEED: THE CARDS: each row of YthfdgdfnflilfaaDoorRows.lean that lists a variable, with what it lists TIED to the program's text (the seventh form; the later family's looks); each row that meets fmt, with fmt's text TOLD by the authors' own Lean function (tested against real Go, not proved from fmt's source: count such statements apart). THE CARD IS WHAT COUNTS. Prove the row's statement (the work); the ties are given (YthfdgdfnflilfaaDoorTie.lean); close each card by the builder's one call (the guide's Derived/Test/ToyasCard.lean, 'card_holds'). Laid BY PROGRAM, IN A SANDBOX (cutbox-door.mjs). By AI agents, Wed Nov 11 2026. No macro, syntax, notation, axiom, sorry.
-/
import Derived.Test.YthfdgdfnflilfaaDoorRows
import GoSem.ClaimSeven
namespace Go.Proofs.YthfdgdfnflilfaaDoor
namespace Rows

/-- THE TIED CARD OF 'millracekeep.Sums'. -/
def sumsCard : Claim7 := { stood := { row := sumsRow, standIns := [], harness := (true, "6d02b7a5cae4e3d14016db9d40c14997a04cc6948755536dbda36fd7d7396756"), looks := true }, kinds := [], alts := [], laidByText := true, laidKinds := [.sentinel], laidTests := true, laidLooks := .later }
def SumsCardSaid : Prop := Claim7.holds Tryd.pinned (.plain (OpenSpec.ofChange sumsSpec)) sumsCard

/-- THE TIED CARD OF 'millracekeep.Prefix'. -/
def prefixCard : Claim7 := { stood := { row := prefixRow, standIns := [], harness := (true, "6d02b7a5cae4e3d14016db9d40c14997a04cc6948755536dbda36fd7d7396756"), looks := true }, kinds := [], alts := [], laidByText := true, laidKinds := [.sentinel], laidTests := true, laidLooks := .later }
def PrefixCardSaid : Prop := Claim7.holds Tryd.pinned (.plain (OpenSpec.ofChange prefixSpec)) prefixCard

/-- THE TIED CARD OF 'millracekeep.Local'. -/
def localCard : Claim7 := { stood := { row := localRow, standIns := [], harness := (true, "6d02b7a5cae4e3d14016db9d40c14997a04cc6948755536dbda36fd7d7396756"), looks := true }, kinds := [], alts := [], laidByText := true, laidKinds := [.sentinel], laidTests := true, laidLooks := .later }
def LocalCardSaid : Prop := Claim7.holds Tryd.pinned (.plain (OpenSpec.ofChange localSpec)) localCard

/-- THE TIED CARD OF 'millracekeep.Settled'. -/
def settledCard : Claim7 := { stood := { row := settledRow, standIns := [], harness := (true, "6d02b7a5cae4e3d14016db9d40c14997a04cc6948755536dbda36fd7d7396756"), looks := true }, kinds := [], alts := [], laidByText := true, laidKinds := [.sentinel], laidTests := true, laidLooks := .later }
def SettledCardSaid : Prop := Claim7.holds Tryd.pinned (.plain (OpenSpec.ofChange settledSpec)) settledCard

/-- THE TIED CARD OF 'millracekeep.Resumed'. -/
def resumedCard : Claim7 := { stood := { row := resumedRow, standIns := [], harness := (true, "6d02b7a5cae4e3d14016db9d40c14997a04cc6948755536dbda36fd7d7396756"), looks := true }, kinds := [], alts := [], laidByText := true, laidKinds := [.sentinel], laidTests := true, laidLooks := .later }
def ResumedCardSaid : Prop := Claim7.holds Tryd.pinned (.plain (OpenSpec.ofChange resumedSpec)) resumedCard

/-- THE SECOND FORM's CARD OF 'millracekeep.Sums'. -/
def sumsUptoCard : Claim7 := { stood := { row := sumsUptoRow, standIns := [], harness := (true, "6d02b7a5cae4e3d14016db9d40c14997a04cc6948755536dbda36fd7d7396756"), looks := true }, kinds := [], alts := [], laidByText := true, laidKinds := [.sentinel], laidTests := true, laidLooks := .later }
def SumsUptoCardSaid : Prop := Claim7.holds Tryd.pinned (.plain (OpenSpec.upto sumsSpec)) sumsUptoCard

/-- THE SECOND FORM's CARD OF 'millracekeep.Prefix'. -/
def prefixUptoCard : Claim7 := { stood := { row := prefixUptoRow, standIns := [], harness := (true, "6d02b7a5cae4e3d14016db9d40c14997a04cc6948755536dbda36fd7d7396756"), looks := true }, kinds := [], alts := [], laidByText := true, laidKinds := [.sentinel], laidTests := true, laidLooks := .later }
def PrefixUptoCardSaid : Prop := Claim7.holds Tryd.pinned (.plain (OpenSpec.upto prefixSpec)) prefixUptoCard

/-- THE SECOND FORM's CARD OF 'millracekeep.Local'. -/
def localUptoCard : Claim7 := { stood := { row := localUptoRow, standIns := [], harness := (true, "6d02b7a5cae4e3d14016db9d40c14997a04cc6948755536dbda36fd7d7396756"), looks := true }, kinds := [], alts := [], laidByText := true, laidKinds := [.sentinel], laidTests := true, laidLooks := .later }
def LocalUptoCardSaid : Prop := Claim7.holds Tryd.pinned (.plain (OpenSpec.upto localSpec)) localUptoCard

/-- THE SECOND FORM's CARD OF 'millracekeep.Settled'. -/
def settledUptoCard : Claim7 := { stood := { row := settledUptoRow, standIns := [], harness := (true, "6d02b7a5cae4e3d14016db9d40c14997a04cc6948755536dbda36fd7d7396756"), looks := true }, kinds := [], alts := [], laidByText := true, laidKinds := [.sentinel], laidTests := true, laidLooks := .later }
def SettledUptoCardSaid : Prop := Claim7.holds Tryd.pinned (.plain (OpenSpec.upto settledSpec)) settledUptoCard

/-- THE SECOND FORM's CARD OF 'millracekeep.Resumed'. -/
def resumedUptoCard : Claim7 := { stood := { row := resumedUptoRow, standIns := [], harness := (true, "6d02b7a5cae4e3d14016db9d40c14997a04cc6948755536dbda36fd7d7396756"), looks := true }, kinds := [], alts := [], laidByText := true, laidKinds := [.sentinel], laidTests := true, laidLooks := .later }
def ResumedUptoCardSaid : Prop := Claim7.holds Tryd.pinned (.plain (OpenSpec.upto resumedSpec)) resumedUptoCard
end Rows
end Go.Proofs.YthfdgdfnflilfaaDoor
