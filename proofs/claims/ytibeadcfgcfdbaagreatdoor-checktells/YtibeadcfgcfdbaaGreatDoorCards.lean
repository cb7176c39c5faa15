/-
  DERIVED. GIVEN WITH THE SEED: THE CARDS: each row of YtibeadcfgcfdbaaGreatDoorRows.lean that lists a variable, with what it lists TIED to the program's text (the seventh form; the later family's looks); each row that meets fmt, with fmt's text TOLD by the authors' own Lean function (tested against real Go, not proved from fmt's source: count such statements apart). THE CARD IS WHAT COUNTS. Prove the row's statement (the work); the ties are given (YtibeadcfgcfdbaaGreatDoorTie.lean); close each card by the builder's one call (the guide's Derived/Test/ToyasCard.lean, 'card_holds'). Laid BY PROGRAM, IN A SANDBOX (cutbox-door.mjs). By AI agents, Wed Nov 11 2026. No macro, syntax, notation, axiom, sorry.
-/
import Derived.Test.YtibeadcfgcfdbaaGreatDoorRows
import GoSem.ClaimSeven
namespace Go.Proofs.YtibeadcfgcfdbaaGreatDoor
namespace Rows

/-- THE TIED CARD OF 'gessolaw.CheckTells'. -/
def checkTellsCard : Claim7 := { stood := { row := checkTellsRow, standIns := [], harness := (true, "d685af91116dcb01424cfb3cf4b7bd583210a9d930943b0b47e6ed1dd16b0bc8"), looks := true }, kinds := [], alts := [], laidByText := true, laidKinds := [.data, .data, .data, .sentinel, .sentinel], laidTests := true, laidLooks := .later }
def CheckTellsCardSaid : Prop := Claim7.holds Tryz.pinned (.plain (OpenSpec.ofChange checkTellsSpec)) checkTellsCard

/-- THE TIED CARD OF 'gessolaw.CodeMakes'. -/
def codeMakesCard : Claim7 := { stood := { row := codeMakesRow, standIns := [], harness := (true, "d685af91116dcb01424cfb3cf4b7bd583210a9d930943b0b47e6ed1dd16b0bc8"), looks := true }, kinds := [], alts := [], laidByText := true, laidKinds := [.data, .data, .data, .sentinel, .sentinel, .data], laidTests := true, laidLooks := .later }
def CodeMakesCardSaid : Prop := Claim7.holds Tryz.pinned (.plain (OpenSpec.ofChange codeMakesSpec)) codeMakesCard

/-- THE TIED CARD OF 'gessokeep.CodeLands'. -/
def codeLandsCard : Claim7 := { stood := { row := codeLandsRow, standIns := [], harness := (true, "d685af91116dcb01424cfb3cf4b7bd583210a9d930943b0b47e6ed1dd16b0bc8"), looks := true }, kinds := [], alts := [], laidByText := true, laidKinds := [.data, .data, .data, .sentinel, .sentinel, .data], laidTests := true, laidLooks := .later }
def CodeLandsCardSaid : Prop := Claim7.holds Tryz.pinned (.plain (OpenSpec.ofChange codeLandsSpec)) codeLandsCard

/-- THE SECOND FORM's CARD OF 'gessolaw.CheckTells'. -/
def checkTellsUptoCard : Claim7 := { stood := { row := checkTellsUptoRow, standIns := [], harness := (true, "d685af91116dcb01424cfb3cf4b7bd583210a9d930943b0b47e6ed1dd16b0bc8"), looks := true }, kinds := [], alts := [], laidByText := true, laidKinds := [.data, .data, .data, .sentinel, .sentinel], laidTests := true, laidLooks := .later }
def CheckTellsUptoCardSaid : Prop := Claim7.holds Tryz.pinned (.plain (OpenSpec.upto checkTellsSpec)) checkTellsUptoCard

/-- THE SECOND FORM's CARD OF 'gessolaw.CodeMakes'. -/
def codeMakesUptoCard : Claim7 := { stood := { row := codeMakesUptoRow, standIns := [], harness := (true, "d685af91116dcb01424cfb3cf4b7bd583210a9d930943b0b47e6ed1dd16b0bc8"), looks := true }, kinds := [], alts := [], laidByText := true, laidKinds := [.data, .data, .data, .sentinel, .sentinel, .data], laidTests := true, laidLooks := .later }
def CodeMakesUptoCardSaid : Prop := Claim7.holds Tryz.pinned (.plain (OpenSpec.upto codeMakesSpec)) codeMakesUptoCard

/-- THE SECOND FORM's CARD OF 'gessokeep.CodeLands'. -/
def codeLandsUptoCard : Claim7 := { stood := { row := codeLandsUptoRow, standIns := [], harness := (true, "d685af91116dcb01424cfb3cf4b7bd583210a9d930943b0b47e6ed1dd16b0bc8"), looks := true }, kinds := [], alts := [], laidByText := true, laidKinds := [.data, .data, .data, .sentinel, .sentinel, .data], laidTests := true, laidLooks := .later }
def CodeLandsUptoCardSaid : Prop := Claim7.holds Tryz.pinned (.plain (OpenSpec.upto codeLandsSpec)) codeLandsUptoCard
end Rows
end Go.Proofs.YtibeadcfgcfdbaaGreatDoor
