/-
  DERIVED. GIVEN WITH THE SEED: THE CARDS: each row of YtpfdgbalchmmfaaGreatDoorRows.lean that lists a variable, with what it lists TIED to the program's text (the seventh form; the later family's looks); each row that meets fmt, with fmt's text TOLD by the authors' own Lean function (tested against real Go, not proved from fmt's source: count such statements apart). THE CARD IS WHAT COUNTS. Prove the row's statement (the work); the ties are given (YtpfdgbalchmmfaaGreatDoorTie.lean); close each card by the builder's one call (the guide's Derived/Test/ToyasCard.lean, 'card_holds'). Laid BY PROGRAM, IN A SANDBOX (cutbox-door.mjs). By AI agents, Wed Nov 11 2026. No macro, syntax, notation, axiom, sorry.
-/
import Derived.Test.YtpfdgbalchmmfaaGreatDoorRows
import GoSem.ClaimSeven
namespace Go.Proofs.YtpfdgbalchmmfaaGreatDoor
namespace Rows

/-- THE TIED CARD OF 'gessokeep.CodeLands'. -/
def codeLandsCard : Claim7 := { stood := { row := codeLandsRow, standIns := [], harness := (true, "f6be0f9c4c94cc0f69451574f38681712d6175b167746849c75651f7c1d9d0f8"), looks := true }, kinds := [], alts := [], laidByText := true, laidKinds := [.data, .data, .data, .sentinel, .sentinel, .data], laidTests := true, laidLooks := .later }
def CodeLandsCardSaid : Prop := Claim7.holds Tryz.pinned (.plain (OpenSpec.ofChange codeLandsSpec)) codeLandsCard

/-- THE SECOND FORM's CARD OF 'gessokeep.CodeLands'. -/
def codeLandsUptoCard : Claim7 := { stood := { row := codeLandsUptoRow, standIns := [], harness := (true, "f6be0f9c4c94cc0f69451574f38681712d6175b167746849c75651f7c1d9d0f8"), looks := true }, kinds := [], alts := [], laidByText := true, laidKinds := [.data, .data, .data, .sentinel, .sentinel, .data], laidTests := true, laidLooks := .later }
def CodeLandsUptoCardSaid : Prop := Claim7.holds Tryz.pinned (.plain (OpenSpec.upto codeLandsSpec)) codeLandsUptoCard
end Rows
end Go.Proofs.YtpfdgbalchmmfaaGreatDoor
