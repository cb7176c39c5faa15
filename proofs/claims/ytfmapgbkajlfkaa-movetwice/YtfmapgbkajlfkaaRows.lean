/-
  No cell of these rows narrows 'for every input' (looked for: loops, veiled, ifaces, maps, wideKeys, modest, calm, conditions, laid).
  DERIVED. THE GIVEN ROWS OF THIS SEAT. 3 by the template 'for every input the law returns true; each argument reads behind the call as it read before'; 0 by the template 'total and deterministic' (their statements: YtfmapgbkajlfkaaTotals.lean).
  GIVEN WITH THE SEED: the statements are not yours to turn. If you find one false, say at which input.
  Laid BY PROGRAM, IN A SANDBOX (cutbox-rows.mjs): the forced cells as the released guide's own fill.sh prints them over the translation d5629b1a9293c3de… (all of the seat's roots in one cut). By AI agents, Wed Nov 11 2026. No macro, syntax, notation, axiom, sorry.
-/
import Derived.Test.YtfmapgbkajlfkaaChecked
import GoSem.Claim
import GoSem.ClaimJoined
import GoSem.ClaimMapViews
import Derived.JoinedTies
import Derived.KernelRfl
namespace Go.Proofs.Ytfmapgbkajlfkaa
/- THE CELL 'sum', in the pinned program and in every row, IS THE sha256 OF THE DUMP (.gsa) THAT YtfmapgbkajlfkaaProg.lean LOADS. Nothing in Lean hashes anything: it is a label: what it is worth is what the hold of that sum in a sandbox is worth. -/
noncomputable def Try.pinned : Pinned := { name := "ytfmapgbkajlfkaa", sum := "d5629b1a9293c3def9990e147d214e9b1fe3d8dd59328aa8b3066e97e37ec6ac", checked := Try.checked }
namespace Rows
def none {H : Type} : Left H := { results := [], args := [] }

/-- 'gessolaw.MoveMoves': WHATEVER THE INPUT: true; the input reads as it did. -/
def moveMovesSpec : ChangeSpec := { name := "moveMoves", fn := fun _ => fun
  | [d1, d2] => { results := [.lit (.bool true)], args := [d1, d2] }
  | _ => none }
def moveMovesRow : OpenClaim := { program := "ytfmapgbkajlfkaa", sum := "d5629b1a9293c3def9990e147d214e9b1fe3d8dd59328aa8b3066e97e37ec6ac", func := "gesso/gessolaw.MoveMoves", spec := "moveMoves", unfollowed := true, recurses := true, apart := false }
def MoveMovesSaid : Prop := moveMovesRow.holds Try.pinned (OpenSpec.ofChange moveMovesSpec)

/-- ITS FALSE NEIGHBOUR: 'it returns false'. Refute it at one input. -/
def moveMovesWrong : ChangeSpec := { name := "moveMoves", fn := fun _ => fun
  | [d1, d2] => { results := [.lit (.bool false)], args := [d1, d2] }
  | _ => none }
def MoveMovesWrongFalsely : Prop := moveMovesRow.holds Try.pinned (OpenSpec.ofChange moveMovesWrong)

/-- 'gessolaw.MoveHolds': WHATEVER THE INPUT: true; the input reads as it did. -/
def moveHoldsSpec : ChangeSpec := { name := "moveHolds", fn := fun _ => fun
  | [d1, d2] => { results := [.lit (.bool true)], args := [d1, d2] }
  | _ => none }
def moveHoldsRow : OpenClaim := { program := "ytfmapgbkajlfkaa", sum := "d5629b1a9293c3def9990e147d214e9b1fe3d8dd59328aa8b3066e97e37ec6ac", func := "gesso/gessolaw.MoveHolds", spec := "moveHolds", unfollowed := true, recurses := true, apart := false }
def MoveHoldsSaid : Prop := moveHoldsRow.holds Try.pinned (OpenSpec.ofChange moveHoldsSpec)

/-- ITS FALSE NEIGHBOUR: 'it returns false'. Refute it at one input. -/
def moveHoldsWrong : ChangeSpec := { name := "moveHolds", fn := fun _ => fun
  | [d1, d2] => { results := [.lit (.bool false)], args := [d1, d2] }
  | _ => none }
def MoveHoldsWrongFalsely : Prop := moveHoldsRow.holds Try.pinned (OpenSpec.ofChange moveHoldsWrong)

/-- 'gessokeep.MoveTwice': WHATEVER THE INPUT: true; the input reads as it did. -/
def moveTwiceSpec : ChangeSpec := { name := "moveTwice", fn := fun _ => fun
  | [d1, d2] => { results := [.lit (.bool true)], args := [d1, d2] }
  | _ => none }
def moveTwiceRow : OpenClaim := { program := "ytfmapgbkajlfkaa", sum := "d5629b1a9293c3def9990e147d214e9b1fe3d8dd59328aa8b3066e97e37ec6ac", func := "gesso/gessokeep.MoveTwice", spec := "moveTwice", unfollowed := true, recurses := true, apart := false }
def MoveTwiceSaid : Prop := moveTwiceRow.holds Try.pinned (OpenSpec.ofChange moveTwiceSpec)

/-- ITS FALSE NEIGHBOUR: 'it returns false'. Refute it at one input. -/
def moveTwiceWrong : ChangeSpec := { name := "moveTwice", fn := fun _ => fun
  | [d1, d2] => { results := [.lit (.bool false)], args := [d1, d2] }
  | _ => none }
def MoveTwiceWrongFalsely : Prop := moveTwiceRow.holds Try.pinned (OpenSpec.ofChange moveTwiceWrong)

/- THE SECOND FORM. 'bulk': how many values and letters a reading holds, each counted each time it is reached (what is shared counts as often as it is met; a slice's spare places count too). A statement '..UptoSaid' is the law's where the arguments, and the package variables that the reading takes, are together of bulk at most 1048576: NARROWER than '..Said'. Prove '..Said' where nothing that the law and all that it calls make is longer than what came in: it says more and counts as full. Else prove '..UptoSaid'. A law counts once. -/
mutual
def uptoBulk {H : Type} : DataW H → Nat
  | .lit (.string bytes) => bytes.length + 1
  | .lit _ => 1
  | .nil => 1
  | .ptr d => uptoBulk d + 1
  | .slice elems spare => uptoBulkAll elems + uptoBulkAll spare + 1
  | .agg parts => uptoBulkAll parts + 1
  | .iface _ d => uptoBulk d + 1
  | .map entries => uptoBulkEntries entries + 1
  | .held _ => 1
def uptoBulkAll {H : Type} : List (DataW H) → Nat
  | [] => 0
  | d :: r => uptoBulk d + uptoBulkAll r
def uptoBulkEntries {H : Type} : List (Lit × DataW H) → Nat
  | [] => 0
  | x :: r => uptoBulkEntry x + uptoBulkEntries r
def uptoBulkEntry {H : Type} : Lit × DataW H → Nat
  | (.string bytes, d) => bytes.length + uptoBulk d + 1
  | (_, d) => uptoBulk d + 1
 end
def uptoSmall : (H : Type) → List (DataW H) → Bool := fun _ ds => decide (uptoBulkAll ds ≤ 1048576)
def OpenSpec.upto (s : _root_.Go.ChangeSpec) : _root_.Go.OpenSpec := { _root_.Go.OpenSpec.ofChange s with cond := some uptoSmall }

/-- 'gessolaw.MoveMoves', WHERE WHAT IT READS IS OF BULK AT MOST 1048576: true; the input reads as it did. -/
def moveMovesUptoRow : OpenClaim := { program := "ytfmapgbkajlfkaa", sum := "d5629b1a9293c3def9990e147d214e9b1fe3d8dd59328aa8b3066e97e37ec6ac", func := "gesso/gessolaw.MoveMoves", spec := "moveMoves", unfollowed := true, recurses := true, apart := false, narrowed := true }
def MoveMovesUptoSaid : Prop := moveMovesUptoRow.holds Try.pinned (OpenSpec.upto moveMovesSpec)

/-- 'gessolaw.MoveHolds', WHERE WHAT IT READS IS OF BULK AT MOST 1048576: true; the input reads as it did. -/
def moveHoldsUptoRow : OpenClaim := { program := "ytfmapgbkajlfkaa", sum := "d5629b1a9293c3def9990e147d214e9b1fe3d8dd59328aa8b3066e97e37ec6ac", func := "gesso/gessolaw.MoveHolds", spec := "moveHolds", unfollowed := true, recurses := true, apart := false, narrowed := true }
def MoveHoldsUptoSaid : Prop := moveHoldsUptoRow.holds Try.pinned (OpenSpec.upto moveHoldsSpec)

/-- 'gessokeep.MoveTwice', WHERE WHAT IT READS IS OF BULK AT MOST 1048576: true; the input reads as it did. -/
def moveTwiceUptoRow : OpenClaim := { program := "ytfmapgbkajlfkaa", sum := "d5629b1a9293c3def9990e147d214e9b1fe3d8dd59328aa8b3066e97e37ec6ac", func := "gesso/gessokeep.MoveTwice", spec := "moveTwice", unfollowed := true, recurses := true, apart := false, narrowed := true }
def MoveTwiceUptoSaid : Prop := moveTwiceUptoRow.holds Try.pinned (OpenSpec.upto moveTwiceSpec)

end Rows
end Go.Proofs.Ytfmapgbkajlfkaa
