/- gessoref17: Do, of OpNew. -/
import Derived.Test.YthdhaokjibfjdaaRef18cX
import Derived.Test.YthdhaokjibfjdaaGa
namespace Go.Proofs.Ythdhaokjibfjdaa
open Go.RowKit

/-- New takes it. -/
def NewFit (W : List Int) (form size : Int) : Prop := 0 ≤ form ∧ form ≤ 2 ∧ 0 ≤ size ∧ size ≤ 60 ∧ (W.length : Int) + 3 + size ≤ 2000 ∧ wd W 1 ≤ 10000
/-- How long a slice in a cell is. -/
def lenCell : Option Value → Nat
  | some (.slice _ n _) => n
  | _ => 0
end Go.Proofs.Ythdhaokjibfjdaa
