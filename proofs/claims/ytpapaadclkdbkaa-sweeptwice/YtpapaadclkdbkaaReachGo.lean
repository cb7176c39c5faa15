/- reach.Reach: what is reached, or the fault of a heap and roots. -/
import Derived.Test.YtpapaadclkdbkaaFrom
import Derived.Test.YtpapaadclkdbkaaRSee
namespace Go.Proofs.Ytpapaadclkdbkaa
open Go.RowKit

/-- What Reach answers where there is no fault. -/
def ReachEnd (B : Nat) (xs : List Int) (e : Ending) (w : World) : Prop := ∃ ad c, e = .returned (.tuple #[.slice ad xs.length c, .agg #[.int .i64 0, .int .i64 0]]) ∧ w.ownsRow B 3 1 (.slice ad xs.length c) xs.length (vals xs)

end Go.Proofs.Ytpapaadclkdbkaa
