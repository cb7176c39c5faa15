/- What gessoref2.Check answers: what is wrong first. -/
import Derived.Test.YtgggmdanpdggpacRefHeap
namespace Go.Proofs.Ytgggmdanpdggpac
open Go.RowKit

/-- A fault as a value. -/
abbrev faultV (f : Int × Int) : Value := .agg #[.int .i64 f.1, .int .i64 f.2]

end Go.Proofs.Ytgggmdanpdggpac
