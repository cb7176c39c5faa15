/- gessoref17: Do, of OpRoot and of no op; Do whole. -/
import Derived.Test.YthdhaokjibfjdaaRef18dX
namespace Go.Proofs.Ythdhaokjibfjdaa
open Go.RowKit

end Go.Proofs.Ythdhaokjibfjdaa
