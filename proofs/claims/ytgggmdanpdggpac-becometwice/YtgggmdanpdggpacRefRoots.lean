/- gessoref2.Roots: the fault of a heap and roots. -/
import Derived.Test.YtgggmdanpdggpacSeeRoots
namespace Go.Proofs.Ytgggmdanpdggpac
open Go.RowKit

end Go.Proofs.Ytgggmdanpdggpac
