/- Texts in one. -/
import Derived.Test.YtbglpanjpadldaaGreatDoorMd
namespace Go.Proofs.YtbglpanjpadldaaGreatDoor
open Go.RowKit
end Go.Proofs.YtbglpanjpadldaaGreatDoor
namespace Go.Proofs.YtbglpanjpadldaaGreatDoor
open Go.RowKit
def CE(S:Src9):Prop:=∀t∈S.L,t.1=2->t.2.1.length<=4000/\0<=CG t.2.1/\CG t.2.1<=1073741823
end Go.Proofs.YtbglpanjpadldaaGreatDoor
namespace Go.Proofs.YtbglpanjpadldaaGreatDoor
open Go.RowKit
end Go.Proofs.YtbglpanjpadldaaGreatDoor
