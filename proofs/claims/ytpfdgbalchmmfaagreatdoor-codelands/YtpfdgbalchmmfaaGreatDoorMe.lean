/- Texts in one. -/
import Derived.Test.YtpfdgbalchmmfaaGreatDoorMd
namespace Go.Proofs.YtpfdgbalchmmfaaGreatDoor
open Go.RowKit
end Go.Proofs.YtpfdgbalchmmfaaGreatDoor
namespace Go.Proofs.YtpfdgbalchmmfaaGreatDoor
open Go.RowKit
def C7(S:Src9):Prop:=∀t∈S.L,t.1=2->t.2.1.length<=4000/\0<=Db t.2.1/\Db t.2.1<=1073741823
end Go.Proofs.YtpfdgbalchmmfaaGreatDoor
namespace Go.Proofs.YtpfdgbalchmmfaaGreatDoor
open Go.RowKit
end Go.Proofs.YtpfdgbalchmmfaaGreatDoor
