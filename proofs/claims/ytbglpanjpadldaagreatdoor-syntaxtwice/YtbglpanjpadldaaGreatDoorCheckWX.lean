/- Texts in one. -/
import Derived.Test.YtbglpanjpadldaaGreatDoorMz
namespace Go.Proofs.YtbglpanjpadldaaGreatDoor
abbrev Chk (α:Type):Type:=Except (Int×Int) α
def Chk.then{α β:Type}(g:Chk α)(f:α->Chk β):Chk β:=match g with
 | .ok a=>f a
 | .error e=>.error e
@[simp] theorem chk_ok {α β:Type} (a:α) (f:α->Chk β):Chk.then (.ok a:Chk α) f=f a:=rfl
@[simp] theorem chk_err {α β:Type} (e:Int×Int) (f:α->Chk β):Chk.then (.error e:Chk α) f=.error e:=rfl
def Nd.str(n:Nd):ByteArray:=strOfNums n.text
end Go.Proofs.YtbglpanjpadldaaGreatDoor
