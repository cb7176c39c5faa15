/- Texts in one. -/
import Derived.Test.YtpfdgbalchmmfaaGreatDoorMe
namespace Go.Proofs.YtpfdgbalchmmfaaGreatDoor
open Go.RowKit
theorem T4:(Tryz.prog.info? 39).map (fun i=>(i.zero,i.size,i.bytes))=some (some (.agg #[.int .i64 0,.string ⟨#[]⟩,.int .i64 0,.slice none 0 0]),4,56):=by kernel_rfl
theorem Da:Ef 37 39 4 56:=by
 obtain⟨i,hi,h0,h1,h2⟩:=info_parts T4
 exact⟨by kernel_rfl,⟨i,_,hi,h0,h1,h2,by rfl⟩,by decide,by decide⟩
theorem Ib(a:Int)(b:ByteArray)(c:Int)(ad:Option Addr)(n cc:Nat):∀u∈[Value.int .i64 a,.string b,.int .i64 c,.slice ad n cc],u.oneCell'=true:=fun u hu=>by
 simp at hu
 rcases hu with rfl | rfl | rfl | rfl<;>rfl
end Go.Proofs.YtpfdgbalchmmfaaGreatDoor
