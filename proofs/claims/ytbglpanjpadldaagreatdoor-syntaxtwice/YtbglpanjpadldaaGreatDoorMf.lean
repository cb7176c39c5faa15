/- Texts in one. -/
import Derived.Test.YtbglpanjpadldaaGreatDoorMe
namespace Go.Proofs.YtbglpanjpadldaaGreatDoor
open Go.RowKit
theorem SO:(Tryz.prog.info? 24).map (fun i=>(i.zero,i.size,i.bytes))=some (some (.agg #[.int .i64 0,.string ⟨#[]⟩,.int .i64 0,.slice none 0 0]),4,56):=by kernel_rfl
theorem DZ:KU 22 24 4 56:=by
 obtain⟨i,hi,h0,h1,h2⟩:=info_parts SO
 exact⟨by kernel_rfl,⟨i,_,hi,h0,h1,h2,by rfl⟩,by decide,by decide⟩
theorem IY(a:Int)(b:ByteArray)(c:Int)(ad:Option Addr)(n cc:Nat):∀u∈[Value.int .i64 a,.string b,.int .i64 c,.slice ad n cc],u.oneCell'=true:=fun u hu=>by
 simp at hu
 rcases hu with rfl | rfl | rfl | rfl<;>rfl
theorem R3(w:World)(x y:Obj){B:Nat}(h:B<=w.heap.size):Below B w ((w.alloc x).alloc y):=((Zg _ _).alloc h _).alloc (by simp;omega) _
end Go.Proofs.YtbglpanjpadldaaGreatDoor
