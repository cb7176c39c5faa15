/- Texts in one. -/
import Derived.Test.YtibeadcfgcfdbaaGreatDoorMl
import Derived.Deep.QuietTactic
set_option maxHeartbeats 2000000
namespace Go.Proofs.YtibeadcfgcfdbaaGreatDoor
open Go.RowKit
theorem C6(c:Int)(b:Bool)(w:World)(HB:Hid (Bm c=b)) :
  Calls Tryz.prog 48 #[.int .u8 c] w fun e w'=>e=.returned (.bool b)/\w'=w:=by
 go_enter Tryz.func48,Tryz.ntmps48
 go_wp2
 all_goals
  go_ret
  refine⟨?_,rfl⟩
  rw[<-HB.out]
  show Ending.returned (Value.bool _)=_
  refine congrArg (fun b=>Ending.returned (Value.bool b)) ?_
  rw[Bool.eq_iff_iff]
  simp only[Bm,Bool.or_eq_true,decide_eq_true_eq,beq_iff_eq,true_iff]
  omega
theorem CY(c:Int)(b:Bool)(w:World)(HB:Hid (Az c=b)) :
  Calls Tryz.prog 49 #[.int .u8 c] w fun e w'=>e=.returned (.bool b)/\w'=w:=by
 go_enter Tryz.func49,Tryz.ntmps49
 go_wp2
 all_goals
  go_ret
  refine⟨?_,rfl⟩
  rw[<-HB.out]
  show Ending.returned (Value.bool _)=_
  refine congrArg (fun b=>Ending.returned (Value.bool b)) ?_
  rw[Bool.eq_iff_iff]
  simp only[Az,decide_eq_true_eq,Bool.false_eq_true,false_iff]
  omega
def Mj:Array Value:=#[.string ⟨#[99,108,97,115,115]⟩,.string ⟨#[116,111]⟩,.string ⟨#[115,108,111,116]⟩,.string ⟨#[109,97,105,110]⟩,.string ⟨#[118,97,114]⟩,.string ⟨#[105,102]⟩,.string ⟨#[101,108,115,101]⟩,.string ⟨#[119,104,105,108,101]⟩,.string ⟨#[114,101,116,117,114,110]⟩,.string ⟨#[112,114,105,110,116]⟩,.string ⟨#[102,111,114,107]⟩,.string ⟨#[119,97,105,116]⟩,.string ⟨#[115,105,103,110,97,108]⟩,.string ⟨#[115,119,97,112]⟩,.string ⟨#[110,101,119]⟩,.string ⟨#[103,97,116,101]⟩,.string ⟨#[110,105,108]⟩,.string ⟨#[115,101,108,102]⟩]
def Ht(i:Nat):ByteArray:=⟨(G9.getD i []).toArray⟩
theorem Uu:∀i,i<18->Mj[i]?=some (.string (Ht i))
 | 0,_=>rfl
 | 1,_=>rfl
 | 2,_=>rfl
 | 3,_=>rfl
 | 4,_=>rfl
 | 5,_=>rfl
 | 6,_=>rfl
 | 7,_=>rfl
 | 8,_=>rfl
 | 9,_=>rfl
 | 10,_=>rfl
 | 11,_=>rfl
 | 12,_=>rfl
 | 13,_=>rfl
 | 14,_=>rfl
 | 15,_=>rfl
 | 16,_=>rfl
 | 17,_=>rfl
 | i+18,h=>absurd h (by omega)
theorem Rp(w:World){i:Nat}(h:i<18):(w.alloc (.cells Mj 9)).cell? ⟨w.heap.size,i,none⟩=some (.string (Ht i)):=by
 rw[<-Uu i h]
 exact World.cell?_alloc_at _ _ _ _ rfl
theorem Iy(s:ByteArray)(b:Bool)(w:World)(HB:Hid (Ey (A2 s)=b)) :
  Calls Tryz.prog 50 #[.string s] w fun e w'=>e=.returned (.bool b)/\Below w.heap.size w w':=by
 go_enter Tryz.func50,Tryz.ntmps50
 go_wp2
 obtain⟨w1,e1⟩:∃w1,w1=w.alloc (.cells Mj 9):=⟨_,rfl⟩
 have HC:Hid (∀i,i<18->w1.cell? ⟨w.heap.size,i,none⟩=some (.string (Ht i))):=fun i hi=>by rw[e1];exact Rp w hi
 have hB1:Below w.heap.size w w1:=by rw[e1];exact(Zg _ _).alloc (Z0 _) _
 unfold Mj at e1
 rw[<-e1]
 clear e1
 go_loopw [4] (fun s4 wr=>∃(i:Nat),s4=.int .i64 i/\i<=18/\Hid (∀j,j<i->s.toList≠G9.getD j [])/\wr=w1) (fun s4 _=>18-(intOf s4).toNat)
 case atStart=>exact⟨0,rfl,by omega,fun j hj=>by omega,rfl⟩
 case round=>
  obtain⟨i,rfl,hi,HN,rfl⟩:=hrel
  by_cases hlt:i<18
  ·have hc:=HC.out i hlt
   have hil:(i:Int)<18:=by omega
   have hw1:=AN (x:=(i:Int)+1) (by omega) (by omega)
   have hl18:G9.length=18:=rfl
   have hat:(Ht i).toList=G9.getD i []:=by rw[ByteArray.toList_eq];rfl
   by_cases he:s.toList=G9.getD i []
   ·have hq:((Ht i).toList==s.toList)=true:=by rw[hat,he];exact beq_self_eq_true _
    have HT:Hid (b=true):=by
     show b=true
     rw[<-HB.out,PT,List.any_eq_true]
     refine⟨G9.getD i [],?_,by rw[he];exact beq_self_eq_true _⟩
     rw[Z2,List.getElem?_eq_getElem (by omega)]
     exact Z6 _
    clear he hat HN
    generalize Ht i=x at *
    go_wp2_with fail
    go_ret
    exact⟨by rw[HT.out];rfl,hB1⟩
   ·have hq:((Ht i).toList==s.toList)=false:=by rw[hat];exact beq_eq_false_iff_ne.2 fun e=>he e.symm
    have HN2:Hid (∀j,j<i+1->s.toList≠G9.getD j []):=fun j hj=>by
     by_cases hji:j=i
     ·rw[hji];exact he
     ·exact HN.out j (by omega)
    clear he hat HN
    generalize Ht i=x at *
    go_wp2_with fail
    go_roundw
    case rel=>exact⟨i+1,by first | rfl | simp,by omega,HN2,trivial⟩
    case measure=>simp[intOf];omega
  ·have e:i=18:=by omega
   subst e
   have HT:Hid (b=false):=by
    show b=false
    rw[<-HB.out,PT]
    rw[Bool.eq_false_iff]
    intro h
    obtain⟨u,hu,e⟩:=List.any_eq_true.1 h
    obtain⟨j,hj,rfl⟩:=List.mem_iff_getElem.1 hu
    refine HN.out j hj ?_
    rw[Z2,List.getElem?_eq_getElem hj]
    exact beq_iff_eq.1 e
   go_wp2_with fail
   go_ret
   exact⟨by rw[HT.out];rfl,hB1⟩
def TP:ByteArray:=⟨#[43,45,42,60,61,33,46,44,59,58,40,41,123,125]⟩
theorem TQ:A2 TP=CG:=by decide
theorem TR(s:ByteArray)(h0:0<s.size)(hm:s.size<=4000)(n:Nat)(w:World)(HN:Hid (CH (A2 s) 0=n)) :
  Calls Tryz.prog 51 #[.string s] w fun e w'=>e=.returned (.int .i64 (n:Int))/\Below w.heap.size w w':=by
 have hc0:=EO h0
 have hy0:=Fr (Dw s) 0
 have hs0:(0:Int)<(s.size:Int):=by omega
 have HL:Hid ((A2 s).length=s.size):=Ai s
 have HS:Hid (¬(1<s.size/\wd (A2 s) 0=61/\wd (A2 s) 1=61)->n=if CG.contains (wd (A2 s) 0)=true then 1 else 0):=fun h=>by
  rw[<-HN.out];unfold CH;rw[if_neg (by rw[HL.out];exact h)]
 have H2:Hid ((1<s.size/\wd (A2 s) 0=61/\wd (A2 s) 1=61)->n=2):=fun h=>by
  rw[<-HN.out];unfold CH;rw[if_pos (by rw[HL.out];exact h)]
 have hl14:(⟨#[43,45,42,60,61,33,46,44,59,58,40,41,123,125]⟩:ByteArray).size=14:=rfl
 have HA:Hid (∀i (h:i<14),(((⟨#[43,45,42,60,61,33,46,44,59,58,40,41,123,125]⟩:ByteArray)[i]'h).toNat:Int)=CG.getD i 0):=fun i h=>by
  have:=EO (t:=TP) (i:=i) h
  rw[TQ]at this
  exact this
 by_cases h:1<s.size/\wd (A2 s) 0=61/\wd (A2 s) 1=61
 ·have h1:=h.1
  have hc1:=EO h1
  have h2:=H2.out h
  subst h2
  rw[h.2.1]at hc0
  rw[h.2.2]at hc1
  have hs1:(1:Int)<(s.size:Int):=by omega
  clear h HS HA hy0
  go_enter Tryz.func51,Tryz.ntmps51
  go_wp2
  go_ret
  exact⟨rfl,Zg _ _⟩
 have HE:Hid (n=if CG.contains (wd (A2 s) 0)=true then 1 else 0):=HS.out h
 clear HS H2 HN
 by_cases h1:1<s.size
 ·have hc1:=EO h1
  have hs1:(1:Int)<(s.size:Int):=by omega
  have hy1:=Fr (Dw s) 1
  generalize wd (A2 s) 1=z at *
  generalize wd (A2 s) 0=x at *
  by_cases hx:x=61
  ·have hz:¬z=61:=fun e=>h ⟨h1,hx,e⟩
   clear h
   subst hx
   go_enter Tryz.func51,Tryz.ntmps51
   go_wp2
   go_loopw [4] (fun s4 wr=>∃(i:Nat),s4=.int .i64 i/\i<=14/\Hid (∀j,j<i->CG.getD j 0≠(61:Int))/\Below w.heap.size w wr) (fun s4 _=>14-(intOf s4).toNat)
   case atStart=>exact⟨0,rfl,by omega,fun j hj=>by omega,Zg _ _⟩
   case round=>
    obtain⟨i,rfl,hi,HJ,hB⟩:=hrel
    by_cases hlt:i<14
    ·have ha:=HA.out i hlt
     have hil:(i:Int)<14:=by omega
     have hw1:=AN (x:=(i:Int)+1) (by omega) (by omega)
     by_cases he:CG.getD i 0=(61:Int)
     ·have HT:Hid (n=1):=by show n=1;rw[HE.out,Js hlt he];rfl
      rw[he]at ha
      clear he HJ
      go_wp2_with fail
      go_region
      go_wp2_with fail
      go_ret
      exact⟨by rw[HT.out];rfl,hB.drew⟩
     ·have HJ2:Hid (∀j,j<i+1->CG.getD j 0≠(61:Int)):=fun j hj=>by
       by_cases hji:j=i
       ·rw[hji];exact he
       ·exact HJ.out j (by omega)
      generalize CG.getD i 0=y at *
      have hxy:¬(61:Int)=y:=fun e=>he e.symm
      clear HJ
      go_wp2_with fail
      go_region
      go_wp2_with fail
      exact⟨⟨i+1,by first | rfl | simp,by omega,HJ2,hB.drew⟩,by simp[intOf];omega⟩
    ·have e:i=14:=by omega
     subst e
     have HT:Hid (n=0):=by show n=0;rw[HE.out,Kb HJ.out];rfl
     go_wp2_with fail
     go_ret
     exact⟨by rw[HT.out];rfl,hB⟩
  ·clear h
   go_enter Tryz.func51,Tryz.ntmps51
   go_wp2
   go_loopw [4] (fun s4 wr=>∃(i:Nat),s4=.int .i64 i/\i<=14/\Hid (∀j,j<i->CG.getD j 0≠x)/\Below w.heap.size w wr) (fun s4 _=>14-(intOf s4).toNat)
   case atStart=>exact⟨0,rfl,by omega,fun j hj=>by omega,Zg _ _⟩
   case round=>
    obtain⟨i,rfl,hi,HJ,hB⟩:=hrel
    by_cases hlt:i<14
    ·have ha:=HA.out i hlt
     have hil:(i:Int)<14:=by omega
     have hw1:=AN (x:=(i:Int)+1) (by omega) (by omega)
     by_cases he:CG.getD i 0=x
     ·have HT:Hid (n=1):=by show n=1;rw[HE.out,Js hlt he];rfl
      rw[he]at ha
      clear he HJ
      go_wp2_with fail
      go_region
      go_wp2_with fail
      go_ret
      exact⟨by rw[HT.out];rfl,hB.drew⟩
     ·have HJ2:Hid (∀j,j<i+1->CG.getD j 0≠x):=fun j hj=>by
       by_cases hji:j=i
       ·rw[hji];exact he
       ·exact HJ.out j (by omega)
      generalize CG.getD i 0=y at *
      have hxy:¬x=y:=fun e=>he e.symm
      clear HJ
      go_wp2_with fail
      go_region
      go_wp2_with fail
      exact⟨⟨i+1,by first | rfl | simp,by omega,HJ2,hB.drew⟩,by simp[intOf];omega⟩
    ·have e:i=14:=by omega
     subst e
     have HT:Hid (n=0):=by show n=0;rw[HE.out,Kb HJ.out];rfl
     go_wp2_with fail
     go_ret
     exact⟨by rw[HT.out];rfl,hB⟩
 ·have hs1:(s.size:Int)<=1:=by omega
  generalize wd (A2 s) 0=x at *
  clear h
  go_enter Tryz.func51,Tryz.ntmps51
  go_wp2
  go_loopw [4] (fun s4 wr=>∃(i:Nat),s4=.int .i64 i/\i<=14/\Hid (∀j,j<i->CG.getD j 0≠x)/\Below w.heap.size w wr) (fun s4 _=>14-(intOf s4).toNat)
  case atStart=>exact⟨0,rfl,by omega,fun j hj=>by omega,Zg _ _⟩
  case round=>
   obtain⟨i,rfl,hi,HJ,hB⟩:=hrel
   by_cases hlt:i<14
   ·have ha:=HA.out i hlt
    have hil:(i:Int)<14:=by omega
    have hw1:=AN (x:=(i:Int)+1) (by omega) (by omega)
    by_cases he:CG.getD i 0=x
    ·have HT:Hid (n=1):=by show n=1;rw[HE.out,Js hlt he];rfl
     rw[he]at ha
     clear he HJ
     go_wp2_with fail
     go_region
     go_wp2_with fail
     go_ret
     exact⟨by rw[HT.out];rfl,hB.drew⟩
    ·have HJ2:Hid (∀j,j<i+1->CG.getD j 0≠x):=fun j hj=>by
      by_cases hji:j=i
      ·rw[hji];exact he
      ·exact HJ.out j (by omega)
     generalize CG.getD i 0=y at *
     have hxy:¬x=y:=fun e=>he e.symm
     clear HJ
     go_wp2_with fail
     go_region
     go_wp2_with fail
     exact⟨⟨i+1,by first | rfl | simp,by omega,HJ2,hB.drew⟩,by simp[intOf];omega⟩
   ·have e:i=14:=by omega
    subst e
    have HT:Hid (n=0):=by show n=0;rw[HE.out,Kb HJ.out];rfl
    go_wp2_with fail
    go_ret
    exact⟨by rw[HT.out];rfl,hB⟩
end Go.Proofs.YtibeadcfgcfdbaaGreatDoor
