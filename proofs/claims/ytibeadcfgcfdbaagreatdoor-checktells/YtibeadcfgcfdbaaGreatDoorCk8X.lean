/- Texts in one. -/
import Derived.Test.YtibeadcfgcfdbaaGreatDoorNj
import Derived.Deep.CutBlock
set_option linter.unusedSimpArgs false
set_option maxHeartbeats 32000000
set_option maxRecDepth 20000
namespace Go.Proofs.YtibeadcfgcfdbaaGreatDoor
open Go.RowKit
theorem RJ(Q sc nx c:Nat)(sa ad:Option Addr)(vc vs vl:Value)(ins ret:Bool)(names:List ByteArray)(past:List (List ByteArray))(xs:List Value)(x:ByteArray)(up ks ms KS:List Nd)(f:Int×Int)(w:World)(HX:Hid (ClsX w Q sa sc vc xs names past up ks ms KS ad nx))(ho:CObj w Q (.slice sa names.length sc) vc (nx:Int) vs vl ins ret f) :
  Calls Tryz.prog 15 #[.pointer (some ⟨Q,0,none⟩),.agg #[.int .i64 2,.string x,.int .i64 0,.slice ad KS.length c],.int .i64 (past.length:Int)] w fun e w'=>e=.returned (.tuple #[])/\MR w w' Q (.slice sa names.length sc) vc past (EG names past x up ks ms nx f):=by
 obtain⟨w1,ew1,HA1⟩:=Su ho (x:=x) (xk:=.slice ad KS.length c)
 have k2:=ho.cell2
 have z2:=ho.frozen 2
 have hlq:=ho.lt
 have hw1:=AN (x:=(nx:Int)+1) (by have:=HX.out.len;omega) (by have:=HX.out.len;omega)
 obtain⟨R,HR⟩:∃R,Hid (EG names past x up ks ms nx f=R):=⟨_,rfl⟩
 rw[HR.out]
 clear ho
 go_enter Tryz.func15,Tryz.ntmps15
 go_upto_region 3 with fail
 rw[<-ew1]
 clear ew1 k2 z2 hlq hw1
 go_cut [7] from 15 to 32 (fun s7 wx=>s7=.int .i64 (CD names x)/\Hid (InA w wx Q (.slice sa names.length sc) vc x (.slice ad KS.length c) (nx+1) f))
 case first=>
  have hpl:=fun j=>Fi names x _ _ (w1.drewN j) ((Dp (JR HX.out.nm HA1.out.fr (Nat.lt_succ_self Q))).drewN j)
  obtain⟨vs1,vl1,ins1,ret1,ho1⟩:=HA1.out.obj
  obtain⟨⟨k0,k1,k2,k3⟩,k4,k5,k6,k7,k8⟩:=ho1.cells
  have hlq:=ho1.lt
  obtain⟨⟨x0,x1,x2,x3⟩,_⟩:=HA1.out.box.facts
  have hlx:=HA1.out.box.lt
  clear ho1 HX HR
  go_quiet ((go_at_call 29;exact CK (hpl _)))
  go_wp2_with fail
  go_meet
  exact⟨rfl,HA1.out.below (Ae _ _)⟩
 case rest=>
  obtain⟨e7,HA2⟩:=hcut
  subst e7
  clear HA1
  go_upto_if 35 with fail
  go_cut [] from 33 to 38 (fun wx=>Hid (InA w wx Q (.slice sa names.length sc) vc x (.slice ad KS.length c) (nx+1) (f1C names past x nx f)))
  case first=>
   obtain⟨vs1,vl1,ins1,ret1,ho1⟩:=HA2.out.obj
   by_cases hp0:CD names x<(past.length:Int)
   ·have hfl:=De Q _ _ _ _ _ _ _ f 5 (nx:Int) wc ho1
    have e1:(if f.1=0 then((5:Int),(nx:Int))else f)=f1C names past x nx f:=by
     unfold f1C
     rw[if_pos hp0]
     rfl
    rw[e1]at hfl
    clear e1 HR
    go_wp2_with (first | (go_at_call 30;refine hfl.mono ?_;rintro e w3 ⟨rfl,ho3,hg3⟩))
    go_meet
    exact HA2.out.put hg3 ho3
   ·have e1:f1C names past x nx f=f:=by unfold f1C;rw[if_neg hp0]
    clear HR
    go_wp2_with fail
    go_meet
    rw[e1]
    exact HA2
  case rest=>
   clear HA2
   go_upto_region 6 with fail
   go_cut [8] from 39 to 41 (fun s8 wx=>∃Y,s8=.pointer (some ⟨Y,0,none⟩)/\Hid (InC w wx Q Y (.slice sa names.length sc) vc x (.slice ad KS.length c) (-1) (nx+1) (f1C names past x nx f) [] (.slice none 0 0)))
   case first=>
    have HA3:Hid (InA w wc Q (.slice sa names.length sc) vc x (.slice ad KS.length c) (nx+1) (f1C names past x nx f)):=hcut
    obtain⟨⟨x0,x1,x2,x3⟩,_⟩:=HA3.out.box.facts
    have hlx:=HA3.out.box.lt
    clear hcut HR
    go_wp2_with fail
    go_meet
    exact⟨_,rfl,HA3.out.made⟩
   case rest=>
    obtain⟨Y,e8,HI1⟩:=hcut
    subst e8
    go_upto_region 8 with fail
    go_cut [53] from 42 to 52 (fun s53 wx=>s53=.bool (!up.isEmpty)/\Hid (InC w wx Q Y (.slice sa names.length sc) vc x (.slice ad KS.length c) (-1) (nx+1) (f1C names past x nx f) [] (.slice none 0 0)))
    case first=>
     obtain⟨⟨x0,x1,x2,x3⟩,_⟩:=HI1.out.box.facts
     have hlx:=HI1.out.box.lt
     obtain⟨n0,tx0,hpc⟩:=HX.out.pc
     by_cases hk0:0<KS.length
     ·have hk0i:(0:Int)<(KS.length:Int):=by omega
      obtain⟨b,o,rfl,hbr,adx,lx,cx,⟨c0,-,-,-⟩,-⟩:=G8 HI1.out.fr HX.out.q HX.out.kk hk0
      have hkd:(KS[0].kind==31)=!up.isEmpty:=RF hpc HX.out.is hk0
      rw[show o+0*4=o by omega]at c0
      clear hpc HR
      generalize KS[0].kind=kd at *
      go_wp2_with fail
      go_meet
      exact⟨by simp[<-hkd],HI1⟩
     ·have hk0i:¬(0:Int)<(KS.length:Int):=by omega
      have hub:(!up.isEmpty)=false:=by
       have e0:=Zd (show KS.length=0 by omega)
       have e1:=HX.out.is
       rw[e0,List.append_assoc,List.append_eq_nil_iff]at e1
       rw[e1.1]
       rfl
      clear hpc HR
      go_wp2_with fail
      go_meet
      exact⟨by rw[hub],HI1⟩
    case rest=>
     obtain⟨e53,HI2⟩:=hcut
     subst e53
     clear HI1
     go_upto_if 53 with fail
     go_cut [7,9] from 53 to 94 (fun _ s9 wx=>∃(over:Int) (vS:Value),s9=.int .i64 (up.length:Int)/\Hid (InC w wx Q Y (.slice sa names.length sc) vc x (.slice ad KS.length c) over (c1C names past x up nx f).next (c1C names past x up nx f).bad (c1C names past x up nx f).slots vS))
     case first=>
      obtain⟨n0,tx0,hpc⟩:=HX.out.pc
      rcases hpc.over with hup | ⟨y,hy,hup⟩
      ·have hub:(!up.isEmpty)=false:=by rw[hup];rfl
       have e1:c1C names past x up nx f=⟨nx+1,[],f1C names past x nx f⟩:=by unfold c1C;rw[hup];rfl
       have e2:(up.length:Int)=0:=by rw[hup];rfl
       clear hpc hup HR
       rw[hub]
       go_wp2_with fail
       go_meet
       refine⟨-1,.slice none 0 0,by rw[e2],?_⟩
       rw[e1]
       exact HI2
      ·have hub:(!up.isEmpty)=true:=by rw[hup];rfl
       have HE2:Hid ((up.length:Int)=1):=by show _=_;rw[hup];rfl
       have eK:KS[0]?=some (Nd.mk 31 y 0 []):=by rw[<-HX.out.is,hup];rfl
       obtain⟨hk0,eK0⟩:=List.getElem?_eq_some_iff.1 eK
       have hk0i:(0:Int)<(KS.length:Int):=by omega
       obtain⟨b,o,rfl,hbr,adx,lx,cx,⟨-,c1,-,-⟩,-⟩:=G8 HI2.out.fr HX.out.q HX.out.kk hk0
       rw[show o+0*4=o by omega,eK0]at c1
       obtain⟨yb,eyb⟩:∃yb,strOfNums y=yb:=⟨_,rfl⟩
       replace c1:wc.cell? ⟨b,o+1,none⟩=some (.string yb):=by rw[<-eyb];exact c1
       have eyb2:(Nd.mk 31 y 0 []).str=yb:=eyb
       clear eyb eK0 eK
       have hnn:=HX.out.nn
       have hnm:=HX.out.nm
       have hnx:nx<=90000:=HX.out.len.2.2.1
       obtain⟨sg,rfl⟩:∃g,sa=some ⟨g,0,none⟩:=by
        rcases hnm.2 with⟨_,h0⟩ | ⟨g,cap,cur,e,_⟩
        ·omega
        ·injection e with e;exact⟨g,e⟩
       have hpl:=fun j=>Fi (names.take past.length) yb _ _ (wc.drewN j) (((Dp (JR hnm HI2.out.fr (Nat.lt_succ_self Q))).take (k:=past.length) (by omega)).drewN j)
       obtain⟨p2,HP2⟩:∃p2,Hid (CD (names.take past.length) yb=p2):=⟨_,rfl⟩
       rw[HP2.out]at hpl
       obtain⟨f1,HF1⟩:∃f1,Hid (f1C names past x nx f=f1):=⟨_,rfl⟩
       obtain⟨C1,HC1⟩:∃C1,Hid (c1C names past x up nx f=C1):=⟨_,rfl⟩
       rw[HF1.out]at HI2
       have HE1:Hid (C1=⟨nx+1+1,(if p2<0 then[]else past.getD p2.toNat []),if p2<0 then Bg f1 14 (nx+1)else f1⟩):=by
        show _=_
        rw[<-HC1.out,<-HF1.out]
        unfold c1C
        rw[hup]
        unfold upR
        dsimp only
        rw[eyb2,HP2.out]
       obtain⟨vs2,vl2,ins2,ret2,ho2⟩:=HI2.out.obj
       obtain⟨⟨k0,k1,k2,k3⟩,k4,k5,k6,k7,k8⟩:=ho2.cells
       have hlq:=ho2.lt
       obtain⟨⟨x0,x1,x2,x3⟩,_⟩:=HI2.out.box.facts
       have hlx:=HI2.out.box.lt
       have hsc:names.length<=sc:=by obtain⟨_,_,e,h,_⟩:=B2 hnm;injection e with _ _ e;omega
       have hsci:(past.length:Int)<=(sc:Int):=by omega
       have hnsc:(past.length:Int)<=(names.length:Int):=by omega
       clear hpc hup HR eyb2 HF1 hnm
       rw[hub]
       go_upto_region 9 with fail
       go_quiet ((go_at_call 29;exact CK (hpl _)))
       have HI4:Hid (InC w (wc.drewN nq) Q Y (.slice (some ⟨sg,0,none⟩) names.length sc) vc x (.slice (some ⟨b,o,none⟩) KS.length c) (-1) (nx+1) f1 [] (.slice none 0 0)):=HI2.out.below (Ae _ _)
       obtain⟨wd,ewd⟩:∃wd,wd=wc.drewN nq:=⟨_,rfl⟩
       rw[<-ewd]at HI4⊢
       clear ewd hpl ho2 HI2 hbr k0 k1 k2 k3 k4 k5 k6 k7 k8 hlq x0 x1 x2 x3 hlx c1
       go_upto_if 67 with fail
       go_cut [] from 54 to 87 (fun wx=>∃(over:Int) (vS:Value),Hid (InC w wx Q Y (.slice (some ⟨sg,0,none⟩) names.length sc) vc x (.slice (some ⟨b,o,none⟩) KS.length c) over (nx+1) C1.bad C1.slots vS))
       case first=>
        obtain⟨vs2,vl2,ins2,ret2,ho2⟩:=HI4.out.obj
        have hlq:=ho2.lt
        obtain⟨⟨k0,k1,k2,k3⟩,k4,k5,k6,k7,k8⟩:=ho2.cells
        by_cases hp2:p2<0
        ·have hfl:=De Q _ _ _ _ _ _ _ f1 14 ((nx+1:Nat):Int) wd ho2
         have e1:(if f1.1=0 then((14:Int),((nx+1:Nat):Int))else f1)=C1.bad:=by
          rw[HE1.out]
          dsimp only
          rw[if_pos hp2]
          rfl
         rw[e1]at hfl
         have e3:C1.slots=[]:=by rw[HE1.out];exact if_pos hp2
         clear e1 HE1 HC1
         go_wp2_with (first | (go_at_call 30;refine hfl.mono ?_;rintro e w3 ⟨rfl,ho3,hg3⟩))
         go_meet
         refine⟨-1,.slice none 0 0,?_⟩
         rw[e3]
         exact HI4.out.put hg3 ho3
        ·
         obtain⟨pi,epi,hpi⟩:=Sq (l:=names.take past.length) (x:=yb) (by rw[HP2.out];exact hp2)
         rw[HP2.out]at epi
         rw[List.length_take]at hpi
         subst epi
         have hpl:pi<past.length:=by omega
         have hpli:(pi:Int)<(past.length:Int):=by omega
         have HE3:Hid (C1.bad=f1/\C1.slots=past[pi]):=by
          show _/\_
          rw[HE1.out]
          dsimp only
          rw[if_neg hp2,if_neg hp2,Int.toNat_natCast,Z2,List.getElem?_eq_getElem hpl]
          exact⟨rfl,rfl⟩
         clear HE1 HP2 hpi
         obtain⟨cg,ccap,va,vcp,rfl,hcl,hcy,hyq,hcell,hv5⟩:=WC HI4.out HX.out.cls hpl
         have hlp:past[pi].length<=90000:=Za (HX.out.few _ (Z6 hpl)) hnx
         have HI5:Hid (InC w (wd.setCell ⟨Y,1,none⟩ (.int .i64 (pi:Int))) Q Y (.slice (some ⟨sg,0,none⟩) names.length sc) (.slice (some ⟨cg,0,none⟩) past.length ccap) x (.slice (some ⟨b,o,none⟩) KS.length c) (pi:Int) (nx+1) f1 [] (.slice none 0 0)):=HI4.out.overPut (pi:Int)
         obtain⟨⟨y0,y1,y2⟩,hyf⟩:=HI4.out.xb.facts
         have hly:=HI4.out.xb.lt
         have z1:=hyf 1
         have z2:=hyf 2
         have hYb:Y+1<=(wd.setCell ⟨Y,1,none⟩ (.int .i64 (pi:Int))).heap.size:=by simp;omega
         clear hyf HC1 hcut ho2
         generalize past[pi]=lp at *
         go_upto_region 13 with fail
         go_region_law (first | (refine FS J3 rfl (.tmp 77) (.tmp 85) rfl (.slice none 0 0) (.slice va lp.length vcp) (base:=Y+1) (n:=0) (xs:=[]) (news:=BL lp) (m:=lp.length) (by first | (simp[Act.eval];done) | simp[Act.eval,Act.put]) (by first | (simp[Act.eval];done) | simp[Act.eval,Act.put]) (Zl _ _ _ _) (by rw[J4,Nat.mul_one]) (Vf hv5) (Ve _) (by omega) hYb ?_;intro v' w7 hr7 hg7;rw[Nat.zero_add,List.nil_append]at hr7;have hx7:Box3 w7 Y (.string x) (.int .i64 (pi:Int)) (.slice none 0 0):=(hg7.block Y HI5.out.xb.lt (fun e=>by cases e)).trans HI5.out.xb;obtain⟨⟨q0,q1,q2⟩,qf⟩:=hx7.facts;have qz:=qf 2;have ql:=hx7.lt;clear qf;obtain⟨va7,vc7,hv7,_,_⟩:=B2 hr7;subst hv7))
         all_goals (go_wp2_with fail;go_meet)
         all_goals (refine⟨(pi:Int),.slice va7 lp.length vc7,?_⟩;rw[HE3.out.1,HE3.out.2];exact(HI5.out.below (Zg _ _).drew).slotsPut hg7 hr7)
       case rest=>
        obtain⟨over,vS,HI5⟩:=hcut
        obtain⟨vs2,vl2,ins2,ret2,ho2⟩:=HI5.out.obj
        have k2:=ho2.cell2
        have hlq:=ho2.lt
        have z2:=ho2.frozen 2
        have hw2:=AN (x:=((nx+1:Nat):Int)+1) (by omega) (by omega)
        clear HI4 HP2
        go_wp2_with fail
        go_meet
        refine⟨over,vS,by rw[HE2.out],?_⟩
        have e1:C1.next=nx+1+1:=by rw[HE1.out]
        have e3:(nx:Int)+1+1=((nx+1+1:Nat):Int):=by omega
        rw[HC1.out,e1,e3]
        exact HI5.out.put (AJ wc Q 2 _) (ho2.setNext _)
     case rest=>
      obtain⟨over,vS,e9,HI3⟩:=hcut
      subst e9
      clear HI2
      go_upto_block 0 with fail
      go_cut [7,9] from 95 to 155 (fun _ s9 wx=>∃vS,s9=.int .i64 ((up.length+ks.length:Nat):Int)/\Hid (InC w wx Q Y (.slice sa names.length sc) vc x (.slice ad KS.length c) over (D5 names past x up ks nx f).next (D5 names past x up ks nx f).bad (D5 names past x up ks nx f).slots vS))
      case first=>as_aux_lemma=>
       obtain⟨n0,tx0,hpc⟩:=HX.out.pc
       have HB1:Hid ((c1C names past x up nx f).next=nx+1+up.length/\(c1C names past x up nx f).slots.length<=nx+1):=N9 names past up (nx+1) _ hpc.over (fun l hl=>Nat.le_succ_of_le (HX.out.few l hl))
       have HC2:Hid (DX ks (c1C names past x up nx f)=D5 names past x up ks nx f):=rfl
       obtain⟨C1,HC1⟩:∃C1,Hid (c1C names past x up nx f=C1):=⟨_,rfl⟩
       obtain⟨C2,HE2⟩:∃C2,Hid (D5 names past x up ks nx f=C2):=⟨_,rfl⟩
       rw[HC1.out]at HB1 HC2 HI3
       rw[HE2.out]at HC2
       have HPC:Hid (JQ n0 tx0 up ks ms):=hpc
       have HKL:Hid (KS.length=up.length+ks.length+ms.length/\nx+1+up.length+ks.length+A5 ms<=90000):=⟨HX.out.len.1,HX.out.len.2.2.2⟩
       have hkl9:KS.length<=90000:=HX.out.len.2.1
       clear hpc HC1 HR
       obtain⟨wL,ewL⟩:∃wL,wL=wc:=⟨_,rfl⟩
       rw[<-ewL]at HI3⊢
       clear ewL
       go_wp2_with fail
       go_loopw [9] (fun s9 wr=>∃(j:Nat) (c1:CsR) (vS1:Value),s9=.int .i64 ((up.length+j:Nat):Int)/\j<=ks.length/\Hid (DX (ks.drop j) c1=C2/\c1.next=nx+1+up.length+j/\c1.slots.length<=c1.next)/\Hid (InC w wr Q Y (.slice sa names.length sc) vc x (.slice ad KS.length c) over c1.next c1.bad c1.slots vS1)) (fun s9 _=>100001-(intOf s9).toNat)
       case atStart=>exact⟨0,C1,vS,rfl,Z3 _,⟨by rw[List.drop_zero];exact HC2.out,HB1.out.1,by have h1:=HB1.out;omega⟩,HI3⟩
       case round=>
        clear HI3 HC2 HB1
        obtain⟨j,c1,vS1,rfl,hj,HJ,HI⟩:=hrel
        obtain⟨jb,HJB⟩:∃jb:Bool,Hid (decide (j<ks.length)=jb):=⟨_,rfl⟩
        go_upto_region 16 with fail
        go_cut [108] from 95 to 107 (fun s108 wx=>s108=.bool jb/\Hid (InC w wx Q Y (.slice sa names.length sc) vc x (.slice ad KS.length c) over c1.next c1.bad c1.slots vS1))
        case first=>
         obtain⟨⟨x0,x1,x2,x3⟩,_⟩:=HI.out.box.facts
         have hlx:=HI.out.box.lt
         by_cases hk0:up.length+j<KS.length
         ·have hk0i:((up.length+j:Nat):Int)<(KS.length:Int):=by omega
          obtain⟨b,o,rfl,hbr,adx,lx,cx,⟨c0,-,-,-⟩,-⟩:=G8 HI.out.fr HX.out.q HX.out.kk hk0
          have hkd:(KS[up.length+j].kind==3)=jb:=(UQ HPC.out HX.out.is hj hk0).trans HJB.out
          clear HJ HE2
          generalize KS[up.length+j].kind=kd at *
          go_wp2_with fail
          go_meet
          exact⟨by simp[<-hkd],HI⟩
         ·have hk0i:¬((up.length+j:Nat):Int)<(KS.length:Int):=by omega
          have hub:jb=false:=by rw[<-HJB.out];exact decide_eq_false (by have:=HKL.out.1;omega)
          subst hub
          clear HJ HE2
          go_wp2_with fail
          go_meet
          exact⟨rfl,HI⟩
        case rest=>
         obtain⟨e108,HI⟩:=hcut
         subst e108
         cases hjb:jb with
         | true=>
          subst hjb
          have hlt:j<ks.length:=of_decide_eq_true HJB.out
          clear HJB
          have hk0:up.length+j<KS.length:=by have:=HKL.out.1;omega
          have hk0i:((up.length+j:Nat):Int)<(KS.length:Int):=by omega
          obtain⟨b,o,rfl,hbr,adx,lx,cx,⟨-,q1,-,-⟩,-⟩:=G8 HI.out.fr HX.out.q HX.out.kk hk0
          rw[Qp HX.out.is hlt hk0]at q1
          obtain⟨t,et⟩:∃t,ks[j].str=t:=⟨_,rfl⟩
          replace q1:wc.cell? ⟨b,o+(up.length+j)*4+1,none⟩=some (.string t):=by rw[<-et];exact q1
          obtain⟨f2,HF2⟩:∃f2,Hid ((if BE c1.slots t=true then Bg c1.bad 5 c1.next else c1.bad)=f2):=⟨_,rfl⟩
          obtain⟨f3,HF3⟩:∃f3,Hid ((if 59<=c1.slots.length then Bg f2 1 c1.next else f2)=f3):=⟨_,rfl⟩
          have HJ2:Hid (DX (ks.drop (j+1)) ⟨c1.next+1,c1.slots++[t],f3⟩=C2):=by
           have e:=HJ.out.1
           rw[Z4 hlt,DX]at e
           unfold OO E8 at e
           rw[et,HF2.out,HF3.out]at e
           exact e
          have hcn9:c1.next<=90000:=by have h1:=HJ.out.2.1;have h2:=HKL.out.2;omega
          have hcs9:c1.slots.length<=90000:=by have h1:=HJ.out.2.2;omega
          have HCN:Hid (c1.next=nx+1+up.length+j/\c1.slots.length<=c1.next):=HJ.out.2
          have HT:Hid (strOfNums ks[j].text=t):=et
          clear HJ et
          obtain⟨va,vcp,hva,_,_⟩:=B2 HI.out.row
          subst hva
          have hpl:=fun i=>Fi c1.slots t _ _ (wc.drewN i) ((Dp HI.out.row).drewN i)
          obtain⟨p,HP⟩:∃p,Hid (CD c1.slots t=p):=⟨_,rfl⟩
          rw[HP.out]at hpl
          obtain⟨⟨x0,x1,x2,x3⟩,_⟩:=HI.out.box.facts
          have hlx:=HI.out.box.lt
          obtain⟨⟨y0,y1,y2⟩,_⟩:=HI.out.xb.facts
          have hly:=HI.out.xb.lt
          go_upto_region 18 with fail
          go_quiet ((go_at_call 29;exact CK (hpl _)))
          have HID:Hid (InC w (wc.drewN nq) Q Y (.slice sa names.length sc) vc x (.slice (some ⟨b,o,none⟩) KS.length c) over c1.next c1.bad c1.slots (.slice va c1.slots.length vcp)):=HI.out.below (Ae _ _)
          replace q1:(wc.drewN nq).cell? ⟨b,o+(up.length+j)*4+1,none⟩=some (.string t):=q1
          replace hbr:b<(wc.drewN nq).heap.size:=hbr
          obtain⟨wd,ewd⟩:∃wd,wd=wc.drewN nq:=⟨_,rfl⟩
          rw[<-ewd]at HID q1 hbr⊢
          clear ewd hpl HI x0 x1 x2 x3 hlx y0 y1 y2 hly
          go_upto_if 121 with fail
          go_cut [] from 108 to 127 (fun wx=>Hid (InC w wx Q Y (.slice sa names.length sc) vc x (.slice (some ⟨b,o,none⟩) KS.length c) over c1.next f2 c1.slots (.slice va c1.slots.length vcp)))
          case first=>
           obtain⟨vs2,vl2,ins2,ret2,ho2⟩:=HID.out.obj
           obtain⟨⟨k0,k1,k2,k3⟩,k4,k5,k6,k7,k8⟩:=ho2.cells
           have hlq:=ho2.lt
           by_cases hp:p<0
           ·have hp':¬ 0<=p:=by omega
            have e1:c1.bad=f2:=by rw[<-HF2.out,if_neg (by rw[Du.1 (by rw[HP.out];exact hp)];decide)]
            rw[e1]at HID
            clear e1 HF2 HF3 HJ2
            go_wp2_with fail
            go_meet
            exact HID
           ·have hp':0<=p:=by omega
            have hz:BE c1.slots t=true:=by
             cases hh:BE c1.slots t with
             | true=>rfl
             | false=>exact absurd (Du.2 hh) (by rw[HP.out];exact hp)
            have hfl:=De Q _ _ _ _ _ _ _ c1.bad 5 (c1.next:Int) wd ho2
            have e1:(if c1.bad.1=0 then((5:Int),(c1.next:Int))else c1.bad)=f2:=by rw[<-HF2.out,if_pos hz];rfl
            rw[e1]at hfl
            clear e1 HF2 HF3 HJ2
            go_wp2_with (first | (go_at_call 30;refine hfl.mono ?_;rintro e w3 ⟨rfl,ho3,hg3⟩))
            go_meet
            exact HID.out.put hg3 ho3
          case rest=>
           have HIE:Hid (InC w wc Q Y (.slice sa names.length sc) vc x (.slice (some ⟨b,o,none⟩) KS.length c) over c1.next f2 c1.slots (.slice va c1.slots.length vcp)):=hcut
           obtain⟨we,ewe⟩:∃we,we=wc:=⟨_,rfl⟩
           rw[<-ewe]at HIE⊢
           clear ewe hcut HID HP HF2 q1 hbr
           obtain⟨⟨y0,y1,y2⟩,_⟩:=HIE.out.xb.facts
           have hly:=HIE.out.xb.lt
           go_upto_if 131 with fail
           go_cut [] from 128 to 137 (fun wx=>Hid (InC w wx Q Y (.slice sa names.length sc) vc x (.slice (some ⟨b,o,none⟩) KS.length c) over c1.next f3 c1.slots (.slice va c1.slots.length vcp)))
           case first=>
            obtain⟨vs2,vl2,ins2,ret2,ho2⟩:=HIE.out.obj
            obtain⟨⟨k0,k1,k2,k3⟩,k4,k5,k6,k7,k8⟩:=ho2.cells
            have hlq:=ho2.lt
            by_cases h59:59<=c1.slots.length
            ·have h59i:(59:Int)<=(c1.slots.length:Int):=by omega
             have hfl:=De Q _ _ _ _ _ _ _ f2 1 (c1.next:Int) we ho2
             have e1:(if f2.1=0 then((1:Int),(c1.next:Int))else f2)=f3:=by rw[<-HF3.out,if_pos h59];rfl
             rw[e1]at hfl
             clear e1 HF3 HJ2
             go_wp2_with (first | (go_at_call 30;refine hfl.mono ?_;rintro e w3 ⟨rfl,ho3,hg3⟩))
             go_meet
             exact HIE.out.put hg3 ho3
            ·have h59i:¬(59:Int)<=(c1.slots.length:Int):=by omega
             have e1:f2=f3:=by rw[<-HF3.out,if_neg h59]
             rw[e1]at HIE
             clear e1 HF3 HJ2
             go_wp2_with fail
             go_meet
             exact HIE
           case rest=>
            have HIF:Hid (InC w wc Q Y (.slice sa names.length sc) vc x (.slice (some ⟨b,o,none⟩) KS.length c) over c1.next f3 c1.slots (.slice va c1.slots.length vcp)):=hcut
            obtain⟨wf,ewf⟩:∃wf,wf=wc:=⟨_,rfl⟩
            rw[<-ewf]at HIF⊢
            clear ewf hcut HIE HF3 y0 y1 y2 hly
            go_upto_region 23 with fail
            go_cut [] from 138 to 148 (fun wx=>∃(v':Value),Hid (InC w wx Q Y (.slice sa names.length sc) vc x (.slice (some ⟨b,o,none⟩) KS.length c) over c1.next f3 (c1.slots++[t]) v'))
            case first=>
             obtain⟨⟨x0,x1,x2,x3⟩,_⟩:=HIF.out.box.facts
             have hlx:=HIF.out.box.lt
             obtain⟨⟨y0,y1,y2⟩,hyf⟩:=HIF.out.xb.facts
             have hly:=HIF.out.xb.lt
             have z2:=hyf 2
             obtain⟨b2,o2,e2,hbr,adx,lx,cx,⟨-,q1,-,-⟩,-⟩:=G8 HIF.out.fr HX.out.q HX.out.kk hk0
             injection e2 with e2
             injection e2 with e2 e3
             subst e2 e3
             rw[Qp HX.out.is hlt hk0,HT.out]at q1
             have i1:(0:Int)<=(up.length:Int)+(j:Int):=by omega
             have i2:(up.length:Int)+(j:Int)<(KS.length:Int):=by omega
             have i3:((up.length:Int)+(j:Int)).toNat=up.length+j:=by omega
             have hO:=HIF.out.row.drew.alloc (.cells #[.string t] 9)
             have hYb:Y+1<=(wf.drew.alloc (.cells #[.string t] 9)).heap.size:=by simp;omega
             go_region_law (first | (refine FS J3 rfl (.tmp 139) (.tmp 146) rfl (.slice va c1.slots.length vcp) (.slice (some ⟨wf.heap.size,0,none⟩) 1 1) (base:=Y+1) (n:=c1.slots.length) (xs:=BL c1.slots) (news:=[.string t]) (m:=1) (by first | (simp[Act.eval];done) | simp[Act.eval,Act.put]) (by first | (simp[Act.eval];done) | simp[Act.eval,Act.put]) hO rfl (Or.inr ⟨_,_,rfl,fun j x e=>by(cases j with | zero=>simp at e;subst e;simp[Addr.add] | succ j=>simp at e)⟩) (fun x hx=>by simp at hx;subst hx;rfl) (by omega) hYb ?_;intro v' w7 hr7 hg7;have hx7:Box3 w7 Y (.string x) (.int .i64 over) (.slice va c1.slots.length vcp):=(hg7.block Y (by simp;omega) (fun e=>by have:=(hO.lt Y e.symm).1;omega)).trans ((((Zg _ wf).drew.alloc (Z0 _) _).block Y hly).trans HIF.out.xb);obtain⟨⟨r0,r1,r2⟩,qf⟩:=hx7.facts;have qz:=qf 2;have ql:=hx7.lt;clear qf;obtain⟨va7,vc7,hv7,_,_⟩:=B2 hr7;subst hv7))
             all_goals (go_wp2_with fail;go_meet)
             all_goals (refine⟨.slice va7 (c1.slots.length+1) vc7,?_⟩;exact(HIF.out.below ((Zg _ wf).drew.alloc (Z0 _) _)).slotsPut hg7 (by rw[Z1,GP];exact hr7))
            case rest=>
             obtain⟨v',HIG⟩:=hcut
             obtain⟨wg,ewg⟩:∃wg,wg=wc:=⟨_,rfl⟩
             rw[<-ewg]at HIG⊢
             clear ewg HIF
             obtain⟨vs2,vl2,ins2,ret2,ho2⟩:=HIG.out.obj
             have k2:=ho2.cell2
             have hlq:=ho2.lt
             have z2:=ho2.frozen 2
             have hw2:=AN (x:=(c1.next:Int)+1) (by omega) (by omega)
             have hw3:=AN (x:=((up.length+j:Nat):Int)+1) (by omega) (by omega)
             go_wp2_with fail
             have e3:((c1.next+1:Nat):Int)=(c1.next:Int)+1:=by omega
             have e4:((up.length+(j+1):Nat):Int)=(up.length:Int)+(j:Int)+1:=by omega
             refine⟨⟨j+1,⟨c1.next+1,c1.slots++[t],f3⟩,v',by rw[e4],by omega,⟨HJ2.out,by show c1.next+1=_;have:=HCN.out.1;omega,by show(c1.slots++[t]).length<=c1.next+1;rw[Z1];show _+1<=_;have:=HCN.out.2;omega⟩,?_⟩,by simp[intOf];omega⟩
             show InC _ _ _ _ _ _ _ _ _ (c1.next+1) _ _ _
             exact HIG.out.put (AJ wg Q 2 _) (by rw[e3];exact ho2.setNext _)
         | false=>
          subst hjb
          have hlt:¬j<ks.length:=of_decide_eq_false HJB.out
          have hje:j=ks.length:=by omega
          subst hje
          have HE:Hid (c1=C2):=by
           have e:=HJ.out.1
           rw[Z9 (Z0 _)]at e
           exact e
          rw[HE.out]at HI
          clear HE HJ HJB hlt hj
          go_wp2_with fail
          go_meet
          refine⟨vS1,rfl,?_⟩
          rw[HE2.out]
          exact HI
      case rest=>
       obtain⟨vS2,e9,HI4⟩:=hcut
       subst e9
       clear HI3
       go_upto_block 2 with fail
       go_cut [7,9,11,12,13,14] from 157 to 277 (fun _ _ _ _ _ _ wx=>Hid (InC w wx Q Y (.slice sa names.length sc) vc x (.slice ad KS.length c) over R.next R.bad R.slots vS2))
       case first=>as_aux_lemma=>
        obtain⟨n0,tx0,hpc⟩:=HX.out.pc
        have HPC:Hid (JQ n0 tx0 up ks ms):=hpc
        obtain⟨C2,HE2⟩:∃C2,Hid (D5 names past x up ks nx f=C2):=⟨_,rfl⟩
        obtain⟨RM,HRM⟩:∃RM,Hid (Cj names C2.slots [] ms C2.next C2.bad=RM):=⟨_,rfl⟩
        have HRR:Hid (R=⟨RM.1,C2.slots,RM.2⟩):=by
         show _=_
         rw[<-HR.out,<-HRM.out,<-HE2.out]
         rfl
        have HB1:Hid (C2.next=nx+1+up.length+ks.length):=by
         show _=_
         rw[<-HE2.out]
         unfold D5
         rw[JA,(N9 names past up (nx+1) _ hpc.over (fun l hl=>Nat.le_succ_of_le (HX.out.few l hl))).1]
        rw[HE2.out]at HI4
        have HKL:Hid (KS.length=up.length+ks.length+ms.length/\nx+1+up.length+ks.length+A5 ms<=90000):=⟨HX.out.len.1,HX.out.len.2.2.2⟩
        have hkl9:KS.length<=90000:=HX.out.len.2.1
        clear hpc HE2 HR
        obtain⟨wL,ewL⟩:∃wL,wL=wc:=⟨_,rfl⟩
        rw[<-ewL]at HI4⊢
        clear ewL
        go_wp2_with fail
        go_loopw [9] (fun s9 wr=>∃(j nx1:Nat) (fa:Int×Int),s9=.int .i64 ((up.length+ks.length+j:Nat):Int)/\j<=ms.length/\Hid (Cj names C2.slots (ms.take j) (ms.drop j) nx1 fa=RM/\nx1+A5 (ms.drop j)<=90000)/\Hid (InC w wr Q Y (.slice sa names.length sc) vc x (.slice ad KS.length c) over nx1 fa C2.slots vS2)) (fun s9 _=>100001-(intOf s9).toNat)
        case atStart=>exact⟨0,C2.next,C2.bad,rfl,Z3 _,⟨HRM.out,by have h1:=HB1.out;have h2:=HKL.out.2;rw[List.drop_zero];omega⟩,HI4⟩
        case round=>
         clear HI4 HRM HB1
         obtain⟨j,nx1,fa,rfl,hj,HJ,HI⟩:=hrel
         obtain⟨⟨x0,x1,x2,x3⟩,_⟩:=HI.out.box.facts
         have hlx:=HI.out.box.lt
         by_cases hlt:j<ms.length
         ·have hk0:up.length+ks.length+j<KS.length:=by have:=HKL.out.1;omega
          have i1:(0:Int)<=(up.length:Int)+(ks.length:Int)+(j:Int):=by omega
          have i2:(up.length:Int)+(ks.length:Int)+(j:Int)<(KS.length:Int):=by omega
          have i3:((up.length:Int)+(ks.length:Int)+(j:Int)).toNat=up.length+ks.length+j:=by omega
          obtain⟨mx,ka,bn,em,-,hka,hbn⟩:=HPC.out.meths ms[j] (Z6 hlt)
          obtain⟨b,o,rfl,hbr,adx,lx,cx,⟨c0,c1,c2,c3⟩,hkv⟩:=G8 HI.out.fr HX.out.q HX.out.kk hk0
          rw[P8 HX.out.is hlt hk0,em]at c0 c1 c2 hkv
          obtain⟨mt,emt⟩:∃mt,strOfNums mx=mt:=⟨_,rfl⟩
          replace c0:wr.cell? ⟨b,o+(up.length+ks.length+j)*4,none⟩=some (.int .i64 4):=c0
          replace c1:wr.cell? ⟨b,o+(up.length+ks.length+j)*4+1,none⟩=some (.string mt):=by rw[<-emt];exact c1
          replace c2:wr.cell? ⟨b,o+(up.length+ks.length+j)*4+2,none⟩=some (.int .i64 (ka.length:Int)):=c2
          have HKV:Hid (KidsV wr (fun k=>k<Q) (.slice adx lx cx) (ka++[bn])):=hkv
          have HEM:Hid (ms[j]=.mk 4 mx (ka.length:Int) (ka++[bn])/\strOfNums mx=mt):=⟨em,emt⟩
          obtain⟨hlx1,hka9,hnx9⟩:lx=ka.length+1/\ka.length<=90000/\nx1<=90000:=UR HKV.out HEM.out.1 hlt HJ.out.2
          subst hlx1
          clear hkv em emt hka hbn
          have HM0:Hid (InM w (wr.alloc (.cells #[.int .i64 4,.string mt,.int .i64 (ka.length:Int),.slice adx (ka.length+1) cx] 24)) Q Y wr.heap.size (.slice sa names.length sc) vc x (.slice (some ⟨b,o,none⟩) KS.length c) over nx1 fa C2.slots vS2 mt (ka.length:Int) (.slice adx (ka.length+1) cx)):=⟨HI.out.below ((Zg _ _).alloc (Z0 _) _),Box4.new _ _ _ _ _,by have:=HI.out.xb.lt;exact this⟩
          go_upto_region 29 with fail
          obtain⟨XM,eXM⟩:∃XM,XM=wr.heap.size:=⟨_,rfl⟩
          obtain⟨wm,ewm⟩:∃wm,wm=wr.alloc (.cells #[.int .i64 4,.string mt,.int .i64 (ka.length:Int),.slice adx (ka.length+1) cx] 24):=⟨_,rfl⟩
          rw[<-eXM,<-ewm]at HM0
          have HKW:Hid (KidsV wm (fun k=>k<Q) (.slice adx (ka.length+1) cx) (ka++[bn])):=by
           rw[ewm]
           exact HKV.out.above (Zk ((Zg _ _).alloc (Z0 _) _))
          rw[<-eXM,<-ewm]
          clear eXM ewm HI HKV x0 x1 x2 x3 hlx c0 c1 c2 c3 hbr
          go_upto_block 4 with fail
          go_cut [12] from 162 to 200 (fun _ wx=>Hid (InM w wx Q Y XM (.slice sa names.length sc) vc x (.slice (some ⟨b,o,none⟩) KS.length c) over nx1 (if F6 (ms.take j) ms[j]=true then Bg fa 5 nx1 else fa) C2.slots vS2 mt (ka.length:Int) (.slice adx (ka.length+1) cx)/\FrQ wm wx w.heap.size Q))
          case first=>as_aux_lemma=>
           obtain⟨FT,HFT⟩:∃FT:Nat->Int×Int,Hid (∀t,(if F6 (ms.take t) ms[j]=true then Bg fa 5 nx1 else fa)=FT t):=⟨fun t=>if F6 (ms.take t) ms[j]=true then Bg fa 5 nx1 else fa,fun _=>rfl⟩
           have HM2:Hid (InM w wm Q Y XM (.slice sa names.length sc) vc x (.slice (some ⟨b,o,none⟩) KS.length c) over nx1 (FT 0) C2.slots vS2 mt (ka.length:Int) (.slice adx (ka.length+1) cx)):=by
            have e:FT 0=fa:=by rw[<-HFT.out 0,List.take_zero];exact if_neg (fun h=>by cases h)
            rw[e]
            exact HM0
           have hw9:w.heap.size<=wm.heap.size:=Nat.le_of_lt HM0.out.inC.lt
           clear HM0 HJ HRR HKW
           go_wp2_with fail
           go_loopw [12] (fun s12 w3=>∃(t:Nat),s12=.int .i64 ((up.length+ks.length+t:Nat):Int)/\t<=j/\Hid (InM w w3 Q Y XM (.slice sa names.length sc) vc x (.slice (some ⟨b,o,none⟩) KS.length c) over nx1 (FT t) C2.slots vS2 mt (ka.length:Int) (.slice adx (ka.length+1) cx))/\Hid (FrQ wm w3 w.heap.size Q)) (fun s12 _=>100001-(intOf s12).toNat)
           case atStart=>exact⟨0,rfl,Z3 _,HM2,FrQ.refl _ _ _⟩
           case round=>
            clear HM2
            obtain⟨t,rfl,ht,HM,HFR⟩:=hrel
            by_cases htj:t<j
            ·have hk0t:up.length+ks.length+t<KS.length:=by omega
             have j0:(up.length:Int)+(ks.length:Int)+(t:Int)<(up.length:Int)+(ks.length:Int)+(j:Int):=by omega
             have j1:(0:Int)<=(up.length:Int)+(ks.length:Int)+(t:Int):=by omega
             have j2:(up.length:Int)+(ks.length:Int)+(t:Int)<(KS.length:Int):=by omega
             have j3:((up.length:Int)+(ks.length:Int)+(t:Int)).toNat=up.length+ks.length+t:=by omega
             have hw3:=AN (x:=(up.length:Int)+(ks.length:Int)+(t:Int)+1) (by omega) (by omega)
             obtain⟨b2,o2,e2,hbr,adt,lt,ct,⟨-,q1,q2,-⟩,-⟩:=G8 HM.out.inC.fr HX.out.q HX.out.kk hk0t
             injection e2 with e2
             injection e2 with e2 e3
             subst e2 e3
             rw[P8 HX.out.is (show t<ms.length by omega) hk0t]at q1 q2
             have HSG:Hid (∀sb:Bool,(decide (strOfNums (ms[t]'(by omega)).text=mt)&&((ms[t]'(by omega)).num==(ka.length:Int)))=sb->(if sb=true then Bg (FT t) 5 nx1 else FT t)=FT (t+1)):=fun sb hsb=>US HFT.out HEM.out (by omega) hsb
             generalize strOfNums (ms[t]'(by omega)).text=y1 at *
             generalize (ms[t]'(by omega)).num=y2 at *
             obtain⟨sb,HSB⟩:∃sb:Bool,Hid ((decide (y1=mt)&&(y2==(ka.length:Int)))=sb):=⟨_,rfl⟩
             have HSX:Hid ((if sb=true then Bg (FT t) 5 nx1 else FT t)=FT (t+1)):=HSG.out sb HSB.out
             clear HSG HEM HFT
             obtain⟨⟨x0,x1,x2,x3⟩,_⟩:=HM.out.inC.box.facts
             have hlx:=HM.out.inC.box.lt
             obtain⟨⟨m0,m1,m2,m3⟩,_⟩:=HM.out.mb.facts
             have hlm:=HM.out.mb.lt
             go_upto_region 32 with fail
             go_cut [194] from 170 to 193 (fun s194 wx=>s194=.bool sb/\Hid (InM w wx Q Y XM (.slice sa names.length sc) vc x (.slice (some ⟨b,o,none⟩) KS.length c) over nx1 (FT t) C2.slots vS2 mt (ka.length:Int) (.slice adx (ka.length+1) cx))/\Hid (FrQ wm wx w.heap.size Q))
             case first=>
              clear HSX
              have hbe:=NP y1 mt
              cases hs:decide (y1=mt)with
              | true=>
               rw[hs]at hbe HSB
               cases hn:(y2==(ka.length:Int))with
               | true=>
                have hsb:sb=true:=by rw[<-HSB.out,hn];rfl
                clear hs HSB
                go_quiet (fail)
                go_wp2_with fail
                go_meet
                exact⟨by rw[hsb],HM.out.below (Ae _ _),HFR.out.below (Ae _ _) (Za hw9 HFR.out.size)⟩
               | false=>
                have hsb:sb=false:=by rw[<-HSB.out,hn];rfl
                clear hs HSB
                go_quiet (fail)
                go_wp2_with fail
                go_meet
                exact⟨by rw[hsb],HM.out.below (Ae _ _),HFR.out.below (Ae _ _) (Za hw9 HFR.out.size)⟩
              | false=>
               rw[hs]at hbe HSB
               have hsb:sb=false:=by rw[<-HSB.out];rfl
               clear hs HSB
               go_quiet (fail)
               go_wp2_with fail
               go_meet
               exact⟨by rw[hsb],HM.out.below (Ae _ _),HFR.out.below (Ae _ _) (Za hw9 HFR.out.size)⟩
             case rest=>
              clear x0 x1 x2 x3 hlx m0 m1 m2 m3 hlm q1 q2 hbr HSB HM HFR
              obtain⟨e194,HM,HFR⟩:=hcut
              subst e194
              obtain⟨vs2,vl2,ins2,ret2,ho2⟩:=HM.out.inC.obj
              have k2:=ho2.cell2
              have hlq:=ho2.lt
              have e4:((up.length+ks.length+(t+1):Nat):Int)=(up.length:Int)+(ks.length:Int)+(t:Int)+1:=by omega
              cases sb with
              | true=>
               have hfl:=De Q _ _ _ _ _ _ _ (FT t) 5 (nx1:Int) wc ho2
               have e1:(if(FT t).1=0 then((5:Int),(nx1:Int))else FT t)=FT (t+1):=HSX.out
               rw[e1]at hfl
               clear e1 HSX
               go_wp2_with (first | (go_at_call 30;refine hfl.mono ?_;rintro e w5 ⟨rfl,ho5,hg5⟩))
               go_roundw
               case rel=>(repeat apply Exists.intro);exact⟨⟨t+1,by rw[e4],by omega,HM.out.put hg5 ho5,HFR.out.grown hg5 (Or.inl rfl) (Za hw9 HFR.out.size)⟩,rfl⟩
               case measure=>simp[intOf];omega
              | false=>
               have e1:FT t=FT (t+1):=HSX.out
               rw[e1]at HM
               clear e1 HSX
               go_wp2_with fail
               go_roundw
               case rel=>first | exact⟨t+1,by rw[e4],by omega,HM,HFR⟩ | ((repeat apply Exists.intro);exact⟨⟨t+1,by rw[e4],by omega,HM,HFR⟩,rfl⟩)
               case measure=>simp[intOf];omega
            ·have j0:¬(up.length:Int)+(ks.length:Int)+(t:Int)<(up.length:Int)+(ks.length:Int)+(j:Int):=by omega
             have hte:t=j:=by omega
             subst hte
             go_wp2_with fail
             go_meet
             have e:=HFT.out t
             rw[e]
             exact⟨HM.out,HFR.out⟩
          case rest=>
           obtain⟨HM1,hfw⟩:=(show Hid _ from hcut).out
           clear HM0 hcut
           obtain⟨vs2,vl2,ins2,ret2,ho2⟩:=HM1.inC.obj
           obtain⟨fb,efb⟩:∃fb,(if F6 (ms.take j) ms[j]=true then Bg fa 5 nx1 else fa)=fb:=⟨_,rfl⟩
           have HFB:Hid ((if F6 (ms.take j) ms[j]=true then Bg fa 5 nx1 else fa)=fb):=efb
           clear efb
           rw[HFB.out]at HM1 ho2
           obtain⟨wb,ewb,HMB,HIB,hwb⟩:=HM1.begin ho2
           obtain⟨⟨-,-,k2,k3⟩,k4,k5,k6,-,-⟩:=ho2.cells
           have hlq:=ho2.lt
           have z2:=ho2.frozen 2
           have z3:=ho2.frozen 3
           have z4:=ho2.frozen 4
           have z5:=ho2.frozen 5
           have z6:=ho2.frozen 6
           obtain⟨⟨y0,y1,y2⟩,_⟩:=HM1.inC.xb.facts
           have hly:=HM1.inC.xb.lt
           have hyq:¬Y=Q:=by have:=HM1.inC.yb;have:=HM1.inC.q;omega
           have hyq':¬Q=Y:=fun e=>hyq e.symm
           have hw2:=AN (x:=(nx1:Int)+1) (by omega) (by omega)
           obtain⟨vsa,vsc,hvs,_,_⟩:=B2 HM1.inC.row
           subst hvs
           have HKB:Hid (KidsV wb (fun k=>k<Q) (.slice adx (ka.length+1) cx) (ka++[bn])):=by
            have hqw:=HX.out.q
            refine HKW.out.above ⟨Za hfw.size hwb,fun k h1 h2=>?_⟩
            have e1:=hfw.block k (by omega) (by omega)
            have e2:wb.heap[k]?=wc.heap[k]?:=by
             rw[HMB.out.inC.fr.block k (by omega) (by omega),HM1.inC.fr.block k (by omega) (by omega)]
            exact e2.trans e1
           clear ho2 HM1 hfw hwb HKW
           go_upto_region 39 with fail
           rw[<-ewb]
           clear ewb k2 k3 k4 k5 k6 z2 z3 z4 z5 z6 y0 y1 y2 hly hlq hw2
           obtain⟨SA,HSA⟩:∃SA,Hid (EM ka ⟨nx1+1,[],fb⟩=SA):=⟨_,rfl⟩
           have HNX:Hid (Ct names C2.slots (ms.take j) ms[j] nx1 fa=Hi names C2.slots bn SA/\nx1+2+ka.length+A5 bn.kids+A5 (ms.drop (j+1))<=90000):=Ss HEM.out.1 hlt HJ.out.2 HFB.out HSA.out
           go_upto_block 6 with fail
           go_cut [7,13,14] from 201 to 268 (fun _ s13 _ wx=>∃(vo:Value),s13=vo/\Hid (SA.next=nx1+1+ka.length/\SA.inn.length=ka.length)/\Hid (InB wb wx Q (.slice sa names.length sc) vc (.slice vsa C2.slots.length vsc) SA vo))
           case first=>as_aux_lemma=>
            obtain⟨⟨m0,m1,m2,m3⟩,_⟩:=HMB.out.mb.facts
            have hlm:=HMB.out.mb.lt
            have hqm:XM≠Q:=by have:=HMB.out.xm;have:=HMB.out.inC.yb;have:=HMB.out.inC.q;omega
            have HMF:Hid (∀w4 s vo,InB wb w4 Q (.slice sa names.length sc) vc (.slice vsa C2.slots.length vsc) s vo->Box4 w4 XM (.int .i64 4) (.string mt) (.int .i64 (ka.length:Int)) (.slice adx (ka.length+1) cx)):=fun w4 s vo h=>(h.fr.block XM HMB.out.mb.lt hqm).trans HMB.out.mb
            have HKB2:Hid (0<(ka++[bn]).length->∃b o,adx=some ⟨b,o,none⟩/\b<Q/\b<wb.heap.size/\NodesAt wb (fun k=>k<Q) b o (ka++[bn])):=Qq HKB.out
            clear m0 m1 m2 m3 hlm HMB HKB HNX HJ HRR
            go_wp2_with fail
            go_loopw [13,14] (fun s13 s14 w4=>∃(t:Nat) (s1:StR) (vo:Value),s13=vo/\s14=.int .i64 (t:Int)/\t<=ka.length/\Hid (EM (ka.drop t) s1=SA/\s1.next=nx1+1+t/\s1.inn.length=t)/\Hid (InB wb w4 Q (.slice sa names.length sc) vc (.slice vsa C2.slots.length vsc) s1 vo)) (fun _ s14 _=>100001-(intOf s14).toNat)
            case atStart=>exact⟨0,⟨nx1+1,[],fb⟩,.slice none 0 0,rfl,rfl,Z3 _,⟨by rw[List.drop_zero];exact HSA.out,rfl,rfl⟩,HIB⟩
            case round=>
             clear HIB HSA
             obtain⟨t,s1,vo,e13,rfl,ht,HJ,HI⟩:=hrel
             replace e13:=e13.symm
             subst e13
             obtain⟨⟨m0,m1,m2,m3⟩,_⟩:=(HMF.out _ _ _ HI.out).facts
             have hlm:=(HMF.out _ _ _ HI.out).lt
             by_cases hlt2:t<ka.length
             ·have hti:(t:Int)<(ka.length:Int):=by omega
              have hti1:(t:Int)<(ka.length:Int)+1:=by omega
              obtain⟨b3,o3,rfl,hbr,adt,lt,ct,⟨-,q1,-,-⟩,-⟩:=G8 HI.out.fr HI.out.q HKB2.out (i:=t) (by rw[Z1];omega)
              rw[Zb hlt2]at q1
              obtain⟨tb,etb⟩:∃tb,ka[t].str=tb:=⟨_,rfl⟩
              replace q1:wr.cell? ⟨b3,o3+t*4+1,none⟩=some (.string tb):=by rw[<-etb];exact q1
              obtain⟨f2,HF2⟩:∃f2,Hid ((if BE s1.inn tb=true then Bg s1.bad 5 s1.next else s1.bad)=f2):=⟨_,rfl⟩
              obtain⟨f3,HF3⟩:∃f3,Hid ((if 30<=s1.inn.length then Bg f2 1 s1.next else f2)=f3):=⟨_,rfl⟩
              have HJ2:Hid (EM (ka.drop (t+1)) ⟨s1.next+1,s1.inn++[tb],f3⟩=SA):=by
               have e:=HJ.out.1
               rw[Z4 hlt2,EM]at e
               unfold P4 E8 at e
               rw[etb,HF2.out,HF3.out]at e
               exact e
              have hsn9:s1.next<=190000:=by have h1:=HJ.out.2.1;omega
              have hsi9:s1.inn.length<=90000:=by have h1:=HJ.out.2.2;omega
              have HCN:Hid (s1.next=nx1+1+t/\s1.inn.length=t):=HJ.out.2
              have HTB:Hid (strOfNums ka[t].text=tb):=etb
              clear HJ etb
              obtain⟨va,vcp,hva,_,_⟩:=B2 HI.out.own
              subst hva
              have hpl:=Fi s1.inn tb _ _ wr (Dp HI.out.own)
              obtain⟨p,HP⟩:∃p,Hid (CD s1.inn tb=p):=⟨_,rfl⟩
              rw[HP.out]at hpl
              go_upto_if 237 with(first | (go_at_call 29;refine hpl.mono ?_;rintro e w5 ⟨rfl,rfl⟩))
              go_cut [] from 222 to 243 (fun wx=>Hid (InB wb wx Q (.slice sa names.length sc) vc (.slice vsa C2.slots.length vsc) ⟨s1.next,s1.inn,f2⟩ (.slice va s1.inn.length vcp)))
              case first=>
               have ho2:=HI.out.obj
               have k2:=ho2.cell2
               have hlq:=ho2.lt
               by_cases hp:p<0
               ·have hp':¬ 0<=p:=by omega
                have e1:f2=s1.bad:=by rw[<-HF2.out,if_neg (by rw[Du.1 (by rw[HP.out];exact hp)];decide)]
                clear HF2 HF3 HJ2
                go_wp2_with fail
                go_meet
                rw[e1]
                exact HI
               ·have hp':0<=p:=by omega
                have hz:BE s1.inn tb=true:=by
                 cases hh:BE s1.inn tb with
                 | true=>rfl
                 | false=>exact absurd (Du.2 hh) (by rw[HP.out];exact hp)
                have hfl:=De Q _ _ _ _ _ _ _ s1.bad 5 (s1.next:Int) _ ho2
                have e1:(if s1.bad.1=0 then((5:Int),(s1.next:Int))else s1.bad)=f2:=by rw[<-HF2.out,if_pos hz];rfl
                rw[e1]at hfl
                clear e1 HF2 HF3 HJ2
                go_wp2_with (first | (go_at_call 30;refine hfl.mono ?_;rintro e w3 ⟨rfl,ho3,hg3⟩))
                go_meet
                exact HI.out.put hg3 ⟨s1.next,s1.inn,f2⟩ ho3 rfl
              case rest=>
               have HIE:Hid (InB wb wc Q (.slice sa names.length sc) vc (.slice vsa C2.slots.length vsc) ⟨s1.next,s1.inn,f2⟩ (.slice va s1.inn.length vcp)):=hcut
               clear hcut HI HP HF2 q1 hbr m0 m1 m2 m3 hlm hpl
               go_upto_if 246 with fail
               go_cut [] from 244 to 252 (fun wx=>Hid (InB wb wx Q (.slice sa names.length sc) vc (.slice vsa C2.slots.length vsc) ⟨s1.next,s1.inn,f3⟩ (.slice va s1.inn.length vcp)))
               case first=>
                have ho2:=HIE.out.obj
                have k2:=ho2.cell2
                have hlq:=ho2.lt
                by_cases h30:30<=s1.inn.length
                ·have h30i:(30:Int)<=(s1.inn.length:Int):=by omega
                 have hfl:=De Q _ _ _ _ _ _ _ f2 1 (s1.next:Int) wc ho2
                 have e1:(if f2.1=0 then((1:Int),(s1.next:Int))else f2)=f3:=by rw[<-HF3.out,if_pos h30];rfl
                 rw[e1]at hfl
                 clear e1 HF3 HJ2
                 go_wp2_with (first | (go_at_call 30;refine hfl.mono ?_;rintro e w3 ⟨rfl,ho3,hg3⟩))
                 go_meet
                 exact HIE.out.put hg3 ⟨s1.next,s1.inn,f3⟩ ho3 rfl
                ·have h30i:¬(30:Int)<=(s1.inn.length:Int):=by omega
                 have e1:f3=f2:=by rw[<-HF3.out,if_neg h30]
                 clear HF3 HJ2
                 go_wp2_with fail
                 go_meet
                 rw[e1]
                 exact HIE
               case rest=>
                have HIF:Hid (InB wb wc Q (.slice sa names.length sc) vc (.slice vsa C2.slots.length vsc) ⟨s1.next,s1.inn,f3⟩ (.slice va s1.inn.length vcp)):=hcut
                obtain⟨wf,ewf⟩:∃wf,wf=wc:=⟨_,rfl⟩
                rw[<-ewf]at HIF⊢
                clear ewf hcut HIE HF3
                obtain⟨⟨m0,m1,m2,m3⟩,_⟩:=(HMF.out _ _ _ HIF.out).facts
                have hlm:=(HMF.out _ _ _ HIF.out).lt
                obtain⟨b4,o4,e4,hbr,adt,lt,ct,⟨-,q1,-,-⟩,-⟩:=G8 HIF.out.fr HIF.out.q HKB2.out (i:=t) (by rw[Z1];omega)
                injection e4 with e4
                injection e4 with e4 e5
                subst e4 e5
                rw[Zb hlt2,HTB.out]at q1
                have hO:=HIF.out.own.alloc (.cells #[.string tb] 9)
                have hB7:wb.heap.size<=(wf.alloc (.cells #[.string tb] 9)).heap.size:=by have:=HIF.out.fr.size;simp;omega
                have hw2:=AN (x:=(s1.next:Int)+1) (by omega) (by omega)
                have hw3:=AN (x:=(t:Int)+1) (by omega) (by omega)
                go_wp2_with (first
                 | (at_builtin;refine Ee rfl (.tmp 253) (.tmp 260) rfl wb.heap.size s1.inn.length 1 (.slice va s1.inn.length vcp) (BL s1.inn) tb rfl hO ⟨wf.heap.size,0,none⟩ rfl (by simp) (by omega) hB7 ?_;intro g7 cap7 w7 O7 hk7 hon7;have hIG:=(HIF.out.below ((Zg _ wf).alloc (Z0 _) (.cells #[.string tb] 9))).more hk7 O7;have k2:=hIG.obj.cell2;have z2:=hIG.obj.frozen 2;have hlq:=hIG.obj.lt))
                have e3:((s1.next+1:Nat):Int)=(s1.next:Int)+1:=by omega
                have HIH:Hid (InB wb (w7.setCell ⟨Q,2,none⟩ (.int .i64 ((s1.next:Int)+1))) Q (.slice sa names.length sc) vc (.slice vsa C2.slots.length vsc) ⟨s1.next+1,s1.inn++[tb],f3⟩ (sl g7 (s1.inn.length+1) cap7)):=hIG.put (AJ w7 Q 2 _) ⟨s1.next+1,s1.inn++[tb],f3⟩ (by show CObj _ _ _ _ ((s1.next+1:Nat):Int) _ _ _ _ _;rw[e3];exact hIG.obj.setNext _) rfl
                have HJ3:Hid (EM (ka.drop (t+1)) ⟨s1.next+1,s1.inn++[tb],f3⟩=SA/\s1.next+1=nx1+1+(t+1)/\(s1.inn++[tb]).length=t+1):=⟨HJ2.out,by have:=HCN.out.1;omega,by rw[Z1,HCN.out.2];rfl⟩
                exact⟨⟨.int .i64 p,sl g7 (s1.inn.length+1) cap7,.int .i64 ((t:Int)+1),⟨t+1,by simp,by omega,⟨s1.next+1,s1.inn++[tb],f3⟩,HJ3,HIH⟩,rfl,rfl,rfl⟩,by simp[intOf];omega⟩
             ·have hti:¬(t:Int)<(ka.length:Int):=by omega
              have hte:t=ka.length:=by omega
              subst hte
              have HE:Hid (s1=SA):=by
               have e:=HJ.out.1
               rw[Z9 (Z0 _)]at e
               exact e
              have HSL:Hid (SA.next=nx1+1+ka.length/\SA.inn.length=ka.length):=by rw[<-HE.out];exact HJ.out.2
              rw[HE.out]at HI
              clear HE HJ
              go_wp2_with fail
              go_meet
              exact⟨vo,rfl,HSL,HI⟩
           case rest=>
            obtain⟨vo,e13,HSL,HIE⟩:=hcut
            replace e13:=e13.symm
            subst e13
            clear HIB
            have hqm:XM≠Q:=by have:=HMB.out.xm;have:=HMB.out.inC.yb;have:=HMB.out.inC.q;omega
            have hmb:Box4 wc XM (.int .i64 4) (.string mt) (.int .i64 (ka.length:Int)) (.slice adx (ka.length+1) cx):=(HIE.out.fr.block XM HMB.out.mb.lt hqm).trans HMB.out.mb
            obtain⟨⟨m0,m1,m2,m3⟩,_⟩:=hmb.facts
            have hlm:=hmb.lt
            obtain⟨b3,o3,rfl,hbr,adt,lt,ct,⟨q0,q1,q2,q3⟩,hkv⟩:=G8 HIE.out.fr HIE.out.q (Qq HKB.out) (i:=ka.length) (by rw[Z1];exact Nat.lt_succ_self _)
            have ebn:(ka++[bn])[ka.length]'(by rw[Z1];exact Nat.lt_succ_self _)=bn:=by rw[Zc (Z0 _)];simp
            rw[ebn]at q0 q1 q2 hkv
            obtain⟨kb,xb,nb,kbs⟩:=bn
            replace q0:wc.cell? ⟨b3,o3+ka.length*4,none⟩=some (.int .i64 kb):=q0
            replace q1:wc.cell? ⟨b3,o3+ka.length*4+1,none⟩=some (.string (strOfNums xb)):=q1
            replace q2:wc.cell? ⟨b3,o3+ka.length*4+2,none⟩=some (.int .i64 nb):=q2
            have hcb:=MP Q wb.heap.size _ vc _ kb xb nb kbs ⟨names,C2.slots,true,true⟩ [] SA.inn SA.next SA.bad (.slice none 0 0) vo (.agg #[.int .i64 kb,.string (strOfNums xb),.int .i64 nb,.slice adt lt ct]) wc (HIE.out.ck HMB.out HX.out.nm) ⟨_,rfl,hkv.mono (fun k hk _=>⟨Nat.lt_trans hk HIE.out.q,Nat.ne_of_lt hk⟩)⟩ HIE.out.own (fun vis hL i v' g e=>by have h0:=Zd hL.len;subst h0;cases e) (by have h1:=HSL.out;unfold Dr;show 0+0+SA.inn.length+0<=SA.next+1;omega) (by have h1:=HSL.out.1;have h2:nx1+2+ka.length+A5 kbs+A5 (ms.drop (j+1))<=90000:=HNX.out.2;omega)
            obtain⟨va,vcp,hva,_,_⟩:=B2 HIE.out.own
            subst hva
            obtain⟨y,HY⟩:∃y,Hid (BM ⟨names,C2.slots,true,true⟩ [] kbs ⟨SA.next+1,SA.inn,SA.bad⟩=y):=⟨_,rfl⟩
            rw[HY.out]at hcb
            have HYB:Hid (Cj names C2.slots (ms.take (j+1)) (ms.drop (j+1)) y.next y.bad=RM/\y.next+A5 (ms.drop (j+1))<=90000):=by
             have e:=RI hlt HJ.out.1 HNX.out.1
             have e2:Hi names C2.slots (.mk kb xb nb kbs) SA=(y.next,y.bad):=by rw[<-HY.out];rfl
             rw[e2]at e
             refine⟨e,?_⟩
             have e3:y.next=SA.next+1+A5 kbs:=by rw[<-HY.out,Fz]
             have h1:=HSL.out.1
             have h2:nx1+2+ka.length+A5 kbs+A5 (ms.drop (j+1))<=90000:=HNX.out.2
             omega
            have hka1:(ka.length:Int)<(ka.length:Int)+1:=by omega
            have e4:((up.length+ks.length+(j+1):Nat):Int)=(up.length:Int)+(ks.length:Int)+(j:Int)+1:=by omega
            have hw3:=AN (x:=(up.length:Int)+(ks.length:Int)+(j:Int)+1) (by omega) (by omega)
            generalize strOfNums xb=xs2 at *
            clear HSL HNX HJ HEM HRR HY hmb hkv ebn HSA
            go_wp2_with (first | (go_at_call 16;refine hcb.mono ?_;rintro e w5 ⟨rfl,⟨vl5,hc5⟩,hf5⟩))
            have HI5:Hid (InC w w5 Q Y (.slice sa names.length sc) vc x (.slice (some ⟨b,o,none⟩) KS.length c) over y.next y.bad C2.slots (.slice vsa C2.slots.length vsc)):=HMB.out.inC.fro (HIE.out.fr.trans (hf5.fr HIE.out.fr.size)) hc5.obj
            first
             | exact⟨⟨j+1,y.next,y.bad,by rw[e4],by omega,HYB,HI5⟩,by simp[intOf];omega⟩
             | (go_roundw;(case rel=>(first | exact⟨j+1,y.next,y.bad,by rw[e4],by omega,HYB,HI5⟩ | ((repeat apply Exists.intro);exact⟨⟨j+1,y.next,y.bad,by rw[e4],by omega,HYB,HI5⟩,rfl⟩)));(case measure=>(simp[intOf];omega)))
         ·have i2:¬(up.length:Int)+(ks.length:Int)+(j:Int)<(KS.length:Int):=by have:=HKL.out.1;omega
          have hje:j=ms.length:=by omega
          subst hje
          have HE:Hid (RM=(nx1,fa)):=by
           show _=_
           rw[<-HJ.out.1,Z9 (Z0 _)]
           rfl
          clear HJ
          go_wp2_with fail
          go_meet
          rw[HRR.out,HE.out]
          exact HI
       case rest=>
        have HI5:Hid (InC w wc Q Y (.slice sa names.length sc) vc x (.slice ad KS.length c) over R.next R.bad R.slots vS2):=hcut
        clear hcut HI4 HR
        obtain⟨vs2,vl2,ins2,ret2,ho2⟩:=HI5.out.obj
        obtain⟨⟨k0,k1,k2,k3⟩,k4,k5,k6,k7,k8⟩:=ho2.cells
        have hlq:=ho2.lt
        obtain⟨⟨y0,y1,y2⟩,_⟩:=HI5.out.xb.facts
        have hly:=HI5.out.xb.lt
        obtain⟨vsa,vsc,hvs,_,_⟩:=B2 HI5.out.row
        subst hvs
        have hrow:=(HX.out.cls.fr HI5.out.fr (Nat.lt_succ_self Q)).row
        obtain⟨ca,cc,hvc⟩:=MS hrow
        subst hvc
        have hpl9:past.length<=90000:=by have:=HX.out.nn;have:=HX.out.nl;omega
        have hO:=hrow.drew.alloc (.cells #[.string x,.int .i64 over,.slice vsa R.slots.length vsc] 87)
        have hb0:Q+1<=(wc.drew.alloc (.cells #[.string x,.int .i64 over,.slice vsa R.slots.length vsc] 87)).heap.size:=by simp;omega
        have hbA:Below wc.heap.size wc (wc.drew.alloc (.cells #[.string x,.int .i64 over,.slice vsa R.slots.length vsc] 87)):=(Zg _ wc).drew.alloc (Z0 _) _
        have hqc:(Value.slice ca past.length cc).ownBlock≠some Q:=fun e=>by have:=(hO.lt Q e).1;omega
        have HCL:Hid (ClsP w (Q+1) (.slice ca past.length cc) xs past):=HX.out.cls
        clear HX
        go_upto_region 51 with fail
        go_region_law (first | (refine FS Wl rfl (.tmp 282) (.tmp 284) rfl (.slice ca past.length cc) (.slice (some ⟨wc.heap.size,0,none⟩) 1 1) (base:=Q+1) (n:=past.length) (xs:=xs) (news:=[.string x,.int .i64 over,.slice vsa R.slots.length vsc]) (m:=1) (by first | (simp[Act.eval];done) | simp[Act.eval,Act.put]) (by first | (simp[Act.eval];done) | simp[Act.eval,Act.put]) hO rfl (Or.inr ⟨_,_,rfl,fun j x e=>by(match j,e with | 0,e=>(simp at e;subst e;simp[Addr.add]) | 1,e=>(simp at e;subst e;simp[Addr.add]) | 2,e=>(simp at e;subst e;simp[Addr.add]) | j+3,e=>simp at e)⟩) (fun x hx=>by(simp at hx;rcases hx with h | h | h<;>(subst h;rfl))) (by omega) hb0 ?_;intro v' w7 hr7 hg7;have ho7:CObj w7 Q (.slice sa names.length sc) (.slice ca past.length cc) (R.next:Int) vs2 vl2 ins2 ret2 R.bad:=(hg7.block Q (by simp;omega) (fun e=>hqc e.symm)).trans ((hbA.block Q hlq).trans ho2);obtain⟨⟨_,r1,_,_⟩,_⟩:=ho7.cells;have rz:=ho7.frozen 1;have rl:=ho7.lt;obtain⟨va7,vc7,hv7⟩:=MS hr7;subst hv7))
        all_goals go_wp2_with fail
        all_goals (refine bodyPost_end (v:=.tuple #[]) (by simp[results,Tryz.results15,go_sem]) rfl ⟨rfl,?_⟩;exact Vh HI5.out HCL.out hbA hg7 hr7)
end Go.Proofs.YtibeadcfgcfdbaaGreatDoor
