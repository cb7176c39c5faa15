/- Texts in one. -/
import Derived.Test.YtibeadcfgcfdbaaGreatDoorNg
import Derived.Deep.CutBlock
set_option linter.unusedSimpArgs false
set_option maxHeartbeats 32000000
set_option maxRecDepth 20000
namespace Go.Proofs.YtibeadcfgcfdbaaGreatDoor
open Go.RowKit
theorem RE(Q BB:Nat)(vn vc vs:Value)(k:Int)(tx:List Int)(nm:Int)(ks:List Nd)(hks:∀i (h:i<ks.length),Hh Q BB vn vc vs ks[i])(h6:k≠6):Hh Q BB vn vc vs (.mk k tx nm ks):=by
 intro E O s vl u w h hu hF hN
 obtain⟨xk,hu1,ad,c0,hx1,hkk⟩:=hu
 obtain⟨c,hcc⟩:∃c,c0+ks.length=c:=⟨_,rfl⟩
 have hx2:xk=.slice ad ks.length c:=by rw[<-hcc];exact hx1
 subst hx2
 have hu2:u=.agg #[.int .i64 k,.string (strOfNums tx),.int .i64 nm,.slice ad ks.length c]:=hu1
 subst hu2
 rw[EB]at hN
 have hqb:=h.qb
 have hsz:=h.size
 obtain⟨R,HR⟩:∃R,Hid (Dl E O (.mk k tx nm ks) s=R):=⟨_,rfl⟩
 rw[HR.out]
 rw[UP _ _ _ _ _ _ _ h6]at HR
 obtain⟨x,ex⟩:∃x,strOfNums tx=x:=⟨_,rfl⟩
 rw[ex]at HR⊢
 clear ex hu1 hx1
 obtain⟨E1,HE1⟩:∃E1,Hid (Ek E k=E1):=⟨_,rfl⟩
 rw[HE1.out]at HR
 obtain⟨f1,HF1⟩:∃f1,Hid (Fy E1 k s.next s.bad=f1):=⟨_,rfl⟩
 rw[HF1.out]at HR
 obtain⟨f2,HF2⟩:∃f2,Hid (Hg E k (O++[s.inn]) x s.next f1=f2):=⟨_,rfl⟩
 rw[HF2.out]at HR
 obtain⟨f3,HF3⟩:∃f3,Hid (J9 E k x s.next f2=f3):=⟨_,rfl⟩
 rw[HF3.out]at HR
 obtain⟨R1,HR1⟩:∃R1,Hid (BM E1 O ks ⟨s.next+1,s.inn,f3⟩=R1):=⟨_,rfl⟩
 rw[HR1.out]at HR
 obtain⟨w1,ew1,HW1⟩:=So (k:=k) (x:=x) (nm:=nm) (xk:=.slice ad ks.length c) h
 have HKK:Hid (0<ks.length->∃b o,ad=some ⟨b,o,none⟩/\Low BB Q b/\b<w.heap.size/\NodesAt w (Low BB Q) b o ks):=hkk
 have HN:Hid (s.next+1+A5 ks<=100000):=by show _<=_;omega
 have HFW:Hid (∀f,Dr 1 O ⟨s.next+1,s.inn,f⟩):=fun f=>by unfold Dr at hF⊢;dsimp only;omega
 have HKS:Hid (∀i (h:i<ks.length),Hh Q BB vn vc vs ks[i]):=hks
 have HES:Hid (E1.slots=E.slots/\E1.names=E.names/\E1.inside=E.inside/\(k≠13->E1=E)/\(k=13->E1={ E with returns:=false })/\{ E1 with returns:=E.returns }=E):=by
  rw[<-HE1.out]
  unfold Ek
  split
  ·exact⟨rfl,rfl,rfl,fun e=>absurd ‹_› e,fun _=>rfl,rfl⟩
  ·exact⟨rfl,rfl,rfl,fun _=>rfl,fun e=>absurd e ‹_›,rfl⟩
 have HB9:Hid (ks.length<=100000/\O.length<=100000/\O.flatten.length+s.inn.length<=100000/\s.next<=100000):=by
  have hkl:=Ci ks
  unfold Dr at hF
  refine⟨?_,?_,?_,?_⟩<;>omega
 obtain⟨⟨k0,k1,k2,k3⟩,k4,k5,k6,k7,k8⟩:=h.obj.cells
 have hl:=h.obj.lt
 have z2:=h.obj.frozen 2
 have hw1:=AN (x:=(s.next:Int)+1) (by omega) (by omega)
 have n6:(k==6)=false:=by simpa using h6
 clear hkk hks hcc hF hN h HE1
 go_enter Tryz.func31,Tryz.ntmps31
 go_upto_region 6 with fail
 rw[<-ew1]
 clear ew1 hw1 z2 k0 k1 k2 k3 k4 k5 k6 k7 k8 hl n6
 go_cut [38] from 15 to 37 (fun s38 wx=>s38=.bool (k==13)/\Hid (Way w wx Q BB vn vc vs E (s.next+1) (O++[s.inn]) s.bad vl k x nm (.slice ad ks.length c)))
 case first=>
  obtain⟨⟨x0,x1,x2,x3⟩,_⟩:=HW1.out.box.facts
  have hlx:=HW1.out.box.lt
  go_wp2_with fail
  go_meet
  exact⟨by first | rfl | simp,HW1⟩
 case rest=>
  obtain⟨e38,HW2⟩:=hcut
  subst e38
  clear HW1
  go_upto_if 38 with fail
  go_cut [] from 38 to 41 (fun wx=>Hid (Way w wx Q BB vn vc vs E1 (s.next+1) (O++[s.inn]) s.bad vl k x nm (.slice ad ks.length c)))
  case first=>
   by_cases hk:k=13
   ·have nk:(k==13)=true:=by simp[hk]
    obtain⟨_,_,_,k6,_⟩:=HW2.out.ck.obj.cells
    have hlq:=HW2.out.ck.obj.lt
    have z6:=HW2.out.ck.obj.frozen 6
    rw[nk]
    go_wp2_with fail
    go_meet
    have hg2:wc.grownBy (wc.setCell ⟨Q,6,none⟩ (.bool false)) (some Q):=AJ wc Q 6 _
    have hc2:=HW2.out.ck.put (nx':=s.next+1) (E':={ E with returns:=false }) hg2 (HW2.out.ck.obj.setRet false) rfl rfl
    rw[HES.out.2.2.2.2.1 hk]
    exact⟨hc2.1,(FrT.of_grown (N:=BB) hg2).box HW2.out.box (by omega),HW2.out.fr.trans (FrT.of_grown hg2)⟩
   ·have nk:(k==13)=false:=by simpa using hk
    rw[nk]
    go_wp2_with fail
    go_meet
    rw[HES.out.2.2.2.1 hk]
    exact HW2
  case rest=>
   clear HW2
   go_upto_region 8 with fail
   go_cut [63] from 42 to 62 (fun s63 wx=>s63=.bool (decide ((k=28/\E1.inside=false)\/(k=11/\E1.returns=false)))/\Hid (Way w wx Q BB vn vc vs E1 (s.next+1) (O++[s.inn]) s.bad vl k x nm (.slice ad ks.length c)))
   case first=>
    have HW3:Hid (Way w wc Q BB vn vc vs E1 (s.next+1) (O++[s.inn]) s.bad vl k x nm (.slice ad ks.length c)):=hcut
    obtain⟨⟨x0,x1,x2,x3⟩,_⟩:=HW3.out.box.facts
    have hlx:=HW3.out.box.lt
    obtain⟨_,_,k5,k6,_⟩:=HW3.out.ck.obj.cells
    have hlq:=HW3.out.ck.obj.lt
    by_cases h28:k=28
    ·have n28:(k==28)=true:=by simp[h28]
     have n11:(k==11)=false:=by rw[h28];rfl
     cases hin:E1.inside with
     | true=>
      rw[hin]at k5
      go_wp2_with fail
      go_meet
      exact⟨by simp[h28,hin],HW3⟩
     | false=>
      rw[hin]at k5
      go_wp2_with fail
      go_meet
      exact⟨by simp[h28,hin],HW3⟩
    ·have n28:(k==28)=false:=by simpa using h28
     by_cases h11:k=11
     ·have n11:(k==11)=true:=by simp[h11]
      cases hin:E1.returns with
      | true=>
       rw[hin]at k6
       go_wp2_with fail
       go_meet
       exact⟨by simp[h28,h11,hin],HW3⟩
      | false=>
       rw[hin]at k6
       go_wp2_with fail
       go_meet
       exact⟨by simp[h11,hin],HW3⟩
     ·have n11:(k==11)=false:=by simpa using h11
      go_wp2_with fail
      go_meet
      exact⟨by simp[h28,h11],HW3⟩
   case rest=>
    obtain⟨e63,HW3⟩:=hcut
    subst e63
    go_upto_if 63 with fail
    go_cut [] from 63 to 66 (fun wx=>Hid (Way w wx Q BB vn vc vs E1 (s.next+1) (O++[s.inn]) f1 vl k x nm (.slice ad ks.length c)))
    case first=>
     by_cases hp:(k=28/\E1.inside=false)\/(k=11/\E1.returns=false)
     ·have hfl:=De Q vn vc vs vl _ _ _ s.bad 3 (s.next:Int) wc HW3.out.ck.obj
      have e1:(if s.bad.1=0 then((3:Int),(s.next:Int))else s.bad)=f1:=by
       rw[<-HF1.out]
       unfold Fy
       rw[if_pos hp]
       rfl
      rw[e1]at hfl
      rw[decide_eq_true hp]
      clear e1 HF1 hp
      go_wp2_with (first | (go_at_call 30;refine hfl.mono ?_;rintro e wa ⟨rfl,ho3,hg3⟩))
      go_meet
      exact HW3.out.fail ho3 hg3 (by omega)
     ·have e1:f1=s.bad:=by rw[<-HF1.out];exact if_neg hp
      rw[decide_eq_false hp]
      clear hp
      go_wp2_with fail
      go_meet
      rw[e1]
      exact HW3
    case rest=>
     clear HW3
     go_upto_region 10 with fail
     go_cut [74] from 67 to 73 (fun s74 wx=>s74=.bool (decide (k=31\/k=8))/\Hid (Way w wx Q BB vn vc vs E1 (s.next+1) (O++[s.inn]) f1 vl k x nm (.slice ad ks.length c)))
     case first=>
      have HW4:Hid (Way w wc Q BB vn vc vs E1 (s.next+1) (O++[s.inn]) f1 vl k x nm (.slice ad ks.length c)):=hcut
      obtain⟨⟨x0,x1,x2,x3⟩,_⟩:=HW4.out.box.facts
      have hlx:=HW4.out.box.lt
      by_cases h31:k=31
      ·have n31:(k==31)=true:=by simp[h31]
       go_wp2_with fail
       go_meet
       exact⟨by simp[h31],HW4⟩
      ·have n31:(k==31)=false:=by simpa using h31
       go_wp2_with fail
       go_meet
       exact⟨by by_cases h8:k=8<;>simp[h31,h8],HW4⟩
     case rest=>
      obtain⟨e74,HW4⟩:=hcut
      subst e74
      go_upto_if 74 with fail
      go_cut [6,7,8] from 74 to 108 (fun _ _ _ wx=>Hid (Way w wx Q BB vn vc vs E1 (s.next+1) (O++[s.inn]) f2 vl k x nm (.slice ad ks.length c)))
      case first=>
       by_cases hk:k=31\/k=8
       ·have HK:Hid (k=31\/k=8):=hk
        rw[decide_eq_true hk]
        clear hk
        obtain⟨sa,sc,hs1,_⟩:=id HW4.out.ck.slots
        rw[HES.out.1]at hs1
        subst hs1
        have hsl:=HW4.out.ck.slots
        rw[HES.out.1]at hsl
        obtain⟨vis0,hL0⟩:=HW4.out.ck.locs
        obtain⟨la,lc,hv1,_,_⟩:=B2 hL0.row
        obtain⟨LN,HLN⟩:∃LN,Hid ((O++[s.inn]).length=LN):=⟨_,rfl⟩
        rw[HLN.out]at hv1
        subst hv1
        have hln:LN<=100001:=by rw[<-HLN.out,Z1];have:=HB9.out;show _+1<=_;omega
        clear hL0
        obtain⟨⟨x0,x1,x2,x3⟩,_⟩:=HW4.out.box.facts
        have hlx:=HW4.out.box.lt
        obtain⟨⟨k0,_,k2,k3⟩,k4,k5,k6,k7,k8⟩:=HW4.out.ck.obj.cells
        have hlq:=HW4.out.ck.obj.lt
        have hps:=fun j=>Fi E.slots x _ _ (wc.drewN j) (hsl.drewN j)
        obtain⟨p1,HP1⟩:∃p1,Hid (CD E.slots x=p1):=⟨_,rfl⟩
        rw[HP1.out]at hps
        obtain⟨p,HP⟩:∃p,Hid (IB p1 (O++[s.inn]) x=p):=⟨_,rfl⟩
        have HPN:Hid (p<0↔BE E.slots x=false/\Ji (O++[s.inn]) x=false):=by
         show _↔_
         rw[<-HP.out,Nk,<-HP1.out,Du]
        go_upto_region 11 with fail
        go_quiet ((go_at_call 29;exact CK (hps _)))
        have HWD:Hid (Way w (wc.drewN nq) Q BB vn vc (.slice sa E.slots.length sc) E1 (s.next+1) (O++[s.inn]) f1 (.slice la LN lc) k x nm (.slice ad ks.length c)):=HW4.out.below (Ae _ _)
        obtain⟨wd,ewd⟩:∃wd,wd=wc.drewN nq:=⟨_,rfl⟩
        rw[<-ewd]at HWD⊢
        clear ewd hps HW4 HP1 x0 x1 x2 x3 hlx k0 k2 k3 k4 k5 k6 k7 k8 hlq hsl
        go_wp2_with fail
        go_loopw [6,7] (fun s6 s7 wr=>∃(i:Nat) (q:Int),s6=.int .i64 q/\s7=.int .i64 i/\i<=LN/\Hid (IB q ((O++[s.inn]).drop i) x=p)/\Hid (Way w wr Q BB vn vc (.slice sa E.slots.length sc) E1 (s.next+1) (O++[s.inn]) f1 (.slice la LN lc) k x nm (.slice ad ks.length c))) (fun _ s7 _=>100002-(intOf s7).toNat)
        case atStart=>exact⟨0,_,rfl,rfl,Z3 _,HP,HWD⟩
        case round=>
         clear HP HWD
         obtain⟨i,q,rfl,rfl,hi,HP,HWD⟩:=hrel
         obtain⟨⟨x0,x1,x2,x3⟩,_⟩:=HWD.out.box.facts
         have hlx:=HWD.out.box.lt
         obtain⟨⟨k0,_,k2,k3⟩,k4,k5,k6,k7,k8⟩:=HWD.out.ck.obj.cells
         have hlq:=HWD.out.ck.obj.lt
         by_cases hlt:i<LN
         ·have hil:(i:Int)<(LN:Int):=by omega
          have hwi:=AN (x:=(i:Int)+1) (by omega) (by omega)
          have hltL:i<(O++[s.inn]).length:=by rw[HLN.out];exact hlt
          obtain⟨vis,hL⟩:=HWD.out.ck.locs
          obtain⟨g,v,rfl,hgc,-,hgl,hrow⟩:=hL.at i hltL
          have hpl:=fun j=>Fi (O++[s.inn])[i] x _ _ (wr.drewN j) ((Dp hrow).drewN j)
          obtain⟨va,vcp,hv1,_,_⟩:=B2 hrow
          subst hv1
          have HPX:Hid (IB (max q (CD (O++[s.inn])[i] x)) ((O++[s.inn]).drop (i+1)) x=p):=by
           have e:=HP.out
           rw[Z4 hltL,IB]at e
           exact e
          generalize CD (O++[s.inn])[i] x=r at *
          generalize ((O++[s.inn])[i]).length=rl at *
          clear hL hrow
          go_wp2_with fail
          go_quiet ((go_at_call 29;exact CK (hpl _)))
          go_wp2_with fail
          have hmx:(if q<r then r else q)=max q r:=by split<;>omega
          rw[hmx]
          exact⟨⟨i+1,max q r,rfl,by simp,by omega,HPX,HWD.out.below (Ae _ _)⟩,by simp[intOf];omega⟩
         ·have hil:¬(i:Int)<(LN:Int):=by omega
          have HQ:Hid (q<0↔BE E.slots x=false/\Ji (O++[s.inn]) x=false):=by
           have e:=HP.out
           rw[Z9 (by rw[HLN.out];omega),IB]at e
           rw[e]
           exact HPN
          clear HP HPN hlt hi
          by_cases hp:q<0
          ·have hfl:=De Q vn vc (.slice sa E.slots.length sc) (.slice la LN lc) _ _ _ f1 14 (s.next:Int) wr HWD.out.ck.obj
           have e1:(if f1.1=0 then((14:Int),(s.next:Int))else f1)=f2:=by
            rw[<-HF2.out]
            exact(show Hg E k (O++[s.inn]) x s.next f1=Bg f1 14 s.next from if_pos ⟨HK.out,HQ.out.1 hp⟩).symm
           rw[e1]at hfl
           clear e1 HF2
           go_wp2_with (first | (go_at_call 30;refine hfl.mono ?_;rintro e wa ⟨rfl,ho3,hg3⟩))
           go_meet
           exact HWD.out.fail ho3 hg3 (by omega)
          ·have e1:f2=f1:=by rw[<-HF2.out];exact if_neg (fun e=>hp (HQ.out.2 e.2))
           clear HF2
           go_wp2_with fail
           go_meet
           rw[e1]
           exact HWD
       ·have e1:f2=f1:=by rw[<-HF2.out];exact if_neg (fun e=>hk e.1)
        rw[decide_eq_false hk]
        clear hk
        go_wp2_with fail
        go_meet
        rw[e1]
        exact HW4
      case rest=>
       clear HW4
       go_upto_region 19 with fail
       go_cut [111] from 109 to 110 (fun s111 wx=>s111=.bool (k==30)/\Hid (Way w wx Q BB vn vc vs E1 (s.next+1) (O++[s.inn]) f2 vl k x nm (.slice ad ks.length c)))
       case first=>
        have HW5:Hid (Way w wc Q BB vn vc vs E1 (s.next+1) (O++[s.inn]) f2 vl k x nm (.slice ad ks.length c)):=hcut
        obtain⟨⟨x0,x1,x2,x3⟩,_⟩:=HW5.out.box.facts
        have hlx:=HW5.out.box.lt
        go_wp2_with fail
        go_meet
        exact⟨by first | rfl | simp,HW5⟩
       case rest=>
        obtain⟨e111,HW5⟩:=hcut
        subst e111
        go_upto_if 111 with fail
        go_cut [9] from 111 to 123 (fun _ wx=>Hid (Way w wx Q BB vn vc vs E1 (s.next+1) (O++[s.inn]) f3 vl k x nm (.slice ad ks.length c)))
        case first=>
         by_cases hk:k=30
         ·have nk:(k==30)=true:=by simp[hk]
          have HK:Hid (k=30):=hk
          clear hk
          rw[nk]
          clear nk
          obtain⟨sa,sc,hs1,_⟩:=id HW5.out.ck.names
          rw[HES.out.2.1]at hs1
          subst hs1
          have hnm:=HW5.out.ck.names
          rw[HES.out.2.1]at hnm
          have hps:=fun j=>Fi E.names x _ _ (wc.drewN j) (hnm.drewN j)
          obtain⟨p,HP⟩:∃p,Hid (CD E.names x=p):=⟨_,rfl⟩
          rw[HP.out]at hps
          obtain⟨⟨x0,x1,x2,x3⟩,_⟩:=HW5.out.box.facts
          have hlx:=HW5.out.box.lt
          obtain⟨⟨k0,_,k2,k3⟩,k4,k5,k6,k7,k8⟩:=HW5.out.ck.obj.cells
          have hlq:=HW5.out.ck.obj.lt
          go_upto_region 20 with fail
          go_quiet ((go_at_call 29;exact CK (hps _)))
          have HWD:Hid (Way w (wc.drewN nq) Q BB (.slice sa E.names.length sc) vc vs E1 (s.next+1) (O++[s.inn]) f2 vl k x nm (.slice ad ks.length c)):=HW5.out.below (Ae _ _)
          obtain⟨wd,ewd⟩:∃wd,wd=wc.drewN nq:=⟨_,rfl⟩
          rw[<-ewd]at HWD⊢
          clear ewd hps HW5 x0 x1 x2 x3 hlx k0 k2 k3 k4 k5 k6 k7 k8 hlq hnm
          by_cases hp:p<0
          ·have hfl:=De Q _ vc vs vl _ _ _ f2 14 (s.next:Int) wd HWD.out.ck.obj
           have e1:(if f2.1=0 then((14:Int),(s.next:Int))else f2)=f3:=by
            rw[<-HF3.out]
            exact(show J9 E k x s.next f2=Bg f2 14 s.next from if_pos ⟨HK.out,Du.1 (by rw[HP.out];exact hp)⟩).symm
           rw[e1]at hfl
           clear e1 HF3
           go_wp2_with (first | (go_at_call 30;refine hfl.mono ?_;rintro e wa ⟨rfl,ho3,hg3⟩))
           go_meet
           exact HWD.out.fail ho3 hg3 (by omega)
          ·have e1:f3=f2:=by rw[<-HF3.out];exact if_neg (fun e=>hp (by rw[<-HP.out];exact Du.2 e.2))
           clear HF3
           go_wp2_with fail
           go_meet
           rw[e1]
           exact HWD
         ·have nk:(k==30)=false:=by simpa using hk
          have e1:f3=f2:=by rw[<-HF3.out];exact if_neg (fun e=>hk e.1)
          rw[nk]
          go_wp2_with fail
          go_meet
          rw[e1]
          exact HW5
        case rest=>
         have HW6:Hid (Way w wc Q BB vn vc vs E1 (s.next+1) (O++[s.inn]) f3 vl k x nm (.slice ad ks.length c)):=hcut
         clear HW5 hcut HF1 HF2 HF3
         go_upto_block 2 with fail
         go_cut [10] from 124 to 137 (fun _ wx=>∃v1,Hid (Way w wx Q BB vn vc vs E1 R1.next (O++[R1.inn]) R1.bad v1 k x nm (.slice ad ks.length c))/\Hid (Dr 1 O R1/\R1.next<=100000))
         case first=>
          have hlen:ks.length<=100000:=HB9.out.1
          have HL:Hid (LoopW w wc Q BB vn vc vs E1 O k x nm (.slice ad ks.length c) ks R1 0 ⟨s.next+1,s.inn,f3⟩ vl):=⟨HW6.out,HR1.out,HFW.out _,HN.out⟩
          clear HR1 HFW HN HW6 HR
          go_wp2_with fail
          go_loopw [10] (fun s10 wr=>∃(i:Nat) (s1:StR) (v1:Value),s10=.int .i64 i/\i<=ks.length/\Hid (LoopW w wr Q BB vn vc vs E1 O k x nm (.slice ad ks.length c) ks R1 i s1 v1)) (fun s10 _=>100001-(intOf s10).toNat)
          case atStart=>exact⟨0,_,_,rfl,Z3 _,HL⟩
          case round=>
           clear HL
           obtain⟨i,s1,v1,rfl,hi,HL⟩:=hrel
           obtain⟨⟨x0,x1,x2,x3⟩,_⟩:=HL.out.way.box.facts
           have hlx:=HL.out.way.box.lt
           by_cases hlt:i<ks.length
           ·have hil:(i:Int)<(ks.length:Int):=by omega
            have hwi:=AN (x:=(i:Int)+1) (by omega) (by omega)
            obtain⟨b,o,rfl,hbr,y0,y1,y2,adx,lx,cx,s2,⟨c0,c1,c2,c3⟩,hcl,HNX⟩:=HL.out.next hsz hqb HKK.out HKS.out hlt
            go_wp2_with (first | (go_at_call 31;refine hcl.mono ?_;rintro e w2 ⟨rfl,⟨v2,hc2⟩,hf2⟩))
            exact⟨⟨i+1,s2,v2,by simp,by omega,HNX w2 v2 hc2 hf2⟩,by simp[intOf];omega⟩
           ·have hil:¬(i:Int)<(ks.length:Int):=by omega
            have HE:Hid (R1=s1):=HL.out.last hlt
            have hs1n:s1.next<=100000:=by have:=HL.out.bound;omega
            go_wp2_with fail
            go_meet
            rw[HE.out]
            exact⟨v1,HL.out.way,HL.out.few,hs1n⟩
         case rest=>
          obtain⟨v1,HW7,HFS⟩:=hcut
          clear HW6 HKS HFW HN HR1
          go_upto_region 27 with fail
          go_cut [148] from 138 to 147 (fun s148 wx=>s148=.bool (decide (k=7/\R1.bad.1=0))/\Hid (Way w wx Q BB vn vc vs E1 R1.next (O++[R1.inn]) R1.bad v1 k x nm (.slice ad ks.length c)))
          case first=>
           obtain⟨⟨x0,x1,x2,x3⟩,_⟩:=HW7.out.box.facts
           have hlx:=HW7.out.box.lt
           obtain⟨_,_,_,_,k7,_⟩:=HW7.out.ck.obj.cells
           have hlq:=HW7.out.ck.obj.lt
           by_cases h7:k=7
           ·have n7:(k==7)=true:=by simp[h7]
            by_cases hb:R1.bad.1=0
            ·have nb:(R1.bad.1==0)=true:=by simp[hb]
             go_wp2_with fail
             go_meet
             exact⟨by simp[h7,hb],HW7⟩
            ·have nb:(R1.bad.1==0)=false:=by simpa using hb
             go_wp2_with fail
             go_meet
             exact⟨by simp[hb],HW7⟩
           ·have n7:(k==7)=false:=by simpa using h7
            go_wp2_with fail
            go_meet
            exact⟨by simp[h7],HW7⟩
          case rest=>
           obtain⟨e148,HW8⟩:=hcut
           subst e148
           clear HW7
           go_upto_if 148 with fail
           go_cut [11,12,13,14] from 148 to 206 (fun _ _ _ _ wx=>∃v2,Hid (Way w wx Q BB vn vc vs E1 R.next (O++[R.inn]) R.bad v2 k x nm (.slice ad ks.length c)))
           case first=>
            by_cases hk:k=7/\R1.bad.1=0
            ·rw[decide_eq_true hk]
             have HRA:Hid (RC O x s.next R1=R):=by
              have e:=HR.out
              unfold I1 at e
              rw[if_pos hk]at e
              exact e
             have hb1:O.length<=100000/\O.flatten.length+s.inn.length<=100000:=⟨HB9.out.2.1,HB9.out.2.2.1⟩
             have hs1n:R1.next<=100000:=HFS.out.2
             have HFS:Hid (Dr 1 O R1):=HFS.out.1
             obtain⟨wr,ewr⟩:∃wr,wr=wc:=⟨_,rfl⟩
             rw[<-ewr]at HW8⊢
             have HW:=HW8
             clear hk HR HW8 ewr
             obtain⟨⟨x0,x1,x2,x3⟩,_⟩:=HW.out.box.facts
             have hlx:=HW.out.box.lt
             obtain⟨⟨k0,_,k2,k3⟩,k4,k5,k6,k7,k8⟩:=HW.out.ck.obj.cells
             have hlq:=HW.out.ck.obj.lt
             have z6:=HW.out.ck.obj.frozen 6
             obtain⟨vis,hL⟩:=HW.out.ck.locs
             have hrow:=hL.row
             rw[Z1]at hrow
             obtain⟨g,cap,hv1,hgc,hgm⟩:=Ng (n:=O.length) hrow
             subst hv1
             clear hrow
             have hll:(O++[R1.inn]).length=O.length+1:=Z1
             have HLL:Hid ((O++[R1.inn]).length=O.length+1):=hll
             obtain⟨g2,v,eg,hcell,hvis,hgl,hrowL⟩:=hL.at O.length (by omega)
             have eg2:g2=g:=by injection eg with eg;injection eg with eg;exact eg.symm
             subst eg2
             have egl:(O++[R1.inn])[O.length]=R1.inn:=by rw[Zc (Z0 _)];simp
             rw[egl]at hrowL
             have hpl:=fun j=>Fi R1.inn x _ _ (wr.drewN j) ((Dp hrowL).drewN j)
             obtain⟨p,HP⟩:∃p,Hid (CD R1.inn x=p):=⟨_,rfl⟩
             rw[HP.out]at hpl
             obtain⟨va,vcp,hv1,_,_⟩:=B2 hrowL
             subst hv1
             have hwl:=AN (x:=((O.length:Int)+1)-1) (by omega) (by omega)
             have hll2:(O.length:Int)+1-1=(O.length:Int):=by omega
             clear eg egl hll
             go_upto_region 29 with fail
             go_quiet ((go_at_call 29;exact CK (hpl _)))
             have HWD:Hid (Way w (wr.drewN nq) Q BB vn vc vs E1 R1.next (O++[R1.inn]) R1.bad (.slice (some ⟨g2,0,none⟩) (O.length+1) cap) k x nm (.slice ad ks.length c)):=HW.out.below (Ae _ _)
             have HLD:Hid (LocsR (wr.drewN nq) BB (.slice (some ⟨g2,0,none⟩) (O.length+1) cap) vis (O++[R1.inn])):=hL.same fun _ _ _=>rfl
             have hvr:Hid ((wr.drewN nq).ownsRow BB 9 1 (.slice va R1.inn.length vcp) R1.inn.length (BL R1.inn)):=C3 hrowL fun _ _=>rfl
             obtain⟨wd,ewd⟩:∃wd,wd=wr.drewN nq:=⟨_,rfl⟩
             have HGL:Hid (g2<wd.heap.size):=by show _<_;rw[ewd];exact hgl
             rw[<-ewd]at HWD HLD hvr⊢
             clear ewd hpl HW hL hrowL z6 hgl hcell x0 x1 x2 x3 hlx k0 k2 k3 k4 k5 k6 k7 k8 hlq
             obtain⟨⟨x0,x1,x2,x3⟩,_⟩:=HWD.out.box.facts
             have hlx:=HWD.out.box.lt
             obtain⟨⟨k0,_,k2,k3⟩,k4,k5,k6,k7,k8⟩:=HWD.out.ck.obj.cells
             have hlq:=HWD.out.ck.obj.lt
             go_wp2_with fail
             go_loopw [13,14] (fun s13 s14 wx=>∃(j m:Nat),s13=.int .i64 m/\s14=.int .i64 j/\j<=O.length+1/\Hid (((O++[R1.inn]).take j).flatten.length=m)/\wx=wd) (fun _ s14 _=>100002-(intOf s14).toNat)
             case atStart=>exact⟨0,0,rfl,rfl,Z3 _,rfl,rfl⟩
             case round=>
              obtain⟨j,m,rfl,rfl,hj,HM,rfl⟩:=hrel
              have HMB:Hid (m<=O.flatten.length+R1.inn.length):=by
               show _<=_
               have e:=KW (O++[R1.inn]) j
               rw[HM.out,F9,Z1]at e
               exact e
              have hmb:m<=200000:=by have h1:=HMB.out;have h2:=HFS.out;unfold Dr at h2;have h3:=hs1n;omega
              by_cases hjl:j<=O.length
              ·have hji:(j:Int)<=(O.length:Int):=by omega
               have hjI:(j:Int)<(O.length:Int)+1:=by omega
               have hwj:=AN (x:=(j:Int)+1) (by omega) (by omega)
               obtain⟨g3,vj,eg3,hcj,-,-,hrj⟩:=HLD.out.at j (by rw[HLL.out];omega)
               have eg4:g3=g2:=by injection eg3 with eg;injection eg with eg;exact eg.symm
               subst eg4
               obtain⟨vaj,vcj,hvj,_,_⟩:=B2 hrj
               subst hvj
               have HMX:Hid (((O++[R1.inn]).take (j+1)).flatten.length=m+((O++[R1.inn])[j]'(by rw[HLL.out];omega)).length):=by
                show _=_
                rw[P5 _ _ (by rw[HLL.out];omega),HM.out]
               have hbj:((O++[R1.inn])[j]'(by rw[HLL.out];omega)).length<=200000:=by
                have e:=KW (O++[R1.inn]) (j+1)
                have e2:=HMX.out
                rw[F9,Z1]at e
                rw[e2]at e
                have h2:=HFS.out
                unfold Dr at h2
                omega
               have hgl:=HGL.out
               generalize ((O++[R1.inn])[j]'(by rw[HLL.out];omega)).length=rl at *
               have hwm:=AN (x:=(m:Int)+(rl:Int)) (by omega) (by omega)
               clear hrj HMB
               go_wp2_with fail
               exact⟨⟨j+1,m+rl,by simp,by simp,by omega,HMX,trivial⟩,by simp[intOf];omega⟩
              ·have hji:¬(j:Int)<=(O.length:Int):=by omega
               have HMM:Hid (m=O.flatten.length+R1.inn.length):=by
                show _=_
                rw[<-HM.out,List.take_of_length_le (by rw[HLL.out];omega),F9,Z1]
               clear HM HMB
               obtain⟨f2,HF2⟩:∃f2,Hid ((if BE R1.inn x=true then Bg R1.bad 5 s.next else if 30<=O.flatten.length+R1.inn.length then Bg R1.bad 1 s.next else R1.bad)=f2):=⟨_,rfl⟩
               go_upto_if 181 with fail
               go_cut [] from 149 to 189 (fun wx=>Hid (Way w wx Q BB vn vc vs E1 R1.next (O++[R1.inn]) f2 (.slice (some ⟨g2,0,none⟩) (O.length+1) cap) k x nm (.slice ad ks.length c)))
               case first=>
                by_cases hp:p<0
                ·have hp':¬ 0<=p:=by omega
                 have hz:¬BE R1.inn x=true:=by rw[Du.1 (by rw[HP.out];exact hp)];decide
                 by_cases h30:30<=m
                 ·have h30i:(30:Int)<=(m:Int):=by omega
                  have e1:Bg R1.bad 1 s.next=f2:=by rw[<-HF2.out,if_neg hz,if_pos (by rw[<-HMM.out];exact h30)]
                  have hfl:=De Q vn vc vs _ _ _ _ R1.bad 1 (s.next:Int) wr HWD.out.ck.obj
                  have e2:(if R1.bad.1=0 then((1:Int),(s.next:Int))else R1.bad)=f2:=e1
                  rw[e2]at hfl
                  clear e1 e2 HF2 hz hp h30 HMM
                  go_wp2_with (first | (go_at_call 30;refine hfl.mono ?_;rintro e w3 ⟨rfl,ho3,hg3⟩))
                  go_meet
                  exact HWD.out.fail ho3 hg3 (by omega)
                 ·have h30i:¬(30:Int)<=(m:Int):=by omega
                  have e1:R1.bad=f2:=by rw[<-HF2.out,if_neg hz,if_neg (by rw[<-HMM.out];exact h30)]
                  have HW3:=HWD
                  rw[e1]at HW3
                  clear e1 HF2 hz hp h30 HMM
                  go_wp2_with fail
                  go_meet
                  exact HW3
                ·have hp':0<=p:=by omega
                 have hz:BE R1.inn x=true:=by
                  cases hh:BE R1.inn x with
                  | true=>rfl
                  | false=>exact absurd (Du.2 hh) (by rw[HP.out];exact hp)
                 have e1:Bg R1.bad 5 s.next=f2:=by rw[<-HF2.out,if_pos hz]
                 have hfl:=De Q vn vc vs _ _ _ _ R1.bad 5 (s.next:Int) wr HWD.out.ck.obj
                 have e2:(if R1.bad.1=0 then((5:Int),(s.next:Int))else R1.bad)=f2:=e1
                 rw[e2]at hfl
                 clear e1 e2 HF2 hz hp HMM
                 go_wp2_with (first | (go_at_call 30;refine hfl.mono ?_;rintro e w3 ⟨rfl,ho3,hg3⟩))
                 go_meet
                 exact HWD.out.fail ho3 hg3 (by omega)
               case rest=>
                have HW2:Hid (Way w wc Q BB vn vc vs E1 R1.next (O++[R1.inn]) f2 (.slice (some ⟨g2,0,none⟩) (O.length+1) cap) k x nm (.slice ad ks.length c)):=hcut
                obtain⟨wo,ewo⟩:∃wo,wo=wc:=⟨_,rfl⟩
                rw[<-ewo]at HW2⊢
                clear ewo hcut HWD HLD hvr HGL HMM x0 x1 x2 x3 hlx k0 k2 k3 k4 k5 k6 k7 k8 hlq
                have HRB:Hid (R=⟨R1.next,R1.inn++[x],f2⟩):=by
                 show _=_
                 rw[<-HRA.out,<-HF2.out]
                 rfl
                clear HRA HF2 HP
                obtain⟨⟨x0,x1,x2,x3⟩,_⟩:=HW2.out.box.facts
                have hlx:=HW2.out.box.lt
                obtain⟨⟨k0,_,k2,k3⟩,k4,k5,k6,k7,k8⟩:=HW2.out.ck.obj.cells
                have hlq:=HW2.out.ck.obj.lt
                obtain⟨vis2,hL2⟩:=HW2.out.ck.locs
                obtain⟨g3,v3,eg3,hcell,hvis3,hgl,hrowL⟩:=hL2.at O.length (by rw[HLL.out];omega)
                have eg4:g3=g2:=by injection eg3 with eg;injection eg with eg;exact eg.symm
                subst eg4
                have egl:(O++[R1.inn])[O.length]'(by rw[HLL.out];omega)=R1.inn:=by rw[Zc (Z0 _)];simp
                rw[egl]at hrowL
                obtain⟨va3,vc3,hv3,_,_⟩:=B2 hrowL
                subst hv3
                have hinn:R1.inn.length<=100000:=by have h2:=HFS.out;unfold Dr at h2;omega
                have hbs:=HW2.out.ck.size
                clear eg3 egl
                have hoi:(O.length:Int)<(O.length:Int)+1:=by omega
                go_upto_region 39 with fail
                have hO2:=hrowL.drew.alloc (.cells #[.string x] 9)
                have hR2:=hL2.row
                rw[HLL.out]at hR2
                have hR3:=hR2.drew.alloc (.cells #[.string x] 9)
                have hQn:(Value.slice va3 R1.inn.length vc3).ownBlock≠some Q:=fun e=>by have:=(hO2.lt Q e).1;omega
                have hlqA:Q<(wo.drew.alloc (.cells #[.string x] 9)).heap.size:=by simp;omega
                have hbsA:BB<=(wo.drew.alloc (.cells #[.string x] 9)).heap.size:=by simp;omega
                have hQA:=((Zg _ wo.drew).alloc (Z0 _) (.cells #[.string x] 9)).block Q hlq
                have hgq:¬Q=g3:=fun e=>by have:=(hR3.lt g3 rfl).1;omega
                have hgq':¬g3=Q:=fun e=>hgq e.symm
                have hgx:¬w.heap.size=g3:=fun e=>Iq hR2 (Or.inr rfl) (Or.inr (MO HW2.out.box)) (by rw[e];rfl)
                have hgx':¬g3=w.heap.size:=fun e=>hgx e.symm
                have hXn:(Value.slice va3 R1.inn.length vc3).ownBlock≠some w.heap.size:=Iq hrowL (Or.inl rfl) (Or.inr (MO HW2.out.box))
                have hlxA:w.heap.size<(wo.drew.alloc (.cells #[.string x] 9)).heap.size:=by simp;omega
                have hXA:=((Zg _ wo.drew).alloc (Z0 _) (.cells #[.string x] 9)).block w.heap.size hlx
                have HX:Hid (Box4 wo w.heap.size (.int .i64 k) (.string x) (.int .i64 nm) (.slice ad ks.length c)):=HW2.out.box
                have HO:Hid (CObj wo Q vn vc (R1.next:Int) vs (.slice (some ⟨g3,0,none⟩) (O.length+1) cap) E1.inside E1.returns f2):=HW2.out.ck.obj
                go_cut [] from 190 to 206 (fun wx=>∃(g7 cap7:Nat) (w7:World),wx=w7.setCell ⟨g3,O.length,none⟩ (.slice (some ⟨g7,0,none⟩) (R1.inn.length+1) cap7)/\Hid (w7.ownsRow BB 9 1 (sl g7 (R1.inn.length+1) cap7) (R1.inn.length+1) (BL R1.inn++[.string x]))/\Hid (∀Q,Keeps (wo.drew.alloc (.cells #[.string x] 9)) w7 Q (.slice va3 R1.inn.length vc3) R1.inn.length)/\Hid (Onto (wo.drew.alloc (.cells #[.string x] 9)) (.slice va3 R1.inn.length vc3) (sl g7 (R1.inn.length+1) cap7)))
                case first=>
                 clear HW2 hL2 hR2 hrowL HRB HKK HFS HLL hb1 x0 x2 x3 k0 k2 k3 k5 k6 k7 k8 hsz hs1n
                 refine wp_region_held_drew (S:=fun w'=>w'.cell? ⟨Q,4,none⟩=some (.slice (some ⟨g3,0,none⟩) (O.length+1) cap)/\w'.cell? ⟨w.heap.size,1,none⟩=some (.string x)) (by kernel_rfl) ⟨k4,x1⟩ (fun hHeld=>?_)
                 refine wpAnyH_take (i:=0) (v:=(.pointer (some ⟨Q,0,none⟩))) rfl (by kernel_rfl) (by kernel_rfl) (by kernel_rfl) (fun _ _ _ h=>h) (Or.inl ⟨by rfl,?_⟩) hHeld ?_
                 ·intro w' hS'
                  obtain⟨hA,hB⟩:=hS'
                  go_simp
                 (try simp only[Act.put,List.setIfInBounds_toArray,List.set_cons_zero,List.set_cons_succ])
                 refine wpAnyH_take (i:=1) (v:=(.pointer (some ⟨Q,0,none⟩))) rfl (by kernel_rfl) (by kernel_rfl) (by kernel_rfl) (fun _ _ _ h=>h) (Or.inl ⟨by rfl,?_⟩) hHeld ?_
                 ·intro w' hS'
                  obtain⟨hA,hB⟩:=hS'
                  go_simp
                 (try simp only[Act.put,List.setIfInBounds_toArray,List.set_cons_zero,List.set_cons_succ])
                 refine wpAnyH_take (i:=2) (v:=(.pointer (some ⟨Q,4,none⟩))) rfl (by kernel_rfl) (by kernel_rfl) (by kernel_rfl) (fun _ _ _ h=>h) (Or.inl ⟨by rfl,?_⟩) hHeld ?_
                 ·intro w' hS'
                  obtain⟨hA,hB⟩:=hS'
                  go_simp
                 (try simp only[Act.put,List.setIfInBounds_toArray,List.set_cons_zero,List.set_cons_succ])
                 refine wpAnyH_take (i:=3) (v:=(.slice (some ⟨g3,0,none⟩) (O.length+1) cap)) rfl (by kernel_rfl) (by kernel_rfl) (by kernel_rfl) (fun _ _ _ h=>h) (Or.inl ⟨by rfl,?_⟩) hHeld ?_
                 ·intro w' hS'
                  obtain⟨hA,hB⟩:=hS'
                  go_simp
                 (try simp only[Act.put,List.setIfInBounds_toArray,List.set_cons_zero,List.set_cons_succ])
                 refine wpAnyH_take (i:=4) (v:=(.int .i64 (O.length:Int))) rfl (by kernel_rfl) (by kernel_rfl) (by kernel_rfl) (fun _ _ _ h=>h) (Or.inl ⟨by rfl,?_⟩) hHeld ?_
                 ·intro w' hS'
                  obtain⟨hA,hB⟩:=hS'
                  go_simp
                 (try simp only[Act.put,List.setIfInBounds_toArray,List.set_cons_zero,List.set_cons_succ])
                 refine wpAnyH_take (i:=5) (v:=(.pointer (some ⟨Q,0,none⟩))) rfl (by kernel_rfl) (by kernel_rfl) (by kernel_rfl) (fun _ _ _ h=>h) (Or.inl ⟨by rfl,?_⟩) hHeld ?_
                 ·intro w' hS'
                  obtain⟨hA,hB⟩:=hS'
                  go_simp
                 (try simp only[Act.put,List.setIfInBounds_toArray,List.set_cons_zero,List.set_cons_succ])
                 refine wpAnyH_take (i:=6) (v:=(.pointer (some ⟨Q,0,none⟩))) rfl (by kernel_rfl) (by kernel_rfl) (by kernel_rfl) (fun _ _ _ h=>h) (Or.inl ⟨by rfl,?_⟩) hHeld ?_
                 ·intro w' hS'
                  obtain⟨hA,hB⟩:=hS'
                  go_simp
                 (try simp only[Act.put,List.setIfInBounds_toArray,List.set_cons_zero,List.set_cons_succ])
                 refine wpAnyH_take (i:=7) (v:=(.pointer (some ⟨Q,4,none⟩))) rfl (by kernel_rfl) (by kernel_rfl) (by kernel_rfl) (fun _ _ _ h=>h) (Or.inl ⟨by rfl,?_⟩) hHeld ?_
                 ·intro w' hS'
                  obtain⟨hA,hB⟩:=hS'
                  go_simp
                 (try simp only[Act.put,List.setIfInBounds_toArray,List.set_cons_zero,List.set_cons_succ])
                 refine wpAnyH_take (i:=8) (v:=(.slice (some ⟨g3,0,none⟩) (O.length+1) cap)) rfl (by kernel_rfl) (by kernel_rfl) (by kernel_rfl) (fun _ _ _ h=>h) (Or.inl ⟨by rfl,?_⟩) hHeld ?_
                 ·intro w' hS'
                  obtain⟨hA,hB⟩:=hS'
                  go_simp
                 (try simp only[Act.put,List.setIfInBounds_toArray,List.set_cons_zero,List.set_cons_succ])
                 refine wpAnyH_take (i:=9) (v:=(.int .i64 (O.length:Int))) rfl (by kernel_rfl) (by kernel_rfl) (by kernel_rfl) (fun _ _ _ h=>h) (Or.inl ⟨by rfl,?_⟩) hHeld ?_
                 ·intro w' hS'
                  obtain⟨hA,hB⟩:=hS'
                  go_simp
                 (try simp only[Act.put,List.setIfInBounds_toArray,List.set_cons_zero,List.set_cons_succ])
                 refine wpAnyH_take (i:=10) (v:=(.pointer (some ⟨g3,O.length,none⟩))) rfl (by kernel_rfl) (by kernel_rfl) (by kernel_rfl) (fun _ _ _ h=>h) (Or.inl ⟨by rfl,?_⟩) hHeld ?_
                 ·intro w' hS'
                  obtain⟨hA,hB⟩:=hS'
                  go_simp
                 (try simp only[Act.put,List.setIfInBounds_toArray,List.set_cons_zero,List.set_cons_succ])
                 refine wpAnyH_take (i:=12) (v:=(.pointer (some ⟨w.heap.size,1,none⟩))) rfl (by kernel_rfl) (by kernel_rfl) (by kernel_rfl) (fun _ _ _ h=>h) (Or.inl ⟨by rfl,?_⟩) hHeld ?_
                 ·intro w' hS'
                  obtain⟨hA,hB⟩:=hS'
                  go_simp
                 (try simp only[Act.put,List.setIfInBounds_toArray,List.set_cons_zero,List.set_cons_succ])
                 refine wpAnyH_take (i:=13) (v:=(.string x)) rfl (by kernel_rfl) (by kernel_rfl) (by kernel_rfl) (fun _ _ _ h=>h) (Or.inl ⟨by rfl,?_⟩) hHeld ?_
                 ·intro w' hS'
                  obtain⟨hA,hB⟩:=hS'
                  go_simp
                 (try simp only[Act.put,List.setIfInBounds_toArray,List.set_cons_zero,List.set_cons_succ])
                 refine wpAnyH_ready (rs:=[11,14]) (by kernel_rfl) (by simp) ?_
                 refine AllReadyH.cons rfl (fun K hK=>?_) (AllReadyH.cons rfl (fun K hK=>?_) AllReadyH.nil)
                 ·go_simp
                  refine hK.out _ _ ⟨k4,x1⟩ (fun hHeld=>?_)
                  clear hK K
                  (try simp only[Act.put,List.setIfInBounds_toArray,List.set_cons_zero,List.set_cons_succ])
                  refine wpAnyH_ready (rs:=[14]) (by kernel_rfl) (by simp) ?_
                  refine AllReadyH.cons rfl (fun K hK=>?_) AllReadyH.nil
                  go_simp
                  refine hK.out _ _ (by go_keep) (fun hHeld=>?_)
                  clear hK K
                  (try simp only[Act.put,List.setIfInBounds_toArray,List.set_cons_zero,List.set_cons_succ])
                  refine wpAnyH_ready (rs:=[15]) (by kernel_rfl) (by simp) ?_
                  refine AllReadyH.cons rfl (fun K hK=>?_) AllReadyH.nil
                  refine Ir rfl (.tmp 201) (.tmp 204) rfl (.slice va3 R1.inn.length vc3) (ad:=⟨wo.heap.size,0,none⟩) (c:=1) (u:=x) (by first | (simp[Act.eval];done) | simp[Act.eval,Act.put]) (by first | (simp[Act.eval];done) | simp[Act.eval,Act.put]) hO2 (by simp) (by omega) hbsA ?_
                  intro g7 cap7 w7 O7 hk7 hon7
                  have hR7:=C3 hR3 (w':=w7) (fun k e=>(hk7 (k+1)).block k (hR3.lt k e).2 (by omega) (FA hR3 hO2 (fun e=>Kx e.symm) e))
                  have hc7:=(hR7.cellAt O.length (by omega)).trans hvis3
                  have z7:=hR7.frozenAt O.length
                  have hl7:=(hR7.lt g3 rfl).2
                  obtain⟨_,y4,_⟩:=(HO.out.same (((hk7 (Q+1)).block Q hlqA (Nat.ne_of_lt (Nat.lt_succ_self Q)) hQn).trans hQA)).cells
                  have hX7:w7.heap[w.heap.size]?=wo.heap[w.heap.size]?:=((hk7 (w.heap.size+1)).block w.heap.size hlxA (Nat.ne_of_lt (Nat.lt_succ_self _)) hXn).trans hXA
                  obtain⟨⟨_,y1,_,_⟩,_⟩:=(show Box4 w7 w.heap.size _ _ _ _ from hX7.trans HX.out).facts
                  refine hK.out _ _ ⟨y4,y1⟩ (fun hHeld=>?_)
                  clear hK K
                  (try simp only[Act.put,List.setIfInBounds_toArray,List.set_cons_zero,List.set_cons_succ])
                  refine wpAnyH_take (i:=16) (v:=(.pointer (some ⟨g3,O.length,none⟩))) rfl (by kernel_rfl) (by kernel_rfl) (by kernel_rfl) (fun _ _ _ h=>h) (Or.inl ⟨by rfl,?_⟩) hHeld ?_
                  ·intro w' hS'
                   obtain⟨hA,hB⟩:=hS'
                   go_simp
                  (try simp only[Act.put,List.setIfInBounds_toArray,List.set_cons_zero,List.set_cons_succ])
                  refine wpAnyH_ready (rs:=[17]) (by kernel_rfl) (by simp) ?_
                  refine AllReadyH.cons rfl (fun K hK=>?_) AllReadyH.nil
                  go_simp
                  refine hK.out _ _ ⟨(World.cell?_of_block (w:=w7) (a:=⟨Q,4,none⟩) (Zm _ _ _ _ hgq)).trans y4,(World.cell?_of_block (w:=w7) (a:=⟨w.heap.size,1,none⟩) (Zm _ _ _ _ hgx)).trans y1⟩ (fun hHeld=>?_)
                  clear hK K
                  refine wpAnyH_done (by kernel_rfl) ?_ _
                  go_wp2_with fail
                  go_meet
                  exact⟨g7,cap7,w7,rfl,O7,hk7,hon7⟩
                 ·go_simp
                  refine hK.out _ _ (by go_keep) (fun hHeld=>?_)
                  clear hK K
                  (try simp only[Act.put,List.setIfInBounds_toArray,List.set_cons_zero,List.set_cons_succ])
                  refine wpAnyH_ready (rs:=[11]) (by kernel_rfl) (by simp) ?_
                  refine AllReadyH.cons rfl (fun K hK=>?_) AllReadyH.nil
                  go_simp
                  refine hK.out _ _ hHeld (fun hHeld=>?_)
                  clear hK K
                  (try simp only[Act.put,List.setIfInBounds_toArray,List.set_cons_zero,List.set_cons_succ])
                  refine wpAnyH_ready (rs:=[15]) (by kernel_rfl) (by simp) ?_
                  refine AllReadyH.cons rfl (fun K hK=>?_) AllReadyH.nil
                  refine Ir rfl (.tmp 201) (.tmp 204) rfl (.slice va3 R1.inn.length vc3) (ad:=⟨wo.heap.size,0,none⟩) (c:=1) (u:=x) (by first | (simp[Act.eval];done) | simp[Act.eval,Act.put]) (by first | (simp[Act.eval];done) | simp[Act.eval,Act.put]) hO2 (by simp) (by omega) hbsA ?_
                  intro g7 cap7 w7 O7 hk7 hon7
                  have hR7:=C3 hR3 (w':=w7) (fun k e=>(hk7 (k+1)).block k (hR3.lt k e).2 (by omega) (FA hR3 hO2 (fun e=>Kx e.symm) e))
                  have hc7:=(hR7.cellAt O.length (by omega)).trans hvis3
                  have z7:=hR7.frozenAt O.length
                  have hl7:=(hR7.lt g3 rfl).2
                  obtain⟨_,y4,_⟩:=(HO.out.same (((hk7 (Q+1)).block Q hlqA (Nat.ne_of_lt (Nat.lt_succ_self Q)) hQn).trans hQA)).cells
                  have hX7:w7.heap[w.heap.size]?=wo.heap[w.heap.size]?:=((hk7 (w.heap.size+1)).block w.heap.size hlxA (Nat.ne_of_lt (Nat.lt_succ_self _)) hXn).trans hXA
                  obtain⟨⟨_,y1,_,_⟩,_⟩:=(show Box4 w7 w.heap.size _ _ _ _ from hX7.trans HX.out).facts
                  refine hK.out _ _ ⟨y4,y1⟩ (fun hHeld=>?_)
                  clear hK K
                  (try simp only[Act.put,List.setIfInBounds_toArray,List.set_cons_zero,List.set_cons_succ])
                  refine wpAnyH_take (i:=16) (v:=(.pointer (some ⟨g3,O.length,none⟩))) rfl (by kernel_rfl) (by kernel_rfl) (by kernel_rfl) (fun _ _ _ h=>h) (Or.inl ⟨by rfl,?_⟩) hHeld ?_
                  ·intro w' hS'
                   obtain⟨hA,hB⟩:=hS'
                   go_simp
                  (try simp only[Act.put,List.setIfInBounds_toArray,List.set_cons_zero,List.set_cons_succ])
                  refine wpAnyH_ready (rs:=[17]) (by kernel_rfl) (by simp) ?_
                  refine AllReadyH.cons rfl (fun K hK=>?_) AllReadyH.nil
                  go_simp
                  refine hK.out _ _ ⟨(World.cell?_of_block (w:=w7) (a:=⟨Q,4,none⟩) (Zm _ _ _ _ hgq)).trans y4,(World.cell?_of_block (w:=w7) (a:=⟨w.heap.size,1,none⟩) (Zm _ _ _ _ hgx)).trans y1⟩ (fun hHeld=>?_)
                  clear hK K
                  refine wpAnyH_done (by kernel_rfl) ?_ _
                  go_wp2_with fail
                  go_meet
                  exact⟨g7,cap7,w7,rfl,O7,hk7,hon7⟩
                case rest=>
                 obtain⟨g7,cap7,w7,ew,HO7,HK7,HON7⟩:=hcut
                 have hFA:FrT wo (wo.drew.alloc (.cells #[.string x] 9)) BB Q:=FrT.of_below ((Zg _ wo).drew.alloc (Z0 _) _)
                 have hF7:FrT (wo.drew.alloc (.cells #[.string x] 9)) w7 BB Q:=FrT.of_keeps HK7.out hO2 (Or.inl rfl)
                 have hR7:=C3 hR3 (w':=w7) (fun k e=>(HK7.out (k+1)).block k (hR3.lt k e).2 (by omega) (FA hR3 hO2 (fun e=>Kx e.symm) e))
                 have hF8:FrT w7 (w7.setCell ⟨g3,O.length,none⟩ (.slice (some ⟨g7,0,none⟩) (R1.inn.length+1) cap7)) BB Q:=FrT.of_set _ hR7 (Or.inr rfl)
                 have hLA:LocsR (wo.drew.alloc (.cells #[.string x] 9)) BB (.slice (some ⟨g3,0,none⟩) (O.length+1) cap) vis2 (O++[R1.inn]):=hL2.same fun j _ h2=>((Zg _ wo.drew).alloc (Z0 _) _).block j h2
                 have hL8:=hLA.push hvis3 HK7.out HON7.out HO7.out
                 have hQ8:(w7.setCell ⟨g3,O.length,none⟩ (.slice (some ⟨g7,0,none⟩) (R1.inn.length+1) cap7)).heap[Q]?=wo.heap[Q]?:=(Zm _ _ _ _ hgq).trans (((HK7.out (Q+1)).block Q hlqA (Nat.ne_of_lt (Nat.lt_succ_self Q)) hQn).trans hQA)
                 have hT8:=(hFA.trans hF7).trans hF8
                 have HW8:Hid (Way w wc Q BB vn vc vs E1 R1.next (O++[R1.inn++[x]]) f2 (.slice (some ⟨g3,0,none⟩) (O.length+1) cap) k x nm (.slice ad ks.length c)):=by
                  show Way ..
                  rw[ew]
                  exact⟨HW2.out.ck.again (hT8.fr HW2.out.ck.size) (HO.out.same hQ8) ⟨_,hL8⟩ rfl rfl,hT8.box HW2.out.box (by omega),HW2.out.fr.trans hT8⟩
                 clear ew HO7 HK7 HON7 hFA hF7 hR7 hF8 hLA hL8 hQ8 hT8 HW2 hL2 hO2 hR2 hR3 hQA HO HX hXA hcell x0 x1 x2 x3 hlx k0 k2 k3 k4 k5 k6 k7 k8 hlq
                 go_wp2_with fail
                 go_meet
                 rw[HRB.out]
                 exact⟨_,HW8⟩
            ·have e1:R=R1:=by rw[<-HR.out];exact if_neg hk
             rw[decide_eq_false hk]
             clear hk
             go_wp2_with fail
             go_meet
             rw[e1]
             exact⟨v1,HW8⟩
           case rest=>
            obtain⟨v2,HW9⟩:=hcut
            clear HW8
            obtain⟨_,_,_,k6,_⟩:=HW9.out.ck.obj.cells
            have hlq:=HW9.out.ck.obj.lt
            have z6:=HW9.out.ck.obj.frozen 6
            go_wp2_with fail
            have hfin:=HW9.out.last (E0:=E) HES.out.2.2.2.2.2
            exact bodyPost_end (v:=.tuple #[]) (by simp[results,Tryz.results31,go_sem]) rfl ⟨rfl,⟨_,hfin.1⟩,hfin.2⟩
theorem Q1(Q BB:Nat)(vn vc vs:Value)(tx:List Int)(nm:Int)(ks:List Nd)(hks:∀i (h:i<ks.length),Hh Q BB vn vc vs ks[i]):Hh Q BB vn vc vs (.mk 6 tx nm ks):=by
 intro E O s vl u w h hu hF hN
 obtain⟨xk,hu1,hkv⟩:=hu
 obtain⟨ad,c0,hx1,hkk⟩:=hkv
 obtain⟨c,hcc⟩:∃c,c0+ks.length=c:=⟨_,rfl⟩
 have hx2:xk=.slice ad ks.length c:=by rw[<-hcc];exact hx1
 subst hx2
 have hu2:u=.agg #[.int .i64 6,.string (strOfNums tx),.int .i64 nm,.slice ad ks.length c]:=hu1
 subst hu2
 have hkv:KidsV w (Low BB Q) (.slice ad ks.length c) ks:=⟨ad,c0,by rw[hcc],hkk⟩
 rw[EB]at hN
 have hqb:=h.qb
 have hsz:=h.size
 have hb0:Below w.heap.size w (w.alloc (.cells #[.int .i64 6,.string (strOfNums tx),.int .i64 nm,.slice ad ks.length c] 24)):=(Zg _ w).alloc (Z0 _) _
 have hcl:=Nh Q BB vn vc vs 6 tx nm ks hks E (O++[s.inn]) [] s.next s.bad vl (.slice none 0 0) (.agg #[.int .i64 6,.string (strOfNums tx),.int .i64 nm,.slice ad ks.length c]) _ (h.below hb0)
  ⟨_,rfl,hkv.above (Zk hb0)⟩ (Zl _ _ _ _) (fun _ _ _ _ _ _ _ e=>by cases e) (by unfold Dr at hF⊢;rw[F9,Z1,Z1];show O.length+1+(O.flatten.length+s.inn.length)+0+0<=s.next+1;omega) (by omega)
 have HE:Hid (Dl E O (.mk 6 tx nm ks) s=⟨(BM E (O++[s.inn]) ks ⟨s.next+1,[],s.bad⟩).next,s.inn,(BM E (O++[s.inn]) ks ⟨s.next+1,[],s.bad⟩).bad⟩):=by show _=_;rw[Dl,if_pos rfl]
 rw[HE.out]
 have HF0:Hid (FrT w (w.alloc (.cells #[.int .i64 6,.string (strOfNums tx),.int .i64 nm,.slice ad ks.length c] 24)) BB Q):=FrT.of_below hb0
 generalize strOfNums tx=x at *
 clear h hkk hkv hks hx1 hu1 hcc hF hN hb0 HE
 generalize BM E (O++[s.inn]) ks ⟨s.next+1,[],s.bad⟩=y at *
 go_enter Tryz.func31,Tryz.ntmps31
 go_wp2_with (first | (go_at_call 16;refine hcl.mono ?_;rintro e w2 ⟨rfl,⟨v2,hc2⟩,hf2⟩))
 exact bodyPost_ret (v:=.tuple #[]) (by simp[results,Tryz.results31,go_sem]) rfl ⟨rfl,⟨v2,hc2⟩,HF0.out.trans hf2⟩
theorem Sp(Q BB:Nat)(vn vc vs:Value):∀(N:Nat) (n:Nd),A4 n<=N->Hh Q BB vn vc vs n:=by
 intro N
 induction N with
 | zero=>intro n hn;cases n with | mk a b c d=>unfold A4 at hn;omega
 | succ N ih=>
  intro n hn
  cases n with
  | mk k tx nm ks=>
   rw[EB]at hn
   have hks:∀i (h:i<ks.length),Hh Q BB vn vc vs ks[i]:=fun i hi=>ih ks[i] (by have:=Ks hi;omega)
   by_cases h6:k=6
   ·subst h6;exact Q1 _ _ _ _ _ _ _ _ hks
   exact RE _ _ _ _ _ _ _ _ _ hks h6
theorem MP(Q BB:Nat)(vn vc vs:Value)(k:Int)(tx:List Int)(nm:Int)(ks:List Nd)(E:BI)(O:List (List ByteArray))(own:List ByteArray)(nx:Nat)(f:Int×Int)(vl vo u:Value)(w:World)(h:Ck w Q BB vn vc vs E nx O f vl)(hu:NodeV w (Low BB Q) u (.mk k tx nm ks))(ho:w.ownsRow BB 9 1 vo own.length (BL own))(ha:∀vis,LocsR w BB vl vis O->∀(i:Nat) (v':Value) (g:Nat),vis[i]?=some v'->v'.ownBlock=some g->vo.ownBlock≠some g)(hF:Dr 0 O ⟨nx+1,own,f⟩)(hN:nx+1+A5 ks<=100000) :
  Calls Tryz.prog 16 #[.pointer (some ⟨Q,0,none⟩),u,vo] w fun e w'=>e=.returned (.tuple #[])/\(∃vl',Ck w' Q BB vn vc vs E (BM E O ks ⟨nx+1,own,f⟩).next O (BM E O ks ⟨nx+1,own,f⟩).bad vl')/\FrT w w' BB Q:=
 Nh Q BB vn vc vs k tx nm ks (fun _ _=>Sp Q BB vn vc vs _ _ (Z0 _)) E O own nx f vl vo u w h hu ho ha hF hN
end Go.Proofs.YtibeadcfgcfdbaaGreatDoor
