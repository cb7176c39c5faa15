/- Texts in one. -/
import Derived.Laws.BitsLemmas
import Derived.WalkKit
namespace Go.Proofs.YtibeadcfgcfdbaaGreatDoor
def wd(W:List Int)(k:Nat):Int:=W.getD k 0
def Bm(b:Int):Bool:=decide (97<=b/\b<=122)||decide (65<=b/\b<=90)||b==95
def Az(b:Int):Bool:=decide (48<=b/\b<=57)
def CZ(b:Int):Bool:=Bm b||Az b
def Bd(b:Int):Bool:=b==32||b==10||b==9
def Cw(b:Int):Bool:=b != 10
theorem J1{b:Int}(h:Bm b=true):Az b=false:=by
 unfold Bm at h;unfold Az
 simp only[Bool.or_eq_true,decide_eq_true_eq,beq_iff_eq]at h
 exact decide_eq_false (by omega)
theorem Hc{b:Int}(h:Az b=true):Bm b=false:=by
 cases hl:Bm b with
 | false=>rfl
 | true=>rw[J1 hl]at h;cases h
def G4(p:Int->Bool)(T:List Int)(i:Nat):Nat->Nat
 | 0=>i
 | m+1=>if p (wd T i)=true then G4 p T (i+1) m else i
def Ac(p:Int->Bool)(T:List Int)(i:Nat):Nat:=G4 p T i (T.length-i)
theorem IU{p:Int->Bool}{T:List Int}{i:Nat}(h:T.length<=i):Ac p T i=i:=by
 unfold Ac;rw[show T.length-i=0 by omega];rfl
theorem Gt{p:Int->Bool}{T:List Int}{i:Nat}(h:i<T.length)(hp:p (wd T i)=true):Ac p T i=Ac p T (i+1):=by
 unfold Ac
 obtain⟨m,hm⟩:∃m,T.length-i=m+1:=⟨T.length-i-1,by omega⟩
 rw[hm,show T.length-(i+1)=m by omega]
 conv=>lhs;unfold G4
 rw[if_pos hp]
theorem JG{p:Int->Bool}{T:List Int}{i:Nat}(hp:p (wd T i)=false):Ac p T i=i:=by
 unfold Ac
 cases T.length-i with
 | zero=>rfl
 | succ m=>unfold G4;rw[if_neg (by rw[hp];decide)]
theorem K4{p:Int->Bool}{T:List Int}:∀(m i:Nat),i<=G4 p T i m/\G4 p T i m<=i+m
 | 0,i=>⟨Nat.le_refl _,Nat.le_refl _⟩
 | m+1,i=>by
  unfold G4
  split
  ·have:=K4 (p:=p) (T:=T) m (i+1);omega
  ·omega
theorem Fo(p:Int->Bool)(T:List Int)(i:Nat):i<=Ac p T i:=(K4 _ i).1
theorem Gu{p:Int->Bool}{T:List Int}{i:Nat}(h:i<=T.length):Ac p T i<=T.length:=by
 have:=(K4 (p:=p) (T:=T) (T.length-i) i).2
 unfold Ac;omega
theorem QV{p:Int->Bool}{T:List Int}{k:Nat}(hk:k<=T.length)(he:k=T.length\/p (wd T k)=false):∀(d i:Nat),k-i<=d->i<=k->(∀j,i<=j->j<k->p (wd T j)=true)->Ac p T i=k
 | 0,i,h1,h2,_=>by
  obtain rfl:i=k:=by omega
  rcases he with he | he
  ·exact IU (by omega)
  ·exact JG he
 | d+1,i,h1,h2,h=>by
  by_cases hi:i=k
  ·subst hi
   rcases he with he | he
   ·exact IU (by omega)
   ·exact JG he
  ·rw[Gt (by omega) (h i (Nat.le_refl _) (by omega))]
   exact QV hk he d (i+1) (by omega) (by omega) fun j h3 h4=>h j (by omega) h4
theorem VM{p:Int->Bool}{T:List Int}{i k:Nat}(hk:k<=T.length)(hi:i<=k)(h:∀j,i<=j->j<k->p (wd T j)=true)(he:k=T.length\/p (wd T k)=false):Ac p T i=k:=QV hk he _ i (Nat.le_refl _) hi h
def Am(T:List Int)(i k:Nat):List Int:=(T.drop i).take (k-i)
theorem DT{T:List Int}{i k:Nat}(h:k<=T.length):(Am T i k).length=k-i:=by
 unfold Am;rw[List.length_take,List.length_drop];omega
theorem Er{T:List Int}{i k j:Nat}(h:j<k-i):wd (Am T i k) j=wd T (i+j):=by
 unfold Am wd;rw[List.getD_eq_getElem?_getD,List.getD_eq_getElem?_getD,List.getElem?_take,if_pos h,List.getElem?_drop]
def SC:List (List Int):=[[99,108,97,115,115],[116,111],[115,108,111,116],[109,97,105,110],[118,97,114],[105,102],[101,108,115,101],[119,104,105,108,101],[114,101,116,117,114,110],[112,114,105,110,116],[102,111,114,107],[119,97,105,116],[115,105,103,110,97,108],[115,119,97,112],[110,101,119],[103,97,116,101],[110,105,108],[115,101,108,102]]
def Ey(s:List Int):Bool:=SC.contains s
def Be(T:List Int)(i:Nat):Nat->Int
 | 0=>0
 | m+1=>10*Be T i m+(wd T (i+m)-48)
def EI(T:List Int)(i:Nat):Nat->Int
 | 0=>0
 | m+1=>if EI T i m<=1073741823 then 10*EI T i m+(wd T (i+m)-48)else EI T i m
def LT(T:List Int)(i m:Nat):Prop:=∀j,j<m->Az (wd T (i+j))=true
theorem Mu{T:List Int}{i m:Nat}(h:LT T i (m+1)):LT T i m/\48<=wd T (i+m)/\wd T (i+m)<=57:=by
 have:=h m (by omega)
 unfold Az at this
 exact⟨fun j hj=>h j (by omega),of_decide_eq_true this⟩
theorem IV{T:List Int}{i:Nat}:∀m,LT T i m->0<=Be T i m
 | 0,_=>Int.le_refl _
 | m+1,h=>by
  obtain⟨h1,h2,h3⟩:=Mu h
  have:=IV m h1
  unfold Be;omega
theorem SD{T:List Int}{i:Nat}{m:Nat}(h:LT T i (m+1)):Be T i m<=Be T i (m+1):=by
 obtain⟨h1,h2,h3⟩:=Mu h
 have:=IV m h1
 have e:Be T i (m+1)=10*Be T i m+(wd T (i+m)-48):=rfl
 omega
theorem QW{T:List Int}{i:Nat}:∀m,LT T i m->(Be T i m<=1073741823->EI T i m=Be T i m)/\(1073741823<Be T i m->1073741823<EI T i m)/\0<=EI T i m/\EI T i m<=10737418239
 | 0,_=>⟨fun _=>rfl,fun h=>by unfold Be at h;omega,by unfold EI;omega,by unfold EI;omega⟩
 | m+1,h=>by
  obtain⟨h1,h2,h3⟩:=Mu h
  obtain⟨c1,c2,c3,c4⟩:=QW m h1
  have hp:=IV m h1
  have hm:=SD h
  have eU:Be T i (m+1)=10*Be T i m+(wd T (i+m)-48):=rfl
  by_cases hc:EI T i m<=1073741823
  ·have hu:Be T i m<=1073741823:=by
    by_cases hx:Be T i m<=1073741823
    ·exact hx
    ·have:=c2 (by omega);omega
   have e:=c1 hu
   have eC:EI T i (m+1)=10*EI T i m+(wd T (i+m)-48):=by
    conv=>lhs;unfold EI
    rw[if_pos hc]
   rw[eC,e,eU]
   exact⟨fun _=>rfl,fun h=>h,by omega,by omega⟩
  ·have eC:EI T i (m+1)=EI T i m:=by
    conv=>lhs;unfold EI
    rw[if_neg hc]
   rw[eC]
   refine⟨fun hx=>?_,fun _=>by omega,c3,c4⟩
   have:=c1 (by omega)
   omega
def FX(T:List Int)(i k:Nat):Bool:=decide (1073741823<Be T i (k-i))||(decide (1<k-i)&&wd T i==48)||(decide (k<T.length)&&Bm (wd T k))
def CG:List Int:=[43,45,42,60,61,33,46,44,59,58,40,41,123,125]
def CH(T:List Int)(i:Nat):Nat:=if i+1<T.length/\wd T i=61/\wd T (i+1)=61 then 2 else if CG.contains (wd T i)=true then 1 else 0
abbrev Tok:=Int×List Int×Nat
inductive Come8
 | skip (k:Nat)
 | tok (t:Tok) (k:Nat)
 | bad (code:Int) (at':Nat)
def BJ(T:List Int)(i:Nat):Come8:=
 if Bd (wd T i)=true then .skip (i+1)
 else if wd T i=35 then .skip (Ac Cw T i)
 else if Bm (wd T i)=true then .tok (if Ey (Am T i (Ac CZ T i))=true then 3 else 1,Am T i (Ac CZ T i),i) (Ac CZ T i)
 else if Az (wd T i)=true then(if FX T i (Ac Az T i)=true then .bad 2 i else .tok (2,Am T i (Ac Az T i),i) (Ac Az T i))
 else if CH T i=0 then .bad 11 i
 else .tok (4,Am T i (i+CH T i),i) (i+CH T i)
def Come8.fits(T:List Int)(i:Nat):Come8->Prop
 | .skip k=>i<k/\k<=T.length
 | .tok _ k=>i<k/\k<=T.length
 | .bad _ a=>a=i
theorem Eb{p:Int->Bool}{T:List Int}{i:Nat}(h:i<T.length)(hp:p (wd T i)=true):i<Ac p T i/\Ac p T i<=T.length:=by
 rw[Gt h hp]
 have:=Fo p T (i+1)
 have:=Gu (p:=p) (T:=T) (i:=i+1) (by omega)
 omega
theorem FY{T:List Int}{i:Nat}(h:i<T.length):(BJ T i).fits T i:=by
 unfold BJ
 split
 ·exact⟨by omega,by omega⟩
 ·split
  ·rename_i h1
   exact Eb h (by unfold Cw;rw[h1];decide)
  ·split
   ·rename_i h1
    exact Eb h (by unfold CZ;rw[h1];rfl)
   ·split
    ·rename_i h1
     split
     ·exact rfl
     ·exact Eb h h1
    ·split
     ·exact rfl
     ·rename_i h1
      refine⟨by omega,?_⟩
      unfold CH
      split
      ·omega
      ·split<;>omega
def Cl(T:List Int):Nat->Nat->Except (Int×Int) (List Tok)
 | 0,_=>.ok []
 | m+1,i=>if i<T.length then(match BJ T i with
   | .skip k=>Cl T m k
   | .tok t k=>(Cl T m k).map (t::·)
   | .bad c a=>.error (c,(a:Int)))else .ok []
theorem Ig{T:List Int}:∀(m m' i:Nat),T.length-i<=m->T.length-i<=m'->Cl T m i=Cl T m' i
 | 0,0,_,_,_=>rfl
 | 0,m'+1,i,h,_=>by unfold Cl;rw[if_neg (by omega)]
 | m+1,0,i,_,h=>by unfold Cl;rw[if_neg (by omega)]
 | m+1,m'+1,i,h,h'=>by
  unfold Cl
  by_cases hi:i<T.length
  ·rw[if_pos hi,if_pos hi]
   have hf:=FY hi
   cases hc:BJ T i with
   | skip k=>rw[hc]at hf;obtain⟨f1,f2⟩:=hf;exact Ig m m' k (by omega) (by omega)
   | tok t k=>rw[hc]at hf;obtain⟨f1,f2⟩:=hf;simp only;rw[Ig m m' k (by omega) (by omega)]
   | bad c a=>rfl
  ·rw[if_neg hi,if_neg hi]
def BO(T:List Int)(i:Nat):Except (Int×Int) (List Tok):=Cl T (T.length-i) i
theorem Tp{T:List Int}{i:Nat}(h:T.length<=i):BO T i=.ok []:=by
 unfold BO;rw[show T.length-i=0 by omega];rfl
theorem Hk{T:List Int}{i:Nat}(h:i<T.length):BO T i=(match BJ T i with
   | .skip k=>BO T k
   | .tok t k=>(BO T k).map (t::·)
   | .bad c a=>.error (c,(a:Int))):=by
 unfold BO
 obtain⟨m,hm⟩:∃m,T.length-i=m+1:=⟨T.length-i-1,by omega⟩
 rw[hm]
 conv=>lhs;unfold Cl
 rw[if_pos h]
 have hf:=FY h
 cases hc:BJ T i with
 | skip k=>rw[hc]at hf;obtain⟨f1,f2⟩:=hf;exact Ig _ _ k (by omega) (by omega)
 | tok t k=>rw[hc]at hf;obtain⟨f1,f2⟩:=hf;simp only;rw[Ig m (T.length-k) k (by omega) (by omega)]
 | bad c a=>rfl
def Cf(T:List Int):Except (Int×Int) (List Tok):=if 4000<T.length then .error (1,0)else BO T 0
def Sofar(T:List Int)(acc:List Tok)(i:Nat):Prop:=i<=T.length/\BO T 0=(BO T i).map (acc++·)
theorem map_id{r:Except (Int×Int) (List Tok)}:r.map (([]:List Tok)++·)=r:=by cases r<;>rfl
theorem L6(T:List Int):Sofar T [] 0:=⟨Nat.zero_le _,map_id.symm⟩
theorem Sofar.done{T:List Int}{acc:List Tok}{i:Nat}(h:Sofar T acc i)(hi:¬i<T.length):BO T 0=.ok acc:=by
 rw[h.2,Tp (by omega)]
 show Except.ok (acc++[])=_
 rw[List.append_nil]
theorem Sofar.skip{T:List Int}{acc:List Tok}{i k:Nat}(h:Sofar T acc i)(hi:i<T.length)(hc:BJ T i=.skip k):Sofar T acc k:=by
 have hf:=FY hi
 rw[hc]at hf
 refine⟨hf.2,?_⟩
 rw[h.2,Hk hi,hc]
theorem Sofar.tok{T:List Int}{acc:List Tok}{i k:Nat}{t:Tok}(h:Sofar T acc i)(hi:i<T.length)(hc:BJ T i=.tok t k):Sofar T (acc++[t]) k:=by
 have hf:=FY hi
 rw[hc]at hf
 refine⟨hf.2,?_⟩
 rw[h.2,Hk hi,hc]
 simp only
 cases BO T k with
 | error e=>rfl
 | ok l=>
  show Except.ok (acc++(t::l))=Except.ok ((acc++[t])++l)
  rw[List.append_assoc];rfl
theorem Sofar.bad{T:List Int}{acc:List Tok}{i a:Nat}{c:Int}(h:Sofar T acc i)(hi:i<T.length)(hc:BJ T i=.bad c a):BO T 0=.error (c,(i:Int)):=by
 have hf:=FY hi
 rw[hc]at hf
 have e:a=i:=hf
 rw[h.2,Hk hi,hc,e]
 rfl
theorem Lx{T:List Int}{i:Nat}(h:Bd (wd T i)=true):BJ T i=.skip (i+1):=by unfold BJ;rw[if_pos h]
theorem NJ{T:List Int}{i:Nat}(h0:Bd (wd T i)=false)(h:wd T i=35):BJ T i=.skip (Ac Cw T i):=by
 unfold BJ;rw[if_neg (by rw[h0];decide),if_pos h]
theorem NK{T:List Int}{i:Nat}(h0:Bd (wd T i)=false)(h1:wd T i≠35)(h:Bm (wd T i)=true):BJ T i=.tok (if Ey (Am T i (Ac CZ T i))=true then 3 else 1,Am T i (Ac CZ T i),i) (Ac CZ T i):=by
 unfold BJ;rw[if_neg (by rw[h0];decide),if_neg h1,if_pos h]
theorem OR{T:List Int}{i:Nat}(h0:Bd (wd T i)=false)(h1:wd T i≠35)(h:Az (wd T i)=true)(hb:FX T i (Ac Az T i)=true):BJ T i=.bad 2 i:=by
 unfold BJ;rw[if_neg (by rw[h0];decide),if_neg h1,if_neg (by rw[Hc h];decide),if_pos h,if_pos hb]
theorem OS{T:List Int}{i:Nat}(h0:Bd (wd T i)=false)(h1:wd T i≠35)(h:Az (wd T i)=true)(hb:FX T i (Ac Az T i)=false):BJ T i=.tok (2,Am T i (Ac Az T i),i) (Ac Az T i):=by
 unfold BJ;rw[if_neg (by rw[h0];decide),if_neg h1,if_neg (by rw[Hc h];decide),if_pos h,if_neg (by rw[hb];decide)]
theorem NL{T:List Int}{i:Nat}(h0:Bd (wd T i)=false)(h1:wd T i≠35)(h2:Bm (wd T i)=false)(h3:Az (wd T i)=false)(h:CH T i=0):BJ T i=.bad 11 i:=by
 unfold BJ;rw[if_neg (by rw[h0];decide),if_neg h1,if_neg (by rw[h2];decide),if_neg (by rw[h3];decide),if_pos h]
theorem NM{T:List Int}{i:Nat}(h0:Bd (wd T i)=false)(h1:wd T i≠35)(h2:Bm (wd T i)=false)(h3:Az (wd T i)=false)(h:CH T i≠0):BJ T i=.tok (4,Am T i (i+CH T i),i) (i+CH T i):=by
 unfold BJ;rw[if_neg (by rw[h0];decide),if_neg h1,if_neg (by rw[h2];decide),if_neg (by rw[h3];decide),if_neg h]
inductive Nd
 | mk (kind:Int) (text:List Int) (num:Int) (kids:List Nd)
structure PS where
 tok:Nat
 deep:Int
 many:Int
abbrev Got (α:Type):Type:=Except (Int×Int) (α×PS)
structure Src9 where
 L:List Tok
 fin:Nat
def Src9.at(S:Src9)(i:Nat):Tok:=S.L.getD i (0,[],0)
def Src9.byte(S:Src9)(s:PS):Int:=if s.tok<S.L.length then((S.at s.tok).2.2:Int)else(S.fin:Int)
def C7{α:Type}(S:Src9)(code:Int)(s:PS):Got α:=.error (code,S.byte s)
def A1(S:Src9)(x:List Int)(s:PS):Bool:=decide (s.tok<S.L.length)&&((S.at s.tok).2.1==x&&((S.at s.tok).1==3||(S.at s.tok).1==4))
def isB(S:Src9)(k:Int)(s:PS):Bool:=decide (s.tok<S.L.length)&&(S.at s.tok).1==k
def PS.step(s:PS):PS:={ s with tok:=s.tok+1 }
def PS.node(s:PS):PS:={ s with many:=s.many+1 }
abbrev AE:List Int:=[40]
abbrev AC:List Int:=[41]
abbrev Ao:List Int:=[123]
abbrev Av:List Int:=[125]
abbrev Al:List Int:=[44]
abbrev AQ:List Int:=[59]
abbrev Dv:List Int:=[58]
abbrev FP:List Int:=[46]
abbrev DU:List Int:=[61]
abbrev EX:List Int:=[60]
abbrev EY:List Int:=[61,61]
abbrev Ez:List Int:=[43]
abbrev B7:List Int:=[45]
abbrev EQ:List Int:=[42]
abbrev Es:List Int:=[33]
abbrev ER:List Int:=[99,108,97,115,115]
abbrev wTo:List Int:=[116,111]
abbrev FC:List Int:=[115,108,111,116]
abbrev Ds:List Int:=[109,97,105,110]
abbrev BD:List Int:=[118,97,114]
abbrev wIf:List Int:=[105,102]
abbrev CU:List Int:=[101,108,115,101]
abbrev B4:List Int:=[119,104,105,108,101]
abbrev B3:List Int:=[114,101,116,117,114,110]
abbrev BH:List Int:=[112,114,105,110,116]
abbrev CN:List Int:=[102,111,114,107]
abbrev Cm:List Int:=[119,97,105,116]
abbrev Bw:List Int:=[115,105,103,110,97,108]
abbrev Dt:List Int:=[115,119,97,112]
abbrev F2:List Int:=[110,101,119]
abbrev DQ:List Int:=[103,97,116,101]
abbrev D8:List Int:=[110,105,108]
abbrev Cu:List Int:=[115,101,108,102]
def A3(S:Src9)(x:List Int)(s:PS):Got Unit:=
 if A1 S x s=true then
  (if x=AE\/x=Ao then(if 20<s.deep+1 then C7 S 13 s else .ok ((),{ s with tok:=s.tok+1,deep:=s.deep+1 }))
   else if x=AC\/x=Av then .ok ((),{ s with tok:=s.tok+1,deep:=s.deep-1 })
   else .ok ((),s.step))
 else C7 S 12 s
def AW(S:Src9)(s:PS):Got (List Int):=if isB S 1 s=true then .ok ((S.at s.tok).2.1,s.step)else C7 S 12 s
def AD(kind:Int)(text:List Int)(num:Int)(kids:List Nd)(s:PS):Got Nd:=.ok (.mk kind text num kids,s.node)
def Got.then{α β:Type}(g:Got α)(f:α->PS->Got β):Got β:=match g with
 | .ok (a,s)=>f a s
 | .error e=>.error e
def ES{α:Type}:Got α:=.error (-1,-1)
def Dn(x:List Int):Int:=Be x 0 x.length
mutual
def CV(S:Src9):Nat->PS->Got Nd
 | 0,_=>ES
 | f+1,s=>(EJ S f s).then fun n s=>
   if A1 S EX s=true then(EJ S f s.step).then fun k s=>AD 18 [] 0 [n,k] s
   else if A1 S EY s=true then(EJ S f s.step).then fun k s=>AD 19 [] 0 [n,k] s
   else .ok (n,s)
def EJ (S:Src9):Nat->PS->Got Nd
 | 0,_=>ES
 | f+1,s=>(DR S f s).then fun n s=>sumL S f n s
def sumL (S:Src9):Nat->Nd->PS->Got Nd
 | 0,_,_=>ES
 | f+1,n,s=>
   if A1 S Ez s=true then(DR S f s.step).then fun k s=>(AD 20 [] 0 [n,k] s).then fun m s=>sumL S f m s
   else if A1 S B7 s=true then(DR S f s.step).then fun k s=>(AD 21 [] 0 [n,k] s).then fun m s=>sumL S f m s
   else .ok (n,s)
def DR (S:Src9):Nat->PS->Got Nd
 | 0,_=>ES
 | f+1,s=>(Ca S f s).then fun n s=>termL S f n s
def termL (S:Src9):Nat->Nd->PS->Got Nd
 | 0,_,_=>ES
 | f+1,n,s=>
   if A1 S EQ s=true then(Ca S f s.step).then fun k s=>(AD 22 [] 0 [n,k] s).then fun m s=>termL S f m s
   else .ok (n,s)
def Ca (S:Src9):Nat->PS->Got Nd
 | 0,_=>ES
 | f+1,s=>
   if A1 S B7 s=true then(Ca S f s.step).then fun k s=>AD 23 [] 0 [k] s
   else if A1 S Es s=true then(Ca S f s.step).then fun k s=>AD 24 [] 0 [k] s
   else Dg S f s
def Dg (S:Src9):Nat->PS->Got Nd
 | 0,_=>ES
 | f+1,s=>(Dh S f s).then fun n s=>callL S f n s
def callL (S:Src9):Nat->Nd->PS->Got Nd
 | 0,_,_=>ES
 | f+1,n,s=>
   if A1 S FP s=true then(AW S s.step).then fun x s=>(A3 S AE s).then fun _ s=>
    (if A1 S AC s=true then .ok ([],s)else DV S f s).then fun ks s=>(A3 S AC s).then fun _ s=>(AD 25 x 0 (n::ks) s).then fun m s=>callL S f m s
   else .ok (n,s)
def DV (S:Src9):Nat->PS->Got (List Nd)
 | 0,_=>ES
 | f+1,s=>(CV S f s).then fun k s=>if A1 S Al s=true then(DV S f s.step).then fun ks s=>.ok (k::ks,s)else .ok ([k],s)
def Dh (S:Src9):Nat->PS->Got Nd
 | 0,_=>ES
 | f+1,s=>
   if isB S 2 s=true then AD 26 [] (Dn (S.at s.tok).2.1) [] s.step
   else if isB S 1 s=true then(AW S s).then fun x s=>AD 31 x 0 [] s
   else if A1 S D8 s=true then AD 27 [] 0 [] s.step
   else if A1 S Cu s=true then AD 28 [] 0 [] s.step
   else if A1 S DQ s=true then AD 29 [] 0 [] s.step
   else if A1 S F2 s=true then(AW S s.step).then fun x s=>AD 30 x 0 [] s
   else(A3 S AE s).then fun _ s=>(CV S f s).then fun n s=>(A3 S AC s).then fun _ s=>.ok (n,s)
end
def Fp(S:Src9)(f:Nat)(kind:Int)(s:PS):Got Nd:=
 (AW S s).then fun x s=>(A3 S DU s).then fun _ s=>(CV S f s).then fun k s=>(A3 S AQ s).then fun _ s=>AD kind x 0 [k] s
def Gc(S:Src9)(f:Nat)(kind:Int)(s:PS):Got Nd:=
 (A3 S AE s).then fun _ s=>(CV S f s).then fun k s=>(A3 S AC s).then fun _ s=>(A3 S AQ s).then fun _ s=>AD kind [] 0 [k] s
def Hy(S:Src9)(f:Nat)(kind:Int)(s:PS):Got Nd:=
 (A3 S AE s).then fun _ s=>(CV S f s).then fun k s=>(A3 S Al s).then fun _ s=>(CV S f s).then fun m s=>(A3 S AC s).then fun _ s=>(A3 S AQ s).then fun _ s=>AD kind [] 0 [k,m] s
def Fq(S:Src9)(f:Nat)(s:PS):Got Nd:=(A3 S AE s).then fun _ s=>(CV S f s).then fun k s=>(A3 S AC s).then fun _ s=>.ok (k,s)
def DD(S:Src9)(s:PS):Bool:=isB S 1 s&&(decide (s.tok+1<S.L.length)&&(S.at (s.tok+1)).2.1==DU)
mutual
def Bz(S:Src9):Nat->PS->Got Nd
 | 0,_=>ES
 | f+1,s=>(A3 S Ao s).then fun _ s=>(Cv S f s).then fun ks s=>(A3 S Av s).then fun _ s=>AD 6 [] 0 ks s
def Cv (S:Src9):Nat->PS->Got (List Nd)
 | 0,_=>ES
 | f+1,s=>if A1 S Av s=true then .ok ([],s)else(Di S f s).then fun k s=>(Cv S f s).then fun ks s=>.ok (k::ks,s)
def Di (S:Src9):Nat->PS->Got Nd
 | 0,_=>ES
 | f+1,s=>
   if A1 S BD s=true then Fp S f 7 s.step
   else if A1 S wIf s=true then(Fq S f s.step).then fun k s=>(Bz S f s).then fun b s=>
    if A1 S CU s=true then(Bz S f s.step).then fun c s=>AD 9 [] 0 [k,b,c] s else AD 9 [] 0 [k,b] s
   else if A1 S B4 s=true then(Fq S f s.step).then fun k s=>(Bz S f s).then fun b s=>AD 10 [] 0 [k,b] s
   else if A1 S B3 s=true then(CV S f s.step).then fun k s=>(A3 S AQ s).then fun _ s=>AD 11 [] 0 [k] s
   else if A1 S BH s=true then Gc S f 12 s.step
   else if A1 S CN s=true then(Bz S f s.step).then fun b s=>AD 13 [] 0 [b] s
   else if A1 S Cm s=true then Gc S f 14 s.step
   else if A1 S Bw s=true then Gc S f 15 s.step
   else if A1 S Dt s=true then Hy S f 16 s.step
   else if DD S s=true then Fp S f 8 s
   else(CV S f s).then fun k s=>(A3 S AQ s).then fun _ s=>AD 17 [] 0 [k] s
end
def Cb(S:Src9):Nat->PS->Got (List Nd)
 | 0,_=>ES
 | f+1,s=>(AW S s).then fun x s=>(AD 5 x 0 [] s).then fun k s=>if A1 S Al s=true then(Cb S f s.step).then fun ks s=>.ok (k::ks,s)else .ok ([k],s)
def DI(S:Src9)(f:Nat)(s:PS):Got Nd:=
 (AW S s).then fun x s=>(A3 S AE s).then fun _ s=>(if A1 S AC s=true then .ok ([],s)else Cb S f s).then fun ks s=>(A3 S AC s).then fun _ s=>(Bz S f s).then fun b s=>AD 4 x (ks.length:Int) (ks++[b]) s
def Bo(S:Src9):Nat->PS->Got (List Nd)
 | 0,_=>ES
 | f+1,s=>if A1 S FC s=true then(AW S s.step).then fun x s=>(A3 S AQ s).then fun _ s=>(AD 3 x 0 [] s).then fun k s=>(Bo S f s).then fun ks s=>.ok (k::ks,s)else .ok ([],s)
def B6(S:Src9):Nat->PS->Got (List Nd)
 | 0,_=>ES
 | f+1,s=>if A1 S wTo s=true then(DI S f s.step).then fun k s=>(B6 S f s).then fun ks s=>.ok (k::ks,s)else .ok ([],s)
def Dm(S:Src9)(f:Nat)(s:PS):Got Nd:=
 (AW S s).then fun x s=>(if A1 S Dv s=true then(AW S s.step).then fun y s=>(AD 31 y 0 [] s).then fun k s=>.ok ([k],s)else .ok ([],s)).then fun up s=>
  (A3 S Ao s).then fun _ s=>(Bo S f s).then fun ks s=>(B6 S f s).then fun ms s=>(A3 S Av s).then fun _ s=>AD 2 x 0 (up++ks++ms) s
def B9(S:Src9):Nat->PS->Got (List Nd)
 | 0,_=>ES
 | f+1,s=>if A1 S ER s=true then(Dm S f s.step).then fun k s=>(B9 S f s).then fun ks s=>.ok (k::ks,s)else .ok ([],s)
def Ec(S:Src9)(f:Nat)(s:PS):Got Nd:=(B9 S f s).then fun ks s=>(A3 S Ds s).then fun _ s=>(Bz S f s).then fun b s=>AD 1 [] 0 (ks++[b]) s
def Cn(S:Src9)(f:Nat):Except (Int×Int) Nd:=match Ec S f ⟨0,0,0⟩with
 | .error e=>.error e
 | .ok (n,s)=>if s.tok<S.L.length then .error (12,S.byte s)else if 600<s.many then .error (1,0)else .ok n
def Co(S:Src9):Nat:=12*S.L.length+20
def Cc(T:List Int):Except (Int×Int) Nd:=match Cf T with
 | .error e=>.error e
 | .ok l=>Cn ⟨l,T.length⟩ (Co ⟨l,T.length⟩)
def Nd.kind:Nd->Int
 | .mk k _ _ _=>k
def Nd.text:Nd->List Int
 | .mk _ t _ _=>t
def Nd.num:Nd->Int
 | .mk _ _ n _=>n
def Nd.kids:Nd->List Nd
 | .mk _ _ _ ks=>ks
mutual
def A4:Nd->Nat
 | .mk _ _ _ ks=>1+A5 ks
def A5:List Nd->Nat
 | []=>0
 | n::ns=>A4 n+A5 ns
end
def C8(x:List Int):Bool:=!x.isEmpty&&(Bm (wd x 0)&&(x.all CZ&&!Ey x))
def AB(x:List Int):List Tok:=[(if Ey x=true then 3 else 4,x,0)]
def D1(x:List Int):Option (List Tok):=if C8 x=true then some [(1,x,0)]else none
def Ad(a b:Option (List Tok)):Option (List Tok):=match a,b with
 | some x,some y=>some (x++y)
 | _,_=>none
def Km:Nat->Nat->List Int
 | 0,_=>[]
 | m+1,n=>if 9<n then Km m (n / 10)++[48+((n % 10:Nat):Int)]else[48+(n:Int)]
def JV(n:Int):List Int:=Km 20 n.toNat
def Vu(n:Int):Option (List Tok):=if 0<=n/\n<=1073741823 then some [(2,JV n,0)]else none
def EC(k:Int):Nat:=if k=18\/k=19 then 0 else if k=20\/k=21 then 1 else if k=22 then 2 else if k=23\/k=24 then 3 else if k=25 then 4 else 5
def G5:List (Option (List Tok))->Option (List Tok)
 | []=>some []
 | [a]=>a
 | a::as=>Ad a (Ad (some (AB Al)) (G5 as))
def Ea:List (Option (List Tok))->Option (List Tok)
 | []=>some []
 | a::as=>Ad a (Ea as)
def Ax:Nat->Nat->Nd->Option (List Tok)
 | 0,_,_=>none
 | f+1,least,.mk k x num ks=>
  if EC k<least then Ad (some (AB AE)) (Ad (Ax f 0 (.mk k x num ks)) (some (AB AC)))
  else if k=18 then betweenW (Ax f) ks EX 1 1
  else if k=19 then betweenW (Ax f) ks EY 1 1
  else if k=20 then betweenW (Ax f) ks Ez 1 2
  else if k=21 then betweenW (Ax f) ks B7 1 2
  else if k=22 then betweenW (Ax f) ks EQ 2 3
  else if k=23 then(match ks with | a::_=>Ad (some (AB B7)) (Ax f 3 a) | []=>none)
  else if k=24 then(match ks with | a::_=>Ad (some (AB Es)) (Ax f 3 a) | []=>none)
  else if k=25 then(match ks with
   | a::as=>Ad (Ax f 4 a) (Ad (some (AB FP)) (Ad (D1 x) (Ad (some (AB AE)) (Ad (G5 (as.map (Ax f 0))) (some (AB AC))))))
   | []=>none)
  else if k=26 then Vu num
  else if k=27 then some (AB D8)
  else if k=28 then some (AB Cu)
  else if k=29 then some (AB DQ)
  else if k=30 then Ad (some (AB F2)) (D1 x)
  else if k=31 then D1 x
  else none
where
 betweenW (g:Nat->Nd->Option (List Tok)) (ks:List Nd) (x:List Int) (l r:Nat):Option (List Tok):=match ks with
  | a::b::_=>Ad (g l a) (Ad (some (AB x)) (g r b))
  | _=>none
def GF(f:Nat)(ks:List Nd):Option (List Tok):=match ks with
 | a::_=>Ad (some (AB AE)) (Ad (Ax f 0 a) (some (AB AC)))
 | []=>none
def EZ(a:Option (List Tok)):Option (List Tok):=Ad a (some (AB AQ))
mutual
def FZ:Nat->Nd->Option (List Tok)
 | 0,_=>none
 | f+1,.mk k _ _ ks=>if k=6 then Ad (some (AB Ao)) (Ad (Ea (ks.map (FD f))) (some (AB Av)))else none
def FD:Nat->Nd->Option (List Tok)
 | 0,_=>none
 | f+1,.mk k x _ ks=>
  (match ks with
  | []=>none
  | a::as=>
   if k=7 then EZ (Ad (some (AB BD)) (Ad (D1 x) (Ad (some (AB DU)) (Ax f 0 a))))
   else if k=8 then EZ (Ad (D1 x) (Ad (some (AB DU)) (Ax f 0 a)))
   else if k=9 then(match as with
    | []=>none
    | b::[]=>Ad (some (AB wIf)) (Ad (GF f ks) (FZ f b))
    | b::c::_=>Ad (some (AB wIf)) (Ad (GF f ks) (Ad (FZ f b) (Ad (some (AB CU)) (FZ f c)))))
   else if k=10 then(match as with
    | []=>none
    | b::_=>Ad (some (AB B4)) (Ad (GF f ks) (FZ f b)))
   else if k=11 then EZ (Ad (some (AB B3)) (Ax f 0 a))
   else if k=12 then EZ (Ad (some (AB BH)) (GF f ks))
   else if k=13 then Ad (some (AB CN)) (FZ f a)
   else if k=14 then EZ (Ad (some (AB Cm)) (GF f ks))
   else if k=15 then EZ (Ad (some (AB Bw)) (GF f ks))
   else if k=16 then(match as with
    | []=>none
    | b::_=>EZ (Ad (some (AB Dt)) (Ad (some (AB AE)) (Ad (Ax f 0 a) (Ad (some (AB Al)) (Ad (Ax f 0 b) (some (AB AC))))))))
   else if k=17 then EZ (Ax f 0 a)
   else none)
end
def R3(ks:List Nd):Option (List Tok):=G5 (ks.dropLast.map fun a=>D1 a.text)
def FO(f:Nat)(n:Nd):Option (List Tok):=
 if n.kind=3 then EZ (Ad (some (AB FC)) (D1 n.text))
 else if n.kind=4 then(match n.kids.getLast? with
  | some b=>Ad (some (AB wTo)) (Ad (D1 n.text) (Ad (some (AB AE)) (Ad (R3 n.kids) (Ad (some (AB AC)) (FZ f b)))))
  | none=>none)
 else none
def ET(f:Nat)(n:Nd):Option (List Tok):=
 Ad (some (AB ER)) (Ad (D1 n.text) (match n.kids with
  | u::ks=>if u.kind=31 then Ad (some (AB Dv)) (Ad (D1 u.text) (bodyW f ks))else bodyW f (u::ks)
  | []=>bodyW f []))
where
 bodyW (f:Nat) (ks:List Nd):Option (List Tok):=Ad (some (AB Ao)) (Ad (Ea (ks.map (FO f))) (some (AB Av)))
def VD(f:Nat)(n:Nd):Option (List Tok):=match n.kids.getLast? with
 | some b=>if n.kind=1 then Ad (Ea (n.kids.dropLast.map (ET f))) (Ad (some (AB Ds)) (FZ f b))else none
 | none=>none
def Fine9(S:Src9){α:Type}(g:Got α)(lo:Nat):Prop:=g≠ES/\∀a s,g=.ok (a,s)->lo<=s.tok/\s.tok<=S.L.length
theorem Fs{S:Src9}{α:Type}{a:α}{s:PS}{lo:Nat}(h:lo<=s.tok)(h':s.tok<=S.L.length):Fine9 S (.ok (a,s):Got α) lo:=
 ⟨fun e=>(by cases e),fun b s' e=>(by cases e;exact⟨h,h'⟩)⟩
theorem Ih{α:Type}{S:Src9}{code:Int}{s:PS}{lo:Nat}(h:code≠-1):Fine9 S (C7 S code s:Got α) lo:=
 ⟨fun e=>(by unfold C7 ES at e;simp only[Except.error.injEq,Prod.mk.injEq]at e;exact h e.1),fun b s' e=>(by cases e)⟩
theorem AL{S:Src9}{α β:Type}{g:Got α}{f:α->PS->Got β}{lo lo':Nat}(h:Fine9 S g lo)(hf:∀a s,lo<=s.tok->s.tok<=S.L.length->Fine9 S (f a s) lo'):Fine9 S (g.then f) lo':=by
 unfold Got.then
 cases g with
 | error e=>exact⟨fun x=>h.1 (by cases x;rfl),fun b s' x=>(by cases x)⟩
 | ok p=>
  obtain⟨a,s⟩:=p
  obtain⟨h1,h2⟩:=h.2 a s rfl
  exact hf a s h1 h2
theorem D2{S:Src9}{α:Type}{g:Got α}{lo lo':Nat}(h:Fine9 S g lo)(hl:lo'<=lo):Fine9 S g lo':=⟨h.1,fun a s e=>⟨Nat.le_trans hl (h.2 a s e).1,(h.2 a s e).2⟩⟩
theorem AH{S:Src9}{x:List Int}{s:PS}(h:A1 S x s=true):s.tok<S.L.length:=by
 unfold A1 at h
 simp only[Bool.and_eq_true,decide_eq_true_eq]at h
 exact h.1
theorem M1{S:Src9}{k:Int}{s:PS}(h:isB S k s=true):s.tok<S.L.length:=by
 unfold isB at h
 simp only[Bool.and_eq_true,decide_eq_true_eq]at h
 exact h.1
theorem Ag(S:Src9)(x:List Int)(s:PS):Fine9 S (A3 S x s) (s.tok+1):=by
 unfold A3
 split
 ·rename_i hs
  have:=AH hs
  split
  ·split
   ·exact Ih (by decide)
   ·exact Fs (Nat.le_refl _) this
  ·split
   ·exact Fs (Nat.le_refl _) this
   ·exact Fs (Nat.le_refl _) this
 ·exact Ih (by decide)
theorem Ba(S:Src9)(s:PS):Fine9 S (AW S s) (s.tok+1):=by
 unfold AW
 split
 ·rename_i hs;exact Fs (Nat.le_refl _) (M1 hs)
 ·exact Ih (by decide)
theorem Cx{S:Src9}{α:Type}{a:α}{s:PS}{lo:Nat}(h:lo<=s.tok)(h':s.tok<=S.L.length:=by first | assumption | exact AH (by assumption) | exact M1 (by assumption)):Fine9 S (.ok (a,s):Got α) lo:=Fs h h'
theorem BP{S:Src9}(kind:Int)(text:List Int)(num:Int)(kids:List Nd)(s:PS){lo:Nat}(h:lo<=s.tok)(h':s.tok<=S.L.length:=by first | assumption | exact AH (by assumption) | exact M1 (by assumption)):Fine9 S (AD kind text num kids s) lo:=Fs h h'
def Src9.left(S:Src9)(s:PS):Nat:=S.L.length-s.tok
theorem Aj{S:Src9}{s s':PS}(h:s.tok<=s'.tok):S.left s'<=S.left s:=by unfold Src9.left;omega
theorem AF{S:Src9}{s s':PS}(hs:s.tok<S.L.length)(h:s.tok+1<=s'.tok):S.left s'+1<=S.left s:=by unfold Src9.left;omega
theorem Ak(s:PS):s.step.tok=s.tok+1:=rfl
theorem BF(s:PS):s.node.tok=s.tok:=rfl
structure Vv(S:Src9)(f:Nat):Prop where
 expr:∀s,12*S.left s+6<=f->Fine9 S (CV S f s) (s.tok+1)
 sum:∀s,12*S.left s+5<=f->Fine9 S (EJ S f s) (s.tok+1)
 sumL:∀n s,12*S.left s+1<=f->s.tok<=S.L.length->Fine9 S (sumL S f n s) s.tok
 term:∀s,12*S.left s+4<=f->Fine9 S (DR S f s) (s.tok+1)
 termL:∀n s,12*S.left s+1<=f->s.tok<=S.L.length->Fine9 S (termL S f n s) s.tok
 unary:∀s,12*S.left s+3<=f->Fine9 S (Ca S f s) (s.tok+1)
 call:∀s,12*S.left s+2<=f->Fine9 S (Dg S f s) (s.tok+1)
 callL:∀n s,12*S.left s+1<=f->s.tok<=S.L.length->Fine9 S (callL S f n s) s.tok
 args:∀s,12*S.left s+7<=f->Fine9 S (DV S f s) (s.tok+1)
 prim:∀s,12*S.left s+1<=f->Fine9 S (Dh S f s) (s.tok+1)
theorem ED(S:Src9):∀f,Vv S f
 | 0=>⟨fun _ h=>(by omega),fun _ h=>(by omega),fun _ _ h _=>(by omega),fun _ h=>(by omega),fun _ _ h _=>(by omega),fun _ h=>(by omega),fun _ h=>(by omega),fun _ _ h _=>(by omega),fun _ h=>(by omega),fun _ h=>(by omega)⟩
 | f+1=>by
  have I:=ED S f
  constructor
  ·intro s h
   rw[CV]
   refine AL (I.sum s (by omega)) fun n s1 h1 e1=>?_
   have l1:=Aj (S:=S) (s:=s) (s':=s1) (by omega)
   split
   ·rename_i hs
    have:=AF (s':=s1.step) (AH hs) (Nat.le_refl _)
    exact AL (I.sum s1.step (by omega)) fun k s2 h2 e2=>BP _ _ _ _ _ (by rw[Ak]at h2;omega)
   ·split
    ·rename_i hs
     have:=AF (s':=s1.step) (AH hs) (Nat.le_refl _)
     exact AL (I.sum s1.step (by omega)) fun k s2 h2 e2=>BP _ _ _ _ _ (by rw[Ak]at h2;omega)
    ·exact Cx h1
  ·intro s h
   rw[EJ]
   refine AL (I.term s (by omega)) fun n s1 h1 e1=>?_
   have l1:=Aj (S:=S) (s:=s) (s':=s1) (by omega)
   exact D2 (I.sumL n s1 (by omega) e1) h1
  ·intro n s h hle
   rw[sumL]
   split
   ·rename_i hs
    have:=AF (s':=s.step) (AH hs) (Nat.le_refl _)
    refine AL (I.term s.step (by omega)) fun k s1 h1 e1=>?_
    rw[Ak]at h1
    have l1:=AF (S:=S) (s:=s) (s':=s1.node) (AH hs) (by rw[BF];omega)
    show Fine9 S (sumL S f _ s1.node) _
    exact D2 (I.sumL _ s1.node (by omega) e1) (by rw[BF];omega)
   ·split
    ·rename_i hs
     have:=AF (s':=s.step) (AH hs) (Nat.le_refl _)
     refine AL (I.term s.step (by omega)) fun k s1 h1 e1=>?_
     rw[Ak]at h1
     have l1:=AF (S:=S) (s:=s) (s':=s1.node) (AH hs) (by rw[BF];omega)
     show Fine9 S (sumL S f _ s1.node) _
     exact D2 (I.sumL _ s1.node (by omega) e1) (by rw[BF];omega)
    ·exact Cx (Nat.le_refl _)
  ·intro s h
   rw[DR]
   refine AL (I.unary s (by omega)) fun n s1 h1 e1=>?_
   have l1:=Aj (S:=S) (s:=s) (s':=s1) (by omega)
   exact D2 (I.termL n s1 (by omega) e1) h1
  ·intro n s h hle
   rw[termL]
   split
   ·rename_i hs
    have:=AF (s':=s.step) (AH hs) (Nat.le_refl _)
    refine AL (I.unary s.step (by omega)) fun k s1 h1 e1=>?_
    rw[Ak]at h1
    have l1:=AF (S:=S) (s:=s) (s':=s1.node) (AH hs) (by rw[BF];omega)
    show Fine9 S (termL S f _ s1.node) _
    exact D2 (I.termL _ s1.node (by omega) e1) (by rw[BF];omega)
   ·exact Cx (Nat.le_refl _)
  ·intro s h
   rw[Ca]
   split
   ·rename_i hs
    have:=AF (s':=s.step) (AH hs) (Nat.le_refl _)
    exact AL (I.unary s.step (by omega)) fun k s1 h1 e1=>BP _ _ _ _ _ (by rw[Ak]at h1;omega)
   ·split
    ·rename_i hs
     have:=AF (s':=s.step) (AH hs) (Nat.le_refl _)
     exact AL (I.unary s.step (by omega)) fun k s1 h1 e1=>BP _ _ _ _ _ (by rw[Ak]at h1;omega)
    ·exact I.call s (by omega)
  ·intro s h
   rw[Dg]
   refine AL (I.prim s (by omega)) fun n s1 h1 e1=>?_
   have l1:=Aj (S:=S) (s:=s) (s':=s1) (by omega)
   exact D2 (I.callL n s1 (by omega) e1) h1
  ·intro n s h hle
   rw[callL]
   split
   ·rename_i hs
    refine AL (Ba S s.step) fun x s1 h1 e1=>AL (Ag S AE s1) fun _ s2 h2 e2=>?_
    rw[Ak]at h1
    have l2:=AF (S:=S) (s:=s) (s':=s2) (AH hs) (by omega)
    refine AL (lo:=s2.tok) ?_ fun ks s3 h3 e3=>?_
    ·split
     ·exact Cx (Nat.le_refl _)
     ·exact D2 (I.args s2 (by omega)) (by omega)
    ·refine AL (Ag S AC s3) fun _ s4 h4 e4=>?_
     have l4:=AF (S:=S) (s:=s) (s':=s4.node) (AH hs) (by rw[BF];omega)
     show Fine9 S (callL S f _ s4.node) _
     exact D2 (I.callL _ s4.node (by omega) e4) (by rw[BF];omega)
   ·exact Cx (Nat.le_refl _)
  ·intro s h
   rw[DV]
   refine AL (I.expr s (by omega)) fun k s1 h1 e1=>?_
   split
   ·rename_i hs
    have l1:=AF (S:=S) (s:=s1) (s':=s1.step) (AH hs) (Nat.le_refl _)
    have l0:=Aj (S:=S) (s:=s) (s':=s1) (by omega)
    exact AL (I.args s1.step (by omega)) fun ks s2 h2 e2=>Cx (by rw[Ak]at h2;omega)
   ·exact Cx h1
  ·intro s h
   rw[Dh]
   split
   ·exact BP _ _ _ _ _ (Nat.le_refl _)
   ·split
    ·exact AL (Ba S s) fun x s1 h1 e1=>BP _ _ _ _ _ h1
    ·split
     ·exact BP _ _ _ _ _ (Nat.le_refl _)
     ·split
      ·exact BP _ _ _ _ _ (Nat.le_refl _)
      ·split
       ·exact BP _ _ _ _ _ (Nat.le_refl _)
       ·split
        ·exact AL (Ba S s.step) fun x s1 h1 e1=>BP _ _ _ _ _ (by rw[Ak]at h1;omega)
        ·by_cases hs:A1 S AE s=true
         ·refine AL (Ag S AE s) fun _ s1 h1 e1=>?_
          have l1:=AF (S:=S) (s:=s) (s':=s1) (AH hs) h1
          refine AL (I.expr s1 (by omega)) fun n s2 h2 e2=>AL (Ag S AC s2) fun _ s3 h3 e3=>Cx (by omega)
         ·have e:A3 S AE s=C7 S 12 s:=by unfold A3;rw[if_neg hs]
          rw[e]
          exact Ih (by decide)
structure VN(S:Src9)(f:Nat):Prop where
 block:∀s,12*S.left s+1<=f->Fine9 S (Bz S f s) (s.tok+1)
 stmts:∀s,12*S.left s+9<=f->s.tok<=S.L.length->Fine9 S (Cv S f s) s.tok
 stmt:∀s,12*S.left s+8<=f->Fine9 S (Di S f s) (s.tok+1)
theorem VO{S:Src9}{x:List Int}{s:PS}(h:¬A1 S x s=true){α:Type}(f:Unit->PS->Got α){lo:Nat}:Fine9 S ((A3 S x s).then f) lo:=by
 have e:A3 S x s=C7 S 12 s:=by unfold A3;rw[if_neg h]
 rw[e]
 exact⟨fun x=>(by simp only[C7,Got.then,ES,Except.error.injEq,Prod.mk.injEq]at x;exact absurd x.1 (by decide)),fun b s' x=>(by simp only[C7,Got.then]at x;cases x)⟩
theorem Mv{S:Src9}{f:Nat}{s s1:PS}(hs:s.tok<S.L.length)(h:12*S.left s+8<=f+1)(h1:s.tok+1<=s1.tok):12*S.left s1+6<=f:=by
 have:=AF (S:=S) hs h1
 omega
theorem NO{S:Src9}{f:Nat}{kind:Int}{s:PS}(h:12*S.left s+6<=f):Fine9 S (Fp S f kind s) (s.tok+1):=by
 unfold Fp
 refine AL (Ba S s) fun x s1 h1 e1=>AL (Ag S DU s1) fun _ s2 h2 e2=>?_
 have l2:=Aj (S:=S) (s:=s) (s':=s2) (by omega)
 refine AL ((ED S f).expr s2 (by omega)) fun k s3 h3 e3=>AL (Ag S AQ s3) fun _ s4 h4 e4=>BP _ _ _ _ _ (by omega)
theorem GO{S:Src9}{f:Nat}{s:PS}(h:12*S.left s+6<=f):Fine9 S (Fq S f s) (s.tok+1):=by
 unfold Fq
 refine AL (Ag S AE s) fun _ s1 h1 e1=>?_
 have l1:=Aj (S:=S) (s:=s) (s':=s1) (by omega)
 exact AL ((ED S f).expr s1 (by omega)) fun k s2 h2 e2=>AL (Ag S AC s2) fun _ s3 h3 e3=>Cx (by omega)
theorem LV{S:Src9}{f:Nat}{kind:Int}{s:PS}(h:12*S.left s+6<=f):Fine9 S (Gc S f kind s) (s.tok+1):=by
 unfold Gc
 refine AL (Ag S AE s) fun _ s1 h1 e1=>?_
 have l1:=Aj (S:=S) (s:=s) (s':=s1) (by omega)
 exact AL ((ED S f).expr s1 (by omega)) fun k s2 h2 e2=>AL (Ag S AC s2) fun _ s3 h3 e3=>AL (Ag S AQ s3) fun _ s4 h4 e4=>BP _ _ _ _ _ (by omega)
theorem Tr{S:Src9}{f:Nat}{kind:Int}{s:PS}(h:12*S.left s+6<=f):Fine9 S (Hy S f kind s) (s.tok+1):=by
 unfold Hy
 refine AL (Ag S AE s) fun _ s1 h1 e1=>?_
 have l1:=Aj (S:=S) (s:=s) (s':=s1) (by omega)
 refine AL ((ED S f).expr s1 (by omega)) fun k s2 h2 e2=>AL (Ag S Al s2) fun _ s3 h3 e3=>?_
 have l3:=Aj (S:=S) (s:=s) (s':=s3) (by omega)
 exact AL ((ED S f).expr s3 (by omega)) fun m s4 h4 e4=>AL (Ag S AC s4) fun _ s5 h5 e5=>AL (Ag S AQ s5) fun _ s6 h6 e6=>BP _ _ _ _ _ (by omega)
theorem IH(S:Src9):∀f,VN S f
 | 0=>⟨fun _ h=>(by omega),fun _ h _=>(by omega),fun _ h=>(by omega)⟩
 | f+1=>by
  have I:=IH S f
  constructor
  ·intro s h
   rw[Bz]
   by_cases hs:A1 S Ao s=true
   ·refine AL (Ag S Ao s) fun _ s1 h1 e1=>?_
    have l1:=AF (S:=S) (s:=s) (s':=s1) (AH hs) h1
    exact AL (I.stmts s1 (by omega) e1) fun ks s2 h2 e2=>AL (Ag S Av s2) fun _ s3 h3 e3=>BP _ _ _ _ _ (by omega)
   ·exact VO hs _
  ·intro s h hle
   rw[Cv]
   split
   ·exact Cx (Nat.le_refl _)
   ·refine AL (I.stmt s (by omega)) fun k s1 h1 e1=>?_
    have l1:=AF (S:=S) (s:=s) (s':=s1) (by omega) h1
    exact AL (I.stmts s1 (by omega) e1) fun ks s2 h2 e2=>Cx (by omega)
  ·intro s h
   rw[Di]
   have nx:∀x,A1 S x s=true->12*S.left s.step+6<=f:=fun x hx=>Mv (AH hx) h (Nat.le_refl _)
   split
   ·rename_i hs;exact D2 (NO (nx _ hs)) (by rw[Ak];omega)
   ·split
    ·rename_i hs
     refine AL (GO (nx _ hs)) fun k s1 h1 e1=>?_
     rw[Ak]at h1
     have l1:=AF (S:=S) (s:=s) (s':=s1) (AH hs) (by omega)
     refine AL (I.block s1 (by omega)) fun b s2 h2 e2=>?_
     split
     ·have l2:=AF (S:=S) (s:=s) (s':=s2.step) (AH hs) (by rw[Ak];omega)
      exact AL (I.block s2.step (by omega)) fun c s3 h3 e3=>BP _ _ _ _ _ (by rw[Ak]at h3;omega)
     ·exact BP _ _ _ _ _ (by omega)
    ·split
     ·rename_i hs
      refine AL (GO (nx _ hs)) fun k s1 h1 e1=>?_
      rw[Ak]at h1
      have l1:=AF (S:=S) (s:=s) (s':=s1) (AH hs) (by omega)
      exact AL (I.block s1 (by omega)) fun b s2 h2 e2=>BP _ _ _ _ _ (by omega)
     ·split
      ·rename_i hs
       refine AL ((ED S f).expr s.step (nx _ hs)) fun k s1 h1 e1=>AL (Ag S AQ s1) fun _ s2 h2 e2=>BP _ _ _ _ _ (by rw[Ak]at h1;omega)
      ·split
       ·rename_i hs;exact D2 (LV (nx _ hs)) (by rw[Ak];omega)
       ·split
        ·rename_i hs
         have l1:=AF (S:=S) (s:=s) (s':=s.step) (AH hs) (Nat.le_refl _)
         exact AL (I.block s.step (by omega)) fun b s1 h1 e1=>BP _ _ _ _ _ (by rw[Ak]at h1;omega)
        ·split
         ·rename_i hs;exact D2 (LV (nx _ hs)) (by rw[Ak];omega)
         ·split
          ·rename_i hs;exact D2 (LV (nx _ hs)) (by rw[Ak];omega)
          ·split
           ·rename_i hs;exact D2 (Tr (nx _ hs)) (by rw[Ak];omega)
           ·split
            ·exact NO (by omega)
            ·exact AL ((ED S f).expr s (by omega)) fun k s1 h1 e1=>AL (Ag S AQ s1) fun _ s2 h2 e2=>BP _ _ _ _ _ (by omega)
theorem I3(S:Src9):∀(f:Nat) (s:PS),12*S.left s+1<=f->Fine9 S (Cb S f s) (s.tok+1)
 | 0,_,h=>by omega
 | f+1,s,h=>by
  rw[Cb]
  refine AL (Ba S s) fun x s1 h1 e1=>?_
  show Fine9 S (if A1 S Al s1.node=true then _ else _) _
  split
  ·rename_i hs
   have l1:=AF (S:=S) (s:=s1.node) (s':=s1.node.step) (AH hs) (Nat.le_refl _)
   have l0:=Aj (S:=S) (s:=s) (s':=s1.node) (by rw[BF];omega)
   exact AL (I3 S f s1.node.step (by omega)) fun ks s2 h2 e2=>Cx (by rw[Ak,BF]at h2;omega)
  ·exact Fs h1 e1
theorem L7{S:Src9}{f:Nat}{s:PS}(h:12*S.left s+10<=f):Fine9 S (DI S f s) (s.tok+1):=by
 unfold DI
 refine AL (Ba S s) fun x s1 h1 e1=>AL (Ag S AE s1) fun _ s2 h2 e2=>?_
 have l2:=Aj (S:=S) (s:=s) (s':=s2) (by omega)
 refine AL (lo:=s2.tok) ?_ fun ks s3 h3 e3=>AL (Ag S AC s3) fun _ s4 h4 e4=>?_
 ·split
  ·exact Fs (Nat.le_refl _) e2
  ·exact D2 (I3 S f s2 (by omega)) (by omega)
 ·have l4:=Aj (S:=S) (s:=s) (s':=s4) (by omega)
  exact AL ((IH S f).block s4 (by omega)) fun b s5 h5 e5=>BP _ _ _ _ _ (by omega)
theorem JY(S:Src9):∀(f:Nat) (s:PS),12*S.left s+1<=f->s.tok<=S.L.length->Fine9 S (Bo S f s) s.tok
 | 0,_,h,_=>by omega
 | f+1,s,h,hle=>by
  rw[Bo]
  split
  ·rename_i hs
   refine AL (Ba S s.step) fun x s1 h1 e1=>AL (Ag S AQ s1) fun _ s2 h2 e2=>?_
   rw[Ak]at h1
   have l2:=AF (S:=S) (s:=s) (s':=s2.node) (AH hs) (by rw[BF];omega)
   show Fine9 S ((Bo S f s2.node).then _) _
   exact AL (JY S f s2.node (by omega) e2) fun ks s3 h3 e3=>Cx (by rw[BF]at h3;omega)
  ·exact Cx (Nat.le_refl _)
theorem K5(S:Src9):∀(f:Nat) (s:PS),12*S.left s+1<=f->s.tok<=S.L.length->Fine9 S (B6 S f s) s.tok
 | 0,_,h,_=>by omega
 | f+1,s,h,hle=>by
  rw[B6]
  split
  ·rename_i hs
   have l1:=AF (S:=S) (s:=s) (s':=s.step) (AH hs) (Nat.le_refl _)
   refine AL (L7 (s:=s.step) (by omega)) fun k s1 h1 e1=>?_
   rw[Ak]at h1
   have l2:=AF (S:=S) (s:=s) (s':=s1) (AH hs) (by omega)
   exact AL (K5 S f s1 (by omega) e1) fun ks s2 h2 e2=>Cx (by omega)
  ·exact Cx (Nat.le_refl _)
theorem M2{S:Src9}{f:Nat}{s:PS}(h:12*S.left s+1<=f):Fine9 S (Dm S f s) (s.tok+1):=by
 unfold Dm
 refine AL (Ba S s) fun x s1 h1 e1=>AL (lo:=s1.tok) ?_ fun up s2 h2 e2=>AL (Ag S Ao s2) fun _ s3 h3 e3=>?_
 ·split
  ·refine AL (Ba S s1.step) fun y s5 h5 e5=>?_
   rw[Ak]at h5
   show Fine9 S (.ok ([_],s5.node)) _
   exact Fs (by rw[BF];omega) e5
  ·exact Cx (Nat.le_refl _)
 ·have l3:=Aj (S:=S) (s:=s) (s':=s3) (by omega)
  refine AL (JY S f s3 (by omega) e3) fun ks s4 h4 e4=>?_
  have l4:=Aj (S:=S) (s:=s) (s':=s4) (by omega)
  exact AL (K5 S f s4 (by omega) e4) fun ms s5 h5 e5=>AL (Ag S Av s5) fun _ s6 h6 e6=>BP _ _ _ _ _ (by omega)
theorem K6(S:Src9):∀(f:Nat) (s:PS),12*S.left s+1<=f->s.tok<=S.L.length->Fine9 S (B9 S f s) s.tok
 | 0,_,h,_=>by omega
 | f+1,s,h,hle=>by
  rw[B9]
  split
  ·rename_i hs
   have l1:=AF (S:=S) (s:=s) (s':=s.step) (AH hs) (Nat.le_refl _)
   refine AL (M2 (s:=s.step) (by omega)) fun k s1 h1 e1=>?_
   rw[Ak]at h1
   have l2:=AF (S:=S) (s:=s) (s':=s1) (AH hs) (by omega)
   exact AL (K6 S f s1 (by omega) e1) fun ks s2 h2 e2=>Cx (by omega)
  ·exact Cx (Nat.le_refl _)
theorem SE(S:Src9):Fine9 S (Ec S (Co S) ⟨0,0,0⟩) 0:=by
 have l0:S.left ⟨0,0,0⟩=S.L.length:=rfl
 unfold Ec
 refine AL (K6 S _ ⟨0,0,0⟩ (by unfold Co;omega) (Nat.zero_le _)) fun ks s1 h1 e1=>AL (Ag S Ds s1) fun _ s2 h2 e2=>?_
 have l2:=Aj (S:=S) (s:=⟨0,0,0⟩) (s':=s2) (Nat.zero_le _)
 exact AL ((IH S _).block s2 (by unfold Co;omega)) fun b s3 h3 e3=>BP _ _ _ _ _ (by omega)
theorem A8{α β:Type}{g g':Got α}{F F':α->PS->Got β}(h:g=g')(hF:∀a s,g=.ok (a,s)->F a s=F' a s):g.then F=g'.then F':=by
 subst h
 unfold Got.then
 cases g with
 | error e=>rfl
 | ok p=>obtain⟨a,s⟩:=p;exact hF a s rfl
theorem Fine9.at{S:Src9}{α:Type}{g:Got α}{lo:Nat}(h:Fine9 S g lo){a:α}{s:PS}(e:g=.ok (a,s)):lo<=s.tok/\s.tok<=S.L.length:=h.2 a s e
structure Wg(S:Src9)(f:Nat):Prop where
 expr:∀s,12*S.left s+6<=f->CV S (f+1) s=CV S f s
 sum:∀s,12*S.left s+5<=f->EJ S (f+1) s=EJ S f s
 sumL:∀n s,12*S.left s+1<=f->sumL S (f+1) n s=sumL S f n s
 term:∀s,12*S.left s+4<=f->DR S (f+1) s=DR S f s
 termL:∀n s,12*S.left s+1<=f->termL S (f+1) n s=termL S f n s
 unary:∀s,12*S.left s+3<=f->Ca S (f+1) s=Ca S f s
 call:∀s,12*S.left s+2<=f->Dg S (f+1) s=Dg S f s
 callL:∀n s,12*S.left s+1<=f->callL S (f+1) n s=callL S f n s
 args:∀s,12*S.left s+7<=f->DV S (f+1) s=DV S f s
 prim:∀s,12*S.left s+1<=f->Dh S (f+1) s=Dh S f s
theorem IX(S:Src9):∀f,Wg S f
 | 0=>⟨fun _ h=>(by omega),fun _ h=>(by omega),fun _ _ h=>(by omega),fun _ h=>(by omega),fun _ _ h=>(by omega),fun _ h=>(by omega),fun _ h=>(by omega),fun _ _ h=>(by omega),fun _ h=>(by omega),fun _ h=>(by omega)⟩
 | f+1=>by
  have I:=IX S f
  have E:=ED S f
  have E1:=ED S (f+1)
  constructor
  ·intro s h
   rw[CV,CV]
   refine A8 (I.sum s (by omega)) fun n s1 e1=>?_
   have h1:=(E1.sum s (by omega)).at e1
   have l1:=Aj (S:=S) (s:=s) (s':=s1) (by omega)
   split
   ·rename_i hs
    have:=AF (s':=s1.step) (AH hs) (Nat.le_refl _)
    exact A8 (I.sum s1.step (by omega)) fun _ _ _=>rfl
   ·split
    ·rename_i hs
     have:=AF (s':=s1.step) (AH hs) (Nat.le_refl _)
     exact A8 (I.sum s1.step (by omega)) fun _ _ _=>rfl
    ·rfl
  ·intro s h
   rw[EJ,EJ]
   refine A8 (I.term s (by omega)) fun n s1 e1=>?_
   have h1:=(E1.term s (by omega)).at e1
   have l1:=Aj (S:=S) (s:=s) (s':=s1) (by omega)
   exact I.sumL n s1 (by omega)
  ·intro n s h
   rw[sumL,sumL]
   split
   ·rename_i hs
    have:=AF (s':=s.step) (AH hs) (Nat.le_refl _)
    refine A8 (I.term s.step (by omega)) fun k s1 e1=>?_
    have h1:=(E1.term s.step (by omega)).at e1
    rw[Ak]at h1
    have l1:=AF (S:=S) (s:=s) (s':=s1.node) (AH hs) (by rw[BF];omega)
    exact I.sumL _ s1.node (by omega)
   ·split
    ·rename_i hs
     have:=AF (s':=s.step) (AH hs) (Nat.le_refl _)
     refine A8 (I.term s.step (by omega)) fun k s1 e1=>?_
     have h1:=(E1.term s.step (by omega)).at e1
     rw[Ak]at h1
     have l1:=AF (S:=S) (s:=s) (s':=s1.node) (AH hs) (by rw[BF];omega)
     exact I.sumL _ s1.node (by omega)
    ·rfl
  ·intro s h
   rw[DR,DR]
   refine A8 (I.unary s (by omega)) fun n s1 e1=>?_
   have h1:=(E1.unary s (by omega)).at e1
   have l1:=Aj (S:=S) (s:=s) (s':=s1) (by omega)
   exact I.termL n s1 (by omega)
  ·intro n s h
   rw[termL,termL]
   split
   ·rename_i hs
    have:=AF (s':=s.step) (AH hs) (Nat.le_refl _)
    refine A8 (I.unary s.step (by omega)) fun k s1 e1=>?_
    have h1:=(E1.unary s.step (by omega)).at e1
    rw[Ak]at h1
    have l1:=AF (S:=S) (s:=s) (s':=s1.node) (AH hs) (by rw[BF];omega)
    exact I.termL _ s1.node (by omega)
   ·rfl
  ·intro s h
   conv=>lhs;rw[Ca]
   conv=>rhs;rw[Ca]
   split
   ·rename_i hs
    have:=AF (s':=s.step) (AH hs) (Nat.le_refl _)
    exact A8 (I.unary s.step (by omega)) fun _ _ _=>rfl
   ·split
    ·rename_i hs
     have:=AF (s':=s.step) (AH hs) (Nat.le_refl _)
     exact A8 (I.unary s.step (by omega)) fun _ _ _=>rfl
    ·exact I.call s (by omega)
  ·intro s h
   rw[Dg,Dg]
   refine A8 (I.prim s (by omega)) fun n s1 e1=>?_
   have h1:=(E1.prim s (by omega)).at e1
   have l1:=Aj (S:=S) (s:=s) (s':=s1) (by omega)
   exact I.callL n s1 (by omega)
  ·intro n s h
   rw[callL,callL]
   split
   ·rename_i hs
    refine A8 rfl fun x s1 e1=>A8 rfl fun u s2 e2=>?_
    have h1:=(Ba S s.step).at e1
    have h2:=(Ag S AE s1).at e2
    rw[Ak]at h1
    have l2:=AF (S:=S) (s:=s) (s':=s2) (AH hs) (by omega)
    refine A8 ?_ fun ks s3 e3=>A8 rfl fun v s4 e4=>?_
    ·split
     ·rfl
     ·exact I.args s2 (by omega)
    ·have h3:s2.tok<=s3.tok:=by
      by_cases hx:A1 S AC s2=true
      ·rw[if_pos hx]at e3;cases e3;exact Nat.le_refl _
      ·rw[if_neg hx]at e3
       have:=(E1.args s2 (by omega)).at e3
       omega
     have h4:=(Ag S AC s3).at e4
     have l4:=AF (S:=S) (s:=s) (s':=s4.node) (AH hs) (by rw[BF];omega)
     exact I.callL _ s4.node (by omega)
   ·rfl
  ·intro s h
   rw[DV,DV]
   refine A8 (I.expr s (by omega)) fun k s1 e1=>?_
   have h1:=(E1.expr s (by omega)).at e1
   split
   ·rename_i hs
    have l1:=AF (S:=S) (s:=s1) (s':=s1.step) (AH hs) (Nat.le_refl _)
    have l0:=Aj (S:=S) (s:=s) (s':=s1) (by omega)
    exact A8 (I.args s1.step (by omega)) fun _ _ _=>rfl
   ·rfl
  ·intro s h
   rw[Dh,Dh]
   split
   ·rfl
   ·split
    ·rfl
    ·split
     ·rfl
     ·split
      ·rfl
      ·split
       ·rfl
       ·split
        ·rfl
        ·by_cases hs:A1 S AE s=true
         ·refine A8 rfl fun u s1 e1=>?_
          have h1:=(Ag S AE s).at e1
          have l1:=AF (S:=S) (s:=s) (s':=s1) (AH hs) (by omega)
          exact A8 (I.expr s1 (by omega)) fun _ _ _=>rfl
         ·have e:A3 S AE s=C7 S 12 s:=by unfold A3;rw[if_neg hs]
          rw[e];rfl
theorem DJ{α:Type}{X:Nat->α}{c:Nat}(h:∀f,c<=f->X (f+1)=X f):∀f,c<=f->X f=X c:=fun f hf=>by
 induction f with
 | zero=>rw[show c=0 by omega]
 | succ f ih=>
  by_cases he:c=f+1
  ·rw[he]
  ·rw[h f (by omega),ih (by omega)]
def AR(S:Src9)(s:PS):Got Nd:=CV S (12*S.left s+6) s
def Br(S:Src9)(s:PS):Got Nd:=EJ S (12*S.left s+5) s
def Dj(S:Src9)(n:Nd)(s:PS):Got Nd:=sumL S (12*S.left s+1) n s
def BT(S:Src9)(s:PS):Got Nd:=DR S (12*S.left s+4) s
def DK(S:Src9)(n:Nd)(s:PS):Got Nd:=termL S (12*S.left s+1) n s
def Aw(S:Src9)(s:PS):Got Nd:=Ca S (12*S.left s+3) s
def E4(S:Src9)(s:PS):Got Nd:=Dg S (12*S.left s+2) s
def Cp(S:Src9)(n:Nd)(s:PS):Got Nd:=callL S (12*S.left s+1) n s
def E5(S:Src9)(s:PS):Got (List Nd):=DV S (12*S.left s+7) s
def DB(S:Src9)(s:PS):Got Nd:=Dh S (12*S.left s+1) s
theorem EU{S:Src9}{s:PS}{f:Nat}(h:12*S.left s+6<=f):CV S f s=AR S s:=DJ (X:=fun f=>CV S f s) (fun f hf=>(IX S f).expr s hf) f h
theorem OL{S:Src9}{s:PS}{f:Nat}(h:12*S.left s+5<=f):EJ S f s=Br S s:=DJ (X:=fun f=>EJ S f s) (fun f hf=>(IX S f).sum s hf) f h
theorem OT{S:Src9}{n:Nd}{s:PS}{f:Nat}(h:12*S.left s+1<=f):sumL S f n s=Dj S n s:=DJ (X:=fun f=>sumL S f n s) (fun f hf=>(IX S f).sumL n s hf) f h
theorem JI{S:Src9}{s:PS}{f:Nat}(h:12*S.left s+4<=f):DR S f s=BT S s:=DJ (X:=fun f=>DR S f s) (fun f hf=>(IX S f).term s hf) f h
theorem QX{S:Src9}{n:Nd}{s:PS}{f:Nat}(h:12*S.left s+1<=f):termL S f n s=DK S n s:=DJ (X:=fun f=>termL S f n s) (fun f hf=>(IX S f).termL n s hf) f h
theorem II{S:Src9}{s:PS}{f:Nat}(h:12*S.left s+3<=f):Ca S f s=Aw S s:=DJ (X:=fun f=>Ca S f s) (fun f hf=>(IX S f).unary s hf) f h
theorem Vw{S:Src9}{s:PS}{f:Nat}(h:12*S.left s+2<=f):Dg S f s=E4 S s:=DJ (X:=fun f=>Dg S f s) (fun f hf=>(IX S f).call s hf) f h
theorem QY{S:Src9}{n:Nd}{s:PS}{f:Nat}(h:12*S.left s+1<=f):callL S f n s=Cp S n s:=DJ (X:=fun f=>callL S f n s) (fun f hf=>(IX S f).callL n s hf) f h
theorem OU{S:Src9}{s:PS}{f:Nat}(h:12*S.left s+7<=f):DV S f s=E5 S s:=DJ (X:=fun f=>DV S f s) (fun f hf=>(IX S f).args s hf) f h
theorem SF{S:Src9}{s:PS}{f:Nat}(h:12*S.left s+1<=f):Dh S f s=DB S s:=DJ (X:=fun f=>Dh S f s) (fun f hf=>(IX S f).prim s hf) f h
theorem OV{S:Src9}{s:PS}{n:Nd}{s1:PS}(e:Br S s=.ok (n,s1)):s.tok+1<=s1.tok/\s1.tok<=S.L.length:=((ED S _).sum s (Nat.le_refl _)).at e
theorem Gv{S:Src9}{s:PS}{n:Nd}{s1:PS}(e:BT S s=.ok (n,s1)):s.tok+1<=s1.tok/\s1.tok<=S.L.length:=((ED S _).term s (Nat.le_refl _)).at e
theorem IY{S:Src9}{s:PS}{n:Nd}{s1:PS}(e:Aw S s=.ok (n,s1)):s.tok+1<=s1.tok/\s1.tok<=S.L.length:=((ED S _).unary s (Nat.le_refl _)).at e
theorem Mw{S:Src9}{s:PS}{n:Nd}{s1:PS}(e:DB S s=.ok (n,s1)):s.tok+1<=s1.tok/\s1.tok<=S.L.length:=((ED S _).prim s (Nat.le_refl _)).at e
theorem IJ{S:Src9}{s:PS}{n:Nd}{s1:PS}(e:AR S s=.ok (n,s1)):s.tok+1<=s1.tok/\s1.tok<=S.L.length:=((ED S _).expr s (Nat.le_refl _)).at e
theorem My{S:Src9}{s:PS}{n:List Nd}{s1:PS}(e:E5 S s=.ok (n,s1)):s.tok+1<=s1.tok/\s1.tok<=S.L.length:=((ED S _).args s (Nat.le_refl _)).at e
theorem IK(S:Src9)(s:PS):AR S s=(Br S s).then fun n s=>
   if A1 S EX s=true then(Br S s.step).then fun k s=>AD 18 [] 0 [n,k] s
   else if A1 S EY s=true then(Br S s.step).then fun k s=>AD 19 [] 0 [n,k] s
   else .ok (n,s):=by
 conv=>lhs;unfold AR;rw[CV]
 refine A8 (OL (Nat.le_refl _)) fun n s1 e1=>?_
 have h1:=OV (by rw[<-OL (Nat.le_refl _)];exact e1)
 have l1:=Aj (S:=S) (s:=s) (s':=s1) (by omega)
 split
 ·rename_i hs
  have:=AF (s':=s1.step) (AH hs) (Nat.le_refl _)
  exact A8 (OL (by omega)) fun _ _ _=>rfl
 ·split
  ·rename_i hs
   have:=AF (s':=s1.step) (AH hs) (Nat.le_refl _)
   exact A8 (OL (by omega)) fun _ _ _=>rfl
  ·rfl
theorem K7(S:Src9)(s:PS):Br S s=(BT S s).then fun n s=>Dj S n s:=by
 conv=>lhs;unfold Br;rw[EJ]
 refine A8 (JI (Nat.le_refl _)) fun n s1 e1=>?_
 have h1:=Gv (by rw[<-JI (Nat.le_refl _)];exact e1)
 have l1:=Aj (S:=S) (s:=s) (s':=s1) (by omega)
 exact OT (by omega)
theorem Gw(S:Src9)(n:Nd)(s:PS):Dj S n s =
   if A1 S Ez s=true then(BT S s.step).then fun k s=>Dj S (.mk 20 [] 0 [n,k]) s.node
   else if A1 S B7 s=true then(BT S s.step).then fun k s=>Dj S (.mk 21 [] 0 [n,k]) s.node
   else .ok (n,s):=by
 conv=>lhs;unfold Dj;rw[sumL]
 split
 ·rename_i hs
  have:=AF (s':=s.step) (AH hs) (Nat.le_refl _)
  refine A8 (JI (by omega)) fun k s1 e1=>?_
  rw[JI (by omega)]at e1
  have h1:=Gv e1
  rw[Ak]at h1
  have l1:=AF (S:=S) (s:=s) (s':=s1.node) (AH hs) (by rw[BF];omega)
  exact OT (by omega)
 ·split
  ·rename_i hs
   have:=AF (s':=s.step) (AH hs) (Nat.le_refl _)
   refine A8 (JI (by omega)) fun k s1 e1=>?_
   rw[JI (by omega)]at e1
   have h1:=Gv e1
   rw[Ak]at h1
   have l1:=AF (S:=S) (s:=s) (s':=s1.node) (AH hs) (by rw[BF];omega)
   exact OT (by omega)
  ·rfl
theorem JJ(S:Src9)(s:PS):BT S s=(Aw S s).then fun n s=>DK S n s:=by
 conv=>lhs;unfold BT;rw[DR]
 refine A8 (II (Nat.le_refl _)) fun n s1 e1=>?_
 have h1:=IY (by rw[<-II (Nat.le_refl _)];exact e1)
 have l1:=Aj (S:=S) (s:=s) (s':=s1) (by omega)
 exact QX (by omega)
theorem Gx(S:Src9)(n:Nd)(s:PS):DK S n s =
   if A1 S EQ s=true then(Aw S s.step).then fun k s=>DK S (.mk 22 [] 0 [n,k]) s.node
   else .ok (n,s):=by
 conv=>lhs;unfold DK;rw[termL]
 split
 ·rename_i hs
  have:=AF (s':=s.step) (AH hs) (Nat.le_refl _)
  refine A8 (II (by omega)) fun k s1 e1=>?_
  rw[II (by omega)]at e1
  have h1:=IY e1
  rw[Ak]at h1
  have l1:=AF (S:=S) (s:=s) (s':=s1.node) (AH hs) (by rw[BF];omega)
  exact QX (by omega)
 ·rfl
theorem Fb(S:Src9)(s:PS):Aw S s =
   if A1 S B7 s=true then(Aw S s.step).then fun k s=>AD 23 [] 0 [k] s
   else if A1 S Es s=true then(Aw S s.step).then fun k s=>AD 24 [] 0 [k] s
   else E4 S s:=by
 conv=>lhs;unfold Aw;rw[Ca]
 split
 ·rename_i hs
  have:=AF (s':=s.step) (AH hs) (Nat.le_refl _)
  exact A8 (II (by omega)) fun _ _ _=>rfl
 ·split
  ·rename_i hs
   have:=AF (s':=s.step) (AH hs) (Nat.le_refl _)
   exact A8 (II (by omega)) fun _ _ _=>rfl
  ·exact Vw (Nat.le_refl _)
theorem JK(S:Src9)(s:PS):E4 S s=(DB S s).then fun n s=>Cp S n s:=by
 conv=>lhs;unfold E4;rw[Dg]
 refine A8 (SF (Nat.le_refl _)) fun n s1 e1=>?_
 have h1:=Mw (by rw[<-SF (Nat.le_refl _)];exact e1)
 have l1:=Aj (S:=S) (s:=s) (s':=s1) (by omega)
 exact QY (by omega)
theorem Gy(S:Src9)(n:Nd)(s:PS):Cp S n s =
   if A1 S FP s=true then(AW S s.step).then fun x s=>(A3 S AE s).then fun _ s=>
    (if A1 S AC s=true then .ok ([],s)else E5 S s).then fun ks s=>(A3 S AC s).then fun _ s=>Cp S (.mk 25 x 0 (n::ks)) s.node
   else .ok (n,s):=by
 conv=>lhs;unfold Cp;rw[callL]
 split
 ·rename_i hs
  refine A8 rfl fun x s1 e1=>A8 rfl fun u s2 e2=>?_
  have h1:=(Ba S s.step).at e1
  have h2:=(Ag S AE s1).at e2
  rw[Ak]at h1
  have l2:=AF (S:=S) (s:=s) (s':=s2) (AH hs) (by omega)
  refine A8 ?_ fun ks s3 e3=>A8 rfl fun v s4 e4=>?_
  ·split
   ·rfl
   ·exact OU (by omega)
  ·have h3:s2.tok<=s3.tok:=by
    by_cases hx:A1 S AC s2=true
    ·rw[if_pos hx]at e3;cases e3;exact Nat.le_refl _
    ·rw[if_neg hx,OU (by omega)]at e3
     have:=My e3
     omega
   have h4:=(Ag S AC s3).at e4
   have l4:=AF (S:=S) (s:=s) (s':=s4.node) (AH hs) (by rw[BF];omega)
   exact QY (by omega)
 ·rfl
theorem Kn(S:Src9)(s:PS):E5 S s=(AR S s).then fun k s=>if A1 S Al s=true then(E5 S s.step).then fun ks s=>.ok (k::ks,s)else .ok ([k],s):=by
 conv=>lhs;unfold E5;rw[DV]
 refine A8 (EU (Nat.le_refl _)) fun k s1 e1=>?_
 have h1:=IJ (by rw[<-EU (Nat.le_refl _)];exact e1)
 split
 ·rename_i hs
  have l1:=AF (S:=S) (s:=s1) (s':=s1.step) (AH hs) (Nat.le_refl _)
  have l0:=Aj (S:=S) (s:=s) (s':=s1) (by omega)
  exact A8 (OU (by omega)) fun _ _ _=>rfl
 ·rfl
theorem Ft(S:Src9)(s:PS):DB S s =
   if isB S 2 s=true then AD 26 [] (Dn (S.at s.tok).2.1) [] s.step
   else if isB S 1 s=true then(AW S s).then fun x s=>AD 31 x 0 [] s
   else if A1 S D8 s=true then AD 27 [] 0 [] s.step
   else if A1 S Cu s=true then AD 28 [] 0 [] s.step
   else if A1 S DQ s=true then AD 29 [] 0 [] s.step
   else if A1 S F2 s=true then(AW S s.step).then fun x s=>AD 30 x 0 [] s
   else(A3 S AE s).then fun _ s=>(AR S s).then fun n s=>(A3 S AC s).then fun _ s=>.ok (n,s):=by
 conv=>lhs;unfold DB;rw[Dh]
 split
 ·rfl
 ·split
  ·rfl
  ·split
   ·rfl
   ·split
    ·rfl
    ·split
     ·rfl
     ·split
      ·rfl
      ·by_cases hs:A1 S AE s=true
       ·refine A8 rfl fun u s1 e1=>?_
        have h1:=(Ag S AE s).at e1
        have l1:=AF (S:=S) (s:=s) (s':=s1) (AH hs) (by omega)
        exact A8 (EU (by omega)) fun _ _ _=>rfl
       ·have e:A3 S AE s=C7 S 12 s:=by unfold A3;rw[if_neg hs]
        rw[e];rfl
theorem B5{α:Type}{c:Prop}[Decidable c]{a a' b b':α}(h:c->a=a')(h':¬c->b=b'):(if c then a else b)=(if c then a' else b'):=by
 by_cases hc:c
 ·rw[if_pos hc,if_pos hc];exact h hc
 ·rw[if_neg hc,if_neg hc];exact h' hc
def Cy(S:Src9)(kind:Int)(s:PS):Got Nd:=
 (AW S s).then fun x s=>(A3 S DU s).then fun _ s=>(AR S s).then fun k s=>(A3 S AQ s).then fun _ s=>AD kind x 0 [k] s
def Bc(S:Src9)(s:PS):Got Nd:=(A3 S AE s).then fun _ s=>(AR S s).then fun k s=>(A3 S AC s).then fun _ s=>.ok (k,s)
def D0(S:Src9)(kind:Int)(s:PS):Got Nd:=
 (A3 S AE s).then fun _ s=>(AR S s).then fun k s=>(A3 S AC s).then fun _ s=>(A3 S AQ s).then fun _ s=>AD kind [] 0 [k] s
def FQ(S:Src9)(kind:Int)(s:PS):Got Nd:=
 (A3 S AE s).then fun _ s=>(AR S s).then fun k s=>(A3 S Al s).then fun _ s=>(AR S s).then fun m s=>(A3 S AC s).then fun _ s=>(A3 S AQ s).then fun _ s=>AD kind [] 0 [k,m] s
theorem JL{S:Src9}{f:Nat}{kind:Int}{s:PS}(h:12*S.left s+6<=f):Fp S f kind s=Cy S kind s:=by
 unfold Fp Cy
 refine A8 rfl fun x s1 e1=>A8 rfl fun u s2 e2=>?_
 have h1:=(Ba S s).at e1
 have h2:=(Ag S DU s1).at e2
 have l2:=Aj (S:=S) (s:=s) (s':=s2) (by omega)
 exact A8 (EU (by omega)) fun _ _ _=>rfl
theorem JM{S:Src9}{f:Nat}{s:PS}(h:12*S.left s+6<=f):Fq S f s=Bc S s:=by
 unfold Fq Bc
 refine A8 rfl fun u s1 e1=>?_
 have h1:=(Ag S AE s).at e1
 have l1:=Aj (S:=S) (s:=s) (s':=s1) (by omega)
 exact A8 (EU (by omega)) fun _ _ _=>rfl
theorem I4{S:Src9}{f:Nat}{kind:Int}{s:PS}(h:12*S.left s+6<=f):Gc S f kind s=D0 S kind s:=by
 unfold Gc D0
 refine A8 rfl fun u s1 e1=>?_
 have h1:=(Ag S AE s).at e1
 have l1:=Aj (S:=S) (s:=s) (s':=s1) (by omega)
 exact A8 (EU (by omega)) fun _ _ _=>rfl
theorem R4{S:Src9}{f:Nat}{kind:Int}{s:PS}(h:12*S.left s+6<=f):Hy S f kind s=FQ S kind s:=by
 unfold Hy FQ
 refine A8 rfl fun u s1 e1=>?_
 have h1:=(Ag S AE s).at e1
 have l1:=Aj (S:=S) (s:=s) (s':=s1) (by omega)
 refine A8 (EU (by omega)) fun k s2 e2=>A8 rfl fun v s3 e3=>?_
 rw[EU (by omega)]at e2
 have h2:=IJ e2
 have h3:=(Ag S Al s2).at e3
 have l3:=Aj (S:=S) (s:=s) (s':=s3) (by omega)
 exact A8 (EU (by omega)) fun _ _ _=>rfl
structure WO(S:Src9)(f:Nat):Prop where
 block:∀s,12*S.left s+1<=f->Bz S (f+1) s=Bz S f s
 stmts:∀s,12*S.left s+9<=f->s.tok<=S.L.length->Cv S (f+1) s=Cv S f s
 stmt:∀s,12*S.left s+8<=f->Di S (f+1) s=Di S f s
theorem OW{S:Src9}{x:List Int}{s:PS}(h:¬A1 S x s=true){α:Type}(F F':Unit->PS->Got α):(A3 S x s).then F=(A3 S x s).then F':=by
 have e:A3 S x s=C7 S 12 s:=by unfold A3;rw[if_neg h]
 rw[e];rfl
theorem OM(S:Src9):∀f,WO S f
 | 0=>⟨fun _ h=>(by omega),fun _ h _=>(by omega),fun _ h=>(by omega)⟩
 | f+1=>by
  have I:=OM S f
  have E1:=IH S (f+1)
  constructor
  ·intro s h
   conv=>lhs;rw[Bz]
   conv=>rhs;rw[Bz]
   by_cases hs:A1 S Ao s=true
   ·refine A8 rfl fun u s1 e1=>?_
    have h1:=(Ag S Ao s).at e1
    have l1:=AF (S:=S) (s:=s) (s':=s1) (AH hs) (by omega)
    exact A8 (I.stmts s1 (by omega) h1.2) fun _ _ _=>rfl
   ·exact OW hs _ _
  ·intro s h hle
   conv=>lhs;rw[Cv]
   conv=>rhs;rw[Cv]
   split
   ·rfl
   ·refine A8 (I.stmt s (by omega)) fun k s1 e1=>?_
    have h1:=(E1.stmt s (by omega)).at e1
    have l1:=AF (S:=S) (s:=s) (s':=s1) (by omega) (by omega)
    exact A8 (I.stmts s1 (by omega) h1.2) fun _ _ _=>rfl
  ·intro s h
   conv=>lhs;rw[Di]
   conv=>rhs;rw[Di]
   have nx:∀x,A1 S x s=true->12*S.left s.step+6<=f:=fun x hx=>Mv (AH hx) (by omega) (Nat.le_refl _)
   refine B5 (fun hs=>?_) fun _=>B5 (fun hs=>?_) fun _=>B5 (fun hs=>?_) fun _=>B5 (fun hs=>?_) fun _=>B5 (fun hs=>?_) fun _=>B5 (fun hs=>?_) fun _=>B5 (fun hs=>?_) fun _=>B5 (fun hs=>?_) fun _=>B5 (fun hs=>?_) fun _=>B5 (fun hs=>?_) fun _=>?_
   ·rw[JL (by have:=nx _ hs;omega),JL (nx _ hs)]
   ·have hx:=nx _ hs
    refine A8 (by rw[JM (by omega),JM hx]) fun k s1 e1=>?_
    have h1:=(GO (S:=S) (f:=f+1) (s:=s.step) (by omega)).at e1
    rw[Ak]at h1
    have l1:=AF (S:=S) (s:=s) (s':=s1) (AH hs) (by omega)
    refine A8 (I.block s1 (by omega)) fun b s2 e2=>?_
    have h2:=(E1.block s1 (by omega)).at e2
    refine B5 (fun _=>?_) fun _=>rfl
    have l2:=AF (S:=S) (s:=s) (s':=s2.step) (AH hs) (by rw[Ak];omega)
    exact A8 (I.block s2.step (by omega)) fun _ _ _=>rfl
   ·have hx:=nx _ hs
    refine A8 (by rw[JM (by omega),JM hx]) fun k s1 e1=>?_
    have h1:=(GO (S:=S) (f:=f+1) (s:=s.step) (by omega)).at e1
    rw[Ak]at h1
    have l1:=AF (S:=S) (s:=s) (s':=s1) (AH hs) (by omega)
    exact A8 (I.block s1 (by omega)) fun _ _ _=>rfl
   ·have hx:=nx _ hs
    exact A8 (by rw[EU (by omega),EU hx]) fun _ _ _=>rfl
   ·rw[I4 (by have:=nx _ hs;omega),I4 (nx _ hs)]
   ·have l1:=AF (S:=S) (s:=s) (s':=s.step) (AH hs) (Nat.le_refl _)
    exact A8 (I.block s.step (by omega)) fun _ _ _=>rfl
   ·rw[I4 (by have:=nx _ hs;omega),I4 (nx _ hs)]
   ·rw[I4 (by have:=nx _ hs;omega),I4 (nx _ hs)]
   ·rw[R4 (by have:=nx _ hs;omega),R4 (nx _ hs)]
   ·rw[JL (by omega),JL (by omega)]
   ·exact A8 (by rw[EU (by omega),EU (by omega)]) fun _ _ _=>rfl
def AP(S:Src9)(s:PS):Got Nd:=Bz S (12*S.left s+1) s
def CI(S:Src9)(s:PS):Got (List Nd):=Cv S (12*S.left s+9) s
def CO(S:Src9)(s:PS):Got Nd:=Di S (12*S.left s+8) s
theorem Fu{S:Src9}{s:PS}{f:Nat}(h:12*S.left s+1<=f):Bz S f s=AP S s:=DJ (X:=fun f=>Bz S f s) (fun f hf=>(OM S f).block s hf) f h
theorem QZ{S:Src9}{s:PS}{f:Nat}(h:12*S.left s+9<=f)(hle:s.tok<=S.L.length):Cv S f s=CI S s:=DJ (X:=fun f=>Cv S f s) (fun f hf=>(OM S f).stmts s hf hle) f h
theorem SG{S:Src9}{s:PS}{f:Nat}(h:12*S.left s+8<=f):Di S f s=CO S s:=DJ (X:=fun f=>Di S f s) (fun f hf=>(OM S f).stmt s hf) f h
theorem LW{S:Src9}{s:PS}{n:Nd}{s1:PS}(e:AP S s=.ok (n,s1)):s.tok+1<=s1.tok/\s1.tok<=S.L.length:=((IH S _).block s (Nat.le_refl _)).at e
theorem Mz{S:Src9}{s:PS}{n:Nd}{s1:PS}(e:CO S s=.ok (n,s1)):s.tok+1<=s1.tok/\s1.tok<=S.L.length:=((IH S _).stmt s (Nat.le_refl _)).at e
theorem LX(S:Src9)(s:PS):AP S s=(A3 S Ao s).then fun _ s=>(CI S s).then fun ks s=>(A3 S Av s).then fun _ s=>AD 6 [] 0 ks s:=by
 conv=>lhs;unfold AP;rw[Bz]
 by_cases hs:A1 S Ao s=true
 ·refine A8 rfl fun u s1 e1=>?_
  have h1:=(Ag S Ao s).at e1
  have l1:=AF (S:=S) (s:=s) (s':=s1) (AH hs) (by omega)
  exact A8 (QZ (by omega) h1.2) fun _ _ _=>rfl
 ·exact OW hs _ _
theorem IZ(S:Src9)(s:PS)(hle:s.tok<=S.L.length):CI S s=if A1 S Av s=true then .ok ([],s)else(CO S s).then fun k s=>(CI S s).then fun ks s=>.ok (k::ks,s):=by
 conv=>lhs;unfold CI;rw[Cv]
 split
 ·rfl
 ·refine A8 (SG (by omega)) fun k s1 e1=>?_
  rw[SG (by omega)]at e1
  have h1:=Mz e1
  have l1:=AF (S:=S) (s:=s) (s':=s1) (by omega) (by omega)
  exact A8 (QZ (by omega) h1.2) fun _ _ _=>rfl
theorem CJ(S:Src9)(s:PS):CO S s =
   if A1 S BD s=true then Cy S 7 s.step
   else if A1 S wIf s=true then(Bc S s.step).then fun k s=>(AP S s).then fun b s=>
    if A1 S CU s=true then(AP S s.step).then fun c s=>AD 9 [] 0 [k,b,c] s else AD 9 [] 0 [k,b] s
   else if A1 S B4 s=true then(Bc S s.step).then fun k s=>(AP S s).then fun b s=>AD 10 [] 0 [k,b] s
   else if A1 S B3 s=true then(AR S s.step).then fun k s=>(A3 S AQ s).then fun _ s=>AD 11 [] 0 [k] s
   else if A1 S BH s=true then D0 S 12 s.step
   else if A1 S CN s=true then(AP S s.step).then fun b s=>AD 13 [] 0 [b] s
   else if A1 S Cm s=true then D0 S 14 s.step
   else if A1 S Bw s=true then D0 S 15 s.step
   else if A1 S Dt s=true then FQ S 16 s.step
   else if DD S s=true then Cy S 8 s
   else(AR S s).then fun k s=>(A3 S AQ s).then fun _ s=>AD 17 [] 0 [k] s:=by
 conv=>lhs;unfold CO;rw[Di]
 have nx:∀x,A1 S x s=true->12*S.left s.step+6<=12*S.left s+7:=fun x hx=>Mv (AH hx) (Nat.le_refl _) (Nat.le_refl _)
 refine B5 (fun hs=>?_) fun _=>B5 (fun hs=>?_) fun _=>B5 (fun hs=>?_) fun _=>B5 (fun hs=>?_) fun _=>B5 (fun hs=>?_) fun _=>B5 (fun hs=>?_) fun _=>B5 (fun hs=>?_) fun _=>B5 (fun hs=>?_) fun _=>B5 (fun hs=>?_) fun _=>B5 (fun hs=>?_) fun _=>?_
 ·exact JL (nx _ hs)
 ·have hx:=nx _ hs
  refine A8 (JM hx) fun k s1 e1=>?_
  have h1:=(GO (S:=S) (s:=s.step) hx).at e1
  rw[Ak]at h1
  have l1:=AF (S:=S) (s:=s) (s':=s1) (AH hs) (by omega)
  refine A8 (Fu (by omega)) fun b s2 e2=>?_
  rw[Fu (by omega)]at e2
  have h2:=LW e2
  refine B5 (fun _=>?_) fun _=>rfl
  have l2:=AF (S:=S) (s:=s) (s':=s2.step) (AH hs) (by rw[Ak];omega)
  exact A8 (Fu (by omega)) fun _ _ _=>rfl
 ·have hx:=nx _ hs
  refine A8 (JM hx) fun k s1 e1=>?_
  have h1:=(GO (S:=S) (s:=s.step) hx).at e1
  rw[Ak]at h1
  have l1:=AF (S:=S) (s:=s) (s':=s1) (AH hs) (by omega)
  exact A8 (Fu (by omega)) fun _ _ _=>rfl
 ·exact A8 (EU (nx _ hs)) fun _ _ _=>rfl
 ·exact I4 (nx _ hs)
 ·have l1:=AF (S:=S) (s:=s) (s':=s.step) (AH hs) (Nat.le_refl _)
  exact A8 (Fu (by omega)) fun _ _ _=>rfl
 ·exact I4 (nx _ hs)
 ·exact I4 (nx _ hs)
 ·exact R4 (nx _ hs)
 ·exact JL (by omega)
 ·exact A8 (EU (by omega)) fun _ _ _=>rfl
theorem MA(S:Src9):∀(f:Nat) (s:PS),12*S.left s+1<=f->Cb S (f+1) s=Cb S f s
 | 0,_,h=>by omega
 | f+1,s,h=>by
  conv=>lhs;rw[Cb]
  conv=>rhs;rw[Cb]
  refine A8 rfl fun x s1 e1=>A8 rfl fun k s2 e2=>B5 (fun hs=>?_) fun _=>rfl
  cases e2
  have h1:=(Ba S s).at e1
  have l1:=AF (S:=S) (s:=s1.node) (s':=s1.node.step) (AH hs) (Nat.le_refl _)
  have l0:=Aj (S:=S) (s:=s) (s':=s1.node) (by rw[BF];omega)
  exact A8 (MA S f s1.node.step (by omega)) fun _ _ _=>rfl
def EE(S:Src9)(s:PS):Got (List Nd):=Cb S (12*S.left s+1) s
theorem Qf{S:Src9}{s:PS}{f:Nat}(h:12*S.left s+1<=f):Cb S f s=EE S s:=DJ (X:=fun f=>Cb S f s) (fun f hf=>MA S f s hf) f h
theorem U4{S:Src9}{s:PS}{n:List Nd}{s1:PS}(e:EE S s=.ok (n,s1)):s.tok+1<=s1.tok/\s1.tok<=S.L.length:=(I3 S _ s (Nat.le_refl _)).at e
theorem Oi(S:Src9)(s:PS):EE S s=(AW S s).then fun x s=>(AD 5 x 0 [] s).then fun k s=>if A1 S Al s=true then(EE S s.step).then fun ks s=>.ok (k::ks,s)else .ok ([k],s):=by
 conv=>lhs;unfold EE;rw[Cb]
 refine A8 rfl fun x s1 e1=>A8 rfl fun k s2 e2=>B5 (fun hs=>?_) fun _=>rfl
 cases e2
 have h1:=(Ba S s).at e1
 have l1:=AF (S:=S) (s:=s1.node) (s':=s1.node.step) (AH hs) (Nat.le_refl _)
 have l0:=Aj (S:=S) (s:=s) (s':=s1.node) (by rw[BF];omega)
 exact A8 (Qf (by omega)) fun _ _ _=>rfl
def Gg(S:Src9)(s:PS):Got (List Nd):=if A1 S AC s=true then .ok ([],s)else EE S s
def D7(S:Src9)(s:PS):Got Nd:=
 (AW S s).then fun x s=>(A3 S AE s).then fun _ s=>(Gg S s).then fun ks s=>(A3 S AC s).then fun _ s=>(AP S s).then fun b s=>AD 4 x (ks.length:Int) (ks++[b]) s
theorem H4{S:Src9}{f:Nat}{s:PS}(h:12*S.left s+10<=f):DI S f s=D7 S s:=by
 unfold DI D7 Gg
 refine A8 rfl fun x s1 e1=>A8 rfl fun u s2 e2=>?_
 have h1:=(Ba S s).at e1
 have h2:=(Ag S AE s1).at e2
 have l2:=Aj (S:=S) (s:=s) (s':=s2) (by omega)
 refine A8 (B5 (fun _=>rfl) fun _=>Qf (by omega)) fun ks s3 e3=>A8 rfl fun v s4 e4=>?_
 have h3:s2.tok<=s3.tok:=by
  split at e3
  ·cases e3;exact Nat.le_refl _
  ·have:=(I3 S f s2 (by omega)).at e3;omega
 have h4:=(Ag S AC s3).at e4
 have l4:=Aj (S:=S) (s:=s) (s':=s4) (by omega)
 exact A8 (Fu (by omega)) fun _ _ _=>rfl
theorem Ho{S:Src9}{s:PS}{n:Nd}{s1:PS}(e:D7 S s=.ok (n,s1)):s.tok+1<=s1.tok/\s1.tok<=S.L.length:=by
 rw[<-H4 (Nat.le_refl _)]at e
 exact(L7 (Nat.le_refl _)).at e
theorem MB(S:Src9):∀(f:Nat) (s:PS),12*S.left s+1<=f->Bo S (f+1) s=Bo S f s
 | 0,_,h=>by omega
 | f+1,s,h=>by
  conv=>lhs;rw[Bo]
  conv=>rhs;rw[Bo]
  refine B5 (fun hs=>A8 rfl fun x s1 e1=>A8 rfl fun u s2 e2=>A8 rfl fun k s3 e3=>?_) fun _=>rfl
  cases e3
  have h1:=(Ba S s.step).at e1
  have h2:=(Ag S AQ s1).at e2
  rw[Ak]at h1
  have l2:=AF (S:=S) (s:=s) (s':=s2.node) (AH hs) (by rw[BF];omega)
  exact A8 (MB S f s2.node (by omega)) fun _ _ _=>rfl
def Cd(S:Src9)(s:PS):Got (List Nd):=Bo S (12*S.left s+1) s
theorem N2{S:Src9}{s:PS}{f:Nat}(h:12*S.left s+1<=f):Bo S f s=Cd S s:=DJ (X:=fun f=>Bo S f s) (fun f hf=>MB S f s hf) f h
theorem Oj{S:Src9}{s:PS}{n:List Nd}{s1:PS}(hle:s.tok<=S.L.length)(e:Cd S s=.ok (n,s1)):s.tok<=s1.tok/\s1.tok<=S.L.length:=(JY S _ s (Nat.le_refl _) hle).at e
theorem Ok(S:Src9)(s:PS):Cd S s=if A1 S FC s=true then(AW S s.step).then fun x s=>(A3 S AQ s).then fun _ s=>(AD 3 x 0 [] s).then fun k s=>(Cd S s).then fun ks s=>.ok (k::ks,s)else .ok ([],s):=by
 conv=>lhs;unfold Cd;rw[Bo]
 refine B5 (fun hs=>A8 rfl fun x s1 e1=>A8 rfl fun u s2 e2=>A8 rfl fun k s3 e3=>?_) fun _=>rfl
 cases e3
 have h1:=(Ba S s.step).at e1
 have h2:=(Ag S AQ s1).at e2
 rw[Ak]at h1
 have l2:=AF (S:=S) (s:=s) (s':=s2.node) (AH hs) (by rw[BF];omega)
 exact A8 (N2 (by omega)) fun _ _ _=>rfl
theorem KG(S:Src9):∀(f:Nat) (s:PS),12*S.left s+1<=f->B6 S (f+1) s=B6 S f s
 | 0,_,h=>by omega
 | f+1,s,h=>by
  conv=>lhs;rw[B6]
  conv=>rhs;rw[B6]
  refine B5 (fun hs=>?_) fun _=>rfl
  have l1:=AF (S:=S) (s:=s) (s':=s.step) (AH hs) (Nat.le_refl _)
  refine A8 (by rw[H4 (by omega),H4 (by omega)]) fun k s1 e1=>?_
  rw[H4 (by omega)]at e1
  have h1:=Ho e1
  rw[Ak]at h1
  have l2:=AF (S:=S) (s:=s) (s':=s1) (AH hs) (by omega)
  exact A8 (KG S f s1 (by omega)) fun _ _ _=>rfl
def C4(S:Src9)(s:PS):Got (List Nd):=B6 S (12*S.left s+1) s
theorem NS{S:Src9}{s:PS}{f:Nat}(h:12*S.left s+1<=f):B6 S f s=C4 S s:=DJ (X:=fun f=>B6 S f s) (fun f hf=>KG S f s hf) f h
theorem I8(S:Src9)(s:PS):C4 S s=if A1 S wTo s=true then(D7 S s.step).then fun k s=>(C4 S s).then fun ks s=>.ok (k::ks,s)else .ok ([],s):=by
 conv=>lhs;unfold C4;rw[B6]
 refine B5 (fun hs=>?_) fun _=>rfl
 have l1:=AF (S:=S) (s:=s) (s':=s.step) (AH hs) (Nat.le_refl _)
 refine A8 (H4 (by omega)) fun k s1 e1=>?_
 rw[H4 (by omega)]at e1
 have h1:=Ho e1
 rw[Ak]at h1
 have l2:=AF (S:=S) (s:=s) (s':=s1) (AH hs) (by omega)
 exact A8 (NS (by omega)) fun _ _ _=>rfl
def upC(S:Src9)(s:PS):Got (List Nd):=if A1 S Dv s=true then(AW S s.step).then fun y s=>(AD 31 y 0 [] s).then fun k s=>.ok ([k],s)else .ok ([],s)
def D9(S:Src9)(s:PS):Got Nd:=
 (AW S s).then fun x s=>(upC S s).then fun up s=>(A3 S Ao s).then fun _ s=>(Cd S s).then fun ks s=>(C4 S s).then fun ms s=>(A3 S Av s).then fun _ s=>AD 2 x 0 (up++ks++ms) s
theorem WW{S:Src9}{s:PS}{n:List Nd}{s1:PS}(hle:s.tok<=S.L.length)(e:upC S s=.ok (n,s1)):s.tok<=s1.tok/\s1.tok<=S.L.length:=by
 unfold upC at e
 split at e
 ·cases hn:AW S s.step with
  | error e'=>rw[hn]at e;cases e
  | ok y=>
   obtain⟨x,s2⟩:=y
   rw[hn]at e
   have h1:=(Ba S s.step).at hn
   rw[Ak]at h1
   cases e
   rw[BF]
   omega
 ·cases e;exact⟨Nat.le_refl _,hle⟩
theorem IP{S:Src9}{f:Nat}{s:PS}(h:12*S.left s+1<=f):Dm S f s=D9 S s:=by
 unfold Dm D9
 refine A8 rfl fun x s1 e1=>A8 rfl fun up s2 e2=>A8 rfl fun u s3 e3=>?_
 have h1:=(Ba S s).at e1
 have h2:=WW h1.2 e2
 have h3:=(Ag S Ao s2).at e3
 have l3:=Aj (S:=S) (s:=s) (s':=s3) (by omega)
 refine A8 (N2 (by omega)) fun ks s4 e4=>?_
 rw[N2 (by omega)]at e4
 have h4:=Oj h3.2 e4
 have l4:=Aj (S:=S) (s:=s) (s':=s4) (by omega)
 exact A8 (NS (by omega)) fun _ _ _=>rfl
theorem Jb{S:Src9}{s:PS}{n:Nd}{s1:PS}(e:D9 S s=.ok (n,s1)):s.tok+1<=s1.tok/\s1.tok<=S.L.length:=by
 rw[<-IP (Nat.le_refl _)]at e
 exact(M2 (Nat.le_refl _)).at e
theorem KH(S:Src9):∀(f:Nat) (s:PS),12*S.left s+1<=f->B9 S (f+1) s=B9 S f s
 | 0,_,h=>by omega
 | f+1,s,h=>by
  conv=>lhs;rw[B9]
  conv=>rhs;rw[B9]
  refine B5 (fun hs=>?_) fun _=>rfl
  have l1:=AF (S:=S) (s:=s) (s':=s.step) (AH hs) (Nat.le_refl _)
  refine A8 (by rw[IP (by omega),IP (by omega)]) fun k s1 e1=>?_
  rw[IP (by omega)]at e1
  have h1:=Jb e1
  rw[Ak]at h1
  have l2:=AF (S:=S) (s:=s) (s':=s1) (AH hs) (by omega)
  exact A8 (KH S f s1 (by omega)) fun _ _ _=>rfl
def Bt(S:Src9)(s:PS):Got (List Nd):=B9 S (12*S.left s+1) s
theorem NT{S:Src9}{s:PS}{f:Nat}(h:12*S.left s+1<=f):B9 S f s=Bt S s:=DJ (X:=fun f=>B9 S f s) (fun f hf=>KH S f s hf) f h
theorem Jc(S:Src9)(s:PS):Bt S s=if A1 S ER s=true then(D9 S s.step).then fun k s=>(Bt S s).then fun ks s=>.ok (k::ks,s)else .ok ([],s):=by
 conv=>lhs;unfold Bt;rw[B9]
 refine B5 (fun hs=>?_) fun _=>rfl
 have l1:=AF (S:=S) (s:=s) (s':=s.step) (AH hs) (Nat.le_refl _)
 refine A8 (IP (by omega)) fun k s1 e1=>?_
 rw[IP (by omega)]at e1
 have h1:=Jb e1
 rw[Ak]at h1
 have l2:=AF (S:=S) (s:=s) (s':=s1) (AH hs) (by omega)
 exact A8 (NT (by omega)) fun _ _ _=>rfl
def F0(S:Src9)(s:PS):Got Nd:=(Bt S s).then fun ks s=>(A3 S Ds s).then fun _ s=>(AP S s).then fun b s=>AD 1 [] 0 (ks++[b]) s
theorem KI(S:Src9):Ec S (Co S) ⟨0,0,0⟩=F0 S ⟨0,0,0⟩:=by
 have l0:S.left ⟨0,0,0⟩=S.L.length:=rfl
 unfold Ec F0
 refine A8 (NT (by unfold Co;omega)) fun ks s1 e1=>A8 rfl fun u s2 e2=>?_
 have l2:=Aj (S:=S) (s:=⟨0,0,0⟩) (s':=s2) (Nat.zero_le _)
 exact A8 (Fu (by unfold Co;omega)) fun _ _ _=>rfl
def PS.ex(s:PS):Int:=s.many-(s.tok:Int)
theorem CM(s:PS):s.step.ex=s.ex-1:=by
 have e1:s.step.many=s.many:=rfl
 have e2:s.step.tok=s.tok+1:=rfl
 unfold PS.ex
 rw[e1,e2]
 omega
theorem GX(s:PS):s.node.ex=s.ex+1:=by
 have e1:s.node.many=s.many+1:=rfl
 have e2:s.node.tok=s.tok:=rfl
 unfold PS.ex
 rw[e1,e2]
 omega
def CS{α:Type}(g:Got α)(c:Int):Prop:=∀a s,g=.ok (a,s)->s.ex<=c
theorem Bn{α:Type}{a:α}{s:PS}{c:Int}(h:s.ex<=c):CS (.ok (a,s):Got α) c:=fun b s' e=>(by cases e;exact h)
theorem C5{α:Type}{e:Int×Int}{c:Int}:CS (.error e:Got α) c:=fun b s' e=>(by cases e)
theorem AM{α β:Type}{g:Got α}{f:α->PS->Got β}{c c':Int}(h:CS g c)(hf:∀a s,s.ex<=c->CS (f a s) c'):CS (g.then f) c':=by
 unfold Got.then
 cases g with
 | error e=>exact C5
 | ok p=>
  obtain⟨a,s⟩:=p
  exact hf a s (h a s rfl)
theorem DM{α:Type}{g:Got α}{c c':Int}(h:CS g c)(hl:c<=c'):CS g c':=fun a s e=>Int.le_trans (h a s e) hl
theorem BA(S:Src9)(x:List Int)(s:PS):CS (A3 S x s) (s.ex-1):=by
 unfold A3
 split
 ·split
  ·split
   ·exact C5
   ·exact Bn (by unfold PS.ex;dsimp only;omega)
  ·split
   ·exact Bn (by unfold PS.ex;dsimp only;omega)
   ·exact Bn (by rw[CM];omega)
 ·exact C5
theorem Em(S:Src9)(s:PS):CS (AW S s) (s.ex-1):=by
 unfold AW
 split
 ·exact Bn (by rw[CM];omega)
 ·exact C5
theorem BR{kind:Int}{x:List Int}{num:Int}{ks:List Nd}{s:PS}{c:Int}(h:s.ex+1<=c):CS (AD kind x num ks s) c:=Bn (by rw[GX];exact h)
structure Wd(S:Src9)(f:Nat):Prop where
 expr:∀s,CS (CV S f s) s.ex
 sum:∀s,CS (EJ S f s) s.ex
 sumL:∀n s,CS (sumL S f n s) s.ex
 term:∀s,CS (DR S f s) s.ex
 termL:∀n s,CS (termL S f n s) s.ex
 unary:∀s,CS (Ca S f s) s.ex
 call:∀s,CS (Dg S f s) s.ex
 callL:∀n s,CS (callL S f n s) s.ex
 args:∀s,CS (DV S f s) s.ex
 prim:∀s,CS (Dh S f s) s.ex
theorem Iw(S:Src9):∀f,Wd S f
 | 0=>⟨fun _=>C5,fun _=>C5,fun _ _=>C5,fun _=>C5,fun _ _=>C5,fun _=>C5,fun _=>C5,fun _ _=>C5,fun _=>C5,fun _=>C5⟩
 | f+1=>by
  have I:=Iw S f
  constructor
  ·intro s
   rw[CV]
   refine AM (I.sum s) fun n s1 h1=>?_
   split
   ·exact AM (I.sum s1.step) fun k s2 h2=>BR (by rw[CM]at h2;omega)
   ·split
    ·exact AM (I.sum s1.step) fun k s2 h2=>BR (by rw[CM]at h2;omega)
    ·exact Bn h1
  ·intro s
   rw[EJ]
   exact AM (I.term s) fun n s1 h1=>DM (I.sumL n s1) h1
  ·intro n s
   rw[sumL]
   split
   ·refine AM (I.term s.step) fun k s1 h1=>?_
    rw[CM]at h1
    show CS (sumL S f _ s1.node) _
    exact DM (I.sumL _ s1.node) (by rw[GX];omega)
   ·split
    ·refine AM (I.term s.step) fun k s1 h1=>?_
     rw[CM]at h1
     show CS (sumL S f _ s1.node) _
     exact DM (I.sumL _ s1.node) (by rw[GX];omega)
    ·exact Bn (Int.le_refl _)
  ·intro s
   rw[DR]
   exact AM (I.unary s) fun n s1 h1=>DM (I.termL n s1) h1
  ·intro n s
   rw[termL]
   split
   ·refine AM (I.unary s.step) fun k s1 h1=>?_
    rw[CM]at h1
    show CS (termL S f _ s1.node) _
    exact DM (I.termL _ s1.node) (by rw[GX];omega)
   ·exact Bn (Int.le_refl _)
  ·intro s
   rw[Ca]
   split
   ·exact AM (I.unary s.step) fun k s1 h1=>BR (by rw[CM]at h1;omega)
   ·split
    ·exact AM (I.unary s.step) fun k s1 h1=>BR (by rw[CM]at h1;omega)
    ·exact I.call s
  ·intro s
   rw[Dg]
   exact AM (I.prim s) fun n s1 h1=>DM (I.callL n s1) h1
  ·intro n s
   rw[callL]
   split
   ·refine AM (Em S s.step) fun x s1 h1=>AM (BA S AE s1) fun _ s2 h2=>?_
    rw[CM]at h1
    refine AM (c:=s2.ex) ?_ fun ks s3 h3=>?_
    ·split
     ·exact Bn (Int.le_refl _)
     ·exact I.args s2
    ·refine AM (BA S AC s3) fun _ s4 h4=>?_
     show CS (callL S f _ s4.node) _
     exact DM (I.callL _ s4.node) (by rw[GX];omega)
   ·exact Bn (Int.le_refl _)
  ·intro s
   rw[DV]
   refine AM (I.expr s) fun k s1 h1=>?_
   split
   ·exact AM (I.args s1.step) fun ks s2 h2=>Bn (by rw[CM]at h2;omega)
   ·exact Bn h1
  ·intro s
   rw[Dh]
   split
   ·exact BR (by rw[CM];omega)
   ·split
    ·exact AM (Em S s) fun x s1 h1=>BR (by omega)
    ·split
     ·exact BR (by rw[CM];omega)
     ·split
      ·exact BR (by rw[CM];omega)
      ·split
       ·exact BR (by rw[CM];omega)
       ·split
        ·exact AM (Em S s.step) fun x s1 h1=>BR (by rw[CM]at h1;omega)
        ·exact AM (BA S AE s) fun _ s1 h1=>AM (I.expr s1) fun n s2 h2=>AM (BA S AC s2) fun _ s3 h3=>Bn (by omega)
theorem Np(S:Src9)(f:Nat)(kind:Int)(s:PS):CS (Fp S f kind s) (s.ex-2):=
 AM (Em S s) fun _ s1 _=>AM (BA S DU s1) fun _ s2 _=>AM ((Iw S f).expr s2) fun _ s3 _=>AM (BA S AQ s3) fun _ s4 _=>BR (by omega)
theorem Nq(S:Src9)(f:Nat)(s:PS):CS (Fq S f s) (s.ex-2):=
 AM (BA S AE s) fun _ s1 _=>AM ((Iw S f).expr s1) fun _ s2 _=>AM (BA S AC s2) fun _ s3 _=>Bn (by omega)
theorem Lq(S:Src9)(f:Nat)(kind:Int)(s:PS):CS (Gc S f kind s) (s.ex-2):=
 AM (BA S AE s) fun _ s1 _=>AM ((Iw S f).expr s1) fun _ s2 _=>AM (BA S AC s2) fun _ s3 _=>AM (BA S AQ s3) fun _ s4 _=>BR (by omega)
theorem Um(S:Src9)(f:Nat)(kind:Int)(s:PS):CS (Hy S f kind s) (s.ex-2):=
 AM (BA S AE s) fun _ s1 _=>AM ((Iw S f).expr s1) fun _ s2 _=>AM (BA S Al s2) fun _ s3 _=>AM ((Iw S f).expr s3) fun _ s4 _=>AM (BA S AC s4) fun _ s5 _=>AM (BA S AQ s5) fun _ s6 _=>BR (by omega)
structure We(S:Src9)(f:Nat):Prop where
 block:∀s,CS (Bz S f s) (s.ex-1)
 stmts:∀s,CS (Cv S f s) s.ex
 stmt:∀s,CS (Di S f s) s.ex
theorem Re(S:Src9):∀f,We S f
 | 0=>⟨fun _=>C5,fun _=>C5,fun _=>C5⟩
 | f+1=>by
  have I:=Re S f
  constructor
  ·intro s
   rw[Bz]
   exact AM (BA S Ao s) fun _ s1 h1=>AM (I.stmts s1) fun ks s2 h2=>AM (BA S Av s2) fun _ s3 h3=>BR (by omega)
  ·intro s
   rw[Cv]
   split
   ·exact Bn (Int.le_refl _)
   ·exact AM (I.stmt s) fun k s1 h1=>AM (I.stmts s1) fun ks s2 h2=>Bn (by omega)
  ·intro s
   rw[Di]
   have hst:=CM s
   split
   ·exact DM (Np S f 7 s.step) (by omega)
   ·split
    ·refine AM (Nq S f s.step) fun k s1 h1=>AM (I.block s1) fun b s2 h2=>?_
     split
     ·exact AM (I.block s2.step) fun c s3 h3=>BR (by rw[CM]at h3;omega)
     ·exact BR (by omega)
    ·split
     ·exact AM (Nq S f s.step) fun k s1 h1=>AM (I.block s1) fun b s2 h2=>BR (by omega)
     ·split
      ·exact AM ((Iw S f).expr s.step) fun k s1 h1=>AM (BA S AQ s1) fun _ s2 h2=>BR (by omega)
      ·split
       ·exact DM (Lq S f 12 s.step) (by omega)
       ·split
        ·exact AM (I.block s.step) fun b s1 h1=>BR (by omega)
        ·split
         ·exact DM (Lq S f 14 s.step) (by omega)
         ·split
          ·exact DM (Lq S f 15 s.step) (by omega)
          ·split
           ·exact DM (Um S f 16 s.step) (by omega)
           ·split
            ·exact DM (Np S f 8 s) (by omega)
            ·exact AM ((Iw S f).expr s) fun k s1 h1=>AM (BA S AQ s1) fun _ s2 h2=>BR (by omega)
theorem MZ(S:Src9):∀(f:Nat) (s:PS),CS (Cb S f s) s.ex
 | 0,_=>C5
 | f+1,s=>by
  rw[Cb]
  refine AM (Em S s) fun x s1 h1=>?_
  show CS (if A1 S Al s1.node=true then _ else _) _
  have e:=GX s1
  split
  ·exact AM (MZ S f s1.node.step) fun ks s2 h2=>Bn (by rw[CM]at h2;omega)
  ·exact Bn (by omega)
theorem Q7(S:Src9)(f:Nat)(s:PS):CS (DI S f s) s.ex:=by
 unfold DI
 refine AM (Em S s) fun x s1 h1=>AM (BA S AE s1) fun _ s2 h2=>AM (c:=s2.ex) ?_ fun ks s3 h3=>AM (BA S AC s3) fun _ s4 h4=>AM ((Re S f).block s4) fun b s5 h5=>BR (by omega)
 split
 ·exact Bn (Int.le_refl _)
 ·exact MZ S f s2
theorem Ma(S:Src9):∀(f:Nat) (s:PS),CS (Bo S f s) s.ex
 | 0,_=>C5
 | f+1,s=>by
  rw[Bo]
  split
  ·refine AM (Em S s.step) fun x s1 h1=>AM (BA S AQ s1) fun _ s2 h2=>?_
   rw[CM]at h1
   show CS ((Bo S f s2.node).then _) _
   exact AM (Ma S f s2.node) fun ks s3 h3=>Bn (by rw[GX]at h3;omega)
  ·exact Bn (Int.le_refl _)
theorem KZ(S:Src9):∀(f:Nat) (s:PS),CS (B6 S f s) s.ex
 | 0,_=>C5
 | f+1,s=>by
  rw[B6]
  split
  ·exact AM (Q7 S f s.step) fun k s1 h1=>AM (KZ S f s1) fun ks s2 h2=>Bn (by rw[CM]at h1;omega)
  ·exact Bn (Int.le_refl _)
theorem Rf(S:Src9)(f:Nat)(s:PS):CS (Dm S f s) s.ex:=by
 unfold Dm
 refine AM (Em S s) fun x s1 h1=>AM (c:=s1.ex) ?_ fun up s2 h2=>AM (BA S Ao s2) fun _ s3 h3=>AM (Ma S f s3) fun ks s4 h4=>AM (KZ S f s4) fun ms s5 h5=>AM (BA S Av s5) fun _ s6 h6=>BR (by omega)
 split
 ·refine AM (Em S s1.step) fun y s2 h2=>?_
  rw[CM]at h2
  exact Bn (by rw[GX];omega)
 ·exact Bn (Int.le_refl _)
theorem Ka(S:Src9):∀(f:Nat) (s:PS),CS (B9 S f s) s.ex
 | 0,_=>C5
 | f+1,s=>by
  rw[B9]
  split
  ·exact AM (Rf S f s.step) fun k s1 h1=>AM (Ka S f s1) fun ks s2 h2=>Bn (by rw[CM]at h1;omega)
  ·exact Bn (Int.le_refl _)
theorem TB(S:Src9)(f:Nat)(s:PS):CS (Ec S f s) s.ex:=by
 unfold Ec
 exact AM (Ka S f s) fun ks s1 h1=>AM (BA S Ds s1) fun _ s2 h2=>AM ((Re S f).block s2) fun b s3 h3=>BR (by omega)
theorem TC{S:Src9}{n:Nd}{s:PS}(h:F0 S ⟨0,0,0⟩=.ok (n,s)):s.many<=(S.L.length:Int):=by
 rw[<-KI]at h
 have h1:=TB S _ _ n s h
 have h2:=((SE S).at h).2
 have e:PS.ex ⟨0,0,0⟩=0:=rfl
 rw[e]at h1
 unfold PS.ex at h1
 omega
theorem Js{b:Int}{j:Nat}(hj:j<14)(h:CG.getD j 0=b):CG.contains b=true:=by
 rw[List.contains_iff_mem,<-h,List.getD_eq_getElem?_getD,List.getElem?_eq_getElem (show j<CG.length from hj)]
 exact List.getElem_mem _
theorem Kb{b:Int}(h:∀j,j<14->CG.getD j 0≠b):CG.contains b=false:=by
 cases hw:CG.contains b with
 | false=>rfl
 | true=>
  obtain⟨j,hj,e⟩:=List.mem_iff_getElem.1 (List.contains_iff_mem.1 hw)
  have hj':j<14:=hj
  refine absurd ?_ (h j hj')
  rw[List.getD_eq_getElem?_getD,List.getElem?_eq_getElem hj]
  exact e
theorem Nr{T:List Int}{i:Nat}(h:i<T.length):CH (Am T i T.length) 0=CH T i:=by
 have hl:=DT (T:=T) (i:=i) (Nat.le_refl T.length)
 have e0:wd (Am T i T.length) 0=wd T i:=by rw[Er (by omega),Nat.add_zero]
 unfold CH
 rw[e0,hl]
 by_cases h1:i+1<T.length
 ·have e1:wd (Am T i T.length) (0+1)=wd T (i+1):=by rw[Nat.zero_add,Er (by omega)]
  rw[e1]
  by_cases h2:wd T i=61/\wd T (i+1)=61
  ·rw[if_pos ⟨by omega,h2⟩,if_pos ⟨h1,h2⟩]
  ·rw[if_neg (c:=0+1<T.length-i/\wd T i=61/\wd T (i+1)=61) fun h=>h2 h.2,if_neg (c:=i+1<T.length/\wd T i=61/\wd T (i+1)=61) fun h=>h2 h.2]
 ·rw[if_neg (c:=0+1<T.length-i/\wd T i=61/\wd (Am T i T.length) (0+1)=61) (fun h=>by omega),if_neg (c:=i+1<T.length/\wd T i=61/\wd T (i+1)=61) (fun h=>h1 h.1)]
theorem Vl{T:List Int}{i:Nat}(h:i<T.length):i+CH T i<=T.length:=by
 unfold CH
 split
 ·omega
 ·split<;>omega
def Upto(p:Int->Bool)(T:List Int)(i k:Nat):Prop:=i<=k/\k<=T.length/\∀j,i<=j->j<k->p (wd T j)=true
theorem IF{p:Int->Bool}{T:List Int}{i:Nat}(h:i<=T.length):Upto p T i i:=⟨Nat.le_refl _,h,fun j h1 h2=>by omega⟩
theorem Upto.step{p:Int->Bool}{T:List Int}{i k:Nat}(h:Upto p T i k)(hk:k<T.length)(hp:p (wd T k)=true):Upto p T i (k+1):=
 ⟨by have:=h.1;omega,hk,fun j h1 h2=>by
  by_cases hj:j=k
  ·rw[hj];exact hp
  ·exact h.2.2 j h1 (by omega)⟩
theorem Upto.stop{p:Int->Bool}{T:List Int}{i k:Nat}(h:Upto p T i k)(he:¬k<T.length\/p (wd T k)=false):Ac p T i=k:=by
 refine VM h.2.1 h.1 h.2.2 ?_
 rcases he with he | he
 ·exact Or.inl (by have:=h.2.1;omega)
 ·exact Or.inr he
theorem Kc{T:List Int}:∀(m i:Nat) (l:List Tok),Cl T m i=.ok l->l.length<=T.length-i
 | 0,i,l,h=>by unfold Cl at h;cases h;simp
 | m+1,i,l,h=>by
  unfold Cl at h
  split at h
  ·rename_i hi
   have hf:=FY hi
   cases hc:BJ T i with
   | skip k=>
    rw[hc]at h hf
    have:=Kc m k l h
    have:=hf.1
    omega
   | tok t k=>
    rw[hc]at h hf
    simp only at h
    cases hs:Cl T m k with
    | error e=>rw[hs]at h;cases h
    | ok l'=>
     rw[hs]at h
     cases h
     have:=Kc m k l' hs
     have:=hf.1
     have:=hf.2
     rw[List.length_cons]
     omega
   | bad c a=>rw[hc]at h;cases h
  ·cases h
   simp
theorem Lr{T:List Int}{l:List Tok}(h:Cf T=.ok l):l.length<=T.length/\T.length<=4000:=by
 unfold Cf at h
 split at h
 ·cases h
 ·have:=Kc _ _ _ h
  exact⟨by omega,by omega⟩
abbrev Z0:=@Nat.le_refl
abbrev Z1:=@List.length_append
abbrev Z2:=@List.getD_eq_getElem?_getD
abbrev Z3:=@Nat.zero_le
abbrev Z4:=@List.drop_eq_getElem_cons
abbrev Z5:=@Nat.lt_of_lt_of_le
abbrev Z6:=@List.getElem_mem
abbrev Z7:=@List.mem_cons_self
abbrev Z8:=@List.mem_cons_of_mem
abbrev Z9:=@List.drop_eq_nil_of_le
abbrev Za:=@Nat.le_trans
abbrev Zb:=@List.getElem_append_left
abbrev Zc:=@List.getElem_append_right
abbrev Zd:=@List.eq_nil_of_length_eq_zero
end Go.Proofs.YtibeadcfgcfdbaaGreatDoor
