/- Texts in one. -/
import Derived.Laws.BitsLemmas
import Derived.WalkKit
namespace Go.Proofs.YtbglpanjpadldaaGreatDoor
def wd(W:List Int)(k:Nat):Int:=W.getD k 0
def Bk(b:Int):Bool:=decide (97<=b/\b<=122)||decide (65<=b/\b<=90)||b==95
def Ah(b:Int):Bool:=decide (48<=b/\b<=57)
def Ba(b:Int):Bool:=Bk b||Ah b
def Ay(b:Int):Bool:=b==32||b==10||b==9
def DI(b:Int):Bool:=b != 10
theorem Nk{b:Int}(h:Bk b=true):Ah b=false:=by
 unfold Bk at h;unfold Ah
 simp only[Bool.or_eq_true,decide_eq_true_eq,beq_iff_eq]at h
 exact decide_eq_false (by omega)
theorem Hm{b:Int}(h:Ah b=true):Bk b=false:=by
 cases hl:Bk b with
 | false=>rfl
 | true=>rw[Nk hl]at h;cases h
def F0(p:Int->Bool)(T:List Int)(i:Nat):Nat->Nat
 | 0=>i
 | m+1=>if p (wd T i)=true then F0 p T (i+1) m else i
def AO(p:Int->Bool)(T:List Int)(i:Nat):Nat:=F0 p T i (T.length-i)
theorem Gh{p:Int->Bool}{T:List Int}{i:Nat}(h:T.length<=i):AO p T i=i:=by
 unfold AO;rw[show T.length-i=0 by omega];rfl
theorem Fo{p:Int->Bool}{T:List Int}{i:Nat}(h:i<T.length)(hp:p (wd T i)=true):AO p T i=AO p T (i+1):=by
 unfold AO
 obtain⟨m,hm⟩:∃m,T.length-i=m+1:=⟨T.length-i-1,by omega⟩
 rw[hm,show T.length-(i+1)=m by omega]
 conv=>lhs;unfold F0
 rw[if_pos hp]
theorem Hq{p:Int->Bool}{T:List Int}{i:Nat}(hp:p (wd T i)=false):AO p T i=i:=by
 unfold AO
 cases T.length-i with
 | zero=>rfl
 | succ m=>unfold F0;rw[if_neg (by rw[hp];decide)]
theorem Im{p:Int->Bool}{T:List Int}:∀(m i:Nat),i<=F0 p T i m/\F0 p T i m<=i+m
 | 0,i=>⟨Nat.le_refl _,Nat.le_refl _⟩
 | m+1,i=>by
  unfold F0
  split
  ·have:=Im (p:=p) (T:=T) m (i+1);omega
  ·omega
theorem Ei(p:Int->Bool)(T:List Int)(i:Nat):i<=AO p T i:=(Im _ i).1
theorem Fp{p:Int->Bool}{T:List Int}{i:Nat}(h:i<=T.length):AO p T i<=T.length:=by
 have:=(Im (p:=p) (T:=T) (T.length-i) i).2
 unfold AO;omega
theorem OT{p:Int->Bool}{T:List Int}{k:Nat}(hk:k<=T.length)(he:k=T.length\/p (wd T k)=false):∀(d i:Nat),k-i<=d->i<=k->(∀j,i<=j->j<k->p (wd T j)=true)->AO p T i=k
 | 0,i,h1,h2,_=>by
  obtain rfl:i=k:=by omega
  rcases he with he | he
  ·exact Gh (by omega)
  ·exact Hq he
 | d+1,i,h1,h2,h=>by
  by_cases hi:i=k
  ·subst hi
   rcases he with he | he
   ·exact Gh (by omega)
   ·exact Hq he
  ·rw[Fo (by omega) (h i (Nat.le_refl _) (by omega))]
   exact OT hk he d (i+1) (by omega) (by omega) fun j h3 h4=>h j (by omega) h4
theorem LL{p:Int->Bool}{T:List Int}{i k:Nat}(hk:k<=T.length)(hi:i<=k)(h:∀j,i<=j->j<k->p (wd T j)=true)(he:k=T.length\/p (wd T k)=false):AO p T i=k:=OT hk he _ i (Nat.le_refl _) hi h
def Am(T:List Int)(i k:Nat):List Int:=(T.drop i).take (k-i)
theorem Bz{T:List Int}{i k:Nat}(h:k<=T.length):(Am T i k).length=k-i:=by
 unfold Am;rw[List.length_take,List.length_drop];omega
theorem DO{T:List Int}{i k j:Nat}(h:j<k-i):wd (Am T i k) j=wd T (i+j):=by
 unfold Am wd;rw[List.getD_eq_getElem?_getD,List.getD_eq_getElem?_getD,List.getElem?_take,if_pos h,List.getElem?_drop]
def Io:List (List Int):=[[99,108,97,115,115],[116,111],[115,108,111,116],[109,97,105,110],[118,97,114],[105,102],[101,108,115,101],[119,104,105,108,101],[114,101,116,117,114,110],[112,114,105,110,116],[102,111,114,107],[119,97,105,116],[115,105,103,110,97,108],[115,119,97,112],[110,101,119],[103,97,116,101],[110,105,108],[115,101,108,102]]
def DJ(s:List Int):Bool:=Io.contains s
def CF(T:List Int)(i:Nat):Nat->Int
 | 0=>0
 | m+1=>10*CF T i m+(wd T (i+m)-48)
def LM(T:List Int)(i m:Nat):Prop:=∀j,j<m->Ah (wd T (i+j))=true
theorem OU{T:List Int}{i m:Nat}(h:LM T i (m+1)):LM T i m/\48<=wd T (i+m)/\wd T (i+m)<=57:=by
 have:=h m (by omega)
 unfold Ah at this
 exact⟨fun j hj=>h j (by omega),of_decide_eq_true this⟩
theorem KA{T:List Int}{i:Nat}:∀m,LM T i m->0<=CF T i m
 | 0,_=>Int.le_refl _
 | m+1,h=>by
  obtain⟨h1,h2,h3⟩:=OU h
  have:=KA m h1
  unfold CF;omega
def EK(T:List Int)(i k:Nat):Bool:=decide (1073741823<CF T i (k-i))||(decide (1<k-i)&&wd T i==48)||(decide (k<T.length)&&Bk (wd T k))
def CB:List Int:=[43,45,42,60,61,33,46,44,59,58,40,41,123,125]
def Br(T:List Int)(i:Nat):Nat:=if i+1<T.length/\wd T i=61/\wd T (i+1)=61 then 2 else if CB.contains (wd T i)=true then 1 else 0
abbrev Tok:=Int×List Int×Nat
inductive Come8
 | skip (k:Nat)
 | tok (t:Tok) (k:Nat)
 | bad (code:Int) (at':Nat)
def Av(T:List Int)(i:Nat):Come8:=
 if Ay (wd T i)=true then .skip (i+1)
 else if wd T i=35 then .skip (AO DI T i)
 else if Bk (wd T i)=true then .tok (if DJ (Am T i (AO Ba T i))=true then 3 else 1,Am T i (AO Ba T i),i) (AO Ba T i)
 else if Ah (wd T i)=true then(if EK T i (AO Ah T i)=true then .bad 2 i else .tok (2,Am T i (AO Ah T i),i) (AO Ah T i))
 else if Br T i=0 then .bad 11 i
 else .tok (4,Am T i (i+Br T i),i) (i+Br T i)
def Come8.fits(T:List Int)(i:Nat):Come8->Prop
 | .skip k=>i<k/\k<=T.length
 | .tok _ k=>i<k/\k<=T.length
 | .bad _ a=>a=i
theorem Db{p:Int->Bool}{T:List Int}{i:Nat}(h:i<T.length)(hp:p (wd T i)=true):i<AO p T i/\AO p T i<=T.length:=by
 rw[Fo h hp]
 have:=Ei p T (i+1)
 have:=Fp (p:=p) (T:=T) (i:=i+1) (by omega)
 omega
theorem EV{T:List Int}{i:Nat}(h:i<T.length):(Av T i).fits T i:=by
 unfold Av
 split
 ·exact⟨by omega,by omega⟩
 ·split
  ·rename_i h1
   exact Db h (by unfold DI;rw[h1];decide)
  ·split
   ·rename_i h1
    exact Db h (by unfold Ba;rw[h1];rfl)
   ·split
    ·rename_i h1
     split
     ·exact rfl
     ·exact Db h h1
    ·split
     ·exact rfl
     ·rename_i h1
      refine⟨by omega,?_⟩
      unfold Br
      split
      ·omega
      ·split<;>omega
def Bm(T:List Int):Nat->Nat->Except (Int×Int) (List Tok)
 | 0,_=>.ok []
 | m+1,i=>if i<T.length then(match Av T i with
   | .skip k=>Bm T m k
   | .tok t k=>(Bm T m k).map (t::·)
   | .bad c a=>.error (c,(a:Int)))else .ok []
theorem Gw{T:List Int}:∀(m m' i:Nat),T.length-i<=m->T.length-i<=m'->Bm T m i=Bm T m' i
 | 0,0,_,_,_=>rfl
 | 0,m'+1,i,h,_=>by unfold Bm;rw[if_neg (by omega)]
 | m+1,0,i,_,h=>by unfold Bm;rw[if_neg (by omega)]
 | m+1,m'+1,i,h,h'=>by
  unfold Bm
  by_cases hi:i<T.length
  ·rw[if_pos hi,if_pos hi]
   have hf:=EV hi
   cases hc:Av T i with
   | skip k=>rw[hc]at hf;obtain⟨f1,f2⟩:=hf;exact Gw m m' k (by omega) (by omega)
   | tok t k=>rw[hc]at hf;obtain⟨f1,f2⟩:=hf;simp only;rw[Gw m m' k (by omega) (by omega)]
   | bad c a=>rfl
  ·rw[if_neg hi,if_neg hi]
def B2(T:List Int)(i:Nat):Except (Int×Int) (List Tok):=Bm T (T.length-i) i
theorem I6{T:List Int}{i:Nat}(h:T.length<=i):B2 T i=.ok []:=by
 unfold B2;rw[show T.length-i=0 by omega];rfl
theorem Dc{T:List Int}{i:Nat}(h:i<T.length):B2 T i=(match Av T i with
   | .skip k=>B2 T k
   | .tok t k=>(B2 T k).map (t::·)
   | .bad c a=>.error (c,(a:Int))):=by
 unfold B2
 obtain⟨m,hm⟩:∃m,T.length-i=m+1:=⟨T.length-i-1,by omega⟩
 rw[hm]
 conv=>lhs;unfold Bm
 rw[if_pos h]
 have hf:=EV h
 cases hc:Av T i with
 | skip k=>rw[hc]at hf;obtain⟨f1,f2⟩:=hf;exact Gw _ _ k (by omega) (by omega)
 | tok t k=>rw[hc]at hf;obtain⟨f1,f2⟩:=hf;simp only;rw[Gw m (T.length-k) k (by omega) (by omega)]
 | bad c a=>rfl
def C9(T:List Int):Except (Int×Int) (List Tok):=if 4000<T.length then .error (1,0)else B2 T 0
def Sofar(T:List Int)(acc:List Tok)(i:Nat):Prop:=i<=T.length/\B2 T 0=(B2 T i).map (acc++·)
theorem map_id{r:Except (Int×Int) (List Tok)}:r.map (([]:List Tok)++·)=r:=by cases r<;>rfl
theorem Nl(T:List Int):Sofar T [] 0:=⟨Nat.zero_le _,map_id.symm⟩
theorem Sofar.done{T:List Int}{acc:List Tok}{i:Nat}(h:Sofar T acc i)(hi:¬i<T.length):B2 T 0=.ok acc:=by
 rw[h.2,I6 (by omega)]
 show Except.ok (acc++[])=_
 rw[List.append_nil]
theorem Sofar.tok{T:List Int}{acc:List Tok}{i k:Nat}{t:Tok}(h:Sofar T acc i)(hi:i<T.length)(hc:Av T i=.tok t k):Sofar T (acc++[t]) k:=by
 have hf:=EV hi
 rw[hc]at hf
 refine⟨hf.2,?_⟩
 rw[h.2,Dc hi,hc]
 simp only
 cases B2 T k with
 | error e=>rfl
 | ok l=>
  show Except.ok (acc++(t::l))=Except.ok ((acc++[t])++l)
  rw[List.append_assoc];rfl
theorem Sofar.bad{T:List Int}{acc:List Tok}{i a:Nat}{c:Int}(h:Sofar T acc i)(hi:i<T.length)(hc:Av T i=.bad c a):B2 T 0=.error (c,(i:Int)):=by
 have hf:=EV hi
 rw[hc]at hf
 have e:a=i:=hf
 rw[h.2,Dc hi,hc,e]
 rfl
theorem GO{T:List Int}{i:Nat}(h:Ay (wd T i)=true):Av T i=.skip (i+1):=by unfold Av;rw[if_pos h]
theorem Q4{T:List Int}{i:Nat}(h0:Ay (wd T i)=false)(h:wd T i=35):Av T i=.skip (AO DI T i):=by
 unfold Av;rw[if_neg (by rw[h0];decide),if_pos h]
theorem Ip{T:List Int}{i:Nat}(h0:Ay (wd T i)=false)(h1:wd T i≠35)(h:Bk (wd T i)=true):Av T i=.tok (if DJ (Am T i (AO Ba T i))=true then 3 else 1,Am T i (AO Ba T i),i) (AO Ba T i):=by
 unfold Av;rw[if_neg (by rw[h0];decide),if_neg h1,if_pos h]
theorem RS{T:List Int}{i:Nat}(h0:Ay (wd T i)=false)(h1:wd T i≠35)(h:Ah (wd T i)=true)(hb:EK T i (AO Ah T i)=true):Av T i=.bad 2 i:=by
 unfold Av;rw[if_neg (by rw[h0];decide),if_neg h1,if_neg (by rw[Hm h];decide),if_pos h,if_pos hb]
theorem KC{T:List Int}{i:Nat}(h0:Ay (wd T i)=false)(h1:wd T i≠35)(h:Ah (wd T i)=true)(hb:EK T i (AO Ah T i)=false):Av T i=.tok (2,Am T i (AO Ah T i),i) (AO Ah T i):=by
 unfold Av;rw[if_neg (by rw[h0];decide),if_neg h1,if_neg (by rw[Hm h];decide),if_pos h,if_neg (by rw[hb];decide)]
theorem Q5{T:List Int}{i:Nat}(h0:Ay (wd T i)=false)(h1:wd T i≠35)(h2:Bk (wd T i)=false)(h3:Ah (wd T i)=false)(h:Br T i=0):Av T i=.bad 11 i:=by
 unfold Av;rw[if_neg (by rw[h0];decide),if_neg h1,if_neg (by rw[h2];decide),if_neg (by rw[h3];decide),if_pos h]
theorem Iq{T:List Int}{i:Nat}(h0:Ay (wd T i)=false)(h1:wd T i≠35)(h2:Bk (wd T i)=false)(h3:Ah (wd T i)=false)(h:Br T i≠0):Av T i=.tok (4,Am T i (i+Br T i),i) (i+Br T i):=by
 unfold Av;rw[if_neg (by rw[h0];decide),if_neg h1,if_neg (by rw[h2];decide),if_neg (by rw[h3];decide),if_neg h]
inductive Nd
 | mk (kind:Int) (text:List Int) (num:Int) (kids:List Nd)
structure PS where
 tok:Nat
 deep:Int
 many:Int
abbrev Got (α:Type):Type:=Except (Int×Int) (α×PS)
structure Src9 where
 L:List Tok
 fin:Nat
def Src9.at(S:Src9)(i:Nat):Tok:=S.L.getD i (0,[],0)
def Src9.byte(S:Src9)(s:PS):Int:=if s.tok<S.L.length then((S.at s.tok).2.2:Int)else(S.fin:Int)
def Bu{α:Type}(S:Src9)(code:Int)(s:PS):Got α:=.error (code,S.byte s)
def A2(S:Src9)(x:List Int)(s:PS):Bool:=decide (s.tok<S.L.length)&&((S.at s.tok).2.1==x&&((S.at s.tok).1==3||(S.at s.tok).1==4))
def isB(S:Src9)(k:Int)(s:PS):Bool:=decide (s.tok<S.L.length)&&(S.at s.tok).1==k
def PS.step(s:PS):PS:={ s with tok:=s.tok+1 }
def PS.node(s:PS):PS:={ s with many:=s.many+1 }
abbrev AD:List Int:=[40]
abbrev A9:List Int:=[41]
abbrev Ai:List Int:=[123]
abbrev Au:List Int:=[125]
abbrev An:List Int:=[44]
abbrev AQ:List Int:=[59]
abbrev DP:List Int:=[58]
abbrev FW:List Int:=[46]
abbrev Ca:List Int:=[61]
abbrev Gx:List Int:=[60]
abbrev Gy:List Int:=[61,61]
abbrev GP:List Int:=[43]
abbrev CC:List Int:=[45]
abbrev FX:List Int:=[42]
abbrev Fq:List Int:=[33]
abbrev Cz:List Int:=[99,108,97,115,115]
abbrev wTo:List Int:=[116,111]
abbrev Ej:List Int:=[115,108,111,116]
abbrev Dy:List Int:=[109,97,105,110]
abbrev CT:List Int:=[118,97,114]
abbrev wIf:List Int:=[105,102]
abbrev Cy:List Int:=[101,108,115,101]
abbrev C0:List Int:=[119,104,105,108,101]
abbrev Bs:List Int:=[114,101,116,117,114,110]
abbrev CN:List Int:=[112,114,105,110,116]
abbrev DX:List Int:=[102,111,114,107]
abbrev Dd:List Int:=[119,97,105,116]
abbrev Cu:List Int:=[115,105,103,110,97,108]
abbrev Ek:List Int:=[115,119,97,112]
abbrev EW:List Int:=[110,101,119]
abbrev De:List Int:=[103,97,116,101]
abbrev Dq:List Int:=[110,105,108]
abbrev DK:List Int:=[115,101,108,102]
def A8(S:Src9)(x:List Int)(s:PS):Got Unit:=
 if A2 S x s=true then
  (if x=AD\/x=Ai then(if 20<s.deep+1 then Bu S 13 s else .ok ((),{ s with tok:=s.tok+1,deep:=s.deep+1 }))
   else if x=A9\/x=Au then .ok ((),{ s with tok:=s.tok+1,deep:=s.deep-1 })
   else .ok ((),s.step))
 else Bu S 12 s
def Ae(S:Src9)(s:PS):Got (List Int):=if isB S 1 s=true then .ok ((S.at s.tok).2.1,s.step)else Bu S 12 s
def AJ(kind:Int)(text:List Int)(num:Int)(kids:List Nd)(s:PS):Got Nd:=.ok (.mk kind text num kids,s.node)
def Got.then{α β:Type}(g:Got α)(f:α->PS->Got β):Got β:=match g with
 | .ok (a,s)=>f a s
 | .error e=>.error e
def DQ{α:Type}:Got α:=.error (-1,-1)
def CG(x:List Int):Int:=CF x 0 x.length
mutual
def Bn(S:Src9):Nat->PS->Got Nd
 | 0,_=>DQ
 | f+1,s=>(D9 S f s).then fun n s=>
   if A2 S Gx s=true then(D9 S f s.step).then fun k s=>AJ 18 [] 0 [n,k] s
   else if A2 S Gy s=true then(D9 S f s.step).then fun k s=>AJ 19 [] 0 [n,k] s
   else .ok (n,s)
def D9 (S:Src9):Nat->PS->Got Nd
 | 0,_=>DQ
 | f+1,s=>(CQ S f s).then fun n s=>sumL S f n s
def sumL (S:Src9):Nat->Nd->PS->Got Nd
 | 0,_,_=>DQ
 | f+1,n,s=>
   if A2 S GP s=true then(CQ S f s.step).then fun k s=>(AJ 20 [] 0 [n,k] s).then fun m s=>sumL S f m s
   else if A2 S CC s=true then(CQ S f s.step).then fun k s=>(AJ 21 [] 0 [n,k] s).then fun m s=>sumL S f m s
   else .ok (n,s)
def CQ (S:Src9):Nat->PS->Got Nd
 | 0,_=>DQ
 | f+1,s=>(Bp S f s).then fun n s=>termL S f n s
def termL (S:Src9):Nat->Nd->PS->Got Nd
 | 0,_,_=>DQ
 | f+1,n,s=>
   if A2 S FX s=true then(Bp S f s.step).then fun k s=>(AJ 22 [] 0 [n,k] s).then fun m s=>termL S f m s
   else .ok (n,s)
def Bp (S:Src9):Nat->PS->Got Nd
 | 0,_=>DQ
 | f+1,s=>
   if A2 S CC s=true then(Bp S f s.step).then fun k s=>AJ 23 [] 0 [k] s
   else if A2 S Fq s=true then(Bp S f s.step).then fun k s=>AJ 24 [] 0 [k] s
   else Cb S f s
def Cb (S:Src9):Nat->PS->Got Nd
 | 0,_=>DQ
 | f+1,s=>(Cc S f s).then fun n s=>callL S f n s
def callL (S:Src9):Nat->Nd->PS->Got Nd
 | 0,_,_=>DQ
 | f+1,n,s=>
   if A2 S FW s=true then(Ae S s.step).then fun x s=>(A8 S AD s).then fun _ s=>
    (if A2 S A9 s=true then .ok ([],s)else CH S f s).then fun ks s=>(A8 S A9 s).then fun _ s=>(AJ 25 x 0 (n::ks) s).then fun m s=>callL S f m s
   else .ok (n,s)
def CH (S:Src9):Nat->PS->Got (List Nd)
 | 0,_=>DQ
 | f+1,s=>(Bn S f s).then fun k s=>if A2 S An s=true then(CH S f s.step).then fun ks s=>.ok (k::ks,s)else .ok ([k],s)
def Cc (S:Src9):Nat->PS->Got Nd
 | 0,_=>DQ
 | f+1,s=>
   if isB S 2 s=true then AJ 26 [] (CG (S.at s.tok).2.1) [] s.step
   else if isB S 1 s=true then(Ae S s).then fun x s=>AJ 31 x 0 [] s
   else if A2 S Dq s=true then AJ 27 [] 0 [] s.step
   else if A2 S DK s=true then AJ 28 [] 0 [] s.step
   else if A2 S De s=true then AJ 29 [] 0 [] s.step
   else if A2 S EW s=true then(Ae S s.step).then fun x s=>AJ 30 x 0 [] s
   else(A8 S AD s).then fun _ s=>(Bn S f s).then fun n s=>(A8 S A9 s).then fun _ s=>.ok (n,s)
end
def ES(S:Src9)(f:Nat)(kind:Int)(s:PS):Got Nd:=
 (Ae S s).then fun x s=>(A8 S Ca s).then fun _ s=>(Bn S f s).then fun k s=>(A8 S AQ s).then fun _ s=>AJ kind x 0 [k] s
def FE(S:Src9)(f:Nat)(kind:Int)(s:PS):Got Nd:=
 (A8 S AD s).then fun _ s=>(Bn S f s).then fun k s=>(A8 S A9 s).then fun _ s=>(A8 S AQ s).then fun _ s=>AJ kind [] 0 [k] s
def Fr(S:Src9)(f:Nat)(kind:Int)(s:PS):Got Nd:=
 (A8 S AD s).then fun _ s=>(Bn S f s).then fun k s=>(A8 S An s).then fun _ s=>(Bn S f s).then fun m s=>(A8 S A9 s).then fun _ s=>(A8 S AQ s).then fun _ s=>AJ kind [] 0 [k,m] s
def ET(S:Src9)(f:Nat)(s:PS):Got Nd:=(A8 S AD s).then fun _ s=>(Bn S f s).then fun k s=>(A8 S A9 s).then fun _ s=>.ok (k,s)
def Cv(S:Src9)(s:PS):Bool:=isB S 1 s&&(decide (s.tok+1<S.L.length)&&(S.at (s.tok+1)).2.1==Ca)
mutual
def BQ(S:Src9):Nat->PS->Got Nd
 | 0,_=>DQ
 | f+1,s=>(A8 S Ai s).then fun _ s=>(C7 S f s).then fun ks s=>(A8 S Au s).then fun _ s=>AJ 6 [] 0 ks s
def C7 (S:Src9):Nat->PS->Got (List Nd)
 | 0,_=>DQ
 | f+1,s=>if A2 S Au s=true then .ok ([],s)else(Cd S f s).then fun k s=>(C7 S f s).then fun ks s=>.ok (k::ks,s)
def Cd (S:Src9):Nat->PS->Got Nd
 | 0,_=>DQ
 | f+1,s=>
   if A2 S CT s=true then ES S f 7 s.step
   else if A2 S wIf s=true then(ET S f s.step).then fun k s=>(BQ S f s).then fun b s=>
    if A2 S Cy s=true then(BQ S f s.step).then fun c s=>AJ 9 [] 0 [k,b,c] s else AJ 9 [] 0 [k,b] s
   else if A2 S C0 s=true then(ET S f s.step).then fun k s=>(BQ S f s).then fun b s=>AJ 10 [] 0 [k,b] s
   else if A2 S Bs s=true then(Bn S f s.step).then fun k s=>(A8 S AQ s).then fun _ s=>AJ 11 [] 0 [k] s
   else if A2 S CN s=true then FE S f 12 s.step
   else if A2 S DX s=true then(BQ S f s.step).then fun b s=>AJ 13 [] 0 [b] s
   else if A2 S Dd s=true then FE S f 14 s.step
   else if A2 S Cu s=true then FE S f 15 s.step
   else if A2 S Ek s=true then Fr S f 16 s.step
   else if Cv S s=true then ES S f 8 s
   else(Bn S f s).then fun k s=>(A8 S AQ s).then fun _ s=>AJ 17 [] 0 [k] s
end
def Bb(S:Src9):Nat->PS->Got (List Nd)
 | 0,_=>DQ
 | f+1,s=>(Ae S s).then fun x s=>(AJ 5 x 0 [] s).then fun k s=>if A2 S An s=true then(Bb S f s.step).then fun ks s=>.ok (k::ks,s)else .ok ([k],s)
def Cl(S:Src9)(f:Nat)(s:PS):Got Nd:=
 (Ae S s).then fun x s=>(A8 S AD s).then fun _ s=>(if A2 S A9 s=true then .ok ([],s)else Bb S f s).then fun ks s=>(A8 S A9 s).then fun _ s=>(BQ S f s).then fun b s=>AJ 4 x (ks.length:Int) (ks++[b]) s
def BM(S:Src9):Nat->PS->Got (List Nd)
 | 0,_=>DQ
 | f+1,s=>if A2 S Ej s=true then(Ae S s.step).then fun x s=>(A8 S AQ s).then fun _ s=>(AJ 3 x 0 [] s).then fun k s=>(BM S f s).then fun ks s=>.ok (k::ks,s)else .ok ([],s)
def Ap(S:Src9):Nat->PS->Got (List Nd)
 | 0,_=>DQ
 | f+1,s=>if A2 S wTo s=true then(Cl S f s.step).then fun k s=>(Ap S f s).then fun ks s=>.ok (k::ks,s)else .ok ([],s)
def DD(S:Src9)(f:Nat)(s:PS):Got Nd:=
 (Ae S s).then fun x s=>(if A2 S DP s=true then(Ae S s.step).then fun y s=>(AJ 31 y 0 [] s).then fun k s=>.ok ([k],s)else .ok ([],s)).then fun up s=>
  (A8 S Ai s).then fun _ s=>(BM S f s).then fun ks s=>(Ap S f s).then fun ms s=>(A8 S Au s).then fun _ s=>AJ 2 x 0 (up++ks++ms) s
def B6(S:Src9):Nat->PS->Got (List Nd)
 | 0,_=>DQ
 | f+1,s=>if A2 S Cz s=true then(DD S f s.step).then fun k s=>(B6 S f s).then fun ks s=>.ok (k::ks,s)else .ok ([],s)
def F9(S:Src9)(f:Nat)(s:PS):Got Nd:=(B6 S f s).then fun ks s=>(A8 S Dy s).then fun _ s=>(BQ S f s).then fun b s=>AJ 1 [] 0 (ks++[b]) s
def Cs(S:Src9)(f:Nat):Except (Int×Int) Nd:=match F9 S f ⟨0,0,0⟩with
 | .error e=>.error e
 | .ok (n,s)=>if s.tok<S.L.length then .error (12,S.byte s)else if 600<s.many then .error (1,0)else .ok n
def Df(S:Src9):Nat:=12*S.L.length+20
def CD(T:List Int):Except (Int×Int) Nd:=match C9 T with
 | .error e=>.error e
 | .ok l=>Cs ⟨l,T.length⟩ (Df ⟨l,T.length⟩)
def Nd.kind:Nd->Int
 | .mk k _ _ _=>k
def Nd.text:Nd->List Int
 | .mk _ t _ _=>t
def Nd.num:Nd->Int
 | .mk _ _ n _=>n
def Nd.kids:Nd->List Nd
 | .mk _ _ _ ks=>ks
mutual
def A1:Nd->Nat
 | .mk _ _ _ ks=>1+AA ks
def AA:List Nd->Nat
 | []=>0
 | n::ns=>A1 n+AA ns
end
mutual
def I7:Nd->Nd->Bool
 | .mk k t n ks,.mk k' t' n' ks'=>k==k'&&(t==t'&&(n==n'&&GQ ks ks'))
def GQ:List Nd->List Nd->Bool
 | [],[]=>true
 | n::ns,m::ms=>I7 n m&&GQ ns ms
 | _,_=>false
end
def BV(x:List Int):Bool:=!x.isEmpty&&(Bk (wd x 0)&&(x.all Ba&&!DJ x))
def A5(x:List Int):List Tok:=[(if DJ x=true then 3 else 4,x,0)]
def Ax(x:List Int):Option (List Tok):=if BV x=true then some [(1,x,0)]else none
def AE(a b:Option (List Tok)):Option (List Tok):=match a,b with
 | some x,some y=>some (x++y)
 | _,_=>none
def Cm:Nat->Nat->List Int
 | 0,_=>[]
 | m+1,n=>if 9<n then Cm m (n / 10)++[48+((n % 10:Nat):Int)]else[48+(n:Int)]
def Bg(n:Int):List Int:=Cm 20 n.toNat
def GM(n:Int):Option (List Tok):=if 0<=n/\n<=1073741823 then some [(2,Bg n,0)]else none
def Bc(k:Int):Nat:=if k=18\/k=19 then 0 else if k=20\/k=21 then 1 else if k=22 then 2 else if k=23\/k=24 then 3 else if k=25 then 4 else 5
def CO:List (Option (List Tok))->Option (List Tok)
 | []=>some []
 | [a]=>a
 | a::as=>AE a (AE (some (A5 An)) (CO as))
def Bv:List (Option (List Tok))->Option (List Tok)
 | []=>some []
 | a::as=>AE a (Bv as)
def AH:Nat->Nat->Nd->Option (List Tok)
 | 0,_,_=>none
 | f+1,least,.mk k x num ks=>
  if Bc k<least then AE (some (A5 AD)) (AE (AH f 0 (.mk k x num ks)) (some (A5 A9)))
  else if k=18 then betweenW (AH f) ks Gx 1 1
  else if k=19 then betweenW (AH f) ks Gy 1 1
  else if k=20 then betweenW (AH f) ks GP 1 2
  else if k=21 then betweenW (AH f) ks CC 1 2
  else if k=22 then betweenW (AH f) ks FX 2 3
  else if k=23 then(match ks with | a::_=>AE (some (A5 CC)) (AH f 3 a) | []=>none)
  else if k=24 then(match ks with | a::_=>AE (some (A5 Fq)) (AH f 3 a) | []=>none)
  else if k=25 then(match ks with
   | a::as=>AE (AH f 4 a) (AE (some (A5 FW)) (AE (Ax x) (AE (some (A5 AD)) (AE (CO (as.map (AH f 0))) (some (A5 A9))))))
   | []=>none)
  else if k=26 then GM num
  else if k=27 then some (A5 Dq)
  else if k=28 then some (A5 DK)
  else if k=29 then some (A5 De)
  else if k=30 then AE (some (A5 EW)) (Ax x)
  else if k=31 then Ax x
  else none
where
 betweenW (g:Nat->Nd->Option (List Tok)) (ks:List Nd) (x:List Int) (l r:Nat):Option (List Tok):=match ks with
  | a::b::_=>AE (g l a) (AE (some (A5 x)) (g r b))
  | _=>none
def CZ(f:Nat)(ks:List Nd):Option (List Tok):=match ks with
 | a::_=>AE (some (A5 AD)) (AE (AH f 0 a) (some (A5 A9)))
 | []=>none
def C1(a:Option (List Tok)):Option (List Tok):=AE a (some (A5 AQ))
mutual
def BR:Nat->Nd->Option (List Tok)
 | 0,_=>none
 | f+1,.mk k _ _ ks=>if k=6 then AE (some (A5 Ai)) (AE (Bv (ks.map (Aa f))) (some (A5 Au)))else none
def Aa:Nat->Nd->Option (List Tok)
 | 0,_=>none
 | f+1,.mk k x _ ks=>
  (match ks with
  | []=>none
  | a::as=>
   if k=7 then C1 (AE (some (A5 CT)) (AE (Ax x) (AE (some (A5 Ca)) (AH f 0 a))))
   else if k=8 then C1 (AE (Ax x) (AE (some (A5 Ca)) (AH f 0 a)))
   else if k=9 then(match as with
    | []=>none
    | b::[]=>AE (some (A5 wIf)) (AE (CZ f ks) (BR f b))
    | b::c::_=>AE (some (A5 wIf)) (AE (CZ f ks) (AE (BR f b) (AE (some (A5 Cy)) (BR f c)))))
   else if k=10 then(match as with
    | []=>none
    | b::_=>AE (some (A5 C0)) (AE (CZ f ks) (BR f b)))
   else if k=11 then C1 (AE (some (A5 Bs)) (AH f 0 a))
   else if k=12 then C1 (AE (some (A5 CN)) (CZ f ks))
   else if k=13 then AE (some (A5 DX)) (BR f a)
   else if k=14 then C1 (AE (some (A5 Dd)) (CZ f ks))
   else if k=15 then C1 (AE (some (A5 Cu)) (CZ f ks))
   else if k=16 then(match as with
    | []=>none
    | b::_=>C1 (AE (some (A5 Ek)) (AE (some (A5 AD)) (AE (AH f 0 a) (AE (some (A5 An)) (AE (AH f 0 b) (some (A5 A9))))))))
   else if k=17 then C1 (AH f 0 a)
   else none)
end
def JO(ks:List Nd):Option (List Tok):=CO (ks.dropLast.map fun a=>Ax a.text)
def Bi(f:Nat)(n:Nd):Option (List Tok):=
 if n.kind=3 then C1 (AE (some (A5 Ej)) (Ax n.text))
 else if n.kind=4 then(match n.kids.getLast? with
  | some b=>AE (some (A5 wTo)) (AE (Ax n.text) (AE (some (A5 AD)) (AE (JO n.kids) (AE (some (A5 A9)) (BR f b)))))
  | none=>none)
 else none
def B4(f:Nat)(n:Nd):Option (List Tok):=
 AE (some (A5 Cz)) (AE (Ax n.text) (match n.kids with
  | u::ks=>if u.kind=31 then AE (some (A5 DP)) (AE (Ax u.text) (bodyW f ks))else bodyW f (u::ks)
  | []=>bodyW f []))
where
 bodyW (f:Nat) (ks:List Nd):Option (List Tok):=AE (some (A5 Ai)) (AE (Bv (ks.map (Bi f))) (some (A5 Au)))
def Dz(f:Nat)(n:Nd):Option (List Tok):=match n.kids.getLast? with
 | some b=>if n.kind=1 then AE (Bv (n.kids.dropLast.map (B4 f))) (AE (some (A5 Dy)) (BR f b))else none
 | none=>none
def FA:List (List Int)->List Int
 | []=>[]
 | [a]=>a
 | a::as=>a++[32]++FA as
def GA(n:Nd):Except (Int×Int) (List Int):=
 if 600<A1 n then .error (2,0)else
 match Dz (2*A1 n+2) n with
 | none=>.error (2,0)
 | some l=>match Cs ⟨l,0⟩ (Df ⟨l,0⟩)with
  | .error _=>.error (2,0)
  | .ok m=>if I7 m n=true then .ok (FA (l.map fun t=>t.2.1)++[10])else .error (2,0)
def Fine9(S:Src9){α:Type}(g:Got α)(lo:Nat):Prop:=g≠DQ/\∀a s,g=.ok (a,s)->lo<=s.tok/\s.tok<=S.L.length
theorem En{S:Src9}{α:Type}{a:α}{s:PS}{lo:Nat}(h:lo<=s.tok)(h':s.tok<=S.L.length):Fine9 S (.ok (a,s):Got α) lo:=
 ⟨fun e=>(by cases e),fun b s' e=>(by cases e;exact⟨h,h'⟩)⟩
theorem H8{α:Type}{S:Src9}{code:Int}{s:PS}{lo:Nat}(h:code≠-1):Fine9 S (Bu S code s:Got α) lo:=
 ⟨fun e=>(by unfold Bu DQ at e;simp only[Except.error.injEq,Prod.mk.injEq]at e;exact h e.1),fun b s' e=>(by cases e)⟩
theorem AF{S:Src9}{α β:Type}{g:Got α}{f:α->PS->Got β}{lo lo':Nat}(h:Fine9 S g lo)(hf:∀a s,lo<=s.tok->s.tok<=S.L.length->Fine9 S (f a s) lo'):Fine9 S (g.then f) lo':=by
 unfold Got.then
 cases g with
 | error e=>exact⟨fun x=>h.1 (by cases x;rfl),fun b s' x=>(by cases x)⟩
 | ok p=>
  obtain⟨a,s⟩:=p
  obtain⟨h1,h2⟩:=h.2 a s rfl
  exact hf a s h1 h2
theorem CL{S:Src9}{α:Type}{g:Got α}{lo lo':Nat}(h:Fine9 S g lo)(hl:lo'<=lo):Fine9 S g lo':=⟨h.1,fun a s e=>⟨Nat.le_trans hl (h.2 a s e).1,(h.2 a s e).2⟩⟩
theorem AG{S:Src9}{x:List Int}{s:PS}(h:A2 S x s=true):s.tok<S.L.length:=by
 unfold A2 at h
 simp only[Bool.and_eq_true,decide_eq_true_eq]at h
 exact h.1
theorem PG{S:Src9}{k:Int}{s:PS}(h:isB S k s=true):s.tok<S.L.length:=by
 unfold isB at h
 simp only[Bool.and_eq_true,decide_eq_true_eq]at h
 exact h.1
theorem AV(S:Src9)(x:List Int)(s:PS):Fine9 S (A8 S x s) (s.tok+1):=by
 unfold A8
 split
 ·rename_i hs
  have:=AG hs
  split
  ·split
   ·exact H8 (by decide)
   ·exact En (Nat.le_refl _) this
  ·split
   ·exact En (Nat.le_refl _) this
   ·exact En (Nat.le_refl _) this
 ·exact H8 (by decide)
theorem Bd(S:Src9)(s:PS):Fine9 S (Ae S s) (s.tok+1):=by
 unfold Ae
 split
 ·rename_i hs;exact En (Nat.le_refl _) (PG hs)
 ·exact H8 (by decide)
theorem CV{S:Src9}{α:Type}{a:α}{s:PS}{lo:Nat}(h:lo<=s.tok)(h':s.tok<=S.L.length:=by first | assumption | exact AG (by assumption) | exact PG (by assumption)):Fine9 S (.ok (a,s):Got α) lo:=En h h'
theorem BG{S:Src9}(kind:Int)(text:List Int)(num:Int)(kids:List Nd)(s:PS){lo:Nat}(h:lo<=s.tok)(h':s.tok<=S.L.length:=by first | assumption | exact AG (by assumption) | exact PG (by assumption)):Fine9 S (AJ kind text num kids s) lo:=En h h'
def Src9.left(S:Src9)(s:PS):Nat:=S.L.length-s.tok
theorem AR{S:Src9}{s s':PS}(h:s.tok<=s'.tok):S.left s'<=S.left s:=by unfold Src9.left;omega
theorem AB{S:Src9}{s s':PS}(hs:s.tok<S.L.length)(h:s.tok+1<=s'.tok):S.left s'+1<=S.left s:=by unfold Src9.left;omega
theorem AX(s:PS):s.step.tok=s.tok+1:=rfl
theorem B7(s:PS):s.node.tok=s.tok:=rfl
structure TN(S:Src9)(f:Nat):Prop where
 expr:∀s,12*S.left s+6<=f->Fine9 S (Bn S f s) (s.tok+1)
 sum:∀s,12*S.left s+5<=f->Fine9 S (D9 S f s) (s.tok+1)
 sumL:∀n s,12*S.left s+1<=f->s.tok<=S.L.length->Fine9 S (sumL S f n s) s.tok
 term:∀s,12*S.left s+4<=f->Fine9 S (CQ S f s) (s.tok+1)
 termL:∀n s,12*S.left s+1<=f->s.tok<=S.L.length->Fine9 S (termL S f n s) s.tok
 unary:∀s,12*S.left s+3<=f->Fine9 S (Bp S f s) (s.tok+1)
 call:∀s,12*S.left s+2<=f->Fine9 S (Cb S f s) (s.tok+1)
 callL:∀n s,12*S.left s+1<=f->s.tok<=S.L.length->Fine9 S (callL S f n s) s.tok
 args:∀s,12*S.left s+7<=f->Fine9 S (CH S f s) (s.tok+1)
 prim:∀s,12*S.left s+1<=f->Fine9 S (Cc S f s) (s.tok+1)
theorem DE(S:Src9):∀f,TN S f
 | 0=>⟨fun _ h=>(by omega),fun _ h=>(by omega),fun _ _ h _=>(by omega),fun _ h=>(by omega),fun _ _ h _=>(by omega),fun _ h=>(by omega),fun _ h=>(by omega),fun _ _ h _=>(by omega),fun _ h=>(by omega),fun _ h=>(by omega)⟩
 | f+1=>by
  have I:=DE S f
  constructor
  ·intro s h
   rw[Bn]
   refine AF (I.sum s (by omega)) fun n s1 h1 e1=>?_
   have l1:=AR (S:=S) (s:=s) (s':=s1) (by omega)
   split
   ·rename_i hs
    have:=AB (s':=s1.step) (AG hs) (Nat.le_refl _)
    exact AF (I.sum s1.step (by omega)) fun k s2 h2 e2=>BG _ _ _ _ _ (by rw[AX]at h2;omega)
   ·split
    ·rename_i hs
     have:=AB (s':=s1.step) (AG hs) (Nat.le_refl _)
     exact AF (I.sum s1.step (by omega)) fun k s2 h2 e2=>BG _ _ _ _ _ (by rw[AX]at h2;omega)
    ·exact CV h1
  ·intro s h
   rw[D9]
   refine AF (I.term s (by omega)) fun n s1 h1 e1=>?_
   have l1:=AR (S:=S) (s:=s) (s':=s1) (by omega)
   exact CL (I.sumL n s1 (by omega) e1) h1
  ·intro n s h hle
   rw[sumL]
   split
   ·rename_i hs
    have:=AB (s':=s.step) (AG hs) (Nat.le_refl _)
    refine AF (I.term s.step (by omega)) fun k s1 h1 e1=>?_
    rw[AX]at h1
    have l1:=AB (S:=S) (s:=s) (s':=s1.node) (AG hs) (by rw[B7];omega)
    show Fine9 S (sumL S f _ s1.node) _
    exact CL (I.sumL _ s1.node (by omega) e1) (by rw[B7];omega)
   ·split
    ·rename_i hs
     have:=AB (s':=s.step) (AG hs) (Nat.le_refl _)
     refine AF (I.term s.step (by omega)) fun k s1 h1 e1=>?_
     rw[AX]at h1
     have l1:=AB (S:=S) (s:=s) (s':=s1.node) (AG hs) (by rw[B7];omega)
     show Fine9 S (sumL S f _ s1.node) _
     exact CL (I.sumL _ s1.node (by omega) e1) (by rw[B7];omega)
    ·exact CV (Nat.le_refl _)
  ·intro s h
   rw[CQ]
   refine AF (I.unary s (by omega)) fun n s1 h1 e1=>?_
   have l1:=AR (S:=S) (s:=s) (s':=s1) (by omega)
   exact CL (I.termL n s1 (by omega) e1) h1
  ·intro n s h hle
   rw[termL]
   split
   ·rename_i hs
    have:=AB (s':=s.step) (AG hs) (Nat.le_refl _)
    refine AF (I.unary s.step (by omega)) fun k s1 h1 e1=>?_
    rw[AX]at h1
    have l1:=AB (S:=S) (s:=s) (s':=s1.node) (AG hs) (by rw[B7];omega)
    show Fine9 S (termL S f _ s1.node) _
    exact CL (I.termL _ s1.node (by omega) e1) (by rw[B7];omega)
   ·exact CV (Nat.le_refl _)
  ·intro s h
   rw[Bp]
   split
   ·rename_i hs
    have:=AB (s':=s.step) (AG hs) (Nat.le_refl _)
    exact AF (I.unary s.step (by omega)) fun k s1 h1 e1=>BG _ _ _ _ _ (by rw[AX]at h1;omega)
   ·split
    ·rename_i hs
     have:=AB (s':=s.step) (AG hs) (Nat.le_refl _)
     exact AF (I.unary s.step (by omega)) fun k s1 h1 e1=>BG _ _ _ _ _ (by rw[AX]at h1;omega)
    ·exact I.call s (by omega)
  ·intro s h
   rw[Cb]
   refine AF (I.prim s (by omega)) fun n s1 h1 e1=>?_
   have l1:=AR (S:=S) (s:=s) (s':=s1) (by omega)
   exact CL (I.callL n s1 (by omega) e1) h1
  ·intro n s h hle
   rw[callL]
   split
   ·rename_i hs
    refine AF (Bd S s.step) fun x s1 h1 e1=>AF (AV S AD s1) fun _ s2 h2 e2=>?_
    rw[AX]at h1
    have l2:=AB (S:=S) (s:=s) (s':=s2) (AG hs) (by omega)
    refine AF (lo:=s2.tok) ?_ fun ks s3 h3 e3=>?_
    ·split
     ·exact CV (Nat.le_refl _)
     ·exact CL (I.args s2 (by omega)) (by omega)
    ·refine AF (AV S A9 s3) fun _ s4 h4 e4=>?_
     have l4:=AB (S:=S) (s:=s) (s':=s4.node) (AG hs) (by rw[B7];omega)
     show Fine9 S (callL S f _ s4.node) _
     exact CL (I.callL _ s4.node (by omega) e4) (by rw[B7];omega)
   ·exact CV (Nat.le_refl _)
  ·intro s h
   rw[CH]
   refine AF (I.expr s (by omega)) fun k s1 h1 e1=>?_
   split
   ·rename_i hs
    have l1:=AB (S:=S) (s:=s1) (s':=s1.step) (AG hs) (Nat.le_refl _)
    have l0:=AR (S:=S) (s:=s) (s':=s1) (by omega)
    exact AF (I.args s1.step (by omega)) fun ks s2 h2 e2=>CV (by rw[AX]at h2;omega)
   ·exact CV h1
  ·intro s h
   rw[Cc]
   split
   ·exact BG _ _ _ _ _ (Nat.le_refl _)
   ·split
    ·exact AF (Bd S s) fun x s1 h1 e1=>BG _ _ _ _ _ h1
    ·split
     ·exact BG _ _ _ _ _ (Nat.le_refl _)
     ·split
      ·exact BG _ _ _ _ _ (Nat.le_refl _)
      ·split
       ·exact BG _ _ _ _ _ (Nat.le_refl _)
       ·split
        ·exact AF (Bd S s.step) fun x s1 h1 e1=>BG _ _ _ _ _ (by rw[AX]at h1;omega)
        ·by_cases hs:A2 S AD s=true
         ·refine AF (AV S AD s) fun _ s1 h1 e1=>?_
          have l1:=AB (S:=S) (s:=s) (s':=s1) (AG hs) h1
          refine AF (I.expr s1 (by omega)) fun n s2 h2 e2=>AF (AV S A9 s2) fun _ s3 h3 e3=>CV (by omega)
         ·have e:A8 S AD s=Bu S 12 s:=by unfold A8;rw[if_neg hs]
          rw[e]
          exact H8 (by decide)
structure Sm(S:Src9)(f:Nat):Prop where
 block:∀s,12*S.left s+1<=f->Fine9 S (BQ S f s) (s.tok+1)
 stmts:∀s,12*S.left s+9<=f->s.tok<=S.L.length->Fine9 S (C7 S f s) s.tok
 stmt:∀s,12*S.left s+8<=f->Fine9 S (Cd S f s) (s.tok+1)
theorem Sn{S:Src9}{x:List Int}{s:PS}(h:¬A2 S x s=true){α:Type}(f:Unit->PS->Got α){lo:Nat}:Fine9 S ((A8 S x s).then f) lo:=by
 have e:A8 S x s=Bu S 12 s:=by unfold A8;rw[if_neg h]
 rw[e]
 exact⟨fun x=>(by simp only[Bu,Got.then,DQ,Except.error.injEq,Prod.mk.injEq]at x;exact absurd x.1 (by decide)),fun b s' x=>(by simp only[Bu,Got.then]at x;cases x)⟩
theorem LQ{S:Src9}{f:Nat}{s s1:PS}(hs:s.tok<S.L.length)(h:12*S.left s+8<=f+1)(h1:s.tok+1<=s1.tok):12*S.left s1+6<=f:=by
 have:=AB (S:=S) hs h1
 omega
theorem Lo{S:Src9}{f:Nat}{kind:Int}{s:PS}(h:12*S.left s+6<=f):Fine9 S (ES S f kind s) (s.tok+1):=by
 unfold ES
 refine AF (Bd S s) fun x s1 h1 e1=>AF (AV S Ca s1) fun _ s2 h2 e2=>?_
 have l2:=AR (S:=S) (s:=s) (s':=s2) (by omega)
 refine AF ((DE S f).expr s2 (by omega)) fun k s3 h3 e3=>AF (AV S AQ s3) fun _ s4 h4 e4=>BG _ _ _ _ _ (by omega)
theorem FK{S:Src9}{f:Nat}{s:PS}(h:12*S.left s+6<=f):Fine9 S (ET S f s) (s.tok+1):=by
 unfold ET
 refine AF (AV S AD s) fun _ s1 h1 e1=>?_
 have l1:=AR (S:=S) (s:=s) (s':=s1) (by omega)
 exact AF ((DE S f).expr s1 (by omega)) fun k s2 h2 e2=>AF (AV S A9 s2) fun _ s3 h3 e3=>CV (by omega)
theorem KD{S:Src9}{f:Nat}{kind:Int}{s:PS}(h:12*S.left s+6<=f):Fine9 S (FE S f kind s) (s.tok+1):=by
 unfold FE
 refine AF (AV S AD s) fun _ s1 h1 e1=>?_
 have l1:=AR (S:=S) (s:=s) (s':=s1) (by omega)
 exact AF ((DE S f).expr s1 (by omega)) fun k s2 h2 e2=>AF (AV S A9 s2) fun _ s3 h3 e3=>AF (AV S AQ s3) fun _ s4 h4 e4=>BG _ _ _ _ _ (by omega)
theorem Rd{S:Src9}{f:Nat}{kind:Int}{s:PS}(h:12*S.left s+6<=f):Fine9 S (Fr S f kind s) (s.tok+1):=by
 unfold Fr
 refine AF (AV S AD s) fun _ s1 h1 e1=>?_
 have l1:=AR (S:=S) (s:=s) (s':=s1) (by omega)
 refine AF ((DE S f).expr s1 (by omega)) fun k s2 h2 e2=>AF (AV S An s2) fun _ s3 h3 e3=>?_
 have l3:=AR (S:=S) (s:=s) (s':=s3) (by omega)
 exact AF ((DE S f).expr s3 (by omega)) fun m s4 h4 e4=>AF (AV S A9 s4) fun _ s5 h5 e5=>AF (AV S AQ s5) fun _ s6 h6 e6=>BG _ _ _ _ _ (by omega)
theorem Hs(S:Src9):∀f,Sm S f
 | 0=>⟨fun _ h=>(by omega),fun _ h _=>(by omega),fun _ h=>(by omega)⟩
 | f+1=>by
  have I:=Hs S f
  constructor
  ·intro s h
   rw[BQ]
   by_cases hs:A2 S Ai s=true
   ·refine AF (AV S Ai s) fun _ s1 h1 e1=>?_
    have l1:=AB (S:=S) (s:=s) (s':=s1) (AG hs) h1
    exact AF (I.stmts s1 (by omega) e1) fun ks s2 h2 e2=>AF (AV S Au s2) fun _ s3 h3 e3=>BG _ _ _ _ _ (by omega)
   ·exact Sn hs _
  ·intro s h hle
   rw[C7]
   split
   ·exact CV (Nat.le_refl _)
   ·refine AF (I.stmt s (by omega)) fun k s1 h1 e1=>?_
    have l1:=AB (S:=S) (s:=s) (s':=s1) (by omega) h1
    exact AF (I.stmts s1 (by omega) e1) fun ks s2 h2 e2=>CV (by omega)
  ·intro s h
   rw[Cd]
   have nx:∀x,A2 S x s=true->12*S.left s.step+6<=f:=fun x hx=>LQ (AG hx) h (Nat.le_refl _)
   split
   ·rename_i hs;exact CL (Lo (nx _ hs)) (by rw[AX];omega)
   ·split
    ·rename_i hs
     refine AF (FK (nx _ hs)) fun k s1 h1 e1=>?_
     rw[AX]at h1
     have l1:=AB (S:=S) (s:=s) (s':=s1) (AG hs) (by omega)
     refine AF (I.block s1 (by omega)) fun b s2 h2 e2=>?_
     split
     ·have l2:=AB (S:=S) (s:=s) (s':=s2.step) (AG hs) (by rw[AX];omega)
      exact AF (I.block s2.step (by omega)) fun c s3 h3 e3=>BG _ _ _ _ _ (by rw[AX]at h3;omega)
     ·exact BG _ _ _ _ _ (by omega)
    ·split
     ·rename_i hs
      refine AF (FK (nx _ hs)) fun k s1 h1 e1=>?_
      rw[AX]at h1
      have l1:=AB (S:=S) (s:=s) (s':=s1) (AG hs) (by omega)
      exact AF (I.block s1 (by omega)) fun b s2 h2 e2=>BG _ _ _ _ _ (by omega)
     ·split
      ·rename_i hs
       refine AF ((DE S f).expr s.step (nx _ hs)) fun k s1 h1 e1=>AF (AV S AQ s1) fun _ s2 h2 e2=>BG _ _ _ _ _ (by rw[AX]at h1;omega)
      ·split
       ·rename_i hs;exact CL (KD (nx _ hs)) (by rw[AX];omega)
       ·split
        ·rename_i hs
         have l1:=AB (S:=S) (s:=s) (s':=s.step) (AG hs) (Nat.le_refl _)
         exact AF (I.block s.step (by omega)) fun b s1 h1 e1=>BG _ _ _ _ _ (by rw[AX]at h1;omega)
        ·split
         ·rename_i hs;exact CL (KD (nx _ hs)) (by rw[AX];omega)
         ·split
          ·rename_i hs;exact CL (KD (nx _ hs)) (by rw[AX];omega)
          ·split
           ·rename_i hs;exact CL (Rd (nx _ hs)) (by rw[AX];omega)
           ·split
            ·exact Lo (by omega)
            ·exact AF ((DE S f).expr s (by omega)) fun k s1 h1 e1=>AF (AV S AQ s1) fun _ s2 h2 e2=>BG _ _ _ _ _ (by omega)
theorem GS(S:Src9):∀(f:Nat) (s:PS),12*S.left s+1<=f->Fine9 S (Bb S f s) (s.tok+1)
 | 0,_,h=>by omega
 | f+1,s,h=>by
  rw[Bb]
  refine AF (Bd S s) fun x s1 h1 e1=>?_
  show Fine9 S (if A2 S An s1.node=true then _ else _) _
  split
  ·rename_i hs
   have l1:=AB (S:=S) (s:=s1.node) (s':=s1.node.step) (AG hs) (Nat.le_refl _)
   have l0:=AR (S:=S) (s:=s) (s':=s1.node) (by rw[B7];omega)
   exact AF (GS S f s1.node.step (by omega)) fun ks s2 h2 e2=>CV (by rw[AX,B7]at h2;omega)
  ·exact En h1 e1
theorem Jm{S:Src9}{f:Nat}{s:PS}(h:12*S.left s+10<=f):Fine9 S (Cl S f s) (s.tok+1):=by
 unfold Cl
 refine AF (Bd S s) fun x s1 h1 e1=>AF (AV S AD s1) fun _ s2 h2 e2=>?_
 have l2:=AR (S:=S) (s:=s) (s':=s2) (by omega)
 refine AF (lo:=s2.tok) ?_ fun ks s3 h3 e3=>AF (AV S A9 s3) fun _ s4 h4 e4=>?_
 ·split
  ·exact En (Nat.le_refl _) e2
  ·exact CL (GS S f s2 (by omega)) (by omega)
 ·have l4:=AR (S:=S) (s:=s) (s':=s4) (by omega)
  exact AF ((Hs S f).block s4 (by omega)) fun b s5 h5 e5=>BG _ _ _ _ _ (by omega)
theorem I9(S:Src9):∀(f:Nat) (s:PS),12*S.left s+1<=f->s.tok<=S.L.length->Fine9 S (BM S f s) s.tok
 | 0,_,h,_=>by omega
 | f+1,s,h,hle=>by
  rw[BM]
  split
  ·rename_i hs
   refine AF (Bd S s.step) fun x s1 h1 e1=>AF (AV S AQ s1) fun _ s2 h2 e2=>?_
   rw[AX]at h1
   have l2:=AB (S:=S) (s:=s) (s':=s2.node) (AG hs) (by rw[B7];omega)
   show Fine9 S ((BM S f s2.node).then _) _
   exact AF (I9 S f s2.node (by omega) e2) fun ks s3 h3 e3=>CV (by rw[B7]at h3;omega)
  ·exact CV (Nat.le_refl _)
theorem It(S:Src9):∀(f:Nat) (s:PS),12*S.left s+1<=f->s.tok<=S.L.length->Fine9 S (Ap S f s) s.tok
 | 0,_,h,_=>by omega
 | f+1,s,h,hle=>by
  rw[Ap]
  split
  ·rename_i hs
   have l1:=AB (S:=S) (s:=s) (s':=s.step) (AG hs) (Nat.le_refl _)
   refine AF (Jm (s:=s.step) (by omega)) fun k s1 h1 e1=>?_
   rw[AX]at h1
   have l2:=AB (S:=S) (s:=s) (s':=s1) (AG hs) (by omega)
   exact AF (It S f s1 (by omega) e1) fun ks s2 h2 e2=>CV (by omega)
  ·exact CV (Nat.le_refl _)
theorem PH{S:Src9}{f:Nat}{s:PS}(h:12*S.left s+1<=f):Fine9 S (DD S f s) (s.tok+1):=by
 unfold DD
 refine AF (Bd S s) fun x s1 h1 e1=>AF (lo:=s1.tok) ?_ fun up s2 h2 e2=>AF (AV S Ai s2) fun _ s3 h3 e3=>?_
 ·split
  ·refine AF (Bd S s1.step) fun y s5 h5 e5=>?_
   rw[AX]at h5
   show Fine9 S (.ok ([_],s5.node)) _
   exact En (by rw[B7];omega) e5
  ·exact CV (Nat.le_refl _)
 ·have l3:=AR (S:=S) (s:=s) (s':=s3) (by omega)
  refine AF (I9 S f s3 (by omega) e3) fun ks s4 h4 e4=>?_
  have l4:=AR (S:=S) (s:=s) (s':=s4) (by omega)
  exact AF (It S f s4 (by omega) e4) fun ms s5 h5 e5=>AF (AV S Au s5) fun _ s6 h6 e6=>BG _ _ _ _ _ (by omega)
theorem A4{α β:Type}{g g':Got α}{F F':α->PS->Got β}(h:g=g')(hF:∀a s,g=.ok (a,s)->F a s=F' a s):g.then F=g'.then F':=by
 subst h
 unfold Got.then
 cases g with
 | error e=>rfl
 | ok p=>obtain⟨a,s⟩:=p;exact hF a s rfl
theorem Fine9.at{S:Src9}{α:Type}{g:Got α}{lo:Nat}(h:Fine9 S g lo){a:α}{s:PS}(e:g=.ok (a,s)):lo<=s.tok/\s.tok<=S.L.length:=h.2 a s e
structure U0(S:Src9)(f:Nat):Prop where
 expr:∀s,12*S.left s+6<=f->Bn S (f+1) s=Bn S f s
 sum:∀s,12*S.left s+5<=f->D9 S (f+1) s=D9 S f s
 sumL:∀n s,12*S.left s+1<=f->sumL S (f+1) n s=sumL S f n s
 term:∀s,12*S.left s+4<=f->CQ S (f+1) s=CQ S f s
 termL:∀n s,12*S.left s+1<=f->termL S (f+1) n s=termL S f n s
 unary:∀s,12*S.left s+3<=f->Bp S (f+1) s=Bp S f s
 call:∀s,12*S.left s+2<=f->Cb S (f+1) s=Cb S f s
 callL:∀n s,12*S.left s+1<=f->callL S (f+1) n s=callL S f n s
 args:∀s,12*S.left s+7<=f->CH S (f+1) s=CH S f s
 prim:∀s,12*S.left s+1<=f->Cc S (f+1) s=Cc S f s
theorem Gk(S:Src9):∀f,U0 S f
 | 0=>⟨fun _ h=>(by omega),fun _ h=>(by omega),fun _ _ h=>(by omega),fun _ h=>(by omega),fun _ _ h=>(by omega),fun _ h=>(by omega),fun _ h=>(by omega),fun _ _ h=>(by omega),fun _ h=>(by omega),fun _ h=>(by omega)⟩
 | f+1=>by
  have I:=Gk S f
  have E:=DE S f
  have E1:=DE S (f+1)
  constructor
  ·intro s h
   rw[Bn,Bn]
   refine A4 (I.sum s (by omega)) fun n s1 e1=>?_
   have h1:=(E1.sum s (by omega)).at e1
   have l1:=AR (S:=S) (s:=s) (s':=s1) (by omega)
   split
   ·rename_i hs
    have:=AB (s':=s1.step) (AG hs) (Nat.le_refl _)
    exact A4 (I.sum s1.step (by omega)) fun _ _ _=>rfl
   ·split
    ·rename_i hs
     have:=AB (s':=s1.step) (AG hs) (Nat.le_refl _)
     exact A4 (I.sum s1.step (by omega)) fun _ _ _=>rfl
    ·rfl
  ·intro s h
   rw[D9,D9]
   refine A4 (I.term s (by omega)) fun n s1 e1=>?_
   have h1:=(E1.term s (by omega)).at e1
   have l1:=AR (S:=S) (s:=s) (s':=s1) (by omega)
   exact I.sumL n s1 (by omega)
  ·intro n s h
   rw[sumL,sumL]
   split
   ·rename_i hs
    have:=AB (s':=s.step) (AG hs) (Nat.le_refl _)
    refine A4 (I.term s.step (by omega)) fun k s1 e1=>?_
    have h1:=(E1.term s.step (by omega)).at e1
    rw[AX]at h1
    have l1:=AB (S:=S) (s:=s) (s':=s1.node) (AG hs) (by rw[B7];omega)
    exact I.sumL _ s1.node (by omega)
   ·split
    ·rename_i hs
     have:=AB (s':=s.step) (AG hs) (Nat.le_refl _)
     refine A4 (I.term s.step (by omega)) fun k s1 e1=>?_
     have h1:=(E1.term s.step (by omega)).at e1
     rw[AX]at h1
     have l1:=AB (S:=S) (s:=s) (s':=s1.node) (AG hs) (by rw[B7];omega)
     exact I.sumL _ s1.node (by omega)
    ·rfl
  ·intro s h
   rw[CQ,CQ]
   refine A4 (I.unary s (by omega)) fun n s1 e1=>?_
   have h1:=(E1.unary s (by omega)).at e1
   have l1:=AR (S:=S) (s:=s) (s':=s1) (by omega)
   exact I.termL n s1 (by omega)
  ·intro n s h
   rw[termL,termL]
   split
   ·rename_i hs
    have:=AB (s':=s.step) (AG hs) (Nat.le_refl _)
    refine A4 (I.unary s.step (by omega)) fun k s1 e1=>?_
    have h1:=(E1.unary s.step (by omega)).at e1
    rw[AX]at h1
    have l1:=AB (S:=S) (s:=s) (s':=s1.node) (AG hs) (by rw[B7];omega)
    exact I.termL _ s1.node (by omega)
   ·rfl
  ·intro s h
   conv=>lhs;rw[Bp]
   conv=>rhs;rw[Bp]
   split
   ·rename_i hs
    have:=AB (s':=s.step) (AG hs) (Nat.le_refl _)
    exact A4 (I.unary s.step (by omega)) fun _ _ _=>rfl
   ·split
    ·rename_i hs
     have:=AB (s':=s.step) (AG hs) (Nat.le_refl _)
     exact A4 (I.unary s.step (by omega)) fun _ _ _=>rfl
    ·exact I.call s (by omega)
  ·intro s h
   rw[Cb,Cb]
   refine A4 (I.prim s (by omega)) fun n s1 e1=>?_
   have h1:=(E1.prim s (by omega)).at e1
   have l1:=AR (S:=S) (s:=s) (s':=s1) (by omega)
   exact I.callL n s1 (by omega)
  ·intro n s h
   rw[callL,callL]
   split
   ·rename_i hs
    refine A4 rfl fun x s1 e1=>A4 rfl fun u s2 e2=>?_
    have h1:=(Bd S s.step).at e1
    have h2:=(AV S AD s1).at e2
    rw[AX]at h1
    have l2:=AB (S:=S) (s:=s) (s':=s2) (AG hs) (by omega)
    refine A4 ?_ fun ks s3 e3=>A4 rfl fun v s4 e4=>?_
    ·split
     ·rfl
     ·exact I.args s2 (by omega)
    ·have h3:s2.tok<=s3.tok:=by
      by_cases hx:A2 S A9 s2=true
      ·rw[if_pos hx]at e3;cases e3;exact Nat.le_refl _
      ·rw[if_neg hx]at e3
       have:=(E1.args s2 (by omega)).at e3
       omega
     have h4:=(AV S A9 s3).at e4
     have l4:=AB (S:=S) (s:=s) (s':=s4.node) (AG hs) (by rw[B7];omega)
     exact I.callL _ s4.node (by omega)
   ·rfl
  ·intro s h
   rw[CH,CH]
   refine A4 (I.expr s (by omega)) fun k s1 e1=>?_
   have h1:=(E1.expr s (by omega)).at e1
   split
   ·rename_i hs
    have l1:=AB (S:=S) (s:=s1) (s':=s1.step) (AG hs) (Nat.le_refl _)
    have l0:=AR (S:=S) (s:=s) (s':=s1) (by omega)
    exact A4 (I.args s1.step (by omega)) fun _ _ _=>rfl
   ·rfl
  ·intro s h
   rw[Cc,Cc]
   split
   ·rfl
   ·split
    ·rfl
    ·split
     ·rfl
     ·split
      ·rfl
      ·split
       ·rfl
       ·split
        ·rfl
        ·by_cases hs:A2 S AD s=true
         ·refine A4 rfl fun u s1 e1=>?_
          have h1:=(AV S AD s).at e1
          have l1:=AB (S:=S) (s:=s) (s':=s1) (AG hs) (by omega)
          exact A4 (I.expr s1 (by omega)) fun _ _ _=>rfl
         ·have e:A8 S AD s=Bu S 12 s:=by unfold A8;rw[if_neg hs]
          rw[e];rfl
theorem CW{α:Type}{X:Nat->α}{c:Nat}(h:∀f,c<=f->X (f+1)=X f):∀f,c<=f->X f=X c:=fun f hf=>by
 induction f with
 | zero=>rw[show c=0 by omega]
 | succ f ih=>
  by_cases he:c=f+1
  ·rw[he]
  ·rw[h f (by omega),ih (by omega)]
def Ao(S:Src9)(s:PS):Got Nd:=Bn S (12*S.left s+6) s
def Ce(S:Src9)(s:PS):Got Nd:=D9 S (12*S.left s+5) s
def E9(S:Src9)(n:Nd)(s:PS):Got Nd:=sumL S (12*S.left s+1) n s
def CR(S:Src9)(s:PS):Got Nd:=CQ S (12*S.left s+4) s
def Dh(S:Src9)(n:Nd)(s:PS):Got Nd:=termL S (12*S.left s+1) n s
def BS(S:Src9)(s:PS):Got Nd:=Bp S (12*S.left s+3) s
def Eo(S:Src9)(s:PS):Got Nd:=Cb S (12*S.left s+2) s
def DF(S:Src9)(n:Nd)(s:PS):Got Nd:=callL S (12*S.left s+1) n s
def FB(S:Src9)(s:PS):Got (List Nd):=CH S (12*S.left s+7) s
def Di(S:Src9)(s:PS):Got Nd:=Cc S (12*S.left s+1) s
theorem DS{S:Src9}{s:PS}{f:Nat}(h:12*S.left s+6<=f):Bn S f s=Ao S s:=CW (X:=fun f=>Bn S f s) (fun f hf=>(Gk S f).expr s hf) f h
theorem Mh{S:Src9}{s:PS}{f:Nat}(h:12*S.left s+5<=f):D9 S f s=Ce S s:=CW (X:=fun f=>D9 S f s) (fun f hf=>(Gk S f).sum s hf) f h
theorem Mp{S:Src9}{n:Nd}{s:PS}{f:Nat}(h:12*S.left s+1<=f):sumL S f n s=E9 S n s:=CW (X:=fun f=>sumL S f n s) (fun f hf=>(Gk S f).sumL n s hf) f h
theorem Ht{S:Src9}{s:PS}{f:Nat}(h:12*S.left s+4<=f):CQ S f s=CR S s:=CW (X:=fun f=>CQ S f s) (fun f hf=>(Gk S f).term s hf) f h
theorem OW{S:Src9}{n:Nd}{s:PS}{f:Nat}(h:12*S.left s+1<=f):termL S f n s=Dh S n s:=CW (X:=fun f=>termL S f n s) (fun f hf=>(Gk S f).termL n s hf) f h
theorem GY{S:Src9}{s:PS}{f:Nat}(h:12*S.left s+3<=f):Bp S f s=BS S s:=CW (X:=fun f=>Bp S f s) (fun f hf=>(Gk S f).unary s hf) f h
theorem TO{S:Src9}{s:PS}{f:Nat}(h:12*S.left s+2<=f):Cb S f s=Eo S s:=CW (X:=fun f=>Cb S f s) (fun f hf=>(Gk S f).call s hf) f h
theorem OX{S:Src9}{n:Nd}{s:PS}{f:Nat}(h:12*S.left s+1<=f):callL S f n s=DF S n s:=CW (X:=fun f=>callL S f n s) (fun f hf=>(Gk S f).callL n s hf) f h
theorem Mq{S:Src9}{s:PS}{f:Nat}(h:12*S.left s+7<=f):CH S f s=FB S s:=CW (X:=fun f=>CH S f s) (fun f hf=>(Gk S f).args s hf) f h
theorem Q7{S:Src9}{s:PS}{f:Nat}(h:12*S.left s+1<=f):Cc S f s=Di S s:=CW (X:=fun f=>Cc S f s) (fun f hf=>(Gk S f).prim s hf) f h
theorem Q8{S:Src9}{s:PS}{n:Nd}{s1:PS}(e:Ce S s=.ok (n,s1)):s.tok+1<=s1.tok/\s1.tok<=S.L.length:=((DE S _).sum s (Nat.le_refl _)).at e
theorem JU{S:Src9}{s:PS}{n:Nd}{s1:PS}(e:CR S s=.ok (n,s1)):s.tok+1<=s1.tok/\s1.tok<=S.L.length:=((DE S _).term s (Nat.le_refl _)).at e
theorem KE{S:Src9}{s:PS}{n:Nd}{s1:PS}(e:BS S s=.ok (n,s1)):s.tok+1<=s1.tok/\s1.tok<=S.L.length:=((DE S _).unary s (Nat.le_refl _)).at e
theorem OY{S:Src9}{s:PS}{n:Nd}{s1:PS}(e:Di S s=.ok (n,s1)):s.tok+1<=s1.tok/\s1.tok<=S.L.length:=((DE S _).prim s (Nat.le_refl _)).at e
theorem JV{S:Src9}{s:PS}{n:Nd}{s1:PS}(e:Ao S s=.ok (n,s1)):s.tok+1<=s1.tok/\s1.tok<=S.L.length:=((DE S _).expr s (Nat.le_refl _)).at e
theorem OZ{S:Src9}{s:PS}{n:List Nd}{s1:PS}(e:FB S s=.ok (n,s1)):s.tok+1<=s1.tok/\s1.tok<=S.L.length:=((DE S _).args s (Nat.le_refl _)).at e
theorem Hu(S:Src9)(s:PS):Ao S s=(Ce S s).then fun n s=>
   if A2 S Gx s=true then(Ce S s.step).then fun k s=>AJ 18 [] 0 [n,k] s
   else if A2 S Gy s=true then(Ce S s.step).then fun k s=>AJ 19 [] 0 [n,k] s
   else .ok (n,s):=by
 conv=>lhs;unfold Ao;rw[Bn]
 refine A4 (Mh (Nat.le_refl _)) fun n s1 e1=>?_
 have h1:=Q8 (by rw[<-Mh (Nat.le_refl _)];exact e1)
 have l1:=AR (S:=S) (s:=s) (s':=s1) (by omega)
 split
 ·rename_i hs
  have:=AB (s':=s1.step) (AG hs) (Nat.le_refl _)
  exact A4 (Mh (by omega)) fun _ _ _=>rfl
 ·split
  ·rename_i hs
   have:=AB (s':=s1.step) (AG hs) (Nat.le_refl _)
   exact A4 (Mh (by omega)) fun _ _ _=>rfl
  ·rfl
theorem Kc(S:Src9)(s:PS):Ce S s=(CR S s).then fun n s=>E9 S n s:=by
 conv=>lhs;unfold Ce;rw[D9]
 refine A4 (Ht (Nat.le_refl _)) fun n s1 e1=>?_
 have h1:=JU (by rw[<-Ht (Nat.le_refl _)];exact e1)
 have l1:=AR (S:=S) (s:=s) (s':=s1) (by omega)
 exact Mp (by omega)
theorem JW(S:Src9)(n:Nd)(s:PS):E9 S n s =
   if A2 S GP s=true then(CR S s.step).then fun k s=>E9 S (.mk 20 [] 0 [n,k]) s.node
   else if A2 S CC s=true then(CR S s.step).then fun k s=>E9 S (.mk 21 [] 0 [n,k]) s.node
   else .ok (n,s):=by
 conv=>lhs;unfold E9;rw[sumL]
 split
 ·rename_i hs
  have:=AB (s':=s.step) (AG hs) (Nat.le_refl _)
  refine A4 (Ht (by omega)) fun k s1 e1=>?_
  rw[Ht (by omega)]at e1
  have h1:=JU e1
  rw[AX]at h1
  have l1:=AB (S:=S) (s:=s) (s':=s1.node) (AG hs) (by rw[B7];omega)
  exact Mp (by omega)
 ·split
  ·rename_i hs
   have:=AB (s':=s.step) (AG hs) (Nat.le_refl _)
   refine A4 (Ht (by omega)) fun k s1 e1=>?_
   rw[Ht (by omega)]at e1
   have h1:=JU e1
   rw[AX]at h1
   have l1:=AB (S:=S) (s:=s) (s':=s1.node) (AG hs) (by rw[B7];omega)
   exact Mp (by omega)
  ·rfl
theorem JX(S:Src9)(s:PS):CR S s=(BS S s).then fun n s=>Dh S n s:=by
 conv=>lhs;unfold CR;rw[CQ]
 refine A4 (GY (Nat.le_refl _)) fun n s1 e1=>?_
 have h1:=KE (by rw[<-GY (Nat.le_refl _)];exact e1)
 have l1:=AR (S:=S) (s:=s) (s':=s1) (by omega)
 exact OW (by omega)
theorem IA(S:Src9)(n:Nd)(s:PS):Dh S n s =
   if A2 S FX s=true then(BS S s.step).then fun k s=>Dh S (.mk 22 [] 0 [n,k]) s.node
   else .ok (n,s):=by
 conv=>lhs;unfold Dh;rw[termL]
 split
 ·rename_i hs
  have:=AB (s':=s.step) (AG hs) (Nat.le_refl _)
  refine A4 (GY (by omega)) fun k s1 e1=>?_
  rw[GY (by omega)]at e1
  have h1:=KE e1
  rw[AX]at h1
  have l1:=AB (S:=S) (s:=s) (s':=s1.node) (AG hs) (by rw[B7];omega)
  exact OW (by omega)
 ·rfl
theorem Gl(S:Src9)(s:PS):BS S s =
   if A2 S CC s=true then(BS S s.step).then fun k s=>AJ 23 [] 0 [k] s
   else if A2 S Fq s=true then(BS S s.step).then fun k s=>AJ 24 [] 0 [k] s
   else Eo S s:=by
 conv=>lhs;unfold BS;rw[Bp]
 split
 ·rename_i hs
  have:=AB (s':=s.step) (AG hs) (Nat.le_refl _)
  exact A4 (GY (by omega)) fun _ _ _=>rfl
 ·split
  ·rename_i hs
   have:=AB (s':=s.step) (AG hs) (Nat.le_refl _)
   exact A4 (GY (by omega)) fun _ _ _=>rfl
  ·exact TO (Nat.le_refl _)
theorem JY(S:Src9)(s:PS):Eo S s=(Di S s).then fun n s=>DF S n s:=by
 conv=>lhs;unfold Eo;rw[Cb]
 refine A4 (Q7 (Nat.le_refl _)) fun n s1 e1=>?_
 have h1:=OY (by rw[<-Q7 (Nat.le_refl _)];exact e1)
 have l1:=AR (S:=S) (s:=s) (s':=s1) (by omega)
 exact OX (by omega)
theorem IB(S:Src9)(n:Nd)(s:PS):DF S n s =
   if A2 S FW s=true then(Ae S s.step).then fun x s=>(A8 S AD s).then fun _ s=>
    (if A2 S A9 s=true then .ok ([],s)else FB S s).then fun ks s=>(A8 S A9 s).then fun _ s=>DF S (.mk 25 x 0 (n::ks)) s.node
   else .ok (n,s):=by
 conv=>lhs;unfold DF;rw[callL]
 split
 ·rename_i hs
  refine A4 rfl fun x s1 e1=>A4 rfl fun u s2 e2=>?_
  have h1:=(Bd S s.step).at e1
  have h2:=(AV S AD s1).at e2
  rw[AX]at h1
  have l2:=AB (S:=S) (s:=s) (s':=s2) (AG hs) (by omega)
  refine A4 ?_ fun ks s3 e3=>A4 rfl fun v s4 e4=>?_
  ·split
   ·rfl
   ·exact Mq (by omega)
  ·have h3:s2.tok<=s3.tok:=by
    by_cases hx:A2 S A9 s2=true
    ·rw[if_pos hx]at e3;cases e3;exact Nat.le_refl _
    ·rw[if_neg hx,Mq (by omega)]at e3
     have:=OZ e3
     omega
   have h4:=(AV S A9 s3).at e4
   have l4:=AB (S:=S) (s:=s) (s':=s4.node) (AG hs) (by rw[B7];omega)
   exact OX (by omega)
 ·rfl
theorem LR(S:Src9)(s:PS):FB S s=(Ao S s).then fun k s=>if A2 S An s=true then(FB S s.step).then fun ks s=>.ok (k::ks,s)else .ok ([k],s):=by
 conv=>lhs;unfold FB;rw[CH]
 refine A4 (DS (Nat.le_refl _)) fun k s1 e1=>?_
 have h1:=JV (by rw[<-DS (Nat.le_refl _)];exact e1)
 split
 ·rename_i hs
  have l1:=AB (S:=S) (s:=s1) (s':=s1.step) (AG hs) (Nat.le_refl _)
  have l0:=AR (S:=S) (s:=s) (s':=s1) (by omega)
  exact A4 (Mq (by omega)) fun _ _ _=>rfl
 ·rfl
theorem FL(S:Src9)(s:PS):Di S s =
   if isB S 2 s=true then AJ 26 [] (CG (S.at s.tok).2.1) [] s.step
   else if isB S 1 s=true then(Ae S s).then fun x s=>AJ 31 x 0 [] s
   else if A2 S Dq s=true then AJ 27 [] 0 [] s.step
   else if A2 S DK s=true then AJ 28 [] 0 [] s.step
   else if A2 S De s=true then AJ 29 [] 0 [] s.step
   else if A2 S EW s=true then(Ae S s.step).then fun x s=>AJ 30 x 0 [] s
   else(A8 S AD s).then fun _ s=>(Ao S s).then fun n s=>(A8 S A9 s).then fun _ s=>.ok (n,s):=by
 conv=>lhs;unfold Di;rw[Cc]
 split
 ·rfl
 ·split
  ·rfl
  ·split
   ·rfl
   ·split
    ·rfl
    ·split
     ·rfl
     ·split
      ·rfl
      ·by_cases hs:A2 S AD s=true
       ·refine A4 rfl fun u s1 e1=>?_
        have h1:=(AV S AD s).at e1
        have l1:=AB (S:=S) (s:=s) (s':=s1) (AG hs) (by omega)
        exact A4 (DS (by omega)) fun _ _ _=>rfl
       ·have e:A8 S AD s=Bu S 12 s:=by unfold A8;rw[if_neg hs]
        rw[e];rfl
theorem Aq{α:Type}{c:Prop}[Decidable c]{a a' b b':α}(h:c->a=a')(h':¬c->b=b'):(if c then a else b)=(if c then a' else b'):=by
 by_cases hc:c
 ·rw[if_pos hc,if_pos hc];exact h hc
 ·rw[if_neg hc,if_neg hc];exact h' hc
def EU(S:Src9)(kind:Int)(s:PS):Got Nd:=
 (Ae S s).then fun x s=>(A8 S Ca s).then fun _ s=>(Ao S s).then fun k s=>(A8 S AQ s).then fun _ s=>AJ kind x 0 [k] s
def Bw(S:Src9)(s:PS):Got Nd:=(A8 S AD s).then fun _ s=>(Ao S s).then fun k s=>(A8 S A9 s).then fun _ s=>.ok (k,s)
def Ey(S:Src9)(kind:Int)(s:PS):Got Nd:=
 (A8 S AD s).then fun _ s=>(Ao S s).then fun k s=>(A8 S A9 s).then fun _ s=>(A8 S AQ s).then fun _ s=>AJ kind [] 0 [k] s
def Gm(S:Src9)(kind:Int)(s:PS):Got Nd:=
 (A8 S AD s).then fun _ s=>(Ao S s).then fun k s=>(A8 S An s).then fun _ s=>(Ao S s).then fun m s=>(A8 S A9 s).then fun _ s=>(A8 S AQ s).then fun _ s=>AJ kind [] 0 [k,m] s
theorem Hv{S:Src9}{f:Nat}{kind:Int}{s:PS}(h:12*S.left s+6<=f):ES S f kind s=EU S kind s:=by
 unfold ES EU
 refine A4 rfl fun x s1 e1=>A4 rfl fun u s2 e2=>?_
 have h1:=(Bd S s).at e1
 have h2:=(AV S Ca s1).at e2
 have l2:=AR (S:=S) (s:=s) (s':=s2) (by omega)
 exact A4 (DS (by omega)) fun _ _ _=>rfl
theorem Hw{S:Src9}{f:Nat}{s:PS}(h:12*S.left s+6<=f):ET S f s=Bw S s:=by
 unfold ET Bw
 refine A4 rfl fun u s1 e1=>?_
 have h1:=(AV S AD s).at e1
 have l1:=AR (S:=S) (s:=s) (s':=s1) (by omega)
 exact A4 (DS (by omega)) fun _ _ _=>rfl
theorem GT{S:Src9}{f:Nat}{kind:Int}{s:PS}(h:12*S.left s+6<=f):FE S f kind s=Ey S kind s:=by
 unfold FE Ey
 refine A4 rfl fun u s1 e1=>?_
 have h1:=(AV S AD s).at e1
 have l1:=AR (S:=S) (s:=s) (s':=s1) (by omega)
 exact A4 (DS (by omega)) fun _ _ _=>rfl
theorem PI{S:Src9}{f:Nat}{kind:Int}{s:PS}(h:12*S.left s+6<=f):Fr S f kind s=Gm S kind s:=by
 unfold Fr Gm
 refine A4 rfl fun u s1 e1=>?_
 have h1:=(AV S AD s).at e1
 have l1:=AR (S:=S) (s:=s) (s':=s1) (by omega)
 refine A4 (DS (by omega)) fun k s2 e2=>A4 rfl fun v s3 e3=>?_
 rw[DS (by omega)]at e2
 have h2:=JV e2
 have h3:=(AV S An s2).at e3
 have l3:=AR (S:=S) (s:=s) (s':=s3) (by omega)
 exact A4 (DS (by omega)) fun _ _ _=>rfl
structure Tm(S:Src9)(f:Nat):Prop where
 block:∀s,12*S.left s+1<=f->BQ S (f+1) s=BQ S f s
 stmts:∀s,12*S.left s+9<=f->s.tok<=S.L.length->C7 S (f+1) s=C7 S f s
 stmt:∀s,12*S.left s+8<=f->Cd S (f+1) s=Cd S f s
theorem Mr{S:Src9}{x:List Int}{s:PS}(h:¬A2 S x s=true){α:Type}(F F':Unit->PS->Got α):(A8 S x s).then F=(A8 S x s).then F':=by
 have e:A8 S x s=Bu S 12 s:=by unfold A8;rw[if_neg h]
 rw[e];rfl
theorem Mi(S:Src9):∀f,Tm S f
 | 0=>⟨fun _ h=>(by omega),fun _ h _=>(by omega),fun _ h=>(by omega)⟩
 | f+1=>by
  have I:=Mi S f
  have E1:=Hs S (f+1)
  constructor
  ·intro s h
   conv=>lhs;rw[BQ]
   conv=>rhs;rw[BQ]
   by_cases hs:A2 S Ai s=true
   ·refine A4 rfl fun u s1 e1=>?_
    have h1:=(AV S Ai s).at e1
    have l1:=AB (S:=S) (s:=s) (s':=s1) (AG hs) (by omega)
    exact A4 (I.stmts s1 (by omega) h1.2) fun _ _ _=>rfl
   ·exact Mr hs _ _
  ·intro s h hle
   conv=>lhs;rw[C7]
   conv=>rhs;rw[C7]
   split
   ·rfl
   ·refine A4 (I.stmt s (by omega)) fun k s1 e1=>?_
    have h1:=(E1.stmt s (by omega)).at e1
    have l1:=AB (S:=S) (s:=s) (s':=s1) (by omega) (by omega)
    exact A4 (I.stmts s1 (by omega) h1.2) fun _ _ _=>rfl
  ·intro s h
   conv=>lhs;rw[Cd]
   conv=>rhs;rw[Cd]
   have nx:∀x,A2 S x s=true->12*S.left s.step+6<=f:=fun x hx=>LQ (AG hx) (by omega) (Nat.le_refl _)
   refine Aq (fun hs=>?_) fun _=>Aq (fun hs=>?_) fun _=>Aq (fun hs=>?_) fun _=>Aq (fun hs=>?_) fun _=>Aq (fun hs=>?_) fun _=>Aq (fun hs=>?_) fun _=>Aq (fun hs=>?_) fun _=>Aq (fun hs=>?_) fun _=>Aq (fun hs=>?_) fun _=>Aq (fun hs=>?_) fun _=>?_
   ·rw[Hv (by have:=nx _ hs;omega),Hv (nx _ hs)]
   ·have hx:=nx _ hs
    refine A4 (by rw[Hw (by omega),Hw hx]) fun k s1 e1=>?_
    have h1:=(FK (S:=S) (f:=f+1) (s:=s.step) (by omega)).at e1
    rw[AX]at h1
    have l1:=AB (S:=S) (s:=s) (s':=s1) (AG hs) (by omega)
    refine A4 (I.block s1 (by omega)) fun b s2 e2=>?_
    have h2:=(E1.block s1 (by omega)).at e2
    refine Aq (fun _=>?_) fun _=>rfl
    have l2:=AB (S:=S) (s:=s) (s':=s2.step) (AG hs) (by rw[AX];omega)
    exact A4 (I.block s2.step (by omega)) fun _ _ _=>rfl
   ·have hx:=nx _ hs
    refine A4 (by rw[Hw (by omega),Hw hx]) fun k s1 e1=>?_
    have h1:=(FK (S:=S) (f:=f+1) (s:=s.step) (by omega)).at e1
    rw[AX]at h1
    have l1:=AB (S:=S) (s:=s) (s':=s1) (AG hs) (by omega)
    exact A4 (I.block s1 (by omega)) fun _ _ _=>rfl
   ·have hx:=nx _ hs
    exact A4 (by rw[DS (by omega),DS hx]) fun _ _ _=>rfl
   ·rw[GT (by have:=nx _ hs;omega),GT (nx _ hs)]
   ·have l1:=AB (S:=S) (s:=s) (s':=s.step) (AG hs) (Nat.le_refl _)
    exact A4 (I.block s.step (by omega)) fun _ _ _=>rfl
   ·rw[GT (by have:=nx _ hs;omega),GT (nx _ hs)]
   ·rw[GT (by have:=nx _ hs;omega),GT (nx _ hs)]
   ·rw[PI (by have:=nx _ hs;omega),PI (nx _ hs)]
   ·rw[Hv (by omega),Hv (by omega)]
   ·exact A4 (by rw[DS (by omega),DS (by omega)]) fun _ _ _=>rfl
def Aj(S:Src9)(s:PS):Got Nd:=BQ S (12*S.left s+1) s
def EN(S:Src9)(s:PS):Got (List Nd):=C7 S (12*S.left s+9) s
def Cf(S:Src9)(s:PS):Got Nd:=Cd S (12*S.left s+8) s
theorem Ep{S:Src9}{s:PS}{f:Nat}(h:12*S.left s+1<=f):BQ S f s=Aj S s:=CW (X:=fun f=>BQ S f s) (fun f hf=>(Mi S f).block s hf) f h
theorem Oa{S:Src9}{s:PS}{f:Nat}(h:12*S.left s+9<=f)(hle:s.tok<=S.L.length):C7 S f s=EN S s:=CW (X:=fun f=>C7 S f s) (fun f hf=>(Mi S f).stmts s hf hle) f h
theorem Q9{S:Src9}{s:PS}{f:Nat}(h:12*S.left s+8<=f):Cd S f s=Cf S s:=CW (X:=fun f=>Cd S f s) (fun f hf=>(Mi S f).stmt s hf) f h
theorem Ms{S:Src9}{s:PS}{n:Nd}{s1:PS}(e:Aj S s=.ok (n,s1)):s.tok+1<=s1.tok/\s1.tok<=S.L.length:=((Hs S _).block s (Nat.le_refl _)).at e
theorem Ob{S:Src9}{s:PS}{n:Nd}{s1:PS}(e:Cf S s=.ok (n,s1)):s.tok+1<=s1.tok/\s1.tok<=S.L.length:=((Hs S _).stmt s (Nat.le_refl _)).at e
theorem Mt(S:Src9)(s:PS):Aj S s=(A8 S Ai s).then fun _ s=>(EN S s).then fun ks s=>(A8 S Au s).then fun _ s=>AJ 6 [] 0 ks s:=by
 conv=>lhs;unfold Aj;rw[BQ]
 by_cases hs:A2 S Ai s=true
 ·refine A4 rfl fun u s1 e1=>?_
  have h1:=(AV S Ai s).at e1
  have l1:=AB (S:=S) (s:=s) (s':=s1) (AG hs) (by omega)
  exact A4 (Oa (by omega) h1.2) fun _ _ _=>rfl
 ·exact Mr hs _ _
theorem KF(S:Src9)(s:PS)(hle:s.tok<=S.L.length):EN S s=if A2 S Au s=true then .ok ([],s)else(Cf S s).then fun k s=>(EN S s).then fun ks s=>.ok (k::ks,s):=by
 conv=>lhs;unfold EN;rw[C7]
 split
 ·rfl
 ·refine A4 (Q9 (by omega)) fun k s1 e1=>?_
  rw[Q9 (by omega)]at e1
  have h1:=Ob e1
  have l1:=AB (S:=S) (s:=s) (s':=s1) (by omega) (by omega)
  exact A4 (Oa (by omega) h1.2) fun _ _ _=>rfl
theorem Bt(S:Src9)(s:PS):Cf S s =
   if A2 S CT s=true then EU S 7 s.step
   else if A2 S wIf s=true then(Bw S s.step).then fun k s=>(Aj S s).then fun b s=>
    if A2 S Cy s=true then(Aj S s.step).then fun c s=>AJ 9 [] 0 [k,b,c] s else AJ 9 [] 0 [k,b] s
   else if A2 S C0 s=true then(Bw S s.step).then fun k s=>(Aj S s).then fun b s=>AJ 10 [] 0 [k,b] s
   else if A2 S Bs s=true then(Ao S s.step).then fun k s=>(A8 S AQ s).then fun _ s=>AJ 11 [] 0 [k] s
   else if A2 S CN s=true then Ey S 12 s.step
   else if A2 S DX s=true then(Aj S s.step).then fun b s=>AJ 13 [] 0 [b] s
   else if A2 S Dd s=true then Ey S 14 s.step
   else if A2 S Cu s=true then Ey S 15 s.step
   else if A2 S Ek s=true then Gm S 16 s.step
   else if Cv S s=true then EU S 8 s
   else(Ao S s).then fun k s=>(A8 S AQ s).then fun _ s=>AJ 17 [] 0 [k] s:=by
 conv=>lhs;unfold Cf;rw[Cd]
 have nx:∀x,A2 S x s=true->12*S.left s.step+6<=12*S.left s+7:=fun x hx=>LQ (AG hx) (Nat.le_refl _) (Nat.le_refl _)
 refine Aq (fun hs=>?_) fun _=>Aq (fun hs=>?_) fun _=>Aq (fun hs=>?_) fun _=>Aq (fun hs=>?_) fun _=>Aq (fun hs=>?_) fun _=>Aq (fun hs=>?_) fun _=>Aq (fun hs=>?_) fun _=>Aq (fun hs=>?_) fun _=>Aq (fun hs=>?_) fun _=>Aq (fun hs=>?_) fun _=>?_
 ·exact Hv (nx _ hs)
 ·have hx:=nx _ hs
  refine A4 (Hw hx) fun k s1 e1=>?_
  have h1:=(FK (S:=S) (s:=s.step) hx).at e1
  rw[AX]at h1
  have l1:=AB (S:=S) (s:=s) (s':=s1) (AG hs) (by omega)
  refine A4 (Ep (by omega)) fun b s2 e2=>?_
  rw[Ep (by omega)]at e2
  have h2:=Ms e2
  refine Aq (fun _=>?_) fun _=>rfl
  have l2:=AB (S:=S) (s:=s) (s':=s2.step) (AG hs) (by rw[AX];omega)
  exact A4 (Ep (by omega)) fun _ _ _=>rfl
 ·have hx:=nx _ hs
  refine A4 (Hw hx) fun k s1 e1=>?_
  have h1:=(FK (S:=S) (s:=s.step) hx).at e1
  rw[AX]at h1
  have l1:=AB (S:=S) (s:=s) (s':=s1) (AG hs) (by omega)
  exact A4 (Ep (by omega)) fun _ _ _=>rfl
 ·exact A4 (DS (nx _ hs)) fun _ _ _=>rfl
 ·exact GT (nx _ hs)
 ·have l1:=AB (S:=S) (s:=s) (s':=s.step) (AG hs) (Nat.le_refl _)
  exact A4 (Ep (by omega)) fun _ _ _=>rfl
 ·exact GT (nx _ hs)
 ·exact GT (nx _ hs)
 ·exact PI (nx _ hs)
 ·exact Hv (by omega)
 ·exact A4 (DS (by omega)) fun _ _ _=>rfl
theorem Km(S:Src9):∀(f:Nat) (s:PS),12*S.left s+1<=f->Bb S (f+1) s=Bb S f s
 | 0,_,h=>by omega
 | f+1,s,h=>by
  conv=>lhs;rw[Bb]
  conv=>rhs;rw[Bb]
  refine A4 rfl fun x s1 e1=>A4 rfl fun k s2 e2=>Aq (fun hs=>?_) fun _=>rfl
  cases e2
  have h1:=(Bd S s).at e1
  have l1:=AB (S:=S) (s:=s1.node) (s':=s1.node.step) (AG hs) (Nat.le_refl _)
  have l0:=AR (S:=S) (s:=s) (s':=s1.node) (by rw[B7];omega)
  exact A4 (Km S f s1.node.step (by omega)) fun _ _ _=>rfl
def Ea(S:Src9)(s:PS):Got (List Nd):=Bb S (12*S.left s+1) s
theorem Ok{S:Src9}{s:PS}{f:Nat}(h:12*S.left s+1<=f):Bb S f s=Ea S s:=CW (X:=fun f=>Bb S f s) (fun f hf=>Km S f s hf) f h
theorem Rq{S:Src9}{s:PS}{n:List Nd}{s1:PS}(e:Ea S s=.ok (n,s1)):s.tok+1<=s1.tok/\s1.tok<=S.L.length:=(GS S _ s (Nat.le_refl _)).at e
theorem Rr(S:Src9)(s:PS):Ea S s=(Ae S s).then fun x s=>(AJ 5 x 0 [] s).then fun k s=>if A2 S An s=true then(Ea S s.step).then fun ks s=>.ok (k::ks,s)else .ok ([k],s):=by
 conv=>lhs;unfold Ea;rw[Bb]
 refine A4 rfl fun x s1 e1=>A4 rfl fun k s2 e2=>Aq (fun hs=>?_) fun _=>rfl
 cases e2
 have h1:=(Bd S s).at e1
 have l1:=AB (S:=S) (s:=s1.node) (s':=s1.node.step) (AG hs) (Nat.le_refl _)
 have l0:=AR (S:=S) (s:=s) (s':=s1.node) (by rw[B7];omega)
 exact A4 (Ok (by omega)) fun _ _ _=>rfl
def PO(S:Src9)(s:PS):Got (List Nd):=if A2 S A9 s=true then .ok ([],s)else Ea S s
def Es(S:Src9)(s:PS):Got Nd:=
 (Ae S s).then fun x s=>(A8 S AD s).then fun _ s=>(PO S s).then fun ks s=>(A8 S A9 s).then fun _ s=>(Aj S s).then fun b s=>AJ 4 x (ks.length:Int) (ks++[b]) s
theorem Fv{S:Src9}{f:Nat}{s:PS}(h:12*S.left s+10<=f):Cl S f s=Es S s:=by
 unfold Cl Es PO
 refine A4 rfl fun x s1 e1=>A4 rfl fun u s2 e2=>?_
 have h1:=(Bd S s).at e1
 have h2:=(AV S AD s1).at e2
 have l2:=AR (S:=S) (s:=s) (s':=s2) (by omega)
 refine A4 (Aq (fun _=>rfl) fun _=>Ok (by omega)) fun ks s3 e3=>A4 rfl fun v s4 e4=>?_
 have h3:s2.tok<=s3.tok:=by
  split at e3
  ·cases e3;exact Nat.le_refl _
  ·have:=(GS S f s2 (by omega)).at e3;omega
 have h4:=(AV S A9 s3).at e4
 have l4:=AR (S:=S) (s:=s) (s':=s4) (by omega)
 exact A4 (Ep (by omega)) fun _ _ _=>rfl
theorem Ha{S:Src9}{s:PS}{n:Nd}{s1:PS}(e:Es S s=.ok (n,s1)):s.tok+1<=s1.tok/\s1.tok<=S.L.length:=by
 rw[<-Fv (Nat.le_refl _)]at e
 exact(Jm (Nat.le_refl _)).at e
theorem Kn(S:Src9):∀(f:Nat) (s:PS),12*S.left s+1<=f->BM S (f+1) s=BM S f s
 | 0,_,h=>by omega
 | f+1,s,h=>by
  conv=>lhs;rw[BM]
  conv=>rhs;rw[BM]
  refine Aq (fun hs=>A4 rfl fun x s1 e1=>A4 rfl fun u s2 e2=>A4 rfl fun k s3 e3=>?_) fun _=>rfl
  cases e3
  have h1:=(Bd S s.step).at e1
  have h2:=(AV S AQ s1).at e2
  rw[AX]at h1
  have l2:=AB (S:=S) (s:=s) (s':=s2.node) (AG hs) (by rw[B7];omega)
  exact A4 (Kn S f s2.node (by omega)) fun _ _ _=>rfl
def DT(S:Src9)(s:PS):Got (List Nd):=BM S (12*S.left s+1) s
theorem LU{S:Src9}{s:PS}{f:Nat}(h:12*S.left s+1<=f):BM S f s=DT S s:=CW (X:=fun f=>BM S f s) (fun f hf=>Kn S f s hf) f h
theorem Rs{S:Src9}{s:PS}{n:List Nd}{s1:PS}(hle:s.tok<=S.L.length)(e:DT S s=.ok (n,s1)):s.tok<=s1.tok/\s1.tok<=S.L.length:=(I9 S _ s (Nat.le_refl _) hle).at e
theorem Rt(S:Src9)(s:PS):DT S s=if A2 S Ej s=true then(Ae S s.step).then fun x s=>(A8 S AQ s).then fun _ s=>(AJ 3 x 0 [] s).then fun k s=>(DT S s).then fun ks s=>.ok (k::ks,s)else .ok ([],s):=by
 conv=>lhs;unfold DT;rw[BM]
 refine Aq (fun hs=>A4 rfl fun x s1 e1=>A4 rfl fun u s2 e2=>A4 rfl fun k s3 e3=>?_) fun _=>rfl
 cases e3
 have h1:=(Bd S s.step).at e1
 have h2:=(AV S AQ s1).at e2
 rw[AX]at h1
 have l2:=AB (S:=S) (s:=s) (s':=s2.node) (AG hs) (by rw[B7];omega)
 exact A4 (LU (by omega)) fun _ _ _=>rfl
theorem J4(S:Src9):∀(f:Nat) (s:PS),12*S.left s+1<=f->Ap S (f+1) s=Ap S f s
 | 0,_,h=>by omega
 | f+1,s,h=>by
  conv=>lhs;rw[Ap]
  conv=>rhs;rw[Ap]
  refine Aq (fun hs=>?_) fun _=>rfl
  have l1:=AB (S:=S) (s:=s) (s':=s.step) (AG hs) (Nat.le_refl _)
  refine A4 (by rw[Fv (by omega),Fv (by omega)]) fun k s1 e1=>?_
  rw[Fv (by omega)]at e1
  have h1:=Ha e1
  rw[AX]at h1
  have l2:=AB (S:=S) (s:=s) (s':=s1) (AG hs) (by omega)
  exact A4 (J4 S f s1 (by omega)) fun _ _ _=>rfl
def Ch(S:Src9)(s:PS):Got (List Nd):=Ap S (12*S.left s+1) s
theorem Lt{S:Src9}{s:PS}{f:Nat}(h:12*S.left s+1<=f):Ap S f s=Ch S s:=CW (X:=fun f=>Ap S f s) (fun f hf=>J4 S f s hf) f h
theorem Ko(S:Src9)(s:PS):Ch S s=if A2 S wTo s=true then(Es S s.step).then fun k s=>(Ch S s).then fun ks s=>.ok (k::ks,s)else .ok ([],s):=by
 conv=>lhs;unfold Ch;rw[Ap]
 refine Aq (fun hs=>?_) fun _=>rfl
 have l1:=AB (S:=S) (s:=s) (s':=s.step) (AG hs) (Nat.le_refl _)
 refine A4 (Fv (by omega)) fun k s1 e1=>?_
 rw[Fv (by omega)]at e1
 have h1:=Ha e1
 rw[AX]at h1
 have l2:=AB (S:=S) (s:=s) (s':=s1) (AG hs) (by omega)
 exact A4 (Lt (by omega)) fun _ _ _=>rfl
def upC(S:Src9)(s:PS):Got (List Nd):=if A2 S DP s=true then(Ae S s.step).then fun y s=>(AJ 31 y 0 [] s).then fun k s=>.ok ([k],s)else .ok ([],s)
def Fc(S:Src9)(s:PS):Got Nd:=
 (Ae S s).then fun x s=>(upC S s).then fun up s=>(A8 S Ai s).then fun _ s=>(DT S s).then fun ks s=>(Ch S s).then fun ms s=>(A8 S Au s).then fun _ s=>AJ 2 x 0 (up++ks++ms) s
theorem Tu{S:Src9}{s:PS}{n:List Nd}{s1:PS}(hle:s.tok<=S.L.length)(e:upC S s=.ok (n,s1)):s.tok<=s1.tok/\s1.tok<=S.L.length:=by
 unfold upC at e
 split at e
 ·cases hn:Ae S s.step with
  | error e'=>rw[hn]at e;cases e
  | ok y=>
   obtain⟨x,s2⟩:=y
   rw[hn]at e
   have h1:=(Bd S s.step).at hn
   rw[AX]at h1
   cases e
   rw[B7]
   omega
 ·cases e;exact⟨Nat.le_refl _,hle⟩
theorem Gc{S:Src9}{f:Nat}{s:PS}(h:12*S.left s+1<=f):DD S f s=Fc S s:=by
 unfold DD Fc
 refine A4 rfl fun x s1 e1=>A4 rfl fun up s2 e2=>A4 rfl fun u s3 e3=>?_
 have h1:=(Bd S s).at e1
 have h2:=Tu h1.2 e2
 have h3:=(AV S Ai s2).at e3
 have l3:=AR (S:=S) (s:=s) (s':=s3) (by omega)
 refine A4 (LU (by omega)) fun ks s4 e4=>?_
 rw[LU (by omega)]at e4
 have h4:=Rs h3.2 e4
 have l4:=AR (S:=S) (s:=s) (s':=s4) (by omega)
 exact A4 (Lt (by omega)) fun _ _ _=>rfl
theorem KO{S:Src9}{s:PS}{n:Nd}{s1:PS}(e:Fc S s=.ok (n,s1)):s.tok+1<=s1.tok/\s1.tok<=S.L.length:=by
 rw[<-Gc (Nat.le_refl _)]at e
 exact(PH (Nat.le_refl _)).at e
theorem J5(S:Src9):∀(f:Nat) (s:PS),12*S.left s+1<=f->B6 S (f+1) s=B6 S f s
 | 0,_,h=>by omega
 | f+1,s,h=>by
  conv=>lhs;rw[B6]
  conv=>rhs;rw[B6]
  refine Aq (fun hs=>?_) fun _=>rfl
  have l1:=AB (S:=S) (s:=s) (s':=s.step) (AG hs) (Nat.le_refl _)
  refine A4 (by rw[Gc (by omega),Gc (by omega)]) fun k s1 e1=>?_
  rw[Gc (by omega)]at e1
  have h1:=KO e1
  rw[AX]at h1
  have l2:=AB (S:=S) (s:=s) (s':=s1) (AG hs) (by omega)
  exact A4 (J5 S f s1 (by omega)) fun _ _ _=>rfl
def EB(S:Src9)(s:PS):Got (List Nd):=B6 S (12*S.left s+1) s
theorem Lu{S:Src9}{s:PS}{f:Nat}(h:12*S.left s+1<=f):B6 S f s=EB S s:=CW (X:=fun f=>B6 S f s) (fun f hf=>J5 S f s hf) f h
theorem PP(S:Src9)(s:PS):EB S s=if A2 S Cz s=true then(Fc S s.step).then fun k s=>(EB S s).then fun ks s=>.ok (k::ks,s)else .ok ([],s):=by
 conv=>lhs;unfold EB;rw[B6]
 refine Aq (fun hs=>?_) fun _=>rfl
 have l1:=AB (S:=S) (s:=s) (s':=s.step) (AG hs) (Nat.le_refl _)
 refine A4 (Gc (by omega)) fun k s1 e1=>?_
 rw[Gc (by omega)]at e1
 have h1:=KO e1
 rw[AX]at h1
 have l2:=AB (S:=S) (s:=s) (s':=s1) (AG hs) (by omega)
 exact A4 (Lu (by omega)) fun _ _ _=>rfl
def Jc(S:Src9)(s:PS):Got Nd:=(EB S s).then fun ks s=>(A8 S Dy s).then fun _ s=>(Aj S s).then fun b s=>AJ 1 [] 0 (ks++[b]) s
theorem QP(S:Src9):F9 S (Df S) ⟨0,0,0⟩=Jc S ⟨0,0,0⟩:=by
 have l0:S.left ⟨0,0,0⟩=S.L.length:=rfl
 unfold F9 Jc
 refine A4 (Lu (by unfold Df;omega)) fun ks s1 e1=>A4 rfl fun u s2 e2=>?_
 have l2:=AR (S:=S) (s:=⟨0,0,0⟩) (s':=s2) (Nat.zero_le _)
 exact A4 (Ep (by unfold Df;omega)) fun _ _ _=>rfl
def Upto(p:Int->Bool)(T:List Int)(i k:Nat):Prop:=i<=k/\k<=T.length/\∀j,i<=j->j<k->p (wd T j)=true
theorem PT{p:Int->Bool}{T:List Int}{i:Nat}(h:i<=T.length):Upto p T i i:=⟨Nat.le_refl _,h,fun j h1 h2=>by omega⟩
theorem Upto.step{p:Int->Bool}{T:List Int}{i k:Nat}(h:Upto p T i k)(hk:k<T.length)(hp:p (wd T k)=true):Upto p T i (k+1):=
 ⟨by have:=h.1;omega,hk,fun j h1 h2=>by
  by_cases hj:j=k
  ·rw[hj];exact hp
  ·exact h.2.2 j h1 (by omega)⟩
theorem Upto.stop{p:Int->Bool}{T:List Int}{i k:Nat}(h:Upto p T i k)(he:¬k<T.length\/p (wd T k)=false):AO p T i=k:=by
 refine LL h.2.1 h.1 h.2.2 ?_
 rcases he with he | he
 ·exact Or.inl (by have:=h.2.1;omega)
 ·exact Or.inr he
theorem J8{T:List Int}:∀(m i:Nat) (l:List Tok),Bm T m i=.ok l->l.length<=T.length-i
 | 0,i,l,h=>by unfold Bm at h;cases h;simp
 | m+1,i,l,h=>by
  unfold Bm at h
  split at h
  ·rename_i hi
   have hf:=EV hi
   cases hc:Av T i with
   | skip k=>
    rw[hc]at h hf
    have:=J8 m k l h
    have:=hf.1
    omega
   | tok t k=>
    rw[hc]at h hf
    simp only at h
    cases hs:Bm T m k with
    | error e=>rw[hs]at h;cases h
    | ok l'=>
     rw[hs]at h
     cases h
     have:=J8 m k l' hs
     have:=hf.1
     have:=hf.2
     rw[List.length_cons]
     omega
   | bad c a=>rw[hc]at h;cases h
  ·cases h
   simp
theorem N9{T:List Int}{l:List Tok}(h:C9 T=.ok l):l.length<=T.length/\T.length<=4000:=by
 unfold C9 at h
 split at h
 ·cases h
 ·have:=J8 _ _ _ h
  exact⟨by omega,by omega⟩
abbrev Z0:=@Nat.le_refl
abbrev Z1:=@List.length_append
abbrev Z2:=@List.getD_eq_getElem?_getD
abbrev Z3:=@Nat.zero_le
abbrev Z4:=@List.drop_eq_getElem_cons
abbrev Z5:=@Nat.lt_of_lt_of_le
abbrev Z6:=@List.getElem_mem
abbrev Z7:=@List.mem_cons_self
abbrev Z8:=@List.mem_cons_of_mem
abbrev Z9:=@List.drop_eq_nil_of_le
abbrev Za:=@Nat.le_trans
abbrev Zd:=@List.eq_nil_of_length_eq_zero
end Go.Proofs.YtbglpanjpadldaaGreatDoor
