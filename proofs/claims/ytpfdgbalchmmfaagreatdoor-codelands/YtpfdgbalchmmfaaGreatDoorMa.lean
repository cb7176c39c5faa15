/- Texts in one. -/
import Derived.Laws.BitsLemmas
import Derived.WalkKit
namespace Go.Proofs.YtpfdgbalchmmfaaGreatDoor
def wd(W:List Int)(k:Nat):Int:=W.getD k 0
def Ct(b:Int):Bool:=decide (97<=b/\b<=122)||decide (65<=b/\b<=90)||b==95
def BP(b:Int):Bool:=decide (48<=b/\b<=57)
def DE(b:Int):Bool:=Ct b||BP b
def BV(b:Int):Bool:=b==32||b==10||b==9
def DF(b:Int):Bool:=b != 10
theorem OL{b:Int}(h:Ct b=true):BP b=false:=by
 unfold Ct at h;unfold BP
 simp only[Bool.or_eq_true,decide_eq_true_eq,beq_iff_eq]at h
 exact decide_eq_false (by omega)
theorem Hu{b:Int}(h:BP b=true):Ct b=false:=by
 cases hl:Ct b with
 | false=>rfl
 | true=>rw[OL hl]at h;cases h
def F7(p:Int->Bool)(T:List Int)(i:Nat):Nat->Nat
 | 0=>i
 | m+1=>if p (wd T i)=true then F7 p T (i+1) m else i
def AO(p:Int->Bool)(T:List Int)(i:Nat):Nat:=F7 p T i (T.length-i)
theorem Gk{p:Int->Bool}{T:List Int}{i:Nat}(h:T.length<=i):AO p T i=i:=by
 unfold AO;rw[show T.length-i=0 by omega];rfl
theorem Ft{p:Int->Bool}{T:List Int}{i:Nat}(h:i<T.length)(hp:p (wd T i)=true):AO p T i=AO p T (i+1):=by
 unfold AO
 obtain⟨m,hm⟩:∃m,T.length-i=m+1:=⟨T.length-i-1,by omega⟩
 rw[hm,show T.length-(i+1)=m by omega]
 conv=>lhs;unfold F7
 rw[if_pos hp]
theorem I5{p:Int->Bool}{T:List Int}{i:Nat}(hp:p (wd T i)=false):AO p T i=i:=by
 unfold AO
 cases T.length-i with
 | zero=>rfl
 | succ m=>unfold F7;rw[if_neg (by rw[hp];decide)]
theorem Iy{p:Int->Bool}{T:List Int}:∀(m i:Nat),i<=F7 p T i m/\F7 p T i m<=i+m
 | 0,i=>⟨Nat.le_refl _,Nat.le_refl _⟩
 | m+1,i=>by
  unfold F7
  split
  ·have:=Iy (p:=p) (T:=T) m (i+1);omega
  ·omega
theorem Es(p:Int->Bool)(T:List Int)(i:Nat):i<=AO p T i:=(Iy _ i).1
theorem Fu{p:Int->Bool}{T:List Int}{i:Nat}(h:i<=T.length):AO p T i<=T.length:=by
 have:=(Iy (p:=p) (T:=T) (T.length-i) i).2
 unfold AO;omega
theorem PH{p:Int->Bool}{T:List Int}{k:Nat}(hk:k<=T.length)(he:k=T.length\/p (wd T k)=false):∀(d i:Nat),k-i<=d->i<=k->(∀j,i<=j->j<k->p (wd T j)=true)->AO p T i=k
 | 0,i,h1,h2,_=>by
  obtain rfl:i=k:=by omega
  rcases he with he | he
  ·exact Gk (by omega)
  ·exact I5 he
 | d+1,i,h1,h2,h=>by
  by_cases hi:i=k
  ·subst hi
   rcases he with he | he
   ·exact Gk (by omega)
   ·exact I5 he
  ·rw[Ft (by omega) (h i (Nat.le_refl _) (by omega))]
   exact PH hk he d (i+1) (by omega) (by omega) fun j h3 h4=>h j (by omega) h4
theorem Tf{p:Int->Bool}{T:List Int}{i k:Nat}(hk:k<=T.length)(hi:i<=k)(h:∀j,i<=j->j<k->p (wd T j)=true)(he:k=T.length\/p (wd T k)=false):AO p T i=k:=PH hk he _ i (Nat.le_refl _) hi h
def B4(T:List Int)(i k:Nat):List Int:=(T.drop i).take (k-i)
theorem DM{T:List Int}{i k:Nat}(h:k<=T.length):(B4 T i k).length=k-i:=by
 unfold B4;rw[List.length_take,List.length_drop];omega
theorem Ea{T:List Int}{i k j:Nat}(h:j<k-i):wd (B4 T i k) j=wd T (i+j):=by
 unfold B4 wd;rw[List.getD_eq_getElem?_getD,List.getD_eq_getElem?_getD,List.getElem?_take,if_pos h,List.getElem?_drop]
def Qn:List (List Int):=[[99,108,97,115,115],[116,111],[115,108,111,116],[109,97,105,110],[118,97,114],[105,102],[101,108,115,101],[119,104,105,108,101],[114,101,116,117,114,110],[112,114,105,110,116],[102,111,114,107],[119,97,105,116],[115,105,103,110,97,108],[115,119,97,112],[110,101,119],[103,97,116,101],[110,105,108],[115,101,108,102]]
def FE(s:List Int):Bool:=Qn.contains s
def CY(T:List Int)(i:Nat):Nat->Int
 | 0=>0
 | m+1=>10*CY T i m+(wd T (i+m)-48)
def Pn(T:List Int)(i m:Nat):Prop:=∀j,j<m->BP (wd T (i+j))=true
theorem Tg{T:List Int}{i m:Nat}(h:Pn T i (m+1)):Pn T i m/\48<=wd T (i+m)/\wd T (i+m)<=57:=by
 have:=h m (by omega)
 unfold BP at this
 exact⟨fun j hj=>h j (by omega),of_decide_eq_true this⟩
theorem KJ{T:List Int}{i:Nat}:∀m,Pn T i m->0<=CY T i m
 | 0,_=>Int.le_refl _
 | m+1,h=>by
  obtain⟨h1,h2,h3⟩:=Tg h
  have:=KJ m h1
  unfold CY;omega
def Gl(T:List Int)(i k:Nat):Bool:=decide (1073741823<CY T i (k-i))||(decide (1<k-i)&&wd T i==48)||(decide (k<T.length)&&Ct (wd T k))
def Iz:List Int:=[43,45,42,60,61,33,46,44,59,58,40,41,123,125]
def De(T:List Int)(i:Nat):Nat:=if i+1<T.length/\wd T i=61/\wd T (i+1)=61 then 2 else if Iz.contains (wd T i)=true then 1 else 0
abbrev Tok:=Int×List Int×Nat
inductive Come8
 | skip (k:Nat)
 | tok (t:Tok) (k:Nat)
 | bad (code:Int) (at':Nat)
def B9(T:List Int)(i:Nat):Come8:=
 if BV (wd T i)=true then .skip (i+1)
 else if wd T i=35 then .skip (AO DF T i)
 else if Ct (wd T i)=true then .tok (if FE (B4 T i (AO DE T i))=true then 3 else 1,B4 T i (AO DE T i),i) (AO DE T i)
 else if BP (wd T i)=true then(if Gl T i (AO BP T i)=true then .bad 2 i else .tok (2,B4 T i (AO BP T i),i) (AO BP T i))
 else if De T i=0 then .bad 11 i
 else .tok (4,B4 T i (i+De T i),i) (i+De T i)
def Come8.fits(T:List Int)(i:Nat):Come8->Prop
 | .skip k=>i<k/\k<=T.length
 | .tok _ k=>i<k/\k<=T.length
 | .bad _ a=>a=i
theorem Eb{p:Int->Bool}{T:List Int}{i:Nat}(h:i<T.length)(hp:p (wd T i)=true):i<AO p T i/\AO p T i<=T.length:=by
 rw[Ft h hp]
 have:=Es p T (i+1)
 have:=Fu (p:=p) (T:=T) (i:=i+1) (by omega)
 omega
theorem FP{T:List Int}{i:Nat}(h:i<T.length):(B9 T i).fits T i:=by
 unfold B9
 split
 ·exact⟨by omega,by omega⟩
 ·split
  ·rename_i h1
   exact Eb h (by unfold DF;rw[h1];decide)
  ·split
   ·rename_i h1
    exact Eb h (by unfold DE;rw[h1];rfl)
   ·split
    ·rename_i h1
     split
     ·exact rfl
     ·exact Eb h h1
    ·split
     ·exact rfl
     ·rename_i h1
      refine⟨by omega,?_⟩
      unfold De
      split
      ·omega
      ·split<;>omega
def Bz(T:List Int):Nat->Nat->Except (Int×Int) (List Tok)
 | 0,_=>.ok []
 | m+1,i=>if i<T.length then(match B9 T i with
   | .skip k=>Bz T m k
   | .tok t k=>(Bz T m k).map (t::·)
   | .bad c a=>.error (c,(a:Int)))else .ok []
theorem Ha{T:List Int}:∀(m m' i:Nat),T.length-i<=m->T.length-i<=m'->Bz T m i=Bz T m' i
 | 0,0,_,_,_=>rfl
 | 0,m'+1,i,h,_=>by unfold Bz;rw[if_neg (by omega)]
 | m+1,0,i,_,h=>by unfold Bz;rw[if_neg (by omega)]
 | m+1,m'+1,i,h,h'=>by
  unfold Bz
  by_cases hi:i<T.length
  ·rw[if_pos hi,if_pos hi]
   have hf:=FP hi
   cases hc:B9 T i with
   | skip k=>rw[hc]at hf;obtain⟨f1,f2⟩:=hf;exact Ha m m' k (by omega) (by omega)
   | tok t k=>rw[hc]at hf;obtain⟨f1,f2⟩:=hf;simp only;rw[Ha m m' k (by omega) (by omega)]
   | bad c a=>rfl
  ·rw[if_neg hi,if_neg hi]
def Bw(T:List Int)(i:Nat):Except (Int×Int) (List Tok):=Bz T (T.length-i) i
theorem SJ{T:List Int}{i:Nat}(h:T.length<=i):Bw T i=.ok []:=by
 unfold Bw;rw[show T.length-i=0 by omega];rfl
theorem Hb{T:List Int}{i:Nat}(h:i<T.length):Bw T i=(match B9 T i with
   | .skip k=>Bw T k
   | .tok t k=>(Bw T k).map (t::·)
   | .bad c a=>.error (c,(a:Int))):=by
 unfold Bw
 obtain⟨m,hm⟩:∃m,T.length-i=m+1:=⟨T.length-i-1,by omega⟩
 rw[hm]
 conv=>lhs;unfold Bz
 rw[if_pos h]
 have hf:=FP h
 cases hc:B9 T i with
 | skip k=>rw[hc]at hf;obtain⟨f1,f2⟩:=hf;exact Ha _ _ k (by omega) (by omega)
 | tok t k=>rw[hc]at hf;obtain⟨f1,f2⟩:=hf;simp only;rw[Ha m (T.length-k) k (by omega) (by omega)]
 | bad c a=>rfl
def CW(T:List Int):Except (Int×Int) (List Tok):=if 4000<T.length then .error (1,0)else Bw T 0
def Sofar(T:List Int)(acc:List Tok)(i:Nat):Prop:=i<=T.length/\Bw T 0=(Bw T i).map (acc++·)
theorem map_id{r:Except (Int×Int) (List Tok)}:r.map (([]:List Tok)++·)=r:=by cases r<;>rfl
theorem OM(T:List Int):Sofar T [] 0:=⟨Nat.zero_le _,map_id.symm⟩
theorem Sofar.done{T:List Int}{acc:List Tok}{i:Nat}(h:Sofar T acc i)(hi:¬i<T.length):Bw T 0=.ok acc:=by
 rw[h.2,SJ (by omega)]
 show Except.ok (acc++[])=_
 rw[List.append_nil]
theorem Sofar.tok{T:List Int}{acc:List Tok}{i k:Nat}{t:Tok}(h:Sofar T acc i)(hi:i<T.length)(hc:B9 T i=.tok t k):Sofar T (acc++[t]) k:=by
 have hf:=FP hi
 rw[hc]at hf
 refine⟨hf.2,?_⟩
 rw[h.2,Hb hi,hc]
 simp only
 cases Bw T k with
 | error e=>rfl
 | ok l=>
  show Except.ok (acc++(t::l))=Except.ok ((acc++[t])++l)
  rw[List.append_assoc];rfl
theorem Sofar.bad{T:List Int}{acc:List Tok}{i a:Nat}{c:Int}(h:Sofar T acc i)(hi:i<T.length)(hc:B9 T i=.bad c a):Bw T 0=.error (c,(i:Int)):=by
 have hf:=FP hi
 rw[hc]at hf
 have e:a=i:=hf
 rw[h.2,Hb hi,hc,e]
 rfl
theorem Po{T:List Int}{i:Nat}(h:BV (wd T i)=true):B9 T i=.skip (i+1):=by unfold B9;rw[if_pos h]
theorem Qo{T:List Int}{i:Nat}(h0:BV (wd T i)=false)(h:wd T i=35):B9 T i=.skip (AO DF T i):=by
 unfold B9;rw[if_neg (by rw[h0];decide),if_pos h]
theorem Qp{T:List Int}{i:Nat}(h0:BV (wd T i)=false)(h1:wd T i≠35)(h:Ct (wd T i)=true):B9 T i=.tok (if FE (B4 T i (AO DE T i))=true then 3 else 1,B4 T i (AO DE T i),i) (AO DE T i):=by
 unfold B9;rw[if_neg (by rw[h0];decide),if_neg h1,if_pos h]
theorem SK{T:List Int}{i:Nat}(h0:BV (wd T i)=false)(h1:wd T i≠35)(h:BP (wd T i)=true)(hb:Gl T i (AO BP T i)=true):B9 T i=.bad 2 i:=by
 unfold B9;rw[if_neg (by rw[h0];decide),if_neg h1,if_neg (by rw[Hu h];decide),if_pos h,if_pos hb]
theorem SL{T:List Int}{i:Nat}(h0:BV (wd T i)=false)(h1:wd T i≠35)(h:BP (wd T i)=true)(hb:Gl T i (AO BP T i)=false):B9 T i=.tok (2,B4 T i (AO BP T i),i) (AO BP T i):=by
 unfold B9;rw[if_neg (by rw[h0];decide),if_neg h1,if_neg (by rw[Hu h];decide),if_pos h,if_neg (by rw[hb];decide)]
theorem Qq{T:List Int}{i:Nat}(h0:BV (wd T i)=false)(h1:wd T i≠35)(h2:Ct (wd T i)=false)(h3:BP (wd T i)=false)(h:De T i=0):B9 T i=.bad 11 i:=by
 unfold B9;rw[if_neg (by rw[h0];decide),if_neg h1,if_neg (by rw[h2];decide),if_neg (by rw[h3];decide),if_pos h]
theorem Qr{T:List Int}{i:Nat}(h0:BV (wd T i)=false)(h1:wd T i≠35)(h2:Ct (wd T i)=false)(h3:BP (wd T i)=false)(h:De T i≠0):B9 T i=.tok (4,B4 T i (i+De T i),i) (i+De T i):=by
 unfold B9;rw[if_neg (by rw[h0];decide),if_neg h1,if_neg (by rw[h2];decide),if_neg (by rw[h3];decide),if_neg h]
inductive Nd
 | mk (kind:Int) (text:List Int) (num:Int) (kids:List Nd)
structure PS where
 tok:Nat
 deep:Int
 many:Int
abbrev Got (α:Type):Type:=Except (Int×Int) (α×PS)
structure Src9 where
 L:List Tok
 fin:Nat
def Src9.at(S:Src9)(i:Nat):Tok:=S.L.getD i (0,[],0)
def Src9.byte(S:Src9)(s:PS):Int:=if s.tok<S.L.length then((S.at s.tok).2.2:Int)else(S.fin:Int)
def Bp{α:Type}(S:Src9)(code:Int)(s:PS):Got α:=.error (code,S.byte s)
def A4(S:Src9)(x:List Int)(s:PS):Bool:=decide (s.tok<S.L.length)&&((S.at s.tok).2.1==x&&((S.at s.tok).1==3||(S.at s.tok).1==4))
def isB(S:Src9)(k:Int)(s:PS):Bool:=decide (s.tok<S.L.length)&&(S.at s.tok).1==k
def PS.step(s:PS):PS:={ s with tok:=s.tok+1 }
def PS.node(s:PS):PS:={ s with many:=s.many+1 }
abbrev AG:List Int:=[40]
abbrev AD:List Int:=[41]
abbrev Al:List Int:=[123]
abbrev Ax:List Int:=[125]
abbrev Av:List Int:=[44]
abbrev AU:List Int:=[59]
abbrev Ec:List Int:=[58]
abbrev Hv:List Int:=[46]
abbrev EB:List Int:=[61]
abbrev IG:List Int:=[60]
abbrev IH:List Int:=[61,61]
abbrev II:List Int:=[43]
abbrev CP:List Int:=[45]
abbrev Gm:List Int:=[42]
abbrev GQ:List Int:=[33]
abbrev F8:List Int:=[99,108,97,115,115]
abbrev wTo:List Int:=[116,111]
abbrev Fa:List Int:=[115,108,111,116]
abbrev FF:List Int:=[109,97,105,110]
abbrev Cj:List Int:=[118,97,114]
abbrev wIf:List Int:=[105,102]
abbrev DT:List Int:=[101,108,115,101]
abbrev CC:List Int:=[119,104,105,108,101]
abbrev C8:List Int:=[114,101,116,117,114,110]
abbrev Cm:List Int:=[112,114,105,110,116]
abbrev EC:List Int:=[102,111,114,107]
abbrev EV:List Int:=[119,97,105,116]
abbrev Df:List Int:=[115,105,103,110,97,108]
abbrev G7:List Int:=[115,119,97,112]
abbrev Fb:List Int:=[110,101,119]
abbrev E0:List Int:=[103,97,116,101]
abbrev E7:List Int:=[110,105,108]
abbrev DU:List Int:=[115,101,108,102]
def A9(S:Src9)(x:List Int)(s:PS):Got Unit:=
 if A4 S x s=true then
  (if x=AG\/x=Al then(if 20<s.deep+1 then Bp S 13 s else .ok ((),{ s with tok:=s.tok+1,deep:=s.deep+1 }))
   else if x=AD\/x=Ax then .ok ((),{ s with tok:=s.tok+1,deep:=s.deep-1 })
   else .ok ((),s.step))
 else Bp S 12 s
def Ad(S:Src9)(s:PS):Got (List Int):=if isB S 1 s=true then .ok ((S.at s.tok).2.1,s.step)else Bp S 12 s
def AH(kind:Int)(text:List Int)(num:Int)(kids:List Nd)(s:PS):Got Nd:=.ok (.mk kind text num kids,s.node)
def Got.then{α β:Type}(g:Got α)(f:α->PS->Got β):Got β:=match g with
 | .ok (a,s)=>f a s
 | .error e=>.error e
def DN{α:Type}:Got α:=.error (-1,-1)
def Db(x:List Int):Int:=CY x 0 x.length
mutual
def C0(S:Src9):Nat->PS->Got Nd
 | 0,_=>DN
 | f+1,s=>(Dc S f s).then fun n s=>
   if A4 S IG s=true then(Dc S f s.step).then fun k s=>AH 18 [] 0 [n,k] s
   else if A4 S IH s=true then(Dc S f s.step).then fun k s=>AH 19 [] 0 [n,k] s
   else .ok (n,s)
def Dc (S:Src9):Nat->PS->Got Nd
 | 0,_=>DN
 | f+1,s=>(Ck S f s).then fun n s=>sumL S f n s
def sumL (S:Src9):Nat->Nd->PS->Got Nd
 | 0,_,_=>DN
 | f+1,n,s=>
   if A4 S II s=true then(Ck S f s.step).then fun k s=>(AH 20 [] 0 [n,k] s).then fun m s=>sumL S f m s
   else if A4 S CP s=true then(Ck S f s.step).then fun k s=>(AH 21 [] 0 [n,k] s).then fun m s=>sumL S f m s
   else .ok (n,s)
def Ck (S:Src9):Nat->PS->Got Nd
 | 0,_=>DN
 | f+1,s=>(C5 S f s).then fun n s=>termL S f n s
def termL (S:Src9):Nat->Nd->PS->Got Nd
 | 0,_,_=>DN
 | f+1,n,s=>
   if A4 S Gm s=true then(C5 S f s.step).then fun k s=>(AH 22 [] 0 [n,k] s).then fun m s=>termL S f m s
   else .ok (n,s)
def C5 (S:Src9):Nat->PS->Got Nd
 | 0,_=>DN
 | f+1,s=>
   if A4 S CP s=true then(C5 S f s.step).then fun k s=>AH 23 [] 0 [k] s
   else if A4 S GQ s=true then(C5 S f s.step).then fun k s=>AH 24 [] 0 [k] s
   else D0 S f s
def D0 (S:Src9):Nat->PS->Got Nd
 | 0,_=>DN
 | f+1,s=>(D1 S f s).then fun n s=>callL S f n s
def callL (S:Src9):Nat->Nd->PS->Got Nd
 | 0,_,_=>DN
 | f+1,n,s=>
   if A4 S Hv s=true then(Ad S s.step).then fun x s=>(A9 S AG s).then fun _ s=>
    (if A4 S AD s=true then .ok ([],s)else Cr S f s).then fun ks s=>(A9 S AD s).then fun _ s=>(AH 25 x 0 (n::ks) s).then fun m s=>callL S f m s
   else .ok (n,s)
def Cr (S:Src9):Nat->PS->Got (List Nd)
 | 0,_=>DN
 | f+1,s=>(C0 S f s).then fun k s=>if A4 S Av s=true then(Cr S f s.step).then fun ks s=>.ok (k::ks,s)else .ok ([k],s)
def D1 (S:Src9):Nat->PS->Got Nd
 | 0,_=>DN
 | f+1,s=>
   if isB S 2 s=true then AH 26 [] (Db (S.at s.tok).2.1) [] s.step
   else if isB S 1 s=true then(Ad S s).then fun x s=>AH 31 x 0 [] s
   else if A4 S E7 s=true then AH 27 [] 0 [] s.step
   else if A4 S DU s=true then AH 28 [] 0 [] s.step
   else if A4 S E0 s=true then AH 29 [] 0 [] s.step
   else if A4 S Fb s=true then(Ad S s.step).then fun x s=>AH 30 x 0 [] s
   else(A9 S AG s).then fun _ s=>(C0 S f s).then fun n s=>(A9 S AD s).then fun _ s=>.ok (n,s)
end
def FG(S:Src9)(f:Nat)(kind:Int)(s:PS):Got Nd:=
 (Ad S s).then fun x s=>(A9 S EB s).then fun _ s=>(C0 S f s).then fun k s=>(A9 S AU s).then fun _ s=>AH kind x 0 [k] s
def Fv(S:Src9)(f:Nat)(kind:Int)(s:PS):Got Nd:=
 (A9 S AG s).then fun _ s=>(C0 S f s).then fun k s=>(A9 S AD s).then fun _ s=>(A9 S AU s).then fun _ s=>AH kind [] 0 [k] s
def Gn(S:Src9)(f:Nat)(kind:Int)(s:PS):Got Nd:=
 (A9 S AG s).then fun _ s=>(C0 S f s).then fun k s=>(A9 S Av s).then fun _ s=>(C0 S f s).then fun m s=>(A9 S AD s).then fun _ s=>(A9 S AU s).then fun _ s=>AH kind [] 0 [k,m] s
def FH(S:Src9)(f:Nat)(s:PS):Got Nd:=(A9 S AG s).then fun _ s=>(C0 S f s).then fun k s=>(A9 S AD s).then fun _ s=>.ok (k,s)
def Cn(S:Src9)(s:PS):Bool:=isB S 1 s&&(decide (s.tok+1<S.L.length)&&(S.at (s.tok+1)).2.1==EB)
mutual
def Bj(S:Src9):Nat->PS->Got Nd
 | 0,_=>DN
 | f+1,s=>(A9 S Al s).then fun _ s=>(CJ S f s).then fun ks s=>(A9 S Ax s).then fun _ s=>AH 6 [] 0 ks s
def CJ (S:Src9):Nat->PS->Got (List Nd)
 | 0,_=>DN
 | f+1,s=>if A4 S Ax s=true then .ok ([],s)else(D2 S f s).then fun k s=>(CJ S f s).then fun ks s=>.ok (k::ks,s)
def D2 (S:Src9):Nat->PS->Got Nd
 | 0,_=>DN
 | f+1,s=>
   if A4 S Cj s=true then FG S f 7 s.step
   else if A4 S wIf s=true then(FH S f s.step).then fun k s=>(Bj S f s).then fun b s=>
    if A4 S DT s=true then(Bj S f s.step).then fun c s=>AH 9 [] 0 [k,b,c] s else AH 9 [] 0 [k,b] s
   else if A4 S CC s=true then(FH S f s.step).then fun k s=>(Bj S f s).then fun b s=>AH 10 [] 0 [k,b] s
   else if A4 S C8 s=true then(C0 S f s.step).then fun k s=>(A9 S AU s).then fun _ s=>AH 11 [] 0 [k] s
   else if A4 S Cm s=true then Fv S f 12 s.step
   else if A4 S EC s=true then(Bj S f s.step).then fun b s=>AH 13 [] 0 [b] s
   else if A4 S EV s=true then Fv S f 14 s.step
   else if A4 S Df s=true then Fv S f 15 s.step
   else if A4 S G7 s=true then Gn S f 16 s.step
   else if Cn S s=true then FG S f 8 s
   else(C0 S f s).then fun k s=>(A9 S AU s).then fun _ s=>AH 17 [] 0 [k] s
end
def C6(S:Src9):Nat->PS->Got (List Nd)
 | 0,_=>DN
 | f+1,s=>(Ad S s).then fun x s=>(AH 5 x 0 [] s).then fun k s=>if A4 S Av s=true then(C6 S f s.step).then fun ks s=>.ok (k::ks,s)else .ok ([k],s)
def Co(S:Src9)(f:Nat)(s:PS):Got Nd:=
 (Ad S s).then fun x s=>(A9 S AG s).then fun _ s=>(if A4 S AD s=true then .ok ([],s)else C6 S f s).then fun ks s=>(A9 S AD s).then fun _ s=>(Bj S f s).then fun b s=>AH 4 x (ks.length:Int) (ks++[b]) s
def Bi(S:Src9):Nat->PS->Got (List Nd)
 | 0,_=>DN
 | f+1,s=>if A4 S Fa s=true then(Ad S s.step).then fun x s=>(A9 S AU s).then fun _ s=>(AH 3 x 0 [] s).then fun k s=>(Bi S f s).then fun ks s=>.ok (k::ks,s)else .ok ([],s)
def Ay(S:Src9):Nat->PS->Got (List Nd)
 | 0,_=>DN
 | f+1,s=>if A4 S wTo s=true then(Co S f s.step).then fun k s=>(Ay S f s).then fun ks s=>.ok (k::ks,s)else .ok ([],s)
def D7(S:Src9)(f:Nat)(s:PS):Got Nd:=
 (Ad S s).then fun x s=>(if A4 S Ec s=true then(Ad S s.step).then fun y s=>(AH 31 y 0 [] s).then fun k s=>.ok ([k],s)else .ok ([],s)).then fun up s=>
  (A9 S Al s).then fun _ s=>(Bi S f s).then fun ks s=>(Ay S f s).then fun ms s=>(A9 S Ax s).then fun _ s=>AH 2 x 0 (up++ks++ms) s
def BG(S:Src9):Nat->PS->Got (List Nd)
 | 0,_=>DN
 | f+1,s=>if A4 S F8 s=true then(D7 S f s.step).then fun k s=>(BG S f s).then fun ks s=>.ok (k::ks,s)else .ok ([],s)
def Et(S:Src9)(f:Nat)(s:PS):Got Nd:=(BG S f s).then fun ks s=>(A9 S FF s).then fun _ s=>(Bj S f s).then fun b s=>AH 1 [] 0 (ks++[b]) s
def EN(S:Src9)(f:Nat):Except (Int×Int) Nd:=match Et S f ⟨0,0,0⟩with
 | .error e=>.error e
 | .ok (n,s)=>if s.tok<S.L.length then .error (12,S.byte s)else if 600<s.many then .error (1,0)else .ok n
def ED(S:Src9):Nat:=12*S.L.length+20
def CD(T:List Int):Except (Int×Int) Nd:=match CW T with
 | .error e=>.error e
 | .ok l=>EN ⟨l,T.length⟩ (ED ⟨l,T.length⟩)
def Nd.kind:Nd->Int
 | .mk k _ _ _=>k
def Nd.text:Nd->List Int
 | .mk _ t _ _=>t
def Nd.num:Nd->Int
 | .mk _ _ n _=>n
def Nd.kids:Nd->List Nd
 | .mk _ _ _ ks=>ks
mutual
def A0:Nd->Nat
 | .mk _ _ _ ks=>1+A2 ks
def A2:List Nd->Nat
 | []=>0
 | n::ns=>A0 n+A2 ns
end
mutual
def Ue:Nd->Nd->Bool
 | .mk k t n ks,.mk k' t' n' ks'=>k==k'&&(t==t'&&(n==n'&&TZ ks ks'))
def TZ:List Nd->List Nd->Bool
 | [],[]=>true
 | n::ns,m::ms=>Ue n m&&TZ ns ms
 | _,_=>false
end
def C1(x:List Int):Bool:=!x.isEmpty&&(Ct (wd x 0)&&(x.all DE&&!FE x))
def A8(x:List Int):List Tok:=[(if FE x=true then 3 else 4,x,0)]
def CF(x:List Int):Option (List Tok):=if C1 x=true then some [(1,x,0)]else none
def AN(a b:Option (List Tok)):Option (List Tok):=match a,b with
 | some x,some y=>some (x++y)
 | _,_=>none
def JY:Nat->Nat->List Int
 | 0,_=>[]
 | m+1,n=>if 9<n then JY m (n / 10)++[48+((n % 10:Nat):Int)]else[48+(n:Int)]
def IJ(n:Int):List Int:=JY 20 n.toNat
def U9(n:Int):Option (List Tok):=if 0<=n/\n<=1073741823 then some [(2,IJ n,0)]else none
def D8(k:Int):Nat:=if k=18\/k=19 then 0 else if k=20\/k=21 then 1 else if k=22 then 2 else if k=23\/k=24 then 3 else if k=25 then 4 else 5
def F9:List (Option (List Tok))->Option (List Tok)
 | []=>some []
 | [a]=>a
 | a::as=>AN a (AN (some (A8 Av)) (F9 as))
def Dd:List (Option (List Tok))->Option (List Tok)
 | []=>some []
 | a::as=>AN a (Dd as)
def Ae:Nat->Nat->Nd->Option (List Tok)
 | 0,_,_=>none
 | f+1,least,.mk k x num ks=>
  if D8 k<least then AN (some (A8 AG)) (AN (Ae f 0 (.mk k x num ks)) (some (A8 AD)))
  else if k=18 then betweenW (Ae f) ks IG 1 1
  else if k=19 then betweenW (Ae f) ks IH 1 1
  else if k=20 then betweenW (Ae f) ks II 1 2
  else if k=21 then betweenW (Ae f) ks CP 1 2
  else if k=22 then betweenW (Ae f) ks Gm 2 3
  else if k=23 then(match ks with | a::_=>AN (some (A8 CP)) (Ae f 3 a) | []=>none)
  else if k=24 then(match ks with | a::_=>AN (some (A8 GQ)) (Ae f 3 a) | []=>none)
  else if k=25 then(match ks with
   | a::as=>AN (Ae f 4 a) (AN (some (A8 Hv)) (AN (CF x) (AN (some (A8 AG)) (AN (F9 (as.map (Ae f 0))) (some (A8 AD))))))
   | []=>none)
  else if k=26 then U9 num
  else if k=27 then some (A8 E7)
  else if k=28 then some (A8 DU)
  else if k=29 then some (A8 E0)
  else if k=30 then AN (some (A8 Fb)) (CF x)
  else if k=31 then CF x
  else none
where
 betweenW (g:Nat->Nd->Option (List Tok)) (ks:List Nd) (x:List Int) (l r:Nat):Option (List Tok):=match ks with
  | a::b::_=>AN (g l a) (AN (some (A8 x)) (g r b))
  | _=>none
def FI(f:Nat)(ks:List Nd):Option (List Tok):=match ks with
 | a::_=>AN (some (A8 AG)) (AN (Ae f 0 a) (some (A8 AD)))
 | []=>none
def DV(a:Option (List Tok)):Option (List Tok):=AN a (some (A8 AU))
mutual
def Ed:Nat->Nd->Option (List Tok)
 | 0,_=>none
 | f+1,.mk k _ _ ks=>if k=6 then AN (some (A8 Al)) (AN (Dd (ks.map (EE f))) (some (A8 Ax)))else none
def EE:Nat->Nd->Option (List Tok)
 | 0,_=>none
 | f+1,.mk k x _ ks=>
  (match ks with
  | []=>none
  | a::as=>
   if k=7 then DV (AN (some (A8 Cj)) (AN (CF x) (AN (some (A8 EB)) (Ae f 0 a))))
   else if k=8 then DV (AN (CF x) (AN (some (A8 EB)) (Ae f 0 a)))
   else if k=9 then(match as with
    | []=>none
    | b::[]=>AN (some (A8 wIf)) (AN (FI f ks) (Ed f b))
    | b::c::_=>AN (some (A8 wIf)) (AN (FI f ks) (AN (Ed f b) (AN (some (A8 DT)) (Ed f c)))))
   else if k=10 then(match as with
    | []=>none
    | b::_=>AN (some (A8 CC)) (AN (FI f ks) (Ed f b)))
   else if k=11 then DV (AN (some (A8 C8)) (Ae f 0 a))
   else if k=12 then DV (AN (some (A8 Cm)) (FI f ks))
   else if k=13 then AN (some (A8 EC)) (Ed f a)
   else if k=14 then DV (AN (some (A8 EV)) (FI f ks))
   else if k=15 then DV (AN (some (A8 Df)) (FI f ks))
   else if k=16 then(match as with
    | []=>none
    | b::_=>DV (AN (some (A8 G7)) (AN (some (A8 AG)) (AN (Ae f 0 a) (AN (some (A8 Av)) (AN (Ae f 0 b) (some (A8 AD))))))))
   else if k=17 then DV (Ae f 0 a)
   else none)
end
def Pp(ks:List Nd):Option (List Tok):=F9 (ks.dropLast.map fun a=>CF a.text)
def ES(f:Nat)(n:Nd):Option (List Tok):=
 if n.kind=3 then DV (AN (some (A8 Fa)) (CF n.text))
 else if n.kind=4 then(match n.kids.getLast? with
  | some b=>AN (some (A8 wTo)) (AN (CF n.text) (AN (some (A8 AG)) (AN (Pp n.kids) (AN (some (A8 AD)) (Ed f b)))))
  | none=>none)
 else none
def DO(f:Nat)(n:Nd):Option (List Tok):=
 AN (some (A8 F8)) (AN (CF n.text) (match n.kids with
  | u::ks=>if u.kind=31 then AN (some (A8 Ec)) (AN (CF u.text) (bodyW f ks))else bodyW f (u::ks)
  | []=>bodyW f []))
where
 bodyW (f:Nat) (ks:List Nd):Option (List Tok):=AN (some (A8 Al)) (AN (Dd (ks.map (ES f))) (some (A8 Ax)))
def Ta(f:Nat)(n:Nd):Option (List Tok):=match n.kids.getLast? with
 | some b=>if n.kind=1 then AN (Dd (n.kids.dropLast.map (DO f))) (AN (some (A8 FF)) (Ed f b))else none
 | none=>none
def Fine9(S:Src9){α:Type}(g:Got α)(lo:Nat):Prop:=g≠DN/\∀a s,g=.ok (a,s)->lo<=s.tok/\s.tok<=S.L.length
theorem Ev{S:Src9}{α:Type}{a:α}{s:PS}{lo:Nat}(h:lo<=s.tok)(h':s.tok<=S.L.length):Fine9 S (.ok (a,s):Got α) lo:=
 ⟨fun e=>(by cases e),fun b s' e=>(by cases e;exact⟨h,h'⟩)⟩
theorem Hd{α:Type}{S:Src9}{code:Int}{s:PS}{lo:Nat}(h:code≠-1):Fine9 S (Bp S code s:Got α) lo:=
 ⟨fun e=>(by unfold Bp DN at e;simp only[Except.error.injEq,Prod.mk.injEq]at e;exact h e.1),fun b s' e=>(by cases e)⟩
theorem AC{S:Src9}{α β:Type}{g:Got α}{f:α->PS->Got β}{lo lo':Nat}(h:Fine9 S g lo)(hf:∀a s,lo<=s.tok->s.tok<=S.L.length->Fine9 S (f a s) lo'):Fine9 S (g.then f) lo':=by
 unfold Got.then
 cases g with
 | error e=>exact⟨fun x=>h.1 (by cases x;rfl),fun b s' x=>(by cases x)⟩
 | ok p=>
  obtain⟨a,s⟩:=p
  obtain⟨h1,h2⟩:=h.2 a s rfl
  exact hf a s h1 h2
theorem CG{S:Src9}{α:Type}{g:Got α}{lo lo':Nat}(h:Fine9 S g lo)(hl:lo'<=lo):Fine9 S g lo':=⟨h.1,fun a s e=>⟨Nat.le_trans hl (h.2 a s e).1,(h.2 a s e).2⟩⟩
theorem AE{S:Src9}{x:List Int}{s:PS}(h:A4 S x s=true):s.tok<S.L.length:=by
 unfold A4 at h
 simp only[Bool.and_eq_true,decide_eq_true_eq]at h
 exact h.1
theorem Pr{S:Src9}{k:Int}{s:PS}(h:isB S k s=true):s.tok<S.L.length:=by
 unfold isB at h
 simp only[Bool.and_eq_true,decide_eq_true_eq]at h
 exact h.1
theorem AQ(S:Src9)(x:List Int)(s:PS):Fine9 S (A9 S x s) (s.tok+1):=by
 unfold A9
 split
 ·rename_i hs
  have:=AE hs
  split
  ·split
   ·exact Hd (by decide)
   ·exact Ev (Nat.le_refl _) this
  ·split
   ·exact Ev (Nat.le_refl _) this
   ·exact Ev (Nat.le_refl _) this
 ·exact Hd (by decide)
theorem Be(S:Src9)(s:PS):Fine9 S (Ad S s) (s.tok+1):=by
 unfold Ad
 split
 ·rename_i hs;exact Ev (Nat.le_refl _) (Pr hs)
 ·exact Hd (by decide)
theorem CQ{S:Src9}{α:Type}{a:α}{s:PS}{lo:Nat}(h:lo<=s.tok)(h':s.tok<=S.L.length:=by first | assumption | exact AE (by assumption) | exact Pr (by assumption)):Fine9 S (.ok (a,s):Got α) lo:=Ev h h'
theorem BH{S:Src9}(kind:Int)(text:List Int)(num:Int)(kids:List Nd)(s:PS){lo:Nat}(h:lo<=s.tok)(h':s.tok<=S.L.length:=by first | assumption | exact AE (by assumption) | exact Pr (by assumption)):Fine9 S (AH kind text num kids s) lo:=Ev h h'
def Src9.left(S:Src9)(s:PS):Nat:=S.L.length-s.tok
theorem AP{S:Src9}{s s':PS}(h:s.tok<=s'.tok):S.left s'<=S.left s:=by unfold Src9.left;omega
theorem AA{S:Src9}{s s':PS}(hs:s.tok<S.L.length)(h:s.tok+1<=s'.tok):S.left s'+1<=S.left s:=by unfold Src9.left;omega
theorem AR(s:PS):s.step.tok=s.tok+1:=rfl
theorem BC(s:PS):s.node.tok=s.tok:=rfl
structure UA(S:Src9)(f:Nat):Prop where
 expr:∀s,12*S.left s+6<=f->Fine9 S (C0 S f s) (s.tok+1)
 sum:∀s,12*S.left s+5<=f->Fine9 S (Dc S f s) (s.tok+1)
 sumL:∀n s,12*S.left s+1<=f->s.tok<=S.L.length->Fine9 S (sumL S f n s) s.tok
 term:∀s,12*S.left s+4<=f->Fine9 S (Ck S f s) (s.tok+1)
 termL:∀n s,12*S.left s+1<=f->s.tok<=S.L.length->Fine9 S (termL S f n s) s.tok
 unary:∀s,12*S.left s+3<=f->Fine9 S (C5 S f s) (s.tok+1)
 call:∀s,12*S.left s+2<=f->Fine9 S (D0 S f s) (s.tok+1)
 callL:∀n s,12*S.left s+1<=f->s.tok<=S.L.length->Fine9 S (callL S f n s) s.tok
 args:∀s,12*S.left s+7<=f->Fine9 S (Cr S f s) (s.tok+1)
 prim:∀s,12*S.left s+1<=f->Fine9 S (D1 S f s) (s.tok+1)
theorem D9(S:Src9):∀f,UA S f
 | 0=>⟨fun _ h=>(by omega),fun _ h=>(by omega),fun _ _ h _=>(by omega),fun _ h=>(by omega),fun _ _ h _=>(by omega),fun _ h=>(by omega),fun _ h=>(by omega),fun _ _ h _=>(by omega),fun _ h=>(by omega),fun _ h=>(by omega)⟩
 | f+1=>by
  have I:=D9 S f
  constructor
  ·intro s h
   rw[C0]
   refine AC (I.sum s (by omega)) fun n s1 h1 e1=>?_
   have l1:=AP (S:=S) (s:=s) (s':=s1) (by omega)
   split
   ·rename_i hs
    have:=AA (s':=s1.step) (AE hs) (Nat.le_refl _)
    exact AC (I.sum s1.step (by omega)) fun k s2 h2 e2=>BH _ _ _ _ _ (by rw[AR]at h2;omega)
   ·split
    ·rename_i hs
     have:=AA (s':=s1.step) (AE hs) (Nat.le_refl _)
     exact AC (I.sum s1.step (by omega)) fun k s2 h2 e2=>BH _ _ _ _ _ (by rw[AR]at h2;omega)
    ·exact CQ h1
  ·intro s h
   rw[Dc]
   refine AC (I.term s (by omega)) fun n s1 h1 e1=>?_
   have l1:=AP (S:=S) (s:=s) (s':=s1) (by omega)
   exact CG (I.sumL n s1 (by omega) e1) h1
  ·intro n s h hle
   rw[sumL]
   split
   ·rename_i hs
    have:=AA (s':=s.step) (AE hs) (Nat.le_refl _)
    refine AC (I.term s.step (by omega)) fun k s1 h1 e1=>?_
    rw[AR]at h1
    have l1:=AA (S:=S) (s:=s) (s':=s1.node) (AE hs) (by rw[BC];omega)
    show Fine9 S (sumL S f _ s1.node) _
    exact CG (I.sumL _ s1.node (by omega) e1) (by rw[BC];omega)
   ·split
    ·rename_i hs
     have:=AA (s':=s.step) (AE hs) (Nat.le_refl _)
     refine AC (I.term s.step (by omega)) fun k s1 h1 e1=>?_
     rw[AR]at h1
     have l1:=AA (S:=S) (s:=s) (s':=s1.node) (AE hs) (by rw[BC];omega)
     show Fine9 S (sumL S f _ s1.node) _
     exact CG (I.sumL _ s1.node (by omega) e1) (by rw[BC];omega)
    ·exact CQ (Nat.le_refl _)
  ·intro s h
   rw[Ck]
   refine AC (I.unary s (by omega)) fun n s1 h1 e1=>?_
   have l1:=AP (S:=S) (s:=s) (s':=s1) (by omega)
   exact CG (I.termL n s1 (by omega) e1) h1
  ·intro n s h hle
   rw[termL]
   split
   ·rename_i hs
    have:=AA (s':=s.step) (AE hs) (Nat.le_refl _)
    refine AC (I.unary s.step (by omega)) fun k s1 h1 e1=>?_
    rw[AR]at h1
    have l1:=AA (S:=S) (s:=s) (s':=s1.node) (AE hs) (by rw[BC];omega)
    show Fine9 S (termL S f _ s1.node) _
    exact CG (I.termL _ s1.node (by omega) e1) (by rw[BC];omega)
   ·exact CQ (Nat.le_refl _)
  ·intro s h
   rw[C5]
   split
   ·rename_i hs
    have:=AA (s':=s.step) (AE hs) (Nat.le_refl _)
    exact AC (I.unary s.step (by omega)) fun k s1 h1 e1=>BH _ _ _ _ _ (by rw[AR]at h1;omega)
   ·split
    ·rename_i hs
     have:=AA (s':=s.step) (AE hs) (Nat.le_refl _)
     exact AC (I.unary s.step (by omega)) fun k s1 h1 e1=>BH _ _ _ _ _ (by rw[AR]at h1;omega)
    ·exact I.call s (by omega)
  ·intro s h
   rw[D0]
   refine AC (I.prim s (by omega)) fun n s1 h1 e1=>?_
   have l1:=AP (S:=S) (s:=s) (s':=s1) (by omega)
   exact CG (I.callL n s1 (by omega) e1) h1
  ·intro n s h hle
   rw[callL]
   split
   ·rename_i hs
    refine AC (Be S s.step) fun x s1 h1 e1=>AC (AQ S AG s1) fun _ s2 h2 e2=>?_
    rw[AR]at h1
    have l2:=AA (S:=S) (s:=s) (s':=s2) (AE hs) (by omega)
    refine AC (lo:=s2.tok) ?_ fun ks s3 h3 e3=>?_
    ·split
     ·exact CQ (Nat.le_refl _)
     ·exact CG (I.args s2 (by omega)) (by omega)
    ·refine AC (AQ S AD s3) fun _ s4 h4 e4=>?_
     have l4:=AA (S:=S) (s:=s) (s':=s4.node) (AE hs) (by rw[BC];omega)
     show Fine9 S (callL S f _ s4.node) _
     exact CG (I.callL _ s4.node (by omega) e4) (by rw[BC];omega)
   ·exact CQ (Nat.le_refl _)
  ·intro s h
   rw[Cr]
   refine AC (I.expr s (by omega)) fun k s1 h1 e1=>?_
   split
   ·rename_i hs
    have l1:=AA (S:=S) (s:=s1) (s':=s1.step) (AE hs) (Nat.le_refl _)
    have l0:=AP (S:=S) (s:=s) (s':=s1) (by omega)
    exact AC (I.args s1.step (by omega)) fun ks s2 h2 e2=>CQ (by rw[AR]at h2;omega)
   ·exact CQ h1
  ·intro s h
   rw[D1]
   split
   ·exact BH _ _ _ _ _ (Nat.le_refl _)
   ·split
    ·exact AC (Be S s) fun x s1 h1 e1=>BH _ _ _ _ _ h1
    ·split
     ·exact BH _ _ _ _ _ (Nat.le_refl _)
     ·split
      ·exact BH _ _ _ _ _ (Nat.le_refl _)
      ·split
       ·exact BH _ _ _ _ _ (Nat.le_refl _)
       ·split
        ·exact AC (Be S s.step) fun x s1 h1 e1=>BH _ _ _ _ _ (by rw[AR]at h1;omega)
        ·by_cases hs:A4 S AG s=true
         ·refine AC (AQ S AG s) fun _ s1 h1 e1=>?_
          have l1:=AA (S:=S) (s:=s) (s':=s1) (AE hs) h1
          refine AC (I.expr s1 (by omega)) fun n s2 h2 e2=>AC (AQ S AD s2) fun _ s3 h3 e3=>CQ (by omega)
         ·have e:A9 S AG s=Bp S 12 s:=by unfold A9;rw[if_neg hs]
          rw[e]
          exact Hd (by decide)
structure Th(S:Src9)(f:Nat):Prop where
 block:∀s,12*S.left s+1<=f->Fine9 S (Bj S f s) (s.tok+1)
 stmts:∀s,12*S.left s+9<=f->s.tok<=S.L.length->Fine9 S (CJ S f s) s.tok
 stmt:∀s,12*S.left s+8<=f->Fine9 S (D2 S f s) (s.tok+1)
theorem Ti{S:Src9}{x:List Int}{s:PS}(h:¬A4 S x s=true){α:Type}(f:Unit->PS->Got α){lo:Nat}:Fine9 S ((A9 S x s).then f) lo:=by
 have e:A9 S x s=Bp S 12 s:=by unfold A9;rw[if_neg h]
 rw[e]
 exact⟨fun x=>(by simp only[Bp,Got.then,DN,Except.error.injEq,Prod.mk.injEq]at x;exact absurd x.1 (by decide)),fun b s' x=>(by simp only[Bp,Got.then]at x;cases x)⟩
theorem Ln{S:Src9}{f:Nat}{s s1:PS}(hs:s.tok<S.L.length)(h:12*S.left s+8<=f+1)(h1:s.tok+1<=s1.tok):12*S.left s1+6<=f:=by
 have:=AA (S:=S) hs h1
 omega
theorem MB{S:Src9}{f:Nat}{kind:Int}{s:PS}(h:12*S.left s+6<=f):Fine9 S (FG S f kind s) (s.tok+1):=by
 unfold FG
 refine AC (Be S s) fun x s1 h1 e1=>AC (AQ S EB s1) fun _ s2 h2 e2=>?_
 have l2:=AP (S:=S) (s:=s) (s':=s2) (by omega)
 refine AC ((D9 S f).expr s2 (by omega)) fun k s3 h3 e3=>AC (AQ S AU s3) fun _ s4 h4 e4=>BH _ _ _ _ _ (by omega)
theorem FQ{S:Src9}{f:Nat}{s:PS}(h:12*S.left s+6<=f):Fine9 S (FH S f s) (s.tok+1):=by
 unfold FH
 refine AC (AQ S AG s) fun _ s1 h1 e1=>?_
 have l1:=AP (S:=S) (s:=s) (s':=s1) (by omega)
 exact AC ((D9 S f).expr s1 (by omega)) fun k s2 h2 e2=>AC (AQ S AD s2) fun _ s3 h3 e3=>CQ (by omega)
theorem KK{S:Src9}{f:Nat}{kind:Int}{s:PS}(h:12*S.left s+6<=f):Fine9 S (Fv S f kind s) (s.tok+1):=by
 unfold Fv
 refine AC (AQ S AG s) fun _ s1 h1 e1=>?_
 have l1:=AP (S:=S) (s:=s) (s':=s1) (by omega)
 exact AC ((D9 S f).expr s1 (by omega)) fun k s2 h2 e2=>AC (AQ S AD s2) fun _ s3 h3 e3=>AC (AQ S AU s3) fun _ s4 h4 e4=>BH _ _ _ _ _ (by omega)
theorem SO{S:Src9}{f:Nat}{kind:Int}{s:PS}(h:12*S.left s+6<=f):Fine9 S (Gn S f kind s) (s.tok+1):=by
 unfold Gn
 refine AC (AQ S AG s) fun _ s1 h1 e1=>?_
 have l1:=AP (S:=S) (s:=s) (s':=s1) (by omega)
 refine AC ((D9 S f).expr s1 (by omega)) fun k s2 h2 e2=>AC (AQ S Av s2) fun _ s3 h3 e3=>?_
 have l3:=AP (S:=S) (s:=s) (s':=s3) (by omega)
 exact AC ((D9 S f).expr s3 (by omega)) fun m s4 h4 e4=>AC (AQ S AD s4) fun _ s5 h5 e5=>AC (AQ S AU s5) fun _ s6 h6 e6=>BH _ _ _ _ _ (by omega)
theorem I6(S:Src9):∀f,Th S f
 | 0=>⟨fun _ h=>(by omega),fun _ h _=>(by omega),fun _ h=>(by omega)⟩
 | f+1=>by
  have I:=I6 S f
  constructor
  ·intro s h
   rw[Bj]
   by_cases hs:A4 S Al s=true
   ·refine AC (AQ S Al s) fun _ s1 h1 e1=>?_
    have l1:=AA (S:=S) (s:=s) (s':=s1) (AE hs) h1
    exact AC (I.stmts s1 (by omega) e1) fun ks s2 h2 e2=>AC (AQ S Ax s2) fun _ s3 h3 e3=>BH _ _ _ _ _ (by omega)
   ·exact Ti hs _
  ·intro s h hle
   rw[CJ]
   split
   ·exact CQ (Nat.le_refl _)
   ·refine AC (I.stmt s (by omega)) fun k s1 h1 e1=>?_
    have l1:=AA (S:=S) (s:=s) (s':=s1) (by omega) h1
    exact AC (I.stmts s1 (by omega) e1) fun ks s2 h2 e2=>CQ (by omega)
  ·intro s h
   rw[D2]
   have nx:∀x,A4 S x s=true->12*S.left s.step+6<=f:=fun x hx=>Ln (AE hx) h (Nat.le_refl _)
   split
   ·rename_i hs;exact CG (MB (nx _ hs)) (by rw[AR];omega)
   ·split
    ·rename_i hs
     refine AC (FQ (nx _ hs)) fun k s1 h1 e1=>?_
     rw[AR]at h1
     have l1:=AA (S:=S) (s:=s) (s':=s1) (AE hs) (by omega)
     refine AC (I.block s1 (by omega)) fun b s2 h2 e2=>?_
     split
     ·have l2:=AA (S:=S) (s:=s) (s':=s2.step) (AE hs) (by rw[AR];omega)
      exact AC (I.block s2.step (by omega)) fun c s3 h3 e3=>BH _ _ _ _ _ (by rw[AR]at h3;omega)
     ·exact BH _ _ _ _ _ (by omega)
    ·split
     ·rename_i hs
      refine AC (FQ (nx _ hs)) fun k s1 h1 e1=>?_
      rw[AR]at h1
      have l1:=AA (S:=S) (s:=s) (s':=s1) (AE hs) (by omega)
      exact AC (I.block s1 (by omega)) fun b s2 h2 e2=>BH _ _ _ _ _ (by omega)
     ·split
      ·rename_i hs
       refine AC ((D9 S f).expr s.step (nx _ hs)) fun k s1 h1 e1=>AC (AQ S AU s1) fun _ s2 h2 e2=>BH _ _ _ _ _ (by rw[AR]at h1;omega)
      ·split
       ·rename_i hs;exact CG (KK (nx _ hs)) (by rw[AR];omega)
       ·split
        ·rename_i hs
         have l1:=AA (S:=S) (s:=s) (s':=s.step) (AE hs) (Nat.le_refl _)
         exact AC (I.block s.step (by omega)) fun b s1 h1 e1=>BH _ _ _ _ _ (by rw[AR]at h1;omega)
        ·split
         ·rename_i hs;exact CG (KK (nx _ hs)) (by rw[AR];omega)
         ·split
          ·rename_i hs;exact CG (KK (nx _ hs)) (by rw[AR];omega)
          ·split
           ·rename_i hs;exact CG (SO (nx _ hs)) (by rw[AR];omega)
           ·split
            ·exact MB (by omega)
            ·exact AC ((D9 S f).expr s (by omega)) fun k s1 h1 e1=>AC (AQ S AU s1) fun _ s2 h2 e2=>BH _ _ _ _ _ (by omega)
theorem GU(S:Src9):∀(f:Nat) (s:PS),12*S.left s+1<=f->Fine9 S (C6 S f s) (s.tok+1)
 | 0,_,h=>by omega
 | f+1,s,h=>by
  rw[C6]
  refine AC (Be S s) fun x s1 h1 e1=>?_
  show Fine9 S (if A4 S Av s1.node=true then _ else _) _
  split
  ·rename_i hs
   have l1:=AA (S:=S) (s:=s1.node) (s':=s1.node.step) (AE hs) (Nat.le_refl _)
   have l0:=AP (S:=S) (s:=s) (s':=s1.node) (by rw[BC];omega)
   exact AC (GU S f s1.node.step (by omega)) fun ks s2 h2 e2=>CQ (by rw[AR,BC]at h2;omega)
  ·exact Ev h1 e1
theorem Jr{S:Src9}{f:Nat}{s:PS}(h:12*S.left s+10<=f):Fine9 S (Co S f s) (s.tok+1):=by
 unfold Co
 refine AC (Be S s) fun x s1 h1 e1=>AC (AQ S AG s1) fun _ s2 h2 e2=>?_
 have l2:=AP (S:=S) (s:=s) (s':=s2) (by omega)
 refine AC (lo:=s2.tok) ?_ fun ks s3 h3 e3=>AC (AQ S AD s3) fun _ s4 h4 e4=>?_
 ·split
  ·exact Ev (Nat.le_refl _) e2
  ·exact CG (GU S f s2 (by omega)) (by omega)
 ·have l4:=AP (S:=S) (s:=s) (s':=s4) (by omega)
  exact AC ((I6 S f).block s4 (by omega)) fun b s5 h5 e5=>BH _ _ _ _ _ (by omega)
theorem IL(S:Src9):∀(f:Nat) (s:PS),12*S.left s+1<=f->s.tok<=S.L.length->Fine9 S (Bi S f s) s.tok
 | 0,_,h,_=>by omega
 | f+1,s,h,hle=>by
  rw[Bi]
  split
  ·rename_i hs
   refine AC (Be S s.step) fun x s1 h1 e1=>AC (AQ S AU s1) fun _ s2 h2 e2=>?_
   rw[AR]at h1
   have l2:=AA (S:=S) (s:=s) (s':=s2.node) (AE hs) (by rw[BC];omega)
   show Fine9 S ((Bi S f s2.node).then _) _
   exact AC (IL S f s2.node (by omega) e2) fun ks s3 h3 e3=>CQ (by rw[BC]at h3;omega)
  ·exact CQ (Nat.le_refl _)
theorem J0(S:Src9):∀(f:Nat) (s:PS),12*S.left s+1<=f->s.tok<=S.L.length->Fine9 S (Ay S f s) s.tok
 | 0,_,h,_=>by omega
 | f+1,s,h,hle=>by
  rw[Ay]
  split
  ·rename_i hs
   have l1:=AA (S:=S) (s:=s) (s':=s.step) (AE hs) (Nat.le_refl _)
   refine AC (Jr (s:=s.step) (by omega)) fun k s1 h1 e1=>?_
   rw[AR]at h1
   have l2:=AA (S:=S) (s:=s) (s':=s1) (AE hs) (by omega)
   exact AC (J0 S f s1 (by omega) e1) fun ks s2 h2 e2=>CQ (by omega)
  ·exact CQ (Nat.le_refl _)
theorem Ps{S:Src9}{f:Nat}{s:PS}(h:12*S.left s+1<=f):Fine9 S (D7 S f s) (s.tok+1):=by
 unfold D7
 refine AC (Be S s) fun x s1 h1 e1=>AC (lo:=s1.tok) ?_ fun up s2 h2 e2=>AC (AQ S Al s2) fun _ s3 h3 e3=>?_
 ·split
  ·refine AC (Be S s1.step) fun y s5 h5 e5=>?_
   rw[AR]at h5
   show Fine9 S (.ok ([_],s5.node)) _
   exact Ev (by rw[BC];omega) e5
  ·exact CQ (Nat.le_refl _)
 ·have l3:=AP (S:=S) (s:=s) (s':=s3) (by omega)
  refine AC (IL S f s3 (by omega) e3) fun ks s4 h4 e4=>?_
  have l4:=AP (S:=S) (s:=s) (s':=s4) (by omega)
  exact AC (J0 S f s4 (by omega) e4) fun ms s5 h5 e5=>AC (AQ S Ax s5) fun _ s6 h6 e6=>BH _ _ _ _ _ (by omega)
theorem A5{α β:Type}{g g':Got α}{F F':α->PS->Got β}(h:g=g')(hF:∀a s,g=.ok (a,s)->F a s=F' a s):g.then F=g'.then F':=by
 subst h
 unfold Got.then
 cases g with
 | error e=>rfl
 | ok p=>obtain⟨a,s⟩:=p;exact hF a s rfl
theorem Fine9.at{S:Src9}{α:Type}{g:Got α}{lo:Nat}(h:Fine9 S g lo){a:α}{s:PS}(e:g=.ok (a,s)):lo<=s.tok/\s.tok<=S.L.length:=h.2 a s e
structure Uw(S:Src9)(f:Nat):Prop where
 expr:∀s,12*S.left s+6<=f->C0 S (f+1) s=C0 S f s
 sum:∀s,12*S.left s+5<=f->Dc S (f+1) s=Dc S f s
 sumL:∀n s,12*S.left s+1<=f->sumL S (f+1) n s=sumL S f n s
 term:∀s,12*S.left s+4<=f->Ck S (f+1) s=Ck S f s
 termL:∀n s,12*S.left s+1<=f->termL S (f+1) n s=termL S f n s
 unary:∀s,12*S.left s+3<=f->C5 S (f+1) s=C5 S f s
 call:∀s,12*S.left s+2<=f->D0 S (f+1) s=D0 S f s
 callL:∀n s,12*S.left s+1<=f->callL S (f+1) n s=callL S f n s
 args:∀s,12*S.left s+7<=f->Cr S (f+1) s=Cr S f s
 prim:∀s,12*S.left s+1<=f->D1 S (f+1) s=D1 S f s
theorem Gq(S:Src9):∀f,Uw S f
 | 0=>⟨fun _ h=>(by omega),fun _ h=>(by omega),fun _ _ h=>(by omega),fun _ h=>(by omega),fun _ _ h=>(by omega),fun _ h=>(by omega),fun _ h=>(by omega),fun _ _ h=>(by omega),fun _ h=>(by omega),fun _ h=>(by omega)⟩
 | f+1=>by
  have I:=Gq S f
  have E:=D9 S f
  have E1:=D9 S (f+1)
  constructor
  ·intro s h
   rw[C0,C0]
   refine A5 (I.sum s (by omega)) fun n s1 e1=>?_
   have h1:=(E1.sum s (by omega)).at e1
   have l1:=AP (S:=S) (s:=s) (s':=s1) (by omega)
   split
   ·rename_i hs
    have:=AA (s':=s1.step) (AE hs) (Nat.le_refl _)
    exact A5 (I.sum s1.step (by omega)) fun _ _ _=>rfl
   ·split
    ·rename_i hs
     have:=AA (s':=s1.step) (AE hs) (Nat.le_refl _)
     exact A5 (I.sum s1.step (by omega)) fun _ _ _=>rfl
    ·rfl
  ·intro s h
   rw[Dc,Dc]
   refine A5 (I.term s (by omega)) fun n s1 e1=>?_
   have h1:=(E1.term s (by omega)).at e1
   have l1:=AP (S:=S) (s:=s) (s':=s1) (by omega)
   exact I.sumL n s1 (by omega)
  ·intro n s h
   rw[sumL,sumL]
   split
   ·rename_i hs
    have:=AA (s':=s.step) (AE hs) (Nat.le_refl _)
    refine A5 (I.term s.step (by omega)) fun k s1 e1=>?_
    have h1:=(E1.term s.step (by omega)).at e1
    rw[AR]at h1
    have l1:=AA (S:=S) (s:=s) (s':=s1.node) (AE hs) (by rw[BC];omega)
    exact I.sumL _ s1.node (by omega)
   ·split
    ·rename_i hs
     have:=AA (s':=s.step) (AE hs) (Nat.le_refl _)
     refine A5 (I.term s.step (by omega)) fun k s1 e1=>?_
     have h1:=(E1.term s.step (by omega)).at e1
     rw[AR]at h1
     have l1:=AA (S:=S) (s:=s) (s':=s1.node) (AE hs) (by rw[BC];omega)
     exact I.sumL _ s1.node (by omega)
    ·rfl
  ·intro s h
   rw[Ck,Ck]
   refine A5 (I.unary s (by omega)) fun n s1 e1=>?_
   have h1:=(E1.unary s (by omega)).at e1
   have l1:=AP (S:=S) (s:=s) (s':=s1) (by omega)
   exact I.termL n s1 (by omega)
  ·intro n s h
   rw[termL,termL]
   split
   ·rename_i hs
    have:=AA (s':=s.step) (AE hs) (Nat.le_refl _)
    refine A5 (I.unary s.step (by omega)) fun k s1 e1=>?_
    have h1:=(E1.unary s.step (by omega)).at e1
    rw[AR]at h1
    have l1:=AA (S:=S) (s:=s) (s':=s1.node) (AE hs) (by rw[BC];omega)
    exact I.termL _ s1.node (by omega)
   ·rfl
  ·intro s h
   conv=>lhs;rw[C5]
   conv=>rhs;rw[C5]
   split
   ·rename_i hs
    have:=AA (s':=s.step) (AE hs) (Nat.le_refl _)
    exact A5 (I.unary s.step (by omega)) fun _ _ _=>rfl
   ·split
    ·rename_i hs
     have:=AA (s':=s.step) (AE hs) (Nat.le_refl _)
     exact A5 (I.unary s.step (by omega)) fun _ _ _=>rfl
    ·exact I.call s (by omega)
  ·intro s h
   rw[D0,D0]
   refine A5 (I.prim s (by omega)) fun n s1 e1=>?_
   have h1:=(E1.prim s (by omega)).at e1
   have l1:=AP (S:=S) (s:=s) (s':=s1) (by omega)
   exact I.callL n s1 (by omega)
  ·intro n s h
   rw[callL,callL]
   split
   ·rename_i hs
    refine A5 rfl fun x s1 e1=>A5 rfl fun u s2 e2=>?_
    have h1:=(Be S s.step).at e1
    have h2:=(AQ S AG s1).at e2
    rw[AR]at h1
    have l2:=AA (S:=S) (s:=s) (s':=s2) (AE hs) (by omega)
    refine A5 ?_ fun ks s3 e3=>A5 rfl fun v s4 e4=>?_
    ·split
     ·rfl
     ·exact I.args s2 (by omega)
    ·have h3:s2.tok<=s3.tok:=by
      by_cases hx:A4 S AD s2=true
      ·rw[if_pos hx]at e3;cases e3;exact Nat.le_refl _
      ·rw[if_neg hx]at e3
       have:=(E1.args s2 (by omega)).at e3
       omega
     have h4:=(AQ S AD s3).at e4
     have l4:=AA (S:=S) (s:=s) (s':=s4.node) (AE hs) (by rw[BC];omega)
     exact I.callL _ s4.node (by omega)
   ·rfl
  ·intro s h
   rw[Cr,Cr]
   refine A5 (I.expr s (by omega)) fun k s1 e1=>?_
   have h1:=(E1.expr s (by omega)).at e1
   split
   ·rename_i hs
    have l1:=AA (S:=S) (s:=s1) (s':=s1.step) (AE hs) (Nat.le_refl _)
    have l0:=AP (S:=S) (s:=s) (s':=s1) (by omega)
    exact A5 (I.args s1.step (by omega)) fun _ _ _=>rfl
   ·rfl
  ·intro s h
   rw[D1,D1]
   split
   ·rfl
   ·split
    ·rfl
    ·split
     ·rfl
     ·split
      ·rfl
      ·split
       ·rfl
       ·split
        ·rfl
        ·by_cases hs:A4 S AG s=true
         ·refine A5 rfl fun u s1 e1=>?_
          have h1:=(AQ S AG s).at e1
          have l1:=AA (S:=S) (s:=s) (s':=s1) (AE hs) (by omega)
          exact A5 (I.expr s1 (by omega)) fun _ _ _=>rfl
         ·have e:A9 S AG s=Bp S 12 s:=by unfold A9;rw[if_neg hs]
          rw[e];rfl
theorem CR{α:Type}{X:Nat->α}{c:Nat}(h:∀f,c<=f->X (f+1)=X f):∀f,c<=f->X f=X c:=fun f hf=>by
 induction f with
 | zero=>rw[show c=0 by omega]
 | succ f ih=>
  by_cases he:c=f+1
  ·rw[he]
  ·rw[h f (by omega),ih (by omega)]
def Aj(S:Src9)(s:PS):Got Nd:=C0 S (12*S.left s+6) s
def CZ(S:Src9)(s:PS):Got Nd:=Dc S (12*S.left s+5) s
def EG(S:Src9)(n:Nd)(s:PS):Got Nd:=sumL S (12*S.left s+1) n s
def CM(S:Src9)(s:PS):Got Nd:=Ck S (12*S.left s+4) s
def Dh(S:Src9)(n:Nd)(s:PS):Got Nd:=termL S (12*S.left s+1) n s
def BW(S:Src9)(s:PS):Got Nd:=C5 S (12*S.left s+3) s
def Ew(S:Src9)(s:PS):Got Nd:=D0 S (12*S.left s+2) s
def DA(S:Src9)(n:Nd)(s:PS):Got Nd:=callL S (12*S.left s+1) n s
def FJ(S:Src9)(s:PS):Got (List Nd):=Cr S (12*S.left s+7) s
def Di(S:Src9)(s:PS):Got Nd:=D1 S (12*S.left s+1) s
theorem DQ{S:Src9}{s:PS}{f:Nat}(h:12*S.left s+6<=f):C0 S f s=Aj S s:=CR (X:=fun f=>C0 S f s) (fun f hf=>(Gq S f).expr s hf) f h
theorem Mz{S:Src9}{s:PS}{f:Nat}(h:12*S.left s+5<=f):Dc S f s=CZ S s:=CR (X:=fun f=>Dc S f s) (fun f hf=>(Gq S f).sum s hf) f h
theorem N4{S:Src9}{n:Nd}{s:PS}{f:Nat}(h:12*S.left s+1<=f):sumL S f n s=EG S n s:=CR (X:=fun f=>sumL S f n s) (fun f hf=>(Gq S f).sumL n s hf) f h
theorem I7{S:Src9}{s:PS}{f:Nat}(h:12*S.left s+4<=f):Ck S f s=CM S s:=CR (X:=fun f=>Ck S f s) (fun f hf=>(Gq S f).term s hf) f h
theorem PI{S:Src9}{n:Nd}{s:PS}{f:Nat}(h:12*S.left s+1<=f):termL S f n s=Dh S n s:=CR (X:=fun f=>termL S f n s) (fun f hf=>(Gq S f).termL n s hf) f h
theorem Ge{S:Src9}{s:PS}{f:Nat}(h:12*S.left s+3<=f):C5 S f s=BW S s:=CR (X:=fun f=>C5 S f s) (fun f hf=>(Gq S f).unary s hf) f h
theorem UB{S:Src9}{s:PS}{f:Nat}(h:12*S.left s+2<=f):D0 S f s=Ew S s:=CR (X:=fun f=>D0 S f s) (fun f hf=>(Gq S f).call s hf) f h
theorem PJ{S:Src9}{n:Nd}{s:PS}{f:Nat}(h:12*S.left s+1<=f):callL S f n s=DA S n s:=CR (X:=fun f=>callL S f n s) (fun f hf=>(Gq S f).callL n s hf) f h
theorem N5{S:Src9}{s:PS}{f:Nat}(h:12*S.left s+7<=f):Cr S f s=FJ S s:=CR (X:=fun f=>Cr S f s) (fun f hf=>(Gq S f).args s hf) f h
theorem Qs{S:Src9}{s:PS}{f:Nat}(h:12*S.left s+1<=f):D1 S f s=Di S s:=CR (X:=fun f=>D1 S f s) (fun f hf=>(Gq S f).prim s hf) f h
theorem Qt{S:Src9}{s:PS}{n:Nd}{s1:PS}(e:CZ S s=.ok (n,s1)):s.tok+1<=s1.tok/\s1.tok<=S.L.length:=((D9 S _).sum s (Nat.le_refl _)).at e
theorem Jb{S:Src9}{s:PS}{n:Nd}{s1:PS}(e:CM S s=.ok (n,s1)):s.tok+1<=s1.tok/\s1.tok<=S.L.length:=((D9 S _).term s (Nat.le_refl _)).at e
theorem KL{S:Src9}{s:PS}{n:Nd}{s1:PS}(e:BW S s=.ok (n,s1)):s.tok+1<=s1.tok/\s1.tok<=S.L.length:=((D9 S _).unary s (Nat.le_refl _)).at e
theorem PK{S:Src9}{s:PS}{n:Nd}{s1:PS}(e:Di S s=.ok (n,s1)):s.tok+1<=s1.tok/\s1.tok<=S.L.length:=((D9 S _).prim s (Nat.le_refl _)).at e
theorem Jc{S:Src9}{s:PS}{n:Nd}{s1:PS}(e:Aj S s=.ok (n,s1)):s.tok+1<=s1.tok/\s1.tok<=S.L.length:=((D9 S _).expr s (Nat.le_refl _)).at e
theorem PL{S:Src9}{s:PS}{n:List Nd}{s1:PS}(e:FJ S s=.ok (n,s1)):s.tok+1<=s1.tok/\s1.tok<=S.L.length:=((D9 S _).args s (Nat.le_refl _)).at e
theorem I8(S:Src9)(s:PS):Aj S s=(CZ S s).then fun n s=>
   if A4 S IG s=true then(CZ S s.step).then fun k s=>AH 18 [] 0 [n,k] s
   else if A4 S IH s=true then(CZ S s.step).then fun k s=>AH 19 [] 0 [n,k] s
   else .ok (n,s):=by
 conv=>lhs;unfold Aj;rw[C0]
 refine A5 (Mz (Nat.le_refl _)) fun n s1 e1=>?_
 have h1:=Qt (by rw[<-Mz (Nat.le_refl _)];exact e1)
 have l1:=AP (S:=S) (s:=s) (s':=s1) (by omega)
 split
 ·rename_i hs
  have:=AA (s':=s1.step) (AE hs) (Nat.le_refl _)
  exact A5 (Mz (by omega)) fun _ _ _=>rfl
 ·split
  ·rename_i hs
   have:=AA (s':=s1.step) (AE hs) (Nat.le_refl _)
   exact A5 (Mz (by omega)) fun _ _ _=>rfl
  ·rfl
theorem Ko(S:Src9)(s:PS):CZ S s=(CM S s).then fun n s=>EG S n s:=by
 conv=>lhs;unfold CZ;rw[Dc]
 refine A5 (I7 (Nat.le_refl _)) fun n s1 e1=>?_
 have h1:=Jb (by rw[<-I7 (Nat.le_refl _)];exact e1)
 have l1:=AP (S:=S) (s:=s) (s':=s1) (by omega)
 exact N4 (by omega)
theorem Jd(S:Src9)(n:Nd)(s:PS):EG S n s =
   if A4 S II s=true then(CM S s.step).then fun k s=>EG S (.mk 20 [] 0 [n,k]) s.node
   else if A4 S CP s=true then(CM S s.step).then fun k s=>EG S (.mk 21 [] 0 [n,k]) s.node
   else .ok (n,s):=by
 conv=>lhs;unfold EG;rw[sumL]
 split
 ·rename_i hs
  have:=AA (s':=s.step) (AE hs) (Nat.le_refl _)
  refine A5 (I7 (by omega)) fun k s1 e1=>?_
  rw[I7 (by omega)]at e1
  have h1:=Jb e1
  rw[AR]at h1
  have l1:=AA (S:=S) (s:=s) (s':=s1.node) (AE hs) (by rw[BC];omega)
  exact N4 (by omega)
 ·split
  ·rename_i hs
   have:=AA (s':=s.step) (AE hs) (Nat.le_refl _)
   refine A5 (I7 (by omega)) fun k s1 e1=>?_
   rw[I7 (by omega)]at e1
   have h1:=Jb e1
   rw[AR]at h1
   have l1:=AA (S:=S) (s:=s) (s':=s1.node) (AE hs) (by rw[BC];omega)
   exact N4 (by omega)
  ·rfl
theorem Je(S:Src9)(s:PS):CM S s=(BW S s).then fun n s=>Dh S n s:=by
 conv=>lhs;unfold CM;rw[Ck]
 refine A5 (Ge (Nat.le_refl _)) fun n s1 e1=>?_
 have h1:=KL (by rw[<-Ge (Nat.le_refl _)];exact e1)
 have l1:=AP (S:=S) (s:=s) (s':=s1) (by omega)
 exact PI (by omega)
theorem IM(S:Src9)(n:Nd)(s:PS):Dh S n s =
   if A4 S Gm s=true then(BW S s.step).then fun k s=>Dh S (.mk 22 [] 0 [n,k]) s.node
   else .ok (n,s):=by
 conv=>lhs;unfold Dh;rw[termL]
 split
 ·rename_i hs
  have:=AA (s':=s.step) (AE hs) (Nat.le_refl _)
  refine A5 (Ge (by omega)) fun k s1 e1=>?_
  rw[Ge (by omega)]at e1
  have h1:=KL e1
  rw[AR]at h1
  have l1:=AA (S:=S) (s:=s) (s':=s1.node) (AE hs) (by rw[BC];omega)
  exact PI (by omega)
 ·rfl
theorem Gr(S:Src9)(s:PS):BW S s =
   if A4 S CP s=true then(BW S s.step).then fun k s=>AH 23 [] 0 [k] s
   else if A4 S GQ s=true then(BW S s.step).then fun k s=>AH 24 [] 0 [k] s
   else Ew S s:=by
 conv=>lhs;unfold BW;rw[C5]
 split
 ·rename_i hs
  have:=AA (s':=s.step) (AE hs) (Nat.le_refl _)
  exact A5 (Ge (by omega)) fun _ _ _=>rfl
 ·split
  ·rename_i hs
   have:=AA (s':=s.step) (AE hs) (Nat.le_refl _)
   exact A5 (Ge (by omega)) fun _ _ _=>rfl
  ·exact UB (Nat.le_refl _)
theorem Jf(S:Src9)(s:PS):Ew S s=(Di S s).then fun n s=>DA S n s:=by
 conv=>lhs;unfold Ew;rw[D0]
 refine A5 (Qs (Nat.le_refl _)) fun n s1 e1=>?_
 have h1:=PK (by rw[<-Qs (Nat.le_refl _)];exact e1)
 have l1:=AP (S:=S) (s:=s) (s':=s1) (by omega)
 exact PJ (by omega)
theorem IP(S:Src9)(n:Nd)(s:PS):DA S n s =
   if A4 S Hv s=true then(Ad S s.step).then fun x s=>(A9 S AG s).then fun _ s=>
    (if A4 S AD s=true then .ok ([],s)else FJ S s).then fun ks s=>(A9 S AD s).then fun _ s=>DA S (.mk 25 x 0 (n::ks)) s.node
   else .ok (n,s):=by
 conv=>lhs;unfold DA;rw[callL]
 split
 ·rename_i hs
  refine A5 rfl fun x s1 e1=>A5 rfl fun u s2 e2=>?_
  have h1:=(Be S s.step).at e1
  have h2:=(AQ S AG s1).at e2
  rw[AR]at h1
  have l2:=AA (S:=S) (s:=s) (s':=s2) (AE hs) (by omega)
  refine A5 ?_ fun ks s3 e3=>A5 rfl fun v s4 e4=>?_
  ·split
   ·rfl
   ·exact N5 (by omega)
  ·have h3:s2.tok<=s3.tok:=by
    by_cases hx:A4 S AD s2=true
    ·rw[if_pos hx]at e3;cases e3;exact Nat.le_refl _
    ·rw[if_neg hx,N5 (by omega)]at e3
     have:=PL e3
     omega
   have h4:=(AQ S AD s3).at e4
   have l4:=AA (S:=S) (s:=s) (s':=s4.node) (AE hs) (by rw[BC];omega)
   exact PJ (by omega)
 ·rfl
theorem Lo(S:Src9)(s:PS):FJ S s=(Aj S s).then fun k s=>if A4 S Av s=true then(FJ S s.step).then fun ks s=>.ok (k::ks,s)else .ok ([k],s):=by
 conv=>lhs;unfold FJ;rw[Cr]
 refine A5 (DQ (Nat.le_refl _)) fun k s1 e1=>?_
 have h1:=Jc (by rw[<-DQ (Nat.le_refl _)];exact e1)
 split
 ·rename_i hs
  have l1:=AA (S:=S) (s:=s1) (s':=s1.step) (AE hs) (Nat.le_refl _)
  have l0:=AP (S:=S) (s:=s) (s':=s1) (by omega)
  exact A5 (N5 (by omega)) fun _ _ _=>rfl
 ·rfl
theorem FR(S:Src9)(s:PS):Di S s =
   if isB S 2 s=true then AH 26 [] (Db (S.at s.tok).2.1) [] s.step
   else if isB S 1 s=true then(Ad S s).then fun x s=>AH 31 x 0 [] s
   else if A4 S E7 s=true then AH 27 [] 0 [] s.step
   else if A4 S DU s=true then AH 28 [] 0 [] s.step
   else if A4 S E0 s=true then AH 29 [] 0 [] s.step
   else if A4 S Fb s=true then(Ad S s.step).then fun x s=>AH 30 x 0 [] s
   else(A9 S AG s).then fun _ s=>(Aj S s).then fun n s=>(A9 S AD s).then fun _ s=>.ok (n,s):=by
 conv=>lhs;unfold Di;rw[D1]
 split
 ·rfl
 ·split
  ·rfl
  ·split
   ·rfl
   ·split
    ·rfl
    ·split
     ·rfl
     ·split
      ·rfl
      ·by_cases hs:A4 S AG s=true
       ·refine A5 rfl fun u s1 e1=>?_
        have h1:=(AQ S AG s).at e1
        have l1:=AA (S:=S) (s:=s) (s':=s1) (AE hs) (by omega)
        exact A5 (DQ (by omega)) fun _ _ _=>rfl
       ·have e:A9 S AG s=Bp S 12 s:=by unfold A9;rw[if_neg hs]
        rw[e];rfl
theorem Ak{α:Type}{c:Prop}[Decidable c]{a a' b b':α}(h:c->a=a')(h':¬c->b=b'):(if c then a else b)=(if c then a' else b'):=by
 by_cases hc:c
 ·rw[if_pos hc,if_pos hc];exact h hc
 ·rw[if_neg hc,if_neg hc];exact h' hc
def EX(S:Src9)(kind:Int)(s:PS):Got Nd:=
 (Ad S s).then fun x s=>(A9 S EB s).then fun _ s=>(Aj S s).then fun k s=>(A9 S AU s).then fun _ s=>AH kind x 0 [k] s
def Bq(S:Src9)(s:PS):Got Nd:=(A9 S AG s).then fun _ s=>(Aj S s).then fun k s=>(A9 S AD s).then fun _ s=>.ok (k,s)
def F4(S:Src9)(kind:Int)(s:PS):Got Nd:=
 (A9 S AG s).then fun _ s=>(Aj S s).then fun k s=>(A9 S AD s).then fun _ s=>(A9 S AU s).then fun _ s=>AH kind [] 0 [k] s
def Gs(S:Src9)(kind:Int)(s:PS):Got Nd:=
 (A9 S AG s).then fun _ s=>(Aj S s).then fun k s=>(A9 S Av s).then fun _ s=>(Aj S s).then fun m s=>(A9 S AD s).then fun _ s=>(A9 S AU s).then fun _ s=>AH kind [] 0 [k,m] s
theorem I9{S:Src9}{f:Nat}{kind:Int}{s:PS}(h:12*S.left s+6<=f):FG S f kind s=EX S kind s:=by
 unfold FG EX
 refine A5 rfl fun x s1 e1=>A5 rfl fun u s2 e2=>?_
 have h1:=(Be S s).at e1
 have h2:=(AQ S EB s1).at e2
 have l2:=AP (S:=S) (s:=s) (s':=s2) (by omega)
 exact A5 (DQ (by omega)) fun _ _ _=>rfl
theorem IA{S:Src9}{f:Nat}{s:PS}(h:12*S.left s+6<=f):FH S f s=Bq S s:=by
 unfold FH Bq
 refine A5 rfl fun u s1 e1=>?_
 have h1:=(AQ S AG s).at e1
 have l1:=AP (S:=S) (s:=s) (s':=s1) (by omega)
 exact A5 (DQ (by omega)) fun _ _ _=>rfl
theorem GV{S:Src9}{f:Nat}{kind:Int}{s:PS}(h:12*S.left s+6<=f):Fv S f kind s=F4 S kind s:=by
 unfold Fv F4
 refine A5 rfl fun u s1 e1=>?_
 have h1:=(AQ S AG s).at e1
 have l1:=AP (S:=S) (s:=s) (s':=s1) (by omega)
 exact A5 (DQ (by omega)) fun _ _ _=>rfl
theorem Pt{S:Src9}{f:Nat}{kind:Int}{s:PS}(h:12*S.left s+6<=f):Gn S f kind s=Gs S kind s:=by
 unfold Gn Gs
 refine A5 rfl fun u s1 e1=>?_
 have h1:=(AQ S AG s).at e1
 have l1:=AP (S:=S) (s:=s) (s':=s1) (by omega)
 refine A5 (DQ (by omega)) fun k s2 e2=>A5 rfl fun v s3 e3=>?_
 rw[DQ (by omega)]at e2
 have h2:=Jc e2
 have h3:=(AQ S Av s2).at e3
 have l3:=AP (S:=S) (s:=s) (s':=s3) (by omega)
 exact A5 (DQ (by omega)) fun _ _ _=>rfl
structure Uf(S:Src9)(f:Nat):Prop where
 block:∀s,12*S.left s+1<=f->Bj S (f+1) s=Bj S f s
 stmts:∀s,12*S.left s+9<=f->s.tok<=S.L.length->CJ S (f+1) s=CJ S f s
 stmt:∀s,12*S.left s+8<=f->D2 S (f+1) s=D2 S f s
theorem N6{S:Src9}{x:List Int}{s:PS}(h:¬A4 S x s=true){α:Type}(F F':Unit->PS->Got α):(A9 S x s).then F=(A9 S x s).then F':=by
 have e:A9 S x s=Bp S 12 s:=by unfold A9;rw[if_neg h]
 rw[e];rfl
theorem N0(S:Src9):∀f,Uf S f
 | 0=>⟨fun _ h=>(by omega),fun _ h _=>(by omega),fun _ h=>(by omega)⟩
 | f+1=>by
  have I:=N0 S f
  have E1:=I6 S (f+1)
  constructor
  ·intro s h
   conv=>lhs;rw[Bj]
   conv=>rhs;rw[Bj]
   by_cases hs:A4 S Al s=true
   ·refine A5 rfl fun u s1 e1=>?_
    have h1:=(AQ S Al s).at e1
    have l1:=AA (S:=S) (s:=s) (s':=s1) (AE hs) (by omega)
    exact A5 (I.stmts s1 (by omega) h1.2) fun _ _ _=>rfl
   ·exact N6 hs _ _
  ·intro s h hle
   conv=>lhs;rw[CJ]
   conv=>rhs;rw[CJ]
   split
   ·rfl
   ·refine A5 (I.stmt s (by omega)) fun k s1 e1=>?_
    have h1:=(E1.stmt s (by omega)).at e1
    have l1:=AA (S:=S) (s:=s) (s':=s1) (by omega) (by omega)
    exact A5 (I.stmts s1 (by omega) h1.2) fun _ _ _=>rfl
  ·intro s h
   conv=>lhs;rw[D2]
   conv=>rhs;rw[D2]
   have nx:∀x,A4 S x s=true->12*S.left s.step+6<=f:=fun x hx=>Ln (AE hx) (by omega) (Nat.le_refl _)
   refine Ak (fun hs=>?_) fun _=>Ak (fun hs=>?_) fun _=>Ak (fun hs=>?_) fun _=>Ak (fun hs=>?_) fun _=>Ak (fun hs=>?_) fun _=>Ak (fun hs=>?_) fun _=>Ak (fun hs=>?_) fun _=>Ak (fun hs=>?_) fun _=>Ak (fun hs=>?_) fun _=>Ak (fun hs=>?_) fun _=>?_
   ·rw[I9 (by have:=nx _ hs;omega),I9 (nx _ hs)]
   ·have hx:=nx _ hs
    refine A5 (by rw[IA (by omega),IA hx]) fun k s1 e1=>?_
    have h1:=(FQ (S:=S) (f:=f+1) (s:=s.step) (by omega)).at e1
    rw[AR]at h1
    have l1:=AA (S:=S) (s:=s) (s':=s1) (AE hs) (by omega)
    refine A5 (I.block s1 (by omega)) fun b s2 e2=>?_
    have h2:=(E1.block s1 (by omega)).at e2
    refine Ak (fun _=>?_) fun _=>rfl
    have l2:=AA (S:=S) (s:=s) (s':=s2.step) (AE hs) (by rw[AR];omega)
    exact A5 (I.block s2.step (by omega)) fun _ _ _=>rfl
   ·have hx:=nx _ hs
    refine A5 (by rw[IA (by omega),IA hx]) fun k s1 e1=>?_
    have h1:=(FQ (S:=S) (f:=f+1) (s:=s.step) (by omega)).at e1
    rw[AR]at h1
    have l1:=AA (S:=S) (s:=s) (s':=s1) (AE hs) (by omega)
    exact A5 (I.block s1 (by omega)) fun _ _ _=>rfl
   ·have hx:=nx _ hs
    exact A5 (by rw[DQ (by omega),DQ hx]) fun _ _ _=>rfl
   ·rw[GV (by have:=nx _ hs;omega),GV (nx _ hs)]
   ·have l1:=AA (S:=S) (s:=s) (s':=s.step) (AE hs) (Nat.le_refl _)
    exact A5 (I.block s.step (by omega)) fun _ _ _=>rfl
   ·rw[GV (by have:=nx _ hs;omega),GV (nx _ hs)]
   ·rw[GV (by have:=nx _ hs;omega),GV (nx _ hs)]
   ·rw[Pt (by have:=nx _ hs;omega),Pt (nx _ hs)]
   ·rw[I9 (by omega),I9 (by omega)]
   ·exact A5 (by rw[DQ (by omega),DQ (by omega)]) fun _ _ _=>rfl
def Af(S:Src9)(s:PS):Got Nd:=Bj S (12*S.left s+1) s
def EP(S:Src9)(s:PS):Got (List Nd):=CJ S (12*S.left s+9) s
def Ca(S:Src9)(s:PS):Got Nd:=D2 S (12*S.left s+8) s
theorem Ex{S:Src9}{s:PS}{f:Nat}(h:12*S.left s+1<=f):Bj S f s=Af S s:=CR (X:=fun f=>Bj S f s) (fun f hf=>(N0 S f).block s hf) f h
theorem PM{S:Src9}{s:PS}{f:Nat}(h:12*S.left s+9<=f)(hle:s.tok<=S.L.length):CJ S f s=EP S s:=CR (X:=fun f=>CJ S f s) (fun f hf=>(N0 S f).stmts s hf hle) f h
theorem Qu{S:Src9}{s:PS}{f:Nat}(h:12*S.left s+8<=f):D2 S f s=Ca S s:=CR (X:=fun f=>D2 S f s) (fun f hf=>(N0 S f).stmt s hf) f h
theorem N7{S:Src9}{s:PS}{n:Nd}{s1:PS}(e:Af S s=.ok (n,s1)):s.tok+1<=s1.tok/\s1.tok<=S.L.length:=((I6 S _).block s (Nat.le_refl _)).at e
theorem PN{S:Src9}{s:PS}{n:Nd}{s1:PS}(e:Ca S s=.ok (n,s1)):s.tok+1<=s1.tok/\s1.tok<=S.L.length:=((I6 S _).stmt s (Nat.le_refl _)).at e
theorem N8(S:Src9)(s:PS):Af S s=(A9 S Al s).then fun _ s=>(EP S s).then fun ks s=>(A9 S Ax s).then fun _ s=>AH 6 [] 0 ks s:=by
 conv=>lhs;unfold Af;rw[Bj]
 by_cases hs:A4 S Al s=true
 ·refine A5 rfl fun u s1 e1=>?_
  have h1:=(AQ S Al s).at e1
  have l1:=AA (S:=S) (s:=s) (s':=s1) (AE hs) (by omega)
  exact A5 (PM (by omega) h1.2) fun _ _ _=>rfl
 ·exact N6 hs _ _
theorem KM(S:Src9)(s:PS)(hle:s.tok<=S.L.length):EP S s=if A4 S Ax s=true then .ok ([],s)else(Ca S s).then fun k s=>(EP S s).then fun ks s=>.ok (k::ks,s):=by
 conv=>lhs;unfold EP;rw[CJ]
 split
 ·rfl
 ·refine A5 (Qu (by omega)) fun k s1 e1=>?_
  rw[Qu (by omega)]at e1
  have h1:=PN e1
  have l1:=AA (S:=S) (s:=s) (s':=s1) (by omega) (by omega)
  exact A5 (PM (by omega) h1.2) fun _ _ _=>rfl
theorem Bo(S:Src9)(s:PS):Ca S s =
   if A4 S Cj s=true then EX S 7 s.step
   else if A4 S wIf s=true then(Bq S s.step).then fun k s=>(Af S s).then fun b s=>
    if A4 S DT s=true then(Af S s.step).then fun c s=>AH 9 [] 0 [k,b,c] s else AH 9 [] 0 [k,b] s
   else if A4 S CC s=true then(Bq S s.step).then fun k s=>(Af S s).then fun b s=>AH 10 [] 0 [k,b] s
   else if A4 S C8 s=true then(Aj S s.step).then fun k s=>(A9 S AU s).then fun _ s=>AH 11 [] 0 [k] s
   else if A4 S Cm s=true then F4 S 12 s.step
   else if A4 S EC s=true then(Af S s.step).then fun b s=>AH 13 [] 0 [b] s
   else if A4 S EV s=true then F4 S 14 s.step
   else if A4 S Df s=true then F4 S 15 s.step
   else if A4 S G7 s=true then Gs S 16 s.step
   else if Cn S s=true then EX S 8 s
   else(Aj S s).then fun k s=>(A9 S AU s).then fun _ s=>AH 17 [] 0 [k] s:=by
 conv=>lhs;unfold Ca;rw[D2]
 have nx:∀x,A4 S x s=true->12*S.left s.step+6<=12*S.left s+7:=fun x hx=>Ln (AE hx) (Nat.le_refl _) (Nat.le_refl _)
 refine Ak (fun hs=>?_) fun _=>Ak (fun hs=>?_) fun _=>Ak (fun hs=>?_) fun _=>Ak (fun hs=>?_) fun _=>Ak (fun hs=>?_) fun _=>Ak (fun hs=>?_) fun _=>Ak (fun hs=>?_) fun _=>Ak (fun hs=>?_) fun _=>Ak (fun hs=>?_) fun _=>Ak (fun hs=>?_) fun _=>?_
 ·exact I9 (nx _ hs)
 ·have hx:=nx _ hs
  refine A5 (IA hx) fun k s1 e1=>?_
  have h1:=(FQ (S:=S) (s:=s.step) hx).at e1
  rw[AR]at h1
  have l1:=AA (S:=S) (s:=s) (s':=s1) (AE hs) (by omega)
  refine A5 (Ex (by omega)) fun b s2 e2=>?_
  rw[Ex (by omega)]at e2
  have h2:=N7 e2
  refine Ak (fun _=>?_) fun _=>rfl
  have l2:=AA (S:=S) (s:=s) (s':=s2.step) (AE hs) (by rw[AR];omega)
  exact A5 (Ex (by omega)) fun _ _ _=>rfl
 ·have hx:=nx _ hs
  refine A5 (IA hx) fun k s1 e1=>?_
  have h1:=(FQ (S:=S) (s:=s.step) hx).at e1
  rw[AR]at h1
  have l1:=AA (S:=S) (s:=s) (s':=s1) (AE hs) (by omega)
  exact A5 (Ex (by omega)) fun _ _ _=>rfl
 ·exact A5 (DQ (nx _ hs)) fun _ _ _=>rfl
 ·exact GV (nx _ hs)
 ·have l1:=AA (S:=S) (s:=s) (s':=s.step) (AE hs) (Nat.le_refl _)
  exact A5 (Ex (by omega)) fun _ _ _=>rfl
 ·exact GV (nx _ hs)
 ·exact GV (nx _ hs)
 ·exact Pt (nx _ hs)
 ·exact I9 (by omega)
 ·exact A5 (DQ (by omega)) fun _ _ _=>rfl
theorem L8(S:Src9):∀(f:Nat) (s:PS),12*S.left s+1<=f->C6 S (f+1) s=C6 S f s
 | 0,_,h=>by omega
 | f+1,s,h=>by
  conv=>lhs;rw[C6]
  conv=>rhs;rw[C6]
  refine A5 rfl fun x s1 e1=>A5 rfl fun k s2 e2=>Ak (fun hs=>?_) fun _=>rfl
  cases e2
  have h1:=(Be S s).at e1
  have l1:=AA (S:=S) (s:=s1.node) (s':=s1.node.step) (AE hs) (Nat.le_refl _)
  have l0:=AP (S:=S) (s:=s) (s':=s1.node) (by rw[BC];omega)
  exact A5 (L8 S f s1.node.step (by omega)) fun _ _ _=>rfl
def Ej(S:Src9)(s:PS):Got (List Nd):=C6 S (12*S.left s+1) s
theorem PV{S:Src9}{s:PS}{f:Nat}(h:12*S.left s+1<=f):C6 S f s=Ej S s:=CR (X:=fun f=>C6 S f s) (fun f hf=>L8 S f s hf) f h
theorem Sl{S:Src9}{s:PS}{n:List Nd}{s1:PS}(e:Ej S s=.ok (n,s1)):s.tok+1<=s1.tok/\s1.tok<=S.L.length:=(GU S _ s (Nat.le_refl _)).at e
theorem Sm(S:Src9)(s:PS):Ej S s=(Ad S s).then fun x s=>(AH 5 x 0 [] s).then fun k s=>if A4 S Av s=true then(Ej S s.step).then fun ks s=>.ok (k::ks,s)else .ok ([k],s):=by
 conv=>lhs;unfold Ej;rw[C6]
 refine A5 rfl fun x s1 e1=>A5 rfl fun k s2 e2=>Ak (fun hs=>?_) fun _=>rfl
 cases e2
 have h1:=(Be S s).at e1
 have l1:=AA (S:=S) (s:=s1.node) (s':=s1.node.step) (AE hs) (Nat.le_refl _)
 have l0:=AP (S:=S) (s:=s) (s':=s1.node) (by rw[BC];omega)
 exact A5 (PV (by omega)) fun _ _ _=>rfl
def Pz(S:Src9)(s:PS):Got (List Nd):=if A4 S AD s=true then .ok ([],s)else Ej S s
def Ey(S:Src9)(s:PS):Got Nd:=
 (Ad S s).then fun x s=>(A9 S AG s).then fun _ s=>(Pz S s).then fun ks s=>(A9 S AD s).then fun _ s=>(Af S s).then fun b s=>AH 4 x (ks.length:Int) (ks++[b]) s
theorem G0{S:Src9}{f:Nat}{s:PS}(h:12*S.left s+10<=f):Co S f s=Ey S s:=by
 unfold Co Ey Pz
 refine A5 rfl fun x s1 e1=>A5 rfl fun u s2 e2=>?_
 have h1:=(Be S s).at e1
 have h2:=(AQ S AG s1).at e2
 have l2:=AP (S:=S) (s:=s) (s':=s2) (by omega)
 refine A5 (Ak (fun _=>rfl) fun _=>PV (by omega)) fun ks s3 e3=>A5 rfl fun v s4 e4=>?_
 have h3:s2.tok<=s3.tok:=by
  split at e3
  ·cases e3;exact Nat.le_refl _
  ·have:=(GU S f s2 (by omega)).at e3;omega
 have h4:=(AQ S AD s3).at e4
 have l4:=AP (S:=S) (s:=s) (s':=s4) (by omega)
 exact A5 (Ex (by omega)) fun _ _ _=>rfl
theorem Hj{S:Src9}{s:PS}{n:Nd}{s1:PS}(e:Ey S s=.ok (n,s1)):s.tok+1<=s1.tok/\s1.tok<=S.L.length:=by
 rw[<-G0 (Nat.le_refl _)]at e
 exact(Jr (Nat.le_refl _)).at e
theorem L9(S:Src9):∀(f:Nat) (s:PS),12*S.left s+1<=f->Bi S (f+1) s=Bi S f s
 | 0,_,h=>by omega
 | f+1,s,h=>by
  conv=>lhs;rw[Bi]
  conv=>rhs;rw[Bi]
  refine Ak (fun hs=>A5 rfl fun x s1 e1=>A5 rfl fun u s2 e2=>A5 rfl fun k s3 e3=>?_) fun _=>rfl
  cases e3
  have h1:=(Be S s.step).at e1
  have h2:=(AQ S AU s1).at e2
  rw[AR]at h1
  have l2:=AA (S:=S) (s:=s) (s':=s2.node) (AE hs) (by rw[BC];omega)
  exact A5 (L9 S f s2.node (by omega)) fun _ _ _=>rfl
def DS(S:Src9)(s:PS):Got (List Nd):=Bi S (12*S.left s+1) s
theorem Lu{S:Src9}{s:PS}{f:Nat}(h:12*S.left s+1<=f):Bi S f s=DS S s:=CR (X:=fun f=>Bi S f s) (fun f hf=>L9 S f s hf) f h
theorem Sn{S:Src9}{s:PS}{n:List Nd}{s1:PS}(hle:s.tok<=S.L.length)(e:DS S s=.ok (n,s1)):s.tok<=s1.tok/\s1.tok<=S.L.length:=(IL S _ s (Nat.le_refl _) hle).at e
theorem So(S:Src9)(s:PS):DS S s=if A4 S Fa s=true then(Ad S s.step).then fun x s=>(A9 S AU s).then fun _ s=>(AH 3 x 0 [] s).then fun k s=>(DS S s).then fun ks s=>.ok (k::ks,s)else .ok ([],s):=by
 conv=>lhs;unfold DS;rw[Bi]
 refine Ak (fun hs=>A5 rfl fun x s1 e1=>A5 rfl fun u s2 e2=>A5 rfl fun k s3 e3=>?_) fun _=>rfl
 cases e3
 have h1:=(Be S s.step).at e1
 have h2:=(AQ S AU s1).at e2
 rw[AR]at h1
 have l2:=AA (S:=S) (s:=s) (s':=s2.node) (AE hs) (by rw[BC];omega)
 exact A5 (Lu (by omega)) fun _ _ _=>rfl
theorem JB(S:Src9):∀(f:Nat) (s:PS),12*S.left s+1<=f->Ay S (f+1) s=Ay S f s
 | 0,_,h=>by omega
 | f+1,s,h=>by
  conv=>lhs;rw[Ay]
  conv=>rhs;rw[Ay]
  refine Ak (fun hs=>?_) fun _=>rfl
  have l1:=AA (S:=S) (s:=s) (s':=s.step) (AE hs) (Nat.le_refl _)
  refine A5 (by rw[G0 (by omega),G0 (by omega)]) fun k s1 e1=>?_
  rw[G0 (by omega)]at e1
  have h1:=Hj e1
  rw[AR]at h1
  have l2:=AA (S:=S) (s:=s) (s':=s1) (AE hs) (by omega)
  exact A5 (JB S f s1 (by omega)) fun _ _ _=>rfl
def Cd(S:Src9)(s:PS):Got (List Nd):=Ay S (12*S.left s+1) s
theorem MH{S:Src9}{s:PS}{f:Nat}(h:12*S.left s+1<=f):Ay S f s=Cd S s:=CR (X:=fun f=>Ay S f s) (fun f hf=>JB S f s hf) f h
theorem LA(S:Src9)(s:PS):Cd S s=if A4 S wTo s=true then(Ey S s.step).then fun k s=>(Cd S s).then fun ks s=>.ok (k::ks,s)else .ok ([],s):=by
 conv=>lhs;unfold Cd;rw[Ay]
 refine Ak (fun hs=>?_) fun _=>rfl
 have l1:=AA (S:=S) (s:=s) (s':=s.step) (AE hs) (Nat.le_refl _)
 refine A5 (G0 (by omega)) fun k s1 e1=>?_
 rw[G0 (by omega)]at e1
 have h1:=Hj e1
 rw[AR]at h1
 have l2:=AA (S:=S) (s:=s) (s':=s1) (AE hs) (by omega)
 exact A5 (MH (by omega)) fun _ _ _=>rfl
def upC(S:Src9)(s:PS):Got (List Nd):=if A4 S Ec s=true then(Ad S s.step).then fun y s=>(AH 31 y 0 [] s).then fun k s=>.ok ([k],s)else .ok ([],s)
def Fg(S:Src9)(s:PS):Got Nd:=
 (Ad S s).then fun x s=>(upC S s).then fun up s=>(A9 S Al s).then fun _ s=>(DS S s).then fun ks s=>(Cd S s).then fun ms s=>(A9 S Ax s).then fun _ s=>AH 2 x 0 (up++ks++ms) s
theorem Up{S:Src9}{s:PS}{n:List Nd}{s1:PS}(hle:s.tok<=S.L.length)(e:upC S s=.ok (n,s1)):s.tok<=s1.tok/\s1.tok<=S.L.length:=by
 unfold upC at e
 split at e
 ·cases hn:Ad S s.step with
  | error e'=>rw[hn]at e;cases e
  | ok y=>
   obtain⟨x,s2⟩:=y
   rw[hn]at e
   have h1:=(Be S s.step).at hn
   rw[AR]at h1
   cases e
   rw[BC]
   omega
 ·cases e;exact⟨Nat.le_refl _,hle⟩
theorem Gh{S:Src9}{f:Nat}{s:PS}(h:12*S.left s+1<=f):D7 S f s=Fg S s:=by
 unfold D7 Fg
 refine A5 rfl fun x s1 e1=>A5 rfl fun up s2 e2=>A5 rfl fun u s3 e3=>?_
 have h1:=(Be S s).at e1
 have h2:=Up h1.2 e2
 have h3:=(AQ S Al s2).at e3
 have l3:=AP (S:=S) (s:=s) (s':=s3) (by omega)
 refine A5 (Lu (by omega)) fun ks s4 e4=>?_
 rw[Lu (by omega)]at e4
 have h4:=Sn h3.2 e4
 have l4:=AP (S:=S) (s:=s) (s':=s4) (by omega)
 exact A5 (MH (by omega)) fun _ _ _=>rfl
theorem KW{S:Src9}{s:PS}{n:Nd}{s1:PS}(e:Fg S s=.ok (n,s1)):s.tok+1<=s1.tok/\s1.tok<=S.L.length:=by
 rw[<-Gh (Nat.le_refl _)]at e
 exact(Ps (Nat.le_refl _)).at e
theorem JC(S:Src9):∀(f:Nat) (s:PS),12*S.left s+1<=f->BG S (f+1) s=BG S f s
 | 0,_,h=>by omega
 | f+1,s,h=>by
  conv=>lhs;rw[BG]
  conv=>rhs;rw[BG]
  refine Ak (fun hs=>?_) fun _=>rfl
  have l1:=AA (S:=S) (s:=s) (s':=s.step) (AE hs) (Nat.le_refl _)
  refine A5 (by rw[Gh (by omega),Gh (by omega)]) fun k s1 e1=>?_
  rw[Gh (by omega)]at e1
  have h1:=KW e1
  rw[AR]at h1
  have l2:=AA (S:=S) (s:=s) (s':=s1) (AE hs) (by omega)
  exact A5 (JC S f s1 (by omega)) fun _ _ _=>rfl
def EK(S:Src9)(s:PS):Got (List Nd):=BG S (12*S.left s+1) s
theorem MI{S:Src9}{s:PS}{f:Nat}(h:12*S.left s+1<=f):BG S f s=EK S s:=CR (X:=fun f=>BG S f s) (fun f hf=>JC S f s hf) f h
theorem Q0(S:Src9)(s:PS):EK S s=if A4 S F8 s=true then(Fg S s.step).then fun k s=>(EK S s).then fun ks s=>.ok (k::ks,s)else .ok ([],s):=by
 conv=>lhs;unfold EK;rw[BG]
 refine Ak (fun hs=>?_) fun _=>rfl
 have l1:=AA (S:=S) (s:=s) (s':=s.step) (AE hs) (Nat.le_refl _)
 refine A5 (Gh (by omega)) fun k s1 e1=>?_
 rw[Gh (by omega)]at e1
 have h1:=KW e1
 rw[AR]at h1
 have l2:=AA (S:=S) (s:=s) (s':=s1) (AE hs) (by omega)
 exact A5 (MI (by omega)) fun _ _ _=>rfl
def Ji(S:Src9)(s:PS):Got Nd:=(EK S s).then fun ks s=>(A9 S FF s).then fun _ s=>(Af S s).then fun b s=>AH 1 [] 0 (ks++[b]) s
theorem RD(S:Src9):Et S (ED S) ⟨0,0,0⟩=Ji S ⟨0,0,0⟩:=by
 have l0:S.left ⟨0,0,0⟩=S.L.length:=rfl
 unfold Et Ji
 refine A5 (MI (by unfold ED;omega)) fun ks s1 e1=>A5 rfl fun u s2 e2=>?_
 have l2:=AP (S:=S) (s:=⟨0,0,0⟩) (s':=s2) (Nat.zero_le _)
 exact A5 (Ex (by unfold ED;omega)) fun _ _ _=>rfl
def Upto(p:Int->Bool)(T:List Int)(i k:Nat):Prop:=i<=k/\k<=T.length/\∀j,i<=j->j<k->p (wd T j)=true
theorem Q8{p:Int->Bool}{T:List Int}{i:Nat}(h:i<=T.length):Upto p T i i:=⟨Nat.le_refl _,h,fun j h1 h2=>by omega⟩
theorem Upto.step{p:Int->Bool}{T:List Int}{i k:Nat}(h:Upto p T i k)(hk:k<T.length)(hp:p (wd T k)=true):Upto p T i (k+1):=
 ⟨by have:=h.1;omega,hk,fun j h1 h2=>by
  by_cases hj:j=k
  ·rw[hj];exact hp
  ·exact h.2.2 j h1 (by omega)⟩
theorem Upto.stop{p:Int->Bool}{T:List Int}{i k:Nat}(h:Upto p T i k)(he:¬k<T.length\/p (wd T k)=false):AO p T i=k:=by
 refine Tf h.2.1 h.1 h.2.2 ?_
 rcases he with he | he
 ·exact Or.inl (by have:=h.2.1;omega)
 ·exact Or.inr he
theorem JI{T:List Int}:∀(m i:Nat) (l:List Tok),Bz T m i=.ok l->l.length<=T.length-i
 | 0,i,l,h=>by unfold Bz at h;cases h;simp
 | m+1,i,l,h=>by
  unfold Bz at h
  split at h
  ·rename_i hi
   have hf:=FP hi
   cases hc:B9 T i with
   | skip k=>
    rw[hc]at h hf
    have:=JI m k l h
    have:=hf.1
    omega
   | tok t k=>
    rw[hc]at h hf
    simp only at h
    cases hs:Bz T m k with
    | error e=>rw[hs]at h;cases h
    | ok l'=>
     rw[hs]at h
     cases h
     have:=JI m k l' hs
     have:=hf.1
     have:=hf.2
     rw[List.length_cons]
     omega
   | bad c a=>rw[hc]at h;cases h
  ·cases h
   simp
theorem NZ{T:List Int}{l:List Tok}(h:CW T=.ok l):l.length<=T.length/\T.length<=4000:=by
 unfold CW at h
 split at h
 ·cases h
 ·have:=JI _ _ _ h
  exact⟨by omega,by omega⟩
abbrev Z0:=@Nat.le_refl
abbrev Z1:=@List.length_append
abbrev Z2:=@List.getD_eq_getElem?_getD
abbrev Z3:=@Nat.zero_le
abbrev Z4:=@List.drop_eq_getElem_cons
abbrev Z5:=@Nat.lt_of_lt_of_le
abbrev Z6:=@List.getElem_mem
abbrev Z7:=@List.mem_cons_self
abbrev Z8:=@List.mem_cons_of_mem
abbrev Z9:=@List.drop_eq_nil_of_le
abbrev Za:=@Nat.le_trans
abbrev Zb:=@List.getElem_append_left
abbrev Zc:=@List.getElem_append_right
abbrev Zd:=@List.eq_nil_of_length_eq_zero
end Go.Proofs.YtpfdgbalchmmfaaGreatDoor
