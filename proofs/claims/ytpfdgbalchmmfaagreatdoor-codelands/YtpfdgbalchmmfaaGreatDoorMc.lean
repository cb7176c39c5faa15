/- Texts in one. -/
import Derived.Test.YtpfdgbalchmmfaaGreatDoorMb
namespace Go.Proofs.YtpfdgbalchmmfaaGreatDoor
def RX(d:Int)(a:Nd)(la:List Tok):Prop:=∀(S:Src9) (s:PS) (x:List Int),s.deep<=d->AY S s.tok la->AY S (s.past la (A0 a)).tok (A8 x)->(x=AU\/x=AD\/x=Av)->Aj S s=.ok (a,s.past la (A0 a))
theorem Dw{d:Int}{a:Nd}(h:Nat9 d a):∃la,(∀F,2*A0 a+1<=F->Ae F 0 a=some la)/\RX d a la:=by
 obtain⟨la,w,o⟩:=h
 refine⟨la,fun F hF=>?_,fun S s x hs ht hx he=>?_⟩
 ·obtain⟨G,rfl⟩:∃G,F=G+1:=⟨F-1,by omega⟩
  exact w G (by omega)
 ·refine o.r0 S s hs ht ?_
  rcases he with rfl | rfl | rfl<;>exact FM hx (fun _=>by decide) (fun _=>by decide) (fun _=>⟨by decide,by decide⟩) (fun _=>⟨by decide,by decide⟩)
theorem Cv{α:Type}{n:α}{st s:PS}{l:List Tok}{k:Nat}(h1:st.tok=s.tok+l.length)(h2:st.deep=s.deep)(h3:st.many=s.many+(k:Int)):(Except.ok (n,st):Got α)=.ok (n,s.past l k):=by
 obtain⟨a,b,c⟩:=st
 simp only at h1 h2 h3
 subst h1 h2 h3
 rfl
theorem Kt{d:Int}{a:Nd}{la:List Tok}(h:RX d a la){S:Src9}{s:PS}(kind:Int){x:List Int}(hs:s.deep<=d)(ht:AY S s.tok ([(1,x,0)]++(A8 EB++(la++A8 AU)))):EX S kind s=.ok (.mk kind x 0 [a],s.past ([(1,x,0)]++(A8 EB++(la++A8 AU))) (1+A0 a)):=by
 obtain⟨t1,t'⟩:=AK ht
 obtain⟨t2,t'⟩:=AK t'
 obtain⟨t3,t4⟩:=AK t'
 unfold EX
 rw[Dl t1]
 show(A9 S EB s.step).then _=_
 rw[EI (s:=s.step) t2 (by decide) (by decide)]
 show(Aj S s.step.step).then _=_
 rw[h S s.step.step AU hs t3 t4 (Or.inl rfl)]
 show(A9 S AU (s.step.step.past la (A0 a))).then _=_
 rw[EI (s:=s.step.step.past la (A0 a)) t4 (by decide) (by decide)]
 refine Cv (st:=(s.step.step.past la (A0 a)).step.node) ?_ rfl ?_
 ·show s.tok+1+1+la.length+1=_
  simp only[Z1,BR,List.length_singleton];omega
 ·show s.many+(A0 a:Int)+1=_
  push_cast;omega
theorem GY{d:Int}{a:Nd}{la:List Tok}(h:RX (d+1) a la)(hd:d+1<=20){S:Src9}{s:PS}(hs:s.deep<=d)(ht:AY S s.tok (A8 AG++(la++A8 AD))):Bq S s=.ok (a,s.past (A8 AG++(la++A8 AD)) (A0 a)):=by
 obtain⟨t1,t'⟩:=AK ht
 obtain⟨t2,t3⟩:=AK t'
 unfold Bq
 rw[FU t1 (Or.inl rfl) (by omega)]
 show(Aj S s.down).then _=_
 rw[h S s.down AD (show s.deep+1<=d+1 by omega) t2 t3 (Or.inr (Or.inl rfl))]
 show(A9 S AD (s.down.past la (A0 a))).then _=_
 rw[Gg (s:=s.down.past la (A0 a)) t3 (Or.inl rfl)]
 refine Cv (st:=(s.down.past la (A0 a)).up) ?_ ?_ rfl
 ·show s.tok+1+la.length+1=_
  simp only[Z1,BR];omega
 ·show s.deep+1-1=s.deep
  omega
theorem ST(S:Src9)(kind:Int)(s:PS):F4 S kind s=(Bq S s).then fun k s=>(A9 S AU s).then fun _ s=>AH kind [] 0 [k] s:=by
 unfold F4 Bq
 cases A9 S AG s with
 | error e=>rfl
 | ok p=>
  obtain⟨u,s1⟩:=p
  show(Aj S s1).then _=((Aj S s1).then _).then _
  cases Aj S s1 with
  | error e=>rfl
  | ok p=>
   obtain⟨k,s2⟩:=p
   show(A9 S AD s2).then _=((A9 S AD s2).then _).then _
   cases A9 S AD s2 with
   | error e=>rfl
   | ok p=>rfl
theorem Qy{d:Int}{a:Nd}{la:List Tok}(h:RX (d+1) a la)(hd:d+1<=20){S:Src9}{s:PS}(kind:Int)(hs:s.deep<=d)(ht:AY S s.tok ((A8 AG++(la++A8 AD))++A8 AU)):F4 S kind s=.ok (.mk kind [] 0 [a],s.past ((A8 AG++(la++A8 AD))++A8 AU) (1+A0 a)):=by
 obtain⟨t1,t2⟩:=AK ht
 rw[ST,GY h hd hs t1]
 show(A9 S AU (s.past (A8 AG++(la++A8 AD)) (A0 a))).then _=_
 rw[EI (s:=s.past (A8 AG++(la++A8 AD)) (A0 a)) t2 (by decide) (by decide)]
 refine Cv (st:=(s.past (A8 AG++(la++A8 AD)) (A0 a)).step.node) ?_ rfl ?_
 ·show s.tok+(A8 AG++(la++A8 AD)).length+1=_
  simp only[Z1,BR];omega
 ·show s.many+(A0 a:Int)+1=_
  push_cast;omega
theorem Qz{d:Int}{a b:Nd}{la lb:List Tok}(h:RX (d+1) a la)(h':RX (d+1) b lb)(hd:d+1<=20){S:Src9}{s:PS}(kind:Int)(hs:s.deep<=d)(ht:AY S s.tok (A8 AG++(la++(A8 Av++(lb++(A8 AD++A8 AU)))))):Gs S kind s=.ok (.mk kind [] 0 [a,b],s.past (A8 AG++(la++(A8 Av++(lb++(A8 AD++A8 AU))))) (1+(A0 a+A0 b))):=by
 obtain⟨t1,t'⟩:=AK ht
 obtain⟨t2,t'⟩:=AK t'
 obtain⟨t3,t'⟩:=AK t'
 obtain⟨t4,t'⟩:=AK t'
 obtain⟨t5,t6⟩:=AK t'
 unfold Gs
 rw[FU t1 (Or.inl rfl) (by omega)]
 show(Aj S s.down).then _=_
 rw[h S s.down Av (show s.deep+1<=d+1 by omega) t2 t3 (Or.inr (Or.inr rfl))]
 show(A9 S Av (s.down.past la (A0 a))).then _=_
 rw[EI (s:=s.down.past la (A0 a)) t3 (by decide) (by decide)]
 show(Aj S (s.down.past la (A0 a)).step).then _=_
 rw[h' S (s.down.past la (A0 a)).step AD (show s.deep+1<=d+1 by omega) t4 t5 (Or.inr (Or.inl rfl))]
 show(A9 S AD ((s.down.past la (A0 a)).step.past lb (A0 b))).then _=_
 rw[Gg (s:=(s.down.past la (A0 a)).step.past lb (A0 b)) t5 (Or.inl rfl)]
 show(A9 S AU ((s.down.past la (A0 a)).step.past lb (A0 b)).up).then _=_
 rw[EI (s:=((s.down.past la (A0 a)).step.past lb (A0 b)).up) t6 (by decide) (by decide)]
 refine Cv (st:=((s.down.past la (A0 a)).step.past lb (A0 b)).up.step.node) ?_ ?_ ?_
 ·show s.tok+1+la.length+1+lb.length+1+1=_
  simp only[Z1,BR];omega
 ·show s.deep+1-1=s.deep
  omega
 ·show s.many+(A0 a:Int)+(A0 b:Int)+1=_
  push_cast;omega
def To(d:Int)(n:Nd)(l:List Tok):Prop:=∀(S:Src9) (s:PS),s.deep<=d->AY S s.tok l->A4 S DT (s.past l (A0 n))=false->Ca S s=.ok (n,s.past l (A0 n))
def UF(d:Int)(n:Nd)(l:List Tok):Prop:=∀(S:Src9) (s:PS),s.deep<=d->AY S s.tok l->Af S s=.ok (n,s.past l (A0 n))
def Ei(d:Int)(n:Nd):Prop:=∃l,(∀F,2*A0 n<=F->EE F n=some l)/\To d n l
def IR(d:Int)(n:Nd):Prop:=∃l,(∀F,2*A0 n<=F->Ed F n=some l)/\UF d n l
theorem NE{S:Src9}{s:PS}{x:List Int}{n:Nd}{s1:PS}(he:Ca S s=.ok (n,s1))(h1:x=Ax\/x=DT):A4 S x s=false:=by
 cases h:A4 S x s with
 | false=>rfl
 | true=>
  obtain⟨q,i1,i2⟩:=J3 h
  rw[Bo]at he
  have hs:¬Cn S s=true:=by unfold Cn;rw[i1,Bool.false_and];decide
  have hx:Aj S s=Bp S 12 s:=ND h (by rcases h1 with rfl | rfl<;>decide)
  have nn:∀y,x≠y->¬A4 S y s=true:=fun y hy=>by rw[q,beq_eq_false_iff_ne.2 hy];decide
  rw[if_neg (nn _ (by rcases h1 with rfl | rfl<;>decide)),if_neg (nn _ (by rcases h1 with rfl | rfl<;>decide)),if_neg (nn _ (by rcases h1 with rfl | rfl<;>decide)),if_neg (nn _ (by rcases h1 with rfl | rfl<;>decide)),if_neg (nn _ (by rcases h1 with rfl | rfl<;>decide)),if_neg (nn _ (by rcases h1 with rfl | rfl<;>decide)),if_neg (nn _ (by rcases h1 with rfl | rfl<;>decide)),if_neg (nn _ (by rcases h1 with rfl | rfl<;>decide)),if_neg (nn _ (by rcases h1 with rfl | rfl<;>decide)),if_neg hs,hx]at he
  cases he
theorem J4{e:Int}:∀(ks:List Nd),(∀c∈ks,Ei e c)->∃l,(∀F,2*A2 ks<=F->Dd (ks.map (EE F))=some l)/\(∀(S:Src9) (s:PS),s.deep<=e->AY S s.tok l->AY S (s.past l (A2 ks)).tok (A8 Ax)->EP S s=.ok (ks,s.past l (A2 ks))/\A4 S DT s=false)
 | [],_=>by
  refine⟨[],fun F _=>rfl,fun S s hs ht hc=>?_⟩
  rw[show s.past [] (A2 [])=s from FT s]at hc⊢
  refine⟨?_,by rw[AL hc];decide⟩
  rw[KM S s (by have:=ht.1;simp at this;omega),if_pos (AZ hc)]
 | c::ks,h=>by
  obtain⟨l,w,o⟩:=h c (Z7 ..)
  obtain⟨l2,w2,o2⟩:=J4 ks fun x hx=>h x (Z8 _ hx)
  refine⟨l++l2,fun F hF=>?_,fun S s hs ht hc=>?_⟩
  ·show AN (EE F c) (Dd (ks.map (EE F)))=_
   rw[Ab]at hF
   rw[w F (by omega),w2 F (by omega)]
   rfl
  ·rw[Ab]at hc⊢
   obtain⟨t1,t2⟩:=AK ht
   rw[<-Cb]at hc⊢
   obtain⟨r2,el⟩:=o2 S (s.past l (A0 c)) hs t2 hc
   have r1:=o S s hs t1 el
   refine⟨?_,NE r1 (Or.inr rfl)⟩
   rw[KM S s (by have:=ht.1;omega),if_neg (by rw[NE r1 (Or.inl rfl)];decide),r1]
   show(EP S (s.past l (A0 c))).then _=_
   rw[r2]
   rfl
theorem R0{d:Int}{ks:List Nd}(hd:d+1<=20)(h:∀c∈ks,Ei (d+1) c):IR d (.mk 6 [] 0 ks):=by
 obtain⟨l,w,o⟩:=J4 ks h
 have hsz:A0 (.mk 6 [] 0 ks)=1+A2 ks:=by conv=>lhs;unfold A0
 refine⟨A8 Al++(l++A8 Ax),fun F hF=>?_,fun S s hs ht=>?_⟩
 ·rw[hsz]at hF
  obtain⟨G,rfl⟩:∃G,F=G+1:=⟨F-1,by omega⟩
  rw[Ed,if_pos rfl,w G (by omega)]
  rfl
 ·obtain⟨t1,t'⟩:=AK ht
  obtain⟨t2,t3⟩:=AK t'
  rw[N8,FU t1 (Or.inr rfl) (by omega)]
  show(EP S s.down).then _=_
  obtain⟨r,_⟩:=o S s.down (show s.deep+1<=d+1 by omega) t2 t3
  rw[r]
  show(A9 S Ax (s.down.past l (A2 ks))).then _=_
  rw[Gg (s:=s.down.past l (A2 ks)) t3 (Or.inr rfl),hsz]
  refine Cv (st:=(s.down.past l (A2 ks)).up.node) ?_ ?_ ?_
  ·show s.tok+1+l.length+1=_
   simp only[Z1,BR];omega
  ·show s.deep+1-1=s.deep
   omega
  ·show s.many+(A2 ks:Int)+1=_
   push_cast;omega
theorem Fd{x:List Int}(h:C1 x=true):CF x=some [(1,x,0)]:=by unfold CF;rw[if_pos h]
theorem Ku(k:Int)(x:List Int)(m:Int)(a b c:Nd):A0 (.mk k x m [a,b,c])=1+(A0 a+(A0 b+A0 c)):=rfl
theorem Tp{d:Int}{a:Nd}{x:List Int}(hx:C1 x=true)(ha:Nat9 d a):Ei d (.mk 7 x 0 [a]):=by
 obtain⟨la,w,r⟩:=Dw ha
 refine⟨A8 Cj++([(1,x,0)]++(A8 EB++(la++A8 AU))),fun F hF=>?_,fun S s hs ht _=>?_⟩
 ·rw[Cp]at hF
  obtain⟨G,rfl⟩:∃G,F=G+1:=⟨F-1,by omega⟩
  rw[EE]
  show(if(7:Int)=7 then _ else _)=_
  rw[if_pos rfl,Fd hx,w G (by omega)]
  simp[DV,AN]
 ·obtain⟨t1,t2⟩:=AK ht
  rw[Bo,if_pos (AZ t1),Kt r (s:=s.step) 7 hs t2,Cp]
  refine Cv ?_ rfl rfl
  show s.tok+1+_=_
  rw[Z1 (as:=A8 Cj),BR];omega
theorem Tq{d:Int}{a:Nd}{x:List Int}(hx:C1 x=true)(ha:Nat9 d a):Ei d (.mk 8 x 0 [a]):=by
 obtain⟨la,w,r⟩:=Dw ha
 refine⟨[(1,x,0)]++(A8 EB++(la++A8 AU)),fun F hF=>?_,fun S s hs ht _=>?_⟩
 ·rw[Cp]at hF
  obtain⟨G,rfl⟩:∃G,F=G+1:=⟨F-1,by omega⟩
  rw[EE]
  show(if(8:Int)=7 then _ else _)=_
  rw[if_neg (by decide),if_pos rfl,Fd hx,w G (by omega)]
  simp[DV,AN]
 ·obtain⟨t1,t'⟩:=AK ht
  obtain⟨t2,_⟩:=AK t'
  have n:∀y,¬A4 S y s=true:=fun y=>by rw[Eh t1 (Or.inl rfl)];decide
  have hb:Cn S s=true:=by
   obtain⟨k1,_,_⟩:=Gf t1 1
   obtain⟨p1,_,p3⟩:=Du (s:=s.step) t2
   have p1':s.tok+1<S.L.length:=p1
   have p3':(S.at (s.tok+1)).2.1=EB:=p3
   unfold Cn
   rw[k1,p3',decide_eq_true p1']
   rfl
  rw[Bo,if_neg (n _),if_neg (n _),if_neg (n _),if_neg (n _),if_neg (n _),if_neg (n _),if_neg (n _),if_neg (n _),if_neg (n _),if_pos hb,Kt r 8 hs ht]
  rfl
theorem Pu{d:Int}{a:Nd}(ha:Nat9 d a):Ei d (.mk 11 [] 0 [a]):=by
 obtain⟨la,w,r⟩:=Dw ha
 refine⟨A8 C8++(la++A8 AU),fun F hF=>?_,fun S s hs ht _=>?_⟩
 ·rw[Cp]at hF
  obtain⟨G,rfl⟩:∃G,F=G+1:=⟨F-1,by omega⟩
  rw[EE]
  show(if(11:Int)=7 then _ else _)=_
  rw[if_neg (by decide),if_neg (by decide),if_neg (by decide),if_neg (by decide),if_pos rfl,w G (by omega)]
  simp[DV,AN]
 ·obtain⟨t1,t'⟩:=AK ht
  obtain⟨t2,t3⟩:=AK t'
  rw[Bo,if_neg (by rw[AL t1];decide),if_neg (by rw[AL t1];decide),if_neg (by rw[AL t1];decide),if_pos (AZ t1),r S s.step AU hs t2 t3 (Or.inl rfl)]
  show(A9 S AU (s.step.past la (A0 a))).then _=_
  rw[EI (s:=s.step.past la (A0 a)) t3 (by decide) (by decide),Cp]
  refine Cv (st:=(s.step.past la (A0 a)).step.node) ?_ rfl ?_
  ·show s.tok+1+la.length+1=_
   simp only[Z1,BR];omega
  ·show s.many+(A0 a:Int)+1=_
   push_cast;omega
theorem UG{S:Src9}{s s1:PS}{a:Nd}(he:Aj S s=.ok (a,s1))(ht:AY S s1.tok (A8 AU)):¬Cn S s=true:=by
 intro hb
 unfold Cn at hb
 simp only[Bool.and_eq_true,beq_iff_eq,decide_eq_true_eq]at hb
 obtain⟨h1,h2,h3⟩:=hb
 obtain⟨i1,i2⟩:=IB h1
 have n:∀y,¬A4 S y s=true:=fun y h=>by
  have:=(J3 h).2.1
  rw[h1]at this;cases this
 have n2:isB S 2 s=false:=by
  unfold isB;rw[i2];simp
 have q:∀y,EB≠y->¬A4 S y s.step.node=true:=fun y hy h=>by
  unfold A4 at h
  simp only[Bool.and_eq_true,beq_iff_eq]at h
  have h3':(S.at s.step.node.tok).2.1=EB:=h3
  exact hy (h3'.symm.trans h.2.1)
 have e0:Di S s=.ok (.mk 31 (S.at s.tok).2.1 0 [],s.step.node):=by
  rw[FR,if_neg (by rw[n2];decide),if_pos h1]
  unfold Ad
  rw[if_pos h1]
  rfl
 have e1:Ew S s=.ok (.mk 31 (S.at s.tok).2.1 0 [],s.step.node):=by
  rw[Jf,e0]
  show DA S _ s.step.node=_
  rw[IP,if_neg (q _ (by decide))]
 have e2:BW S s=.ok (.mk 31 (S.at s.tok).2.1 0 [],s.step.node):=by rw[Gr,if_neg (n _),if_neg (n _),e1]
 have e3:CM S s=.ok (.mk 31 (S.at s.tok).2.1 0 [],s.step.node):=by
  rw[Je,e2]
  show Dh S _ s.step.node=_
  rw[IM,if_neg (q _ (by decide))]
 have e4:CZ S s=.ok (.mk 31 (S.at s.tok).2.1 0 [],s.step.node):=by
  rw[Ko,e3]
  show EG S _ s.step.node=_
  rw[Jd,if_neg (q _ (by decide)),if_neg (q _ (by decide))]
 have e5:Aj S s=.ok (.mk 31 (S.at s.tok).2.1 0 [],s.step.node):=by
  rw[I8,e4]
  show(if _ then _ else _)=_
  rw[if_neg (q _ (by decide)),if_neg (q _ (by decide))]
 rw[e5]at he
 cases he
 have:=(Du ht).2.2
 have h3':(S.at s.step.node.tok).2.1=EB:=h3
 rw[h3']at this
 exact absurd this (by decide)
theorem SU{d:Int}{a:Nd}(ha:Nat9 d a):Ei d (.mk 17 [] 0 [a]):=by
 obtain⟨la,w,r⟩:=Dw ha
 refine⟨la++A8 AU,fun F hF=>?_,fun S s hs ht _=>?_⟩
 ·rw[Cp]at hF
  obtain⟨G,rfl⟩:∃G,F=G+1:=⟨F-1,by omega⟩
  rw[EE]
  show(if(17:Int)=7 then _ else _)=_
  rw[if_neg (by decide),if_neg (by decide),if_neg (by decide),if_neg (by decide),if_neg (by decide),if_neg (by decide),if_neg (by decide),if_neg (by decide),if_neg (by decide),if_neg (by decide),if_pos rfl,w G (by omega)]
  rfl
 ·obtain⟨t2,t3⟩:=AK ht
  have e:=r S s AU hs t2 t3 (Or.inl rfl)
  have n:∀y,(y≠CP/\y≠GQ/\y≠E7/\y≠DU/\y≠E0/\y≠Fb/\y≠AG)->¬A4 S y s=true:=fun y hy=>by rw[KQ e hy];decide
  rw[Bo,if_neg (n _ (by decide)),if_neg (n _ (by decide)),if_neg (n _ (by decide)),if_neg (n _ (by decide)),if_neg (n _ (by decide)),if_neg (n _ (by decide)),if_neg (n _ (by decide)),if_neg (n _ (by decide)),if_neg (n _ (by decide)),if_neg (UG e t3),e]
  show(A9 S AU (s.past la (A0 a))).then _=_
  rw[EI (s:=s.past la (A0 a)) t3 (by decide) (by decide),Cp]
  refine Cv (st:=(s.past la (A0 a)).step.node) ?_ rfl ?_
  ·show s.tok+la.length+1=_
   simp only[Z1,BR];omega
  ·show s.many+(A0 a:Int)+1=_
   push_cast;omega
theorem Tr{d:Int}{a:Nd}{k:Int}{x:List Int}(hk:(k=12/\x=Cm)\/(k=14/\x=EV)\/(k=15/\x=Df))(hd:d+1<=20)(ha:Nat9 (d+1) a):Ei d (.mk k [] 0 [a]):=by
 obtain⟨la,w,r⟩:=Dw ha
 refine⟨A8 x++((A8 AG++(la++A8 AD))++A8 AU),fun F hF=>?_,fun S s hs ht _=>?_⟩
 ·rw[Cp]at hF
  obtain⟨G,rfl⟩:∃G,F=G+1:=⟨F-1,by omega⟩
  have e:=w G (by omega)
  rw[EE]
  rcases hk with⟨rfl,rfl⟩ | ⟨rfl,rfl⟩ | ⟨rfl,rfl⟩
  ·show(if(12:Int)=7 then _ else _)=_
   rw[if_neg (by decide),if_neg (by decide),if_neg (by decide),if_neg (by decide),if_neg (by decide),if_pos rfl]
   simp[DV,AN,FI,e]
  ·show(if(14:Int)=7 then _ else _)=_
   rw[if_neg (by decide),if_neg (by decide),if_neg (by decide),if_neg (by decide),if_neg (by decide),if_neg (by decide),if_neg (by decide),if_pos rfl]
   simp[DV,AN,FI,e]
  ·show(if(15:Int)=7 then _ else _)=_
   rw[if_neg (by decide),if_neg (by decide),if_neg (by decide),if_neg (by decide),if_neg (by decide),if_neg (by decide),if_neg (by decide),if_neg (by decide),if_pos rfl]
   simp[DV,AN,FI,e]
 ·obtain⟨t1,t2⟩:=AK ht
  have g:=Qy r hd (s:=s.step) k hs t2
  have fin:(Except.ok (Nd.mk k [] 0 [a],s.step.past ((A8 AG++(la++A8 AD))++A8 AU) (1+A0 a)):Got Nd)=.ok (.mk k [] 0 [a],s.past (A8 x++((A8 AG++(la++A8 AD))++A8 AU)) (A0 (.mk k [] 0 [a]))):=by
   rw[Cp]
   refine Cv ?_ rfl rfl
   show s.tok+1+_=_
   rw[Z1 (as:=A8 x),BR];omega
  rw[<-fin,<-g,Bo]
  rcases hk with⟨rfl,rfl⟩ | ⟨rfl,rfl⟩ | ⟨rfl,rfl⟩
  ·rw[if_neg (by rw[AL t1];decide),if_neg (by rw[AL t1];decide),if_neg (by rw[AL t1];decide),if_neg (by rw[AL t1];decide),if_pos (AZ t1)]
  ·rw[if_neg (by rw[AL t1];decide),if_neg (by rw[AL t1];decide),if_neg (by rw[AL t1];decide),if_neg (by rw[AL t1];decide),if_neg (by rw[AL t1];decide),if_neg (by rw[AL t1];decide),if_pos (AZ t1)]
  ·rw[if_neg (by rw[AL t1];decide),if_neg (by rw[AL t1];decide),if_neg (by rw[AL t1];decide),if_neg (by rw[AL t1];decide),if_neg (by rw[AL t1];decide),if_neg (by rw[AL t1];decide),if_neg (by rw[AL t1];decide),if_pos (AZ t1)]
theorem Ts{d:Int}{a b:Nd}(hd:d+1<=20)(ha:Nat9 (d+1) a)(hb:Nat9 (d+1) b):Ei d (.mk 16 [] 0 [a,b]):=by
 obtain⟨la,w,r⟩:=Dw ha
 obtain⟨lb,w2,r2⟩:=Dw hb
 refine⟨A8 G7++(A8 AG++(la++(A8 Av++(lb++(A8 AD++A8 AU))))),fun F hF=>?_,fun S s hs ht _=>?_⟩
 ·rw[D5]at hF
  obtain⟨G,rfl⟩:∃G,F=G+1:=⟨F-1,by omega⟩
  have e:=w G (by omega)
  have e2:=w2 G (by omega)
  rw[EE]
  show(if(16:Int)=7 then _ else _)=_
  rw[if_neg (by decide),if_neg (by decide),if_neg (by decide),if_neg (by decide),if_neg (by decide),if_neg (by decide),if_neg (by decide),if_neg (by decide),if_neg (by decide),if_pos rfl]
  simp[DV,AN,e,e2]
 ·obtain⟨t1,t2⟩:=AK ht
  have g:=Qz r r2 hd (s:=s.step) 16 hs t2
  rw[Bo,if_neg (by rw[AL t1];decide),if_neg (by rw[AL t1];decide),if_neg (by rw[AL t1];decide),if_neg (by rw[AL t1];decide),if_neg (by rw[AL t1];decide),if_neg (by rw[AL t1];decide),if_neg (by rw[AL t1];decide),if_neg (by rw[AL t1];decide),if_pos (AZ t1),g,D5]
  refine Cv ?_ rfl rfl
  show s.tok+1+_=_
  rw[Z1 (as:=A8 G7),BR];omega
theorem SV{d:Int}{b:Nd}(hb:IR d b):Ei d (.mk 13 [] 0 [b]):=by
 obtain⟨lb,w,r⟩:=hb
 refine⟨A8 EC++lb,fun F hF=>?_,fun S s hs ht _=>?_⟩
 ·rw[Cp]at hF
  obtain⟨G,rfl⟩:∃G,F=G+1:=⟨F-1,by omega⟩
  rw[EE]
  show(if(13:Int)=7 then _ else _)=_
  rw[if_neg (by decide),if_neg (by decide),if_neg (by decide),if_neg (by decide),if_neg (by decide),if_neg (by decide),if_pos rfl,w G (by omega)]
  rfl
 ·obtain⟨t1,t2⟩:=AK ht
  rw[Bo,if_neg (by rw[AL t1];decide),if_neg (by rw[AL t1];decide),if_neg (by rw[AL t1];decide),if_neg (by rw[AL t1];decide),if_neg (by rw[AL t1];decide),if_pos (AZ t1),r S s.step hs t2,Cp]
  refine Cv (st:=(s.step.past lb (A0 b)).node) ?_ rfl ?_
  ·show s.tok+1+lb.length=_
   rw[Z1,BR];omega
  ·show s.many+(A0 b:Int)+1=_
   push_cast;omega
theorem R1{d:Int}{a b:Nd}(hd:d+1<=20)(ha:Nat9 (d+1) a)(hb:IR d b):Ei d (.mk 10 [] 0 [a,b]):=by
 obtain⟨la,w,r⟩:=Dw ha
 obtain⟨lb,w2,r2⟩:=hb
 refine⟨A8 CC++((A8 AG++(la++A8 AD))++lb),fun F hF=>?_,fun S s hs ht _=>?_⟩
 ·rw[D5]at hF
  obtain⟨G,rfl⟩:∃G,F=G+1:=⟨F-1,by omega⟩
  have e:=w G (by omega)
  have e2:=w2 G (by omega)
  rw[EE]
  show(if(10:Int)=7 then _ else _)=_
  rw[if_neg (by decide),if_neg (by decide),if_neg (by decide),if_pos rfl]
  simp[AN,FI,e,e2]
 ·obtain⟨t1,t'⟩:=AK ht
  obtain⟨t2,t3⟩:=AK t'
  rw[Bo,if_neg (by rw[AL t1];decide),if_neg (by rw[AL t1];decide),if_pos (AZ t1),GY r hd (s:=s.step) hs t2]
  show(Af S (s.step.past (A8 AG++(la++A8 AD)) (A0 a))).then _=_
  rw[r2 S (s.step.past (A8 AG++(la++A8 AD)) (A0 a)) hs t3,D5]
  refine Cv (st:=((s.step.past (A8 AG++(la++A8 AD)) (A0 a)).past lb (A0 b)).node) ?_ rfl ?_
  ·show s.tok+1+(A8 AG++(la++A8 AD)).length+lb.length=_
   rw[Z1 (as:=A8 CC),Z1 (bs:=lb),BR];omega
  ·show s.many+(A0 a:Int)+(A0 b:Int)+1=_
   push_cast;omega
theorem UH{d:Int}{a b:Nd}(hd:d+1<=20)(ha:Nat9 (d+1) a)(hb:IR d b):Ei d (.mk 9 [] 0 [a,b]):=by
 obtain⟨la,w,r⟩:=Dw ha
 obtain⟨lb,w2,r2⟩:=hb
 refine⟨A8 wIf++((A8 AG++(la++A8 AD))++lb),fun F hF=>?_,fun S s hs ht hel=>?_⟩
 ·rw[D5]at hF
  obtain⟨G,rfl⟩:∃G,F=G+1:=⟨F-1,by omega⟩
  have e:=w G (by omega)
  have e2:=w2 G (by omega)
  rw[EE]
  show(if(9:Int)=7 then _ else _)=_
  rw[if_neg (by decide),if_neg (by decide),if_pos rfl]
  simp[AN,FI,e,e2]
 ·obtain⟨t1,t'⟩:=AK ht
  obtain⟨t2,t3⟩:=AK t'
  have fin:((s.step.past (A8 AG++(la++A8 AD)) (A0 a)).past lb (A0 b)).node=s.past (A8 wIf++((A8 AG++(la++A8 AD))++lb)) (1+(A0 a+A0 b)):=by
   rw[FS _ wIf,Cb,Cb,MC]
   simp only[List.append_assoc]
   congr 1
   omega
  rw[D5]at hel⊢
  rw[<-fin]at hel⊢
  rw[Bo,if_neg (by rw[AL t1];decide),if_pos (AZ t1),GY r hd (s:=s.step) hs t2]
  show(Af S (s.step.past (A8 AG++(la++A8 AD)) (A0 a))).then _=_
  rw[r2 S (s.step.past (A8 AG++(la++A8 AD)) (A0 a)) hs t3]
  show(if A4 S DT ((s.step.past (A8 AG++(la++A8 AD)) (A0 a)).past lb (A0 b))=true then _ else _)=_
  have hel':A4 S DT ((s.step.past (A8 AG++(la++A8 AD)) (A0 a)).past lb (A0 b))=false:=hel
  rw[if_neg (by rw[hel'];decide)]
  rfl
theorem SW{d:Int}{a b c:Nd}(hd:d+1<=20)(ha:Nat9 (d+1) a)(hb:IR d b)(hc:IR d c):Ei d (.mk 9 [] 0 [a,b,c]):=by
 obtain⟨la,w,r⟩:=Dw ha
 obtain⟨lb,w2,r2⟩:=hb
 obtain⟨lc,w3,r3⟩:=hc
 refine⟨A8 wIf++((A8 AG++(la++A8 AD))++(lb++(A8 DT++lc))),fun F hF=>?_,fun S s hs ht _=>?_⟩
 ·rw[Ku]at hF
  obtain⟨G,rfl⟩:∃G,F=G+1:=⟨F-1,by omega⟩
  have e:=w G (by omega)
  have e2:=w2 G (by omega)
  have e3:=w3 G (by omega)
  rw[EE]
  show(if(9:Int)=7 then _ else _)=_
  rw[if_neg (by decide),if_neg (by decide),if_pos rfl]
  simp[AN,FI,e,e2,e3]
 ·obtain⟨t1,t'⟩:=AK ht
  obtain⟨t2,t'⟩:=AK t'
  obtain⟨t3,t'⟩:=AK t'
  obtain⟨t4,t5⟩:=AK t'
  have fin:(((s.step.past (A8 AG++(la++A8 AD)) (A0 a)).past lb (A0 b)).step.past lc (A0 c)).node=s.past (A8 wIf++((A8 AG++(la++A8 AD))++(lb++(A8 DT++lc)))) (1+(A0 a+(A0 b+A0 c))):=by
   rw[FS s wIf,FS _ DT,Cb,Cb,Cb,Cb,MC]
   simp only[List.append_assoc]
   congr 1
   omega
  rw[Ku,<-fin,Bo,if_neg (by rw[AL t1];decide),if_pos (AZ t1),GY r hd (s:=s.step) hs t2]
  show(Af S (s.step.past (A8 AG++(la++A8 AD)) (A0 a))).then _=_
  rw[r2 S (s.step.past (A8 AG++(la++A8 AD)) (A0 a)) hs t3]
  have t4':AY S ((s.step.past (A8 AG++(la++A8 AD)) (A0 a)).past lb (A0 b)).tok (A8 DT):=t4
  show(if A4 S DT ((s.step.past (A8 AG++(la++A8 AD)) (A0 a)).past lb (A0 b))=true then _ else _)=_
  rw[if_pos (AZ t4'),r3 S ((s.step.past (A8 AG++(la++A8 AD)) (A0 a)).past lb (A0 b)).step hs t5]
  rfl
def RdP(P:Int->Nd->Prop)(s:PS)(n:Nd)(s':PS):Prop:=s'.deep=s.deep/\s'.many=s.many+(A0 n:Int)/\P s.deep n
theorem D6{P:Int->Nd->Prop}{s s1 s':PS}{kind num:Int}{x:List Int}{ks:List Nd}{n:Nd}(h:AH kind x num ks s1=.ok (n,s'))(h1:s1.deep=s.deep)(h2:s1.many=s.many+(A2 ks:Int))(h3:P s.deep (.mk kind x num ks)):RdP P s n s':=by
 cases h
 refine⟨h1,?_,h3⟩
 have e:A0 (.mk kind x num ks)=1+A2 ks:=by conv=>lhs;unfold A0
 rw[e]
 show s1.many+1=_
 push_cast;omega
theorem Cw(a:Nd):A2 [a]=A0 a:=by rw[Ab];rfl
theorem Hf(a b:Nd):A2 [a,b]=A0 a+A0 b:=by rw[Ab,Cw]
theorem OS(a b c:Nd):A2 [a,b,c]=A0 a+(A0 b+A0 c):=by rw[Ab,Hf]
theorem Fx{S:Src9}(hS:S.good){f:Nat}{s s':PS}{n:Nd}(h:C0 S f s=.ok (n,s')):s'.deep=s.deep/\s'.many=s.many+(A0 n:Int)/\Nat9 s.deep n:=by
 obtain⟨a,b,c⟩:=(kept hS f).expr _ _ _ h
 exact⟨a,b,c.nat⟩
theorem PQ{S:Src9}(hS:S.good){f:Nat}{kind:Int}{s s':PS}{n:Nd}(h:FG S f kind s=.ok (n,s'))(hk:kind=7\/kind=8):RdP Ei s n s':=by
 unfold FG at h
 obtain⟨x,s1,hx,h⟩:=A3 h
 obtain⟨nx,rfl⟩:=Ch hS hx
 obtain⟨u,s2,hu,h⟩:=A3 h
 obtain rfl:=(Bc hu).2.2 (by decide) (by decide)
 obtain⟨a,s3,ha,h⟩:=A3 h
 obtain⟨d1,m1,k1⟩:=Fx hS ha
 obtain⟨v,s4,hv,h⟩:=A3 h
 obtain rfl:=(Bc hv).2.2 (by decide) (by decide)
 refine D6 h d1 (by rw[Cw];exact m1) ?_
 rcases hk with rfl | rfl
 ·exact Tp nx k1
 ·exact Tq nx k1
theorem PR{S:Src9}(hS:S.good){f:Nat}{s s':PS}{n:Nd}(h:FH S f s=.ok (n,s')):s'.deep=s.deep/\s'.many=s.many+(A0 n:Int)/\s.deep+1<=20/\Nat9 (s.deep+1) n:=by
 unfold FH at h
 obtain⟨u,s1,hu,h⟩:=A3 h
 obtain⟨rfl,hd⟩:=(Bc hu).1 (Or.inl rfl)
 obtain⟨a,s2,ha,h⟩:=A3 h
 obtain⟨d1,m1,k1⟩:=Fx hS ha
 obtain⟨v,s3,hv,h⟩:=A3 h
 obtain rfl:=(Bc hv).2.1 (Or.inl rfl)
 cases h
 have e1:s.down.deep=s.deep+1:=rfl
 exact⟨by show s2.deep-1=s.deep;omega,m1,hd,k1⟩
theorem NF{S:Src9}(hS:S.good){f:Nat}{kind:Int}{s s':PS}{n:Nd}(h:Fv S f kind s=.ok (n,s')){x:List Int}(hk:(kind=12/\x=Cm)\/(kind=14/\x=EV)\/(kind=15/\x=Df)):RdP Ei s n s':=by
 unfold Fv at h
 obtain⟨u,s1,hu,h⟩:=A3 h
 obtain⟨rfl,hd⟩:=(Bc hu).1 (Or.inl rfl)
 obtain⟨a,s2,ha,h⟩:=A3 h
 obtain⟨d1,m1,k1⟩:=Fx hS ha
 obtain⟨v,s3,hv,h⟩:=A3 h
 obtain rfl:=(Bc hv).2.1 (Or.inl rfl)
 obtain⟨t,s4,ht,h⟩:=A3 h
 obtain rfl:=(Bc ht).2.2 (by decide) (by decide)
 have e1:s.down.deep=s.deep+1:=rfl
 exact D6 h (by show s2.deep-1=s.deep;omega) (by rw[Cw];exact m1) (Tr hk hd k1)
theorem UI{S:Src9}(hS:S.good){f:Nat}{s s':PS}{n:Nd}(h:Gn S f 16 s=.ok (n,s')):RdP Ei s n s':=by
 unfold Gn at h
 obtain⟨u,s1,hu,h⟩:=A3 h
 obtain⟨rfl,hd⟩:=(Bc hu).1 (Or.inl rfl)
 obtain⟨a,s2,ha,h⟩:=A3 h
 obtain⟨d1,m1,k1⟩:=Fx hS ha
 obtain⟨w,s3,hw,h⟩:=A3 h
 obtain rfl:=(Bc hw).2.2 (by decide) (by decide)
 obtain⟨b,s4,hb,h⟩:=A3 h
 obtain⟨d2,m2,k2⟩:=Fx hS hb
 obtain⟨v,s5,hv,h⟩:=A3 h
 obtain rfl:=(Bc hv).2.1 (Or.inl rfl)
 obtain⟨t,s6,ht,h⟩:=A3 h
 obtain rfl:=(Bc ht).2.2 (by decide) (by decide)
 have e1:s.down.deep=s.deep+1:=rfl
 have e2:s2.step.deep=s2.deep:=rfl
 have e3:s2.step.many=s2.many:=rfl
 have e4:s.down.many=s.many:=rfl
 rw[e2,d1,e1]at k2
 exact D6 h (by show s4.deep-1=s.deep;omega) (by rw[Hf];show s4.many=_;push_cast;omega) (Ts hd k1 k2)
structure Um(S:Src9)(f:Nat):Prop where
 block:∀s n s',Bj S f s=.ok (n,s')->RdP IR s n s'
 stmts:∀s ks s',CJ S f s=.ok (ks,s')->s'.deep=s.deep/\s'.many=s.many+(A2 ks:Int)/\∀c∈ks,Ei s.deep c
 stmt:∀s n s',D2 S f s=.ok (n,s')->RdP Ei s n s'
theorem kept2{S:Src9}(hS:S.good):∀f,Um S f
 | 0=>by
  constructor
  ·intro s n s' h;rw[Bj]at h;exact BN h
  ·intro s n s' h;rw[CJ]at h;exact BN h
  ·intro s n s' h;rw[D2]at h;exact BN h
 | f+1=>by
  have I:=kept2 hS f
  constructor
  ·intro s n s' h
   rw[Bj]at h
   obtain⟨u,s1,hu,h⟩:=A3 h
   obtain⟨rfl,hd⟩:=(Bc hu).1 (Or.inr rfl)
   obtain⟨ks,s2,hk,h⟩:=A3 h
   obtain⟨d1,m1,k1⟩:=I.stmts _ _ _ hk
   obtain⟨v,s3,hv,h⟩:=A3 h
   obtain rfl:=(Bc hv).2.1 (Or.inr rfl)
   have e1:s.down.deep=s.deep+1:=rfl
   exact D6 h (by show s2.deep-1=s.deep;omega) m1 (R0 hd k1)
  ·intro s ks s' h
   rw[CJ]at h
   split at h
   ·cases h
    exact⟨rfl,by show s.many=s.many+0;omega,fun c hc=>by cases hc⟩
   ·obtain⟨k,s1,hk,h⟩:=A3 h
    obtain⟨d1,m1,k1⟩:=I.stmt _ _ _ hk
    obtain⟨ls,s2,hl,h⟩:=A3 h
    obtain⟨d2,m2,k2⟩:=I.stmts _ _ _ hl
    cases h
    rw[d1]at d2 k2
    refine⟨d2,by rw[Ab];push_cast;omega,fun c hc=>?_⟩
    rcases List.mem_cons.1 hc with rfl | hc
    ·exact k1
    ·exact k2 c hc
  ·intro s n s' h
   rw[D2]at h
   have e2:s.step.many=s.many:=rfl
   split at h
   ·exact PQ (s:=s.step) hS h (Or.inl rfl)
   split at h
   ·obtain⟨a,s1,ha,h⟩:=A3 h
    obtain⟨d1,m1,hd,k1⟩:=PR hS ha
    have d1':s1.deep=s.deep:=d1
    obtain⟨b,s2,hb,h⟩:=A3 h
    obtain⟨d2,m2,k2⟩:=I.block _ _ _ hb
    rw[d1']at d2 k2
    split at h
    ·obtain⟨c,s3,hc,h⟩:=A3 h
     obtain⟨d3,m3,k3⟩:=I.block _ _ _ hc
     have d2':s2.step.deep=s.deep:=d2
     have e3:s2.step.many=s2.many:=rfl
     rw[d2']at d3 k3
     exact D6 h d3 (by rw[OS];push_cast;omega) (SW hd k1 k2 k3)
    ·exact D6 h d2 (by rw[Hf];push_cast;omega) (UH hd k1 k2)
   split at h
   ·obtain⟨a,s1,ha,h⟩:=A3 h
    obtain⟨d1,m1,hd,k1⟩:=PR hS ha
    have d1':s1.deep=s.deep:=d1
    obtain⟨b,s2,hb,h⟩:=A3 h
    obtain⟨d2,m2,k2⟩:=I.block _ _ _ hb
    rw[d1']at d2 k2
    exact D6 h d2 (by rw[Hf];push_cast;omega) (R1 hd k1 k2)
   split at h
   ·obtain⟨a,s1,ha,h⟩:=A3 h
    obtain⟨d1,m1,k1⟩:=Fx hS ha
    obtain⟨v,s2,hv,h⟩:=A3 h
    obtain rfl:=(Bc hv).2.2 (by decide) (by decide)
    exact D6 (s:=s) h d1 (by rw[Cw];exact m1) (Pu k1)
   split at h
   ·exact NF (s:=s.step) hS h (Or.inl ⟨rfl,rfl⟩)
   split at h
   ·obtain⟨b,s2,hb,h⟩:=A3 h
    obtain⟨d2,m2,k2⟩:=I.block _ _ _ hb
    exact D6 (s:=s) h d2 (by rw[Cw];exact m2) (SV k2)
   split at h
   ·exact NF (s:=s.step) hS h (Or.inr (Or.inl ⟨rfl,rfl⟩))
   split at h
   ·exact NF (s:=s.step) hS h (Or.inr (Or.inr ⟨rfl,rfl⟩))
   split at h
   ·exact UI (s:=s.step) hS h
   split at h
   ·exact PQ (s:=s) hS h (Or.inr rfl)
   ·obtain⟨a,s1,ha,h⟩:=A3 h
    obtain⟨d1,m1,k1⟩:=Fx hS ha
    obtain⟨v,s2,hv,h⟩:=A3 h
    obtain rfl:=(Bc hv).2.2 (by decide) (by decide)
    exact D6 (s:=s) h d1 (by rw[Cw];exact m1) (SU k1)
theorem Pv(a b c:Option (List Tok)):AN (AN a b) c=AN a (AN b c):=by
 cases a<;>cases b<;>cases c<;>simp[AN]
theorem NG:∀(a b:List (Option (List Tok))),Dd (a++b)=AN (Dd a) (Dd b)
 | [],b=>by
  show Dd b=AN (some []) (Dd b)
  cases Dd b<;>rfl
 | x::a,b=>by
  show AN x (Dd (a++b))=AN (AN x (Dd a)) (Dd b)
  rw[NG a b,Pv]
theorem Dm:∀(a b:List Nd),A2 (a++b)=A2 a+A2 b
 | [],b=>by show A2 b=0+A2 b;omega
 | x::a,b=>by show A0 x+A2 (a++b)=A0 x+A2 a+A2 b;rw[Dm a b];omega
theorem Jg(k:Int)(x:List Int)(m:Int)(ks:List Nd):A0 (.mk k x m ks)=1+A2 ks:=by conv=>lhs;unfold A0
def KR(c:Nd):Prop:=∃x,C1 x=true/\c=.mk 5 x 0 []
theorem J5:∀(ks:List Nd) (b:Nd),(∀c∈b::ks,KR c)->∃l,F9 ((b::ks).map fun a=>CF a.text)=some l/\(∀(S:Src9) (s:PS) (f:Nat),12*S.left s+1<=f->AY S s.tok l->AY S (s.past l (A2 (b::ks))).tok (A8 AD)->C6 S f s=.ok (b::ks,s.past l (A2 (b::ks)))/\A4 S AD s=false)
 | [],b,h=>by
  obtain⟨x,hx,rfl⟩:=h b (Z7 ..)
  refine⟨[(1,x,0)],Fd hx,fun S s f hf ht hc=>?_⟩
  obtain⟨g,rfl⟩:∃g,f=g+1:=⟨f-1,by omega⟩
  refine⟨?_,Eh ht (Or.inl rfl) _⟩
  rw[C6,Dl ht]
  show(if A4 S Av s.step.node=true then _ else _)=_
  have hc':AY S s.step.node.tok (A8 AD):=hc
  rw[if_neg (by rw[AL hc'];decide)]
  rfl
 | c::ks,b,h=>by
  obtain⟨x,hx,rfl⟩:=h b (Z7 ..)
  obtain⟨l2,w2,o2⟩:=J5 ks c fun y hy=>h y (Z8 _ hy)
  refine⟨[(1,x,0)]++(A8 Av++l2),?_,fun S s f hf ht hc=>?_⟩
  ·show AN (CF x) (AN (some (A8 Av)) (F9 ((c::ks).map fun a=>CF a.text)))=_
   rw[Fd hx,w2];rfl
  ·obtain⟨g,rfl⟩:∃g,f=g+1:=⟨f-1,by omega⟩
   obtain⟨t1,t'⟩:=AK ht
   obtain⟨t2,t3⟩:=AK t'
   refine⟨?_,Eh t1 (Or.inl rfl) _⟩
   have t2':AY S s.step.node.tok (A8 Av):=t2
   have t3':AY S s.step.node.step.tok l2:=t3
   have e:s.step.node.step.past l2 (A2 (c::ks))=s.past ([(1,x,0)]++(A8 Av++l2)) (A2 (.mk 5 x 0 []::c::ks)):=by
    rw[Ab (.mk 5 x 0 []) (c::ks),GH]
    unfold PS.past PS.step PS.node
    simp only[Z1,BR,List.length_singleton,PS.mk.injEq,true_and]
    exact⟨by omega,by push_cast;omega⟩
   rw[<-e]at hc⊢
   have hl:S.left s.step.node.step+2<=S.left s:=by
    have:=(Du (s:=s.step.node) t2').1
    have h1:s.step.node.tok=s.tok+1:=rfl
    have h2:s.step.node.step.tok=s.tok+2:=rfl
    unfold Src9.left
    omega
   obtain⟨r,_⟩:=o2 S s.step.node.step g (by omega) t3' hc
   rw[C6,Dl t1]
   show(if A4 S Av s.step.node=true then _ else _)=_
   rw[if_pos (AZ t2'),r]
   rfl
theorem R2(ks:List Nd)(h:∀c∈ks,KR c):∃l,F9 (ks.map fun a=>CF a.text)=some l/\(∀(S:Src9) (s:PS) (f:Nat),12*S.left s+1<=f->AY S s.tok l->AY S (s.past l (A2 ks)).tok (A8 AD)->(if A4 S AD s=true then Except.ok ([],s)else C6 S f s)=.ok (ks,s.past l (A2 ks))):=by
 cases ks with
 | nil=>
  refine⟨[],rfl,fun S s f _ _ hc=>?_⟩
  rw[show s.past [] (A2 [])=s from FT s]at hc⊢
  rw[if_pos (AZ hc)]
 | cons b ks=>
  obtain⟨l,w,o⟩:=J5 ks b h
  refine⟨l,w,fun S s f hf ht hc=>?_⟩
  obtain⟨o1,o2⟩:=o S s f hf ht hc
  rw[if_neg (by rw[o2];decide),o1]
def Ls(d:Int)(n:Nd):Prop:=n.kind=4/\∃l,(∀F,2*A0 n<=F->ES F n=some (A8 wTo++l))/\∀(S:Src9) (s:PS) (f:Nat),12*S.left s+10<=f->s.deep<=d->AY S s.tok l->Co S f s=.ok (n,s.past l (A0 n))
theorem Pw{d:Int}{x:List Int}{ks:List Nd}{b:Nd}(hx:C1 x=true)(hd:d+1<=20)(hk:∀c∈ks,KR c)(hb:IR d b):Ls d (.mk 4 x (ks.length:Int) (ks++[b])):=by
 obtain⟨la,wa,ra⟩:=R2 ks hk
 obtain⟨lb,wb,rb⟩:=hb
 have hsz:A0 (.mk 4 x (ks.length:Int) (ks++[b]))=1+(A2 ks+A0 b):=by rw[Jg,Dm,Cw]
 refine⟨rfl,[(1,x,0)]++(A8 AG++(la++(A8 AD++lb))),fun F hF=>?_,fun S s f hf hs ht=>?_⟩
 ·rw[hsz]at hF
  have e:=wb F (by omega)
  unfold ES
  rw[if_neg (by show ¬(4:Int)=3;decide),if_pos (show(Nd.mk 4 x (ks.length:Int) (ks++[b])).kind=4 from rfl)]
  show(match (ks++[b]).getLast? with | some b=>_ | none=>_)=_
  rw[List.getLast?_concat]
  show AN (some (A8 wTo)) (AN (CF x) (AN (some (A8 AG)) (AN (Pp (ks++[b])) (AN (some (A8 AD)) (Ed F b)))))=_
  unfold Pp
  rw[List.dropLast_concat,wa,Fd hx,e]
  rfl
 ·obtain⟨t1,t'⟩:=AK ht
  obtain⟨t2,t'⟩:=AK t'
  obtain⟨t3,t'⟩:=AK t'
  obtain⟨t4,t5⟩:=AK t'
  have t2':AY S s.step.tok (A8 AG):=t2
  have t3':AY S s.step.down.tok la:=t3
  have t4':AY S (s.step.down.past la (A2 ks)).tok (A8 AD):=t4
  have t5':AY S (s.step.down.past la (A2 ks)).up.tok lb:=t5
  have l1:=AP (S:=S) (s:=s) (s':=s.step.down) (by show s.tok<=s.tok+1+1;omega)
  have l2:=AP (S:=S) (s:=s) (s':=(s.step.down.past la (A2 ks)).up) (by show s.tok<=s.tok+1+1+la.length+1;omega)
  unfold Co
  rw[Dl t1]
  show(A9 S AG s.step).then _=_
  rw[FU t2' (Or.inl rfl) (by show s.deep+1<=20;omega)]
  show Got.then (if A4 S AD s.step.down=true then Except.ok ([],_)else C6 S f _) _=_
  rw[ra S s.step.down f (by omega) t3' t4']
  show(A9 S AD (s.step.down.past la (A2 ks))).then _=_
  rw[Gg t4' (Or.inl rfl)]
  show(Bj S f (s.step.down.past la (A2 ks)).up).then _=_
  rw[Ex (by omega),rb S _ (show s.deep+1-1<=d by omega) t5',hsz]
  refine Cv (st:=((s.step.down.past la (A2 ks)).up.past lb (A0 b)).node) ?_ ?_ ?_
  ·show s.tok+1+1+la.length+1+lb.length=_
   simp only[Z1,BR,List.length_singleton];omega
  ·show s.deep+1-1=s.deep
   omega
  ·show s.many+(A2 ks:Int)+(A0 b:Int)+1=_
   push_cast;omega
def Kv(c:Nd):Prop:=∃x,C1 x=true/\c=.mk 3 x 0 []
theorem J6:∀(ks:List Nd),(∀c∈ks,Kv c)->∃l,(∀F,Dd (ks.map (ES F))=some l)/\(∀(S:Src9) (s:PS) (f:Nat),12*S.left s+1<=f->AY S s.tok l->A4 S Fa (s.past l (A2 ks))=false->Bi S f s=.ok (ks,s.past l (A2 ks)))
 | [],_=>by
  refine⟨[],fun F=>rfl,fun S s f hf ht hc=>?_⟩
  obtain⟨g,rfl⟩:∃g,f=g+1:=⟨f-1,by omega⟩
  rw[show s.past [] (A2 [])=s from FT s]at hc⊢
  rw[Bi,if_neg (by rw[hc];decide)]
 | c::ks,h=>by
  obtain⟨x,hx,rfl⟩:=h c (Z7 ..)
  obtain⟨l2,w2,o2⟩:=J6 ks fun y hy=>h y (Z8 _ hy)
  refine⟨A8 Fa++([(1,x,0)]++(A8 AU++l2)),fun F=>?_,fun S s f hf ht hc=>?_⟩
  ·show AN (ES F (.mk 3 x 0 [])) (Dd (ks.map (ES F)))=_
   rw[w2 F]
   unfold ES
   rw[if_pos (show(Nd.mk 3 x 0 []).kind=3 from rfl)]
   show AN (DV (AN (some (A8 Fa)) (CF x))) _=_
   rw[Fd hx]
   simp[DV,AN]
  ·obtain⟨g,rfl⟩:∃g,f=g+1:=⟨f-1,by omega⟩
   obtain⟨t1,t'⟩:=AK ht
   obtain⟨t2,t'⟩:=AK t'
   obtain⟨t3,t4⟩:=AK t'
   have t2':AY S s.step.tok [(1,x,0)]:=t2
   have t3':AY S s.step.step.tok (A8 AU):=t3
   have t4':AY S s.step.step.step.node.tok l2:=t4
   have e:s.step.step.step.node.past l2 (A2 ks)=s.past (A8 Fa++([(1,x,0)]++(A8 AU++l2))) (A2 (.mk 3 x 0 []::ks)):=by
    rw[Ab,GH]
    unfold PS.past PS.step PS.node
    simp only[Z1,BR,List.length_singleton,PS.mk.injEq,true_and]
    exact⟨by omega,by push_cast;omega⟩
   rw[<-e]at hc⊢
   have hl:=AA (S:=S) (s:=s) (s':=s.step.step.step.node) (Du t1).1 (by show s.tok+1<=s.tok+1+1+1;omega)
   rw[Bi,if_pos (AZ t1),Dl t2']
   show(A9 S AU s.step.step).then _=_
   rw[EI t3' (by decide) (by decide)]
   show(Bi S g s.step.step.step.node).then _=_
   rw[o2 S _ g (by omega) t4' hc]
   rfl
theorem IC{d:Int}:∀(ks:List Nd),(∀c∈ks,Ls d c)->∃l,(∀F,2*A2 ks<=F->Dd (ks.map (ES F))=some l)/\(∀(S:Src9) (s:PS) (f:Nat),12*S.left s+1<=f->s.deep<=d->AY S s.tok l->AY S (s.past l (A2 ks)).tok (A8 Ax)->Ay S f s=.ok (ks,s.past l (A2 ks))/\A4 S Fa s=false)
 | [],_=>by
  refine⟨[],fun F _=>rfl,fun S s f hf _ ht hc=>?_⟩
  obtain⟨g,rfl⟩:∃g,f=g+1:=⟨f-1,by omega⟩
  rw[show s.past [] (A2 [])=s from FT s]at hc⊢
  refine⟨?_,by rw[AL hc];decide⟩
  rw[Ay,if_neg (by rw[AL hc];decide)]
 | c::ks,h=>by
  obtain⟨_,l,w,o⟩:=h c (Z7 ..)
  obtain⟨l2,w2,o2⟩:=IC ks fun y hy=>h y (Z8 _ hy)
  refine⟨A8 wTo++(l++l2),fun F hF=>?_,fun S s f hf hs ht hc=>?_⟩
  ·show AN (ES F c) (Dd (ks.map (ES F)))=_
   rw[Ab]at hF
   rw[w F (by omega),w2 F (by omega)]
   simp[AN]
  ·obtain⟨g,rfl⟩:∃g,f=g+1:=⟨f-1,by omega⟩
   obtain⟨t1,t'⟩:=AK ht
   obtain⟨t2,t3⟩:=AK t'
   have t2':AY S s.step.tok l:=t2
   have t3':AY S (s.step.past l (A0 c)).tok l2:=t3
   have e:(s.step.past l (A0 c)).past l2 (A2 ks)=s.past (A8 wTo++(l++l2)) (A2 (c::ks)):=by
    rw[Ab,FS s wTo,Cb,Cb,Nat.zero_add]
   rw[<-e]at hc⊢
   have hl:=AA (S:=S) (s:=s) (s':=s.step) (Du t1).1 (Z0 _)
   have hl2:=AA (S:=S) (s:=s) (s':=s.step.past l (A0 c)) (Du t1).1 (by show s.tok+1<=s.tok+1+l.length;omega)
   obtain⟨r2,_⟩:=o2 S (s.step.past l (A0 c)) g (by omega) hs t3' hc
   refine⟨?_,by rw[AL t1];decide⟩
   rw[Ay,if_pos (AZ t1),o S s.step g (by omega) hs t2']
   show(Ay S g (s.step.past l (A0 c))).then _=_
   rw[r2]
   rfl
theorem OT{d:Int}{ks ms:List Nd}(hd:d+1<=20)(hk:∀c∈ks,Kv c)(hm:∀c∈ms,Ls (d+1) c):∃l,(∀F,2*A2 ms<=F->DO.bodyW F (ks++ms)=some (A8 Al++(l++A8 Ax)))/\∀(S:Src9) (s:PS) (f:Nat) (x:List Int) (up:List Nd),12*S.left s+1<=f->s.deep<=d->AY S s.tok (A8 Al++(l++A8 Ax)) ->
  ((A9 S Al s).then fun _ s=>(Bi S f s).then fun ks s=>(Ay S f s).then fun ms s=>(A9 S Ax s).then fun _ s=>AH 2 x 0 (up++ks++ms) s)=.ok (.mk 2 x 0 (up++ks++ms),s.past (A8 Al++(l++A8 Ax)) (1+(A2 ks+A2 ms))):=by
 obtain⟨la,wa,ra⟩:=J6 ks hk
 obtain⟨lb,wb,rb⟩:=IC ms hm
 refine⟨la++lb,fun F hF=>?_,fun S s f x up hf hs ht=>?_⟩
 ·unfold DO.bodyW
  rw[List.map_append,NG,wa F,wb F hF]
  rfl
 ·obtain⟨t1,t'⟩:=AK ht
  obtain⟨t',t4⟩:=AK t'
  obtain⟨t2,t3⟩:=AK t'
  have t2':AY S s.down.tok la:=t2
  have t3':AY S (s.down.past la (A2 ks)).tok lb:=t3
  have t4':AY S ((s.down.past la (A2 ks)).past lb (A2 ms)).tok (A8 Ax):=by
   rw[Cb];exact t4
  have l1:=AP (S:=S) (s:=s) (s':=s.down) (by show s.tok<=s.tok+1;omega)
  have l2:=AP (S:=S) (s:=s) (s':=s.down.past la (A2 ks)) (by show s.tok<=s.tok+1+la.length;omega)
  obtain⟨r2,ns⟩:=rb S (s.down.past la (A2 ks)) f (by omega) (show s.deep+1<=d+1 by omega) t3' t4'
  rw[FU t1 (Or.inr rfl) (by omega)]
  show(Bi S f s.down).then _=_
  rw[ra S s.down f (by omega) t2' ns]
  show(Ay S f (s.down.past la (A2 ks))).then _=_
  rw[r2]
  show(A9 S Ax ((s.down.past la (A2 ks)).past lb (A2 ms))).then _=_
  rw[Gg t4' (Or.inr rfl)]
  refine Cv (st:=((s.down.past la (A2 ks)).past lb (A2 ms)).up.node) ?_ ?_ ?_
  ·show s.tok+1+la.length+lb.length+1=_
   simp only[Z1,BR];omega
  ·show s.deep+1-1=s.deep
   omega
  ·show s.many+(A2 ks:Int)+(A2 ms:Int)+1=_
   push_cast;omega
def NH(d:Int)(n:Nd):Prop:=∃l,(∀F,2*A0 n<=F->DO F n=some (A8 F8++l))/\∀(S:Src9) (s:PS) (f:Nat),12*S.left s+1<=f->s.deep<=d->AY S s.tok l->D7 S f s=.ok (n,s.past l (A0 n))
theorem R3{d:Int}{x:List Int}{up ks ms:List Nd}(hx:C1 x=true)(hd:d+1<=20)(hu:up=[]\/∃y,C1 y=true/\up=[.mk 31 y 0 []])(hk:∀c∈ks,Kv c)(hm:∀c∈ms,Ls (d+1) c):NH d (.mk 2 x 0 (up++ks++ms)):=by
 obtain⟨l,w,r⟩:=OT hd hk hm
 have hsz:A0 (.mk 2 x 0 (up++ks++ms))=1+(A2 up+A2 ks+A2 ms):=by rw[Jg,Dm,Dm]
 rcases hu with rfl | ⟨y,hy,rfl⟩
 ·refine⟨[(1,x,0)]++(A8 Al++(l++A8 Ax)),fun F hF=>?_,fun S s f hf hs ht=>?_⟩
  ·rw[hsz]at hF
   have e:=w F (by omega)
   unfold DO
   show AN (some (A8 F8)) (AN (CF x) (match ks++ms with | u::ks=>_ | []=>_))=_
   have e2:(match ks++ms with | u::ks=>if u.kind=31 then AN (some (A8 Ec)) (AN (CF u.text) (DO.bodyW F ks))else DO.bodyW F (u::ks) | []=>DO.bodyW F [])=DO.bodyW F (ks++ms):=by
    cases hl:ks++ms with
    | nil=>rfl
    | cons u us=>
     have hk31:¬u.kind=31:=by
      have hmem:u∈ks++ms:=by rw[hl];exact Z7 ..
      rcases List.mem_append.1 hmem with h | h
      ·obtain⟨z,_,rfl⟩:=hk u h
       show ¬(3:Int)=31
       decide
      ·rw[(hm u h).1];decide
     show(if u.kind=31 then _ else _)=_
     rw[if_neg hk31]
   rw[e2,e,Fd hx]
   rfl
  ·obtain⟨t1,t2⟩:=AK ht
   have t2':AY S s.step.tok (A8 Al++(l++A8 Ax)):=t2
   have l1:=AP (S:=S) (s:=s) (s':=s.step) (by show s.tok<=s.tok+1;omega)
   unfold D7
   rw[Dl t1]
   show Got.then (if A4 S Ec s.step=true then _ else Except.ok ([],s.step)) _=_
   rw[if_neg (by rw[AL (AK t2').1];decide)]
   show Got.then (A9 S Al s.step) _=_
   rw[r S s.step f x [] (by omega) hs t2',hsz]
   refine Cv ?_ rfl ?_
   ·show s.tok+1+_=_
    simp only[Z1,BR,List.length_singleton];omega
   ·show s.many+((1+(A2 ks+A2 ms):Nat):Int)=s.many+((1+(0+A2 ks+A2 ms):Nat):Int)
    push_cast;omega
 ·refine⟨[(1,x,0)]++(A8 Ec++([(1,y,0)]++(A8 Al++(l++A8 Ax)))),fun F hF=>?_,fun S s f hf hs ht=>?_⟩
  ·rw[hsz]at hF
   have e:=w F (by omega)
   unfold DO
   show AN (some (A8 F8)) (AN (CF x) (if(31:Int)=31 then AN (some (A8 Ec)) (AN (CF y) (DO.bodyW F (ks++ms)))else _))=_
   rw[if_pos rfl,e,Fd hx,Fd hy]
   rfl
  ·obtain⟨t1,t'⟩:=AK ht
   obtain⟨t2,t'⟩:=AK t'
   obtain⟨t3,t4⟩:=AK t'
   have t2':AY S s.step.tok (A8 Ec):=t2
   have t3':AY S s.step.step.tok [(1,y,0)]:=t3
   have t4':AY S s.step.step.step.node.tok (A8 Al++(l++A8 Ax)):=t4
   have l1:=AP (S:=S) (s:=s) (s':=s.step.step.step.node) (by show s.tok<=s.tok+1+1+1;omega)
   unfold D7
   rw[Dl t1]
   show Got.then (if A4 S Ec s.step=true then Got.then (Ad S s.step.step) _ else _) _=_
   rw[if_pos (AZ t2'),Dl t3']
   show Got.then (A9 S Al s.step.step.step.node) _=_
   rw[r S s.step.step.step.node f x [.mk 31 y 0 []] (by omega) hs t4',hsz]
   refine Cv ?_ rfl ?_
   ·show s.tok+1+1+1+_=_
    simp only[Z1,BR,List.length_singleton];omega
   ·rw[Cw,GH]
    show s.many+1+((1+(A2 ks+A2 ms):Nat):Int)=_
    push_cast;omega
theorem ID{d:Int}:∀(ks:List Nd),(∀c∈ks,NH d c)->∃l,(∀F,2*A2 ks<=F->Dd (ks.map (DO F))=some l)/\(∀(S:Src9) (s:PS) (f:Nat),12*S.left s+1<=f->s.deep<=d->AY S s.tok l->AY S (s.past l (A2 ks)).tok (A8 FF)->BG S f s=.ok (ks,s.past l (A2 ks)))
 | [],_=>by
  refine⟨[],fun F _=>rfl,fun S s f hf _ ht hc=>?_⟩
  obtain⟨g,rfl⟩:∃g,f=g+1:=⟨f-1,by omega⟩
  rw[show s.past [] (A2 [])=s from FT s]at hc⊢
  rw[BG,if_neg (by rw[AL hc];decide)]
 | c::ks,h=>by
  obtain⟨l,w,o⟩:=h c (Z7 ..)
  obtain⟨l2,w2,o2⟩:=ID ks fun y hy=>h y (Z8 _ hy)
  refine⟨A8 F8++(l++l2),fun F hF=>?_,fun S s f hf hs ht hc=>?_⟩
  ·show AN (DO F c) (Dd (ks.map (DO F)))=_
   rw[Ab]at hF
   rw[w F (by omega),w2 F (by omega)]
   simp[AN]
  ·obtain⟨g,rfl⟩:∃g,f=g+1:=⟨f-1,by omega⟩
   obtain⟨t1,t'⟩:=AK ht
   obtain⟨t2,t3⟩:=AK t'
   have t2':AY S s.step.tok l:=t2
   have t3':AY S (s.step.past l (A0 c)).tok l2:=t3
   have e:(s.step.past l (A0 c)).past l2 (A2 ks)=s.past (A8 F8++(l++l2)) (A2 (c::ks)):=by
    rw[Ab,FS s F8,Cb,Cb,Nat.zero_add]
   rw[<-e]at hc⊢
   have hl:=AA (S:=S) (s:=s) (s':=s.step) (Du t1).1 (Z0 _)
   have hl2:=AA (S:=S) (s:=s) (s':=s.step.past l (A0 c)) (Du t1).1 (by show s.tok+1<=s.tok+1+l.length;omega)
   rw[BG,if_pos (AZ t1),o S s.step g (by omega) hs t2']
   show(BG S g (s.step.past l (A0 c))).then _=_
   rw[o2 S (s.step.past l (A0 c)) g (by omega) hs t3' hc]
   rfl
def SX(n:Nd):Prop:=∃l,(∀F,2*A0 n<=F->Ta F n=some l)/\∀(S:Src9),AY S 0 l->Et S (ED S) ⟨0,0,0⟩=.ok (n,PS.past ⟨0,0,0⟩ l (A0 n))
theorem SY{ks:List Nd}{b:Nd}(hk:∀c∈ks,NH 0 c)(hb:IR 0 b):SX (.mk 1 [] 0 (ks++[b])):=by
 obtain⟨la,wa,ra⟩:=ID ks hk
 obtain⟨lb,wb,rb⟩:=hb
 have hsz:A0 (.mk 1 [] 0 (ks++[b]))=1+(A2 ks+A0 b):=by rw[Jg,Dm,Cw]
 refine⟨la++(A8 FF++lb),fun F hF=>?_,fun S ht=>?_⟩
 ·rw[hsz]at hF
  unfold Ta
  show(match (ks++[b]).getLast? with | some b=>_ | none=>_)=_
  rw[List.getLast?_concat]
  show(if(1:Int)=1 then AN (Dd ((ks++[b]).dropLast.map (DO F))) (AN (some (A8 FF)) (Ed F b))else _)=_
  rw[if_pos rfl,List.dropLast_concat,wa F (by omega),wb F (by omega)]
  rfl
 ·obtain⟨t1,t'⟩:=AK ht
  obtain⟨t2,t3⟩:=AK t'
  have t2':AY S (PS.past ⟨0,0,0⟩ la (A2 ks)).tok (A8 FF):=t2
  have t3':AY S (PS.past ⟨0,0,0⟩ la (A2 ks)).step.tok lb:=t3
  have hl:∀s,S.left s<=S.L.length:=fun s=>by unfold Src9.left;omega
  have h1:=hl ⟨0,0,0⟩
  have h2:=hl (PS.past ⟨0,0,0⟩ la (A2 ks)).step
  unfold Et
  rw[ra S ⟨0,0,0⟩ (ED S) (by unfold ED;omega) (Int.le_refl _) t1 t2']
  show(A9 S FF (PS.past ⟨0,0,0⟩ la (A2 ks))).then _=_
  rw[EI t2' (by decide) (by decide)]
  show(Bj S (ED S) (PS.past ⟨0,0,0⟩ la (A2 ks)).step).then _=_
  rw[Ex (by unfold ED;omega),rb S _ (Int.le_refl _) t3',hsz]
  refine Cv (st:=((PS.past ⟨0,0,0⟩ la (A2 ks)).step.past lb (A0 b)).node) ?_ rfl ?_
  ·show 0+la.length+1+lb.length=_
   simp only[Z1,BR];omega
  ·show(0:Int)+(A2 ks:Int)+(A0 b:Int)+1=_
   push_cast;omega
theorem KS{S:Src9}(hS:S.good):∀(f:Nat) (s:PS) (ks:List Nd) (s':PS),C6 S f s=.ok (ks,s')->s'.deep=s.deep/\s'.many=s.many+(A2 ks:Int)/\∀c∈ks,KR c
 | 0,s,ks,s',h=>by rw[C6]at h;exact BN h
 | f+1,s,ks,s',h=>by
  rw[C6]at h
  obtain⟨x,s1,hx,h⟩:=A3 h
  obtain⟨nx,rfl⟩:=Ch hS hx
  obtain⟨k,s2,hk,h⟩:=A3 h
  cases hk
  split at h
  ·obtain⟨ls,s3,hl,h⟩:=A3 h
   obtain⟨d1,m1,k1⟩:=KS hS f _ _ _ hl
   cases h
   have e1:s.step.node.step.deep=s.deep:=rfl
   have e2:s.step.node.step.many=s.many+1:=rfl
   rw[e1]at d1
   refine⟨d1,by rw[Ab,GH];push_cast;omega,fun c hc=>?_⟩
   rcases List.mem_cons.1 hc with rfl | hc
   ·exact⟨x,nx,rfl⟩
   ·exact k1 c hc
  ·cases h
   refine⟨rfl,rfl,fun c hc=>?_⟩
   rcases List.mem_cons.1 hc with rfl | hc
   ·exact⟨x,nx,rfl⟩
   ·cases hc
theorem R5{S:Src9}(hS:S.good){f:Nat}{s s':PS}{n:Nd}(h:Co S f s=.ok (n,s')):RdP Ls s n s':=by
 unfold Co at h
 obtain⟨x,s1,hx,h⟩:=A3 h
 obtain⟨nx,rfl⟩:=Ch hS hx
 obtain⟨u,s2,hu,h⟩:=A3 h
 obtain⟨rfl,hd⟩:=(Bc hu).1 (Or.inl rfl)
 obtain⟨ks,s3,hk,h⟩:=A3 h
 have q:s3.deep=s.deep+1/\s3.many=s.many+(A2 ks:Int)/\∀c∈ks,KR c:=by
  split at hk
  ·cases hk
   exact⟨rfl,by show s.many=s.many+0;omega,fun c hc=>by cases hc⟩
  ·exact KS hS _ _ _ _ hk
 obtain⟨q1,q2,q3⟩:=q
 obtain⟨v,s4,hv,h⟩:=A3 h
 obtain rfl:=(Bc hv).2.1 (Or.inl rfl)
 obtain⟨b,s5,hb,h⟩:=A3 h
 obtain⟨d1,m1,k1⟩:=(kept2 hS f).block _ _ _ hb
 have e1:s3.up.deep=s.deep:=by show s3.deep-1=s.deep;omega
 have e2:s3.up.many=s3.many:=rfl
 rw[e1]at d1 k1
 exact D6 h d1 (by rw[Dm,Cw];push_cast;omega) (Pw nx hd q3 k1)
theorem KT{S:Src9}(hS:S.good):∀(f:Nat) (s:PS) (ks:List Nd) (s':PS),Bi S f s=.ok (ks,s')->s'.deep=s.deep/\s'.many=s.many+(A2 ks:Int)/\∀c∈ks,Kv c
 | 0,s,ks,s',h=>by rw[Bi]at h;exact BN h
 | f+1,s,ks,s',h=>by
  rw[Bi]at h
  split at h
  ·obtain⟨x,s1,hx,h⟩:=A3 h
   obtain⟨nx,rfl⟩:=Ch hS hx
   obtain⟨u,s2,hu,h⟩:=A3 h
   obtain rfl:=(Bc hu).2.2 (by decide) (by decide)
   obtain⟨k,s3,hk,h⟩:=A3 h
   cases hk
   obtain⟨ls,s4,hl,h⟩:=A3 h
   obtain⟨d1,m1,k1⟩:=KT hS f _ _ _ hl
   cases h
   have e1:s.step.step.step.node.deep=s.deep:=rfl
   have e2:s.step.step.step.node.many=s.many+1:=rfl
   rw[e1]at d1
   refine⟨d1,by rw[Ab,GH];push_cast;omega,fun c hc=>?_⟩
   rcases List.mem_cons.1 hc with rfl | hc
   ·exact⟨x,nx,rfl⟩
   ·exact k1 c hc
  ·cases h
   exact⟨rfl,by show s.many=s.many+0;omega,fun c hc=>by cases hc⟩
theorem Kw{S:Src9}(hS:S.good):∀(f:Nat) (s:PS) (ks:List Nd) (s':PS),Ay S f s=.ok (ks,s')->s'.deep=s.deep/\s'.many=s.many+(A2 ks:Int)/\∀c∈ks,Ls s.deep c
 | 0,s,ks,s',h=>by rw[Ay]at h;exact BN h
 | f+1,s,ks,s',h=>by
  rw[Ay]at h
  split at h
  ·obtain⟨k,s1,hk,h⟩:=A3 h
   obtain⟨d1,m1,k1⟩:=R5 hS hk
   have e1:s.step.deep=s.deep:=rfl
   have e2:s.step.many=s.many:=rfl
   rw[e1]at d1 k1
   obtain⟨ls,s2,hl,h⟩:=A3 h
   obtain⟨d2,m2,k2⟩:=Kw hS f _ _ _ hl
   rw[d1]at d2 k2
   cases h
   refine⟨d2,by rw[Ab];push_cast;omega,fun c hc=>?_⟩
   rcases List.mem_cons.1 hc with rfl | hc
   ·exact k1
   ·exact k2 c hc
  ·cases h
   exact⟨rfl,by show s.many=s.many+0;omega,fun c hc=>by cases hc⟩
theorem SZ{S:Src9}(hS:S.good){f:Nat}{s s':PS}{n:Nd}(h:D7 S f s=.ok (n,s')):RdP NH s n s':=by
 unfold D7 at h
 obtain⟨x,s1,hx,h⟩:=A3 h
 obtain⟨nx,rfl⟩:=Ch hS hx
 obtain⟨up,s2,hu,h⟩:=A3 h
 have q:s2.deep=s.deep/\s2.many=s.many+(A2 up:Int)/\(up=[]\/∃y,C1 y=true/\up=[.mk 31 y 0 []]):=by
  split at hu
  ·obtain⟨y,s3,hy,hu⟩:=A3 hu
   obtain⟨ny,rfl⟩:=Ch hS hy
   obtain⟨k,s4,hk,hu⟩:=A3 hu
   cases hk
   cases hu
   exact⟨rfl,rfl,Or.inr ⟨y,ny,rfl⟩⟩
  ·cases hu
   exact⟨rfl,by show s.many=s.many+0;omega,Or.inl rfl⟩
 obtain⟨q1,q2,q3⟩:=q
 obtain⟨v,s3,hv,h⟩:=A3 h
 obtain⟨rfl,hd⟩:=(Bc hv).1 (Or.inr rfl)
 obtain⟨ks,s4,hk,h⟩:=A3 h
 obtain⟨d1,m1,k1⟩:=KT hS _ _ _ _ hk
 obtain⟨ms,s5,hm,h⟩:=A3 h
 obtain⟨d2,m2,k2⟩:=Kw hS _ _ _ _ hm
 obtain⟨w,s6,hw,h⟩:=A3 h
 obtain rfl:=(Bc hw).2.1 (Or.inr rfl)
 have e1:s2.down.deep=s.deep+1:=by show s2.deep+1=_;omega
 have e2:s2.down.many=s2.many:=rfl
 rw[d1,e1]at k2
 exact D6 h (by show s5.deep-1=s.deep;omega) (by show s5.many=_;rw[Dm,Dm];push_cast;omega) (R3 nx (by omega) q3 k1 k2)
theorem Kx{S:Src9}(hS:S.good):∀(f:Nat) (s:PS) (ks:List Nd) (s':PS),BG S f s=.ok (ks,s')->s'.deep=s.deep/\s'.many=s.many+(A2 ks:Int)/\∀c∈ks,NH s.deep c
 | 0,s,ks,s',h=>by rw[BG]at h;exact BN h
 | f+1,s,ks,s',h=>by
  rw[BG]at h
  split at h
  ·obtain⟨k,s1,hk,h⟩:=A3 h
   obtain⟨d1,m1,k1⟩:=SZ hS hk
   have e1:s.step.deep=s.deep:=rfl
   have e2:s.step.many=s.many:=rfl
   rw[e1]at d1 k1
   obtain⟨ls,s2,hl,h⟩:=A3 h
   obtain⟨d2,m2,k2⟩:=Kx hS f _ _ _ hl
   rw[d1]at d2 k2
   cases h
   refine⟨d2,by rw[Ab];push_cast;omega,fun c hc=>?_⟩
   rcases List.mem_cons.1 hc with rfl | hc
   ·exact k1
   ·exact k2 c hc
  ·cases h
   exact⟨rfl,by show s.many=s.many+0;omega,fun c hc=>by cases hc⟩
theorem PT{S:Src9}(hS:S.good){f:Nat}{s':PS}{n:Nd}(h:Et S f ⟨0,0,0⟩=.ok (n,s')):s'.many=(A0 n:Int)/\SX n:=by
 unfold Et at h
 obtain⟨ks,s1,hk,h⟩:=A3 h
 obtain⟨d1,m1,k1⟩:=Kx hS _ _ _ _ hk
 obtain⟨u,s2,hu,h⟩:=A3 h
 obtain rfl:=(Bc hu).2.2 (by decide) (by decide)
 obtain⟨b,s3,hb,h⟩:=A3 h
 obtain⟨d2,m2,k2⟩:=(kept2 hS f).block _ _ _ hb
 have e1:s1.step.deep=0:=d1
 have e2:s1.step.many=s1.many:=rfl
 rw[e1]at k2
 cases h
 refine⟨?_,SY k1 k2⟩
 rw[Jg,Dm,Cw]
 show s3.many+1=_
 simp only at m1
 push_cast;omega
theorem Sa{S:Src9}(hS:S.good){f:Nat}{n:Nd}(h:EN S f=.ok n):A0 n<=600/\SX n:=by
 unfold EN at h
 split at h
 ·cases h
 ·rename_i m s hp
  obtain⟨h1,h2⟩:=PT hS hp
  split at h
  ·cases h
  ·split at h
   ·cases h
   ·cases h
    exact⟨by omega,h2⟩
theorem Ky{p:Int->Bool}{T:List Int}:∀(m i j:Nat),i<=j->j<F7 p T i m->p (wd T j)=true
 | 0,i,j,h1,h2=>by unfold F7 at h2;omega
 | m+1,i,j,h1,h2=>by
  unfold F7 at h2
  split at h2
  ·rename_i hp
   by_cases hj:j=i
   ·rw[hj];exact hp
   ·exact Ky m (i+1) j (by omega) h2
  ·omega
theorem KU{p:Int->Bool}{T:List Int}{i j:Nat}(h1:i<=j)(h2:j<AO p T i):p (wd T j)=true:=Ky _ i j h1 h2
theorem R6{p:Int->Bool}{x:List Int}(h:∀j,j<x.length->p (wd x j)=true):x.all p=true:=by
 rw[List.all_eq_true]
 intro b hb
 obtain⟨j,hj,rfl⟩:=List.mem_iff_getElem.1 hb
 have:=h j hj
 unfold wd at this
 rwa [Z2,List.getElem?_eq_getElem hj]at this
theorem UJ{p:Int->Bool}{x:List Int}(h:x.all p=true){j:Nat}(hj:j<x.length):p (wd x j)=true:=by
 rw[List.all_eq_true]at h
 unfold wd
 rw[Z2,List.getElem?_eq_getElem hj]
 exact h _ (Z6 hj)
theorem Ju{T:List Int}{i k:Nat}:∀m,m<=k-i->CY (B4 T i k) 0 m=CY T i m
 | 0,_=>rfl
 | m+1,h=>by
  unfold CY
  rw[Ju m (by omega),Nat.zero_add,Ea (by omega)]
def NI(t:Tok):Prop:=(t.1=1->C1 t.2.1=true)/\(t.1=2->0<=Db t.2.1/\Db t.2.1<=1073741823)
theorem NJ{T:List Int}{i k:Nat}{t:Tok}(hi:i<T.length)(h:B9 T i=.tok t k):NI t:=by
 unfold B9 at h
 split at h
 ·cases h
 ·split at h
  ·cases h
  ·split at h
   ·rename_i hl
    cases h
    obtain⟨s1,s2⟩:=Eb (p:=DE) hi (by unfold DE;rw[hl];rfl)
    refine⟨fun hk=>?_,fun hk=>?_⟩
    ·simp only at hk⊢
     have hw:FE (B4 T i (AO DE T i))=false:=by
      cases hw:FE (B4 T i (AO DE T i))with
      | false=>rfl
      | true=>rw[if_pos hw]at hk;exact absurd hk (by decide)
     have hlen:=DM (T:=T) (i:=i) s2
     have h0:wd (B4 T i (AO DE T i)) 0=wd T i:=by rw[Ea (by omega),Nat.add_zero]
     have ha:(B4 T i (AO DE T i)).all DE=true:=R6 fun j hj=>by
      rw[Ea (by omega)]
      exact KU (p:=DE) (T:=T) (i:=i) (by omega) (by omega)
     have hne:(B4 T i (AO DE T i)).isEmpty=false:=by
      cases hp:B4 T i (AO DE T i)with
      | nil=>rw[hp]at hlen;simp at hlen;omega
      | cons a l=>rfl
     unfold C1
     rw[hne,h0,hl,ha,hw]
     rfl
    ·simp only at hk
     split at hk<;>exact absurd hk (by decide)
   ·split at h
    ·rename_i hd
     split at h
     ·cases h
     ·rename_i hb
      cases h
      refine⟨fun hk=>absurd hk (show ¬(2:Int)=1 by decide),fun _=>?_⟩
      obtain⟨s1,s2⟩:=Eb (p:=BP) hi hd
      have hlen:=DM (T:=T) (i:=i) s2
      have e:Db (B4 T i (AO BP T i))=CY T i (AO BP T i-i):=by
       unfold Db
       rw[hlen,Ju _ (Z0 _)]
      simp only
      rw[e]
      have hdg:Pn T i (AO BP T i-i):=fun j hj=>KU (p:=BP) (T:=T) (i:=i) (by omega) (by omega)
      refine⟨KJ _ hdg,?_⟩
      unfold Gl at hb
      simp only[Bool.or_eq_true,decide_eq_true_eq,not_or]at hb
      omega
    ·split at h
     ·cases h
     ·cases h
      exact⟨fun hk=>absurd hk (show ¬(4:Int)=1 by decide),fun hk=>absurd hk (show ¬(4:Int)=2 by decide)⟩
theorem J7{T:List Int}:∀(m i:Nat) (l:List Tok),Bz T m i=.ok l->∀t∈l,NI t
 | 0,i,l,h=>by
  unfold Bz at h
  cases h
  intro t ht;cases ht
 | m+1,i,l,h=>by
  unfold Bz at h
  split at h
  ·rename_i hi
   cases hc:B9 T i with
   | skip k=>rw[hc]at h;exact J7 m k l h
   | tok t k=>
    rw[hc]at h
    simp only at h
    cases hs:Bz T m k with
    | error e=>rw[hs]at h;cases h
    | ok l'=>
     rw[hs]at h
     cases h
     intro u hu
     rcases List.mem_cons.1 hu with rfl | hu
     ·exact NJ hi hc
     ·exact J7 m k l' hs u hu
   | bad c a=>rw[hc]at h;cases h
  ·cases h
   intro t ht;cases ht
theorem Tt{l:List Tok}{fin:Nat}(h:∀t∈l,NI t):Src9.good ⟨l,fin⟩:=fun i hi=>by
 have hi':i<l.length:=hi
 have e:Src9.at ⟨l,fin⟩ i=l[i]:=by
  unfold Src9.at
  rw[Z2,List.getElem?_eq_getElem hi']
  rfl
 rw[e]
 exact h _ (Z6 hi')
theorem FV{T:List Int}{l:List Tok}(h:CW T=.ok l):Src9.good ⟨l,T.length⟩:=by
 unfold CW at h
 split at h
 ·cases h
 ·exact Tt (J7 _ _ _ h)
end Go.Proofs.YtpfdgbalchmmfaaGreatDoor
namespace Go.Proofs.YtpfdgbalchmmfaaGreatDoor
def Kz(r:Nat)(k:Int)(x:List Int)(m:Int)(len:Nat):Prop:=
 if r=0 then
  ((k=18\/k=19\/k=20\/k=21\/k=22)/\x=[]/\m=0/\len=2)\/((k=23\/k=24)/\x=[]/\m=0/\len=1)\/(k=25/\C1 x=true/\m=0/\1<=len) \/
  (k=26/\x=[]/\0<=m/\m<=1073741823/\len=0)\/((k=27\/k=28\/k=29)/\x=[]/\m=0/\len=0)\/((k=30\/k=31)/\C1 x=true/\m=0/\len=0)
 else if r=1 then
  ((k=7\/k=8)/\C1 x=true/\m=0/\len=1)\/(k=9/\x=[]/\m=0/\(len=2\/len=3))\/((k=10\/k=16)/\x=[]/\m=0/\len=2) \/
  ((k=11\/k=12\/k=13\/k=14\/k=15\/k=17)/\x=[]/\m=0/\len=1)
 else k=6/\x=[]/\m=0
def GZ(k:Int)(i:Nat):Nat:=if k=6 then 1 else if k=13 then 2 else if(k=9\/k=10)/\i≠0 then 2 else 0
mutual
def WfR(r:Nat):Nd->Prop
 | .mk k x m ks=>Kz r k x m ks.length/\WfK k 0 ks
def WfK (k:Int) (i:Nat):List Nd->Prop
 | []=>True
 | n::ns=>WfR (GZ k i) n/\WfK k (i+1) ns
end
theorem DB{r:Nat}{k m:Int}{x:List Int}{ks:List Nd}(h:Kz r k x m ks.length)(hk:WfK k 0 ks):WfR r (.mk k x m ks):=by unfold WfR;exact⟨h,hk⟩
theorem E8(k:Int)(i:Nat):WfK k i []:=by unfold WfK;trivial
theorem EJ{k:Int}{i:Nat}{n:Nd}{ns:List Nd}(h:WfR (GZ k i) n)(hs:WfK k (i+1) ns):WfK k i (n::ns):=by unfold WfK;exact⟨h,hs⟩
theorem Fy{k:Int}{r:Nat}(hr:∀i,GZ k i=r):∀(ks:List Nd) (i:Nat),(∀c∈ks,WfR r c)->WfK k i ks
 | [],i,_=>E8 k i
 | n::ns,i,h=>EJ (by rw[hr];exact h n (Z7 ..)) (Fy hr ns (i+1) fun c hc=>h c (Z8 _ hc))
theorem L0{k:Int}:∀ {ks:List Nd} {i:Nat},WfK k i ks->∀j (hj:j<ks.length),WfR (GZ k (i+j)) ks[j]
 | [],_,_,j,hj=>by cases hj
 | n::ns,i,h,0,_=>by unfold WfK at h;exact h.1
 | n::ns,i,h,j+1,hj=>by
  unfold WfK at h
  have:=L0 h.2 j (by simp at hj;omega)
  rw[show i+(j+1)=i+1+j by omega]
  exact this
theorem J8{k:Int}{a b:Nd}(hk:k=18\/k=19\/k=20\/k=21\/k=22)(ha:WfR 0 a)(hb:WfR 0 b):WfR 0 (.mk k [] 0 [a,b]):=
 DB (Or.inl ⟨hk,rfl,rfl,rfl⟩) (Fy (r:=0) (fun i=>by unfold GZ;rw[if_neg (by omega),if_neg (by omega),if_neg (by omega)]) _ _ fun c hc=>by
  rcases List.mem_cons.1 hc with rfl | hc
  ·exact ha
  ·rw[List.mem_singleton.1 hc];exact hb)
theorem R7{k:Int}{a:Nd}(hk:k=23\/k=24)(ha:WfR 0 a):WfR 0 (.mk k [] 0 [a]):=
 DB (Or.inr (Or.inl ⟨hk,rfl,rfl,rfl⟩)) (Fy (r:=0) (fun i=>by unfold GZ;rw[if_neg (by omega),if_neg (by omega),if_neg (by omega)]) _ _ fun c hc=>by rw[List.mem_singleton.1 hc];exact ha)
theorem Tu{x:List Int}{a:Nd}{ks:List Nd}(hx:C1 x=true)(ha:WfR 0 a)(hk:∀c∈ks,WfR 0 c):WfR 0 (.mk 25 x 0 (a::ks)):=
 DB (Or.inr (Or.inr (Or.inl ⟨rfl,hx,rfl,by simp⟩))) (Fy (r:=0) (fun i=>by unfold GZ;rw[if_neg (by decide),if_neg (by decide),if_neg (by omega)]) _ _ fun c hc=>by
  rcases List.mem_cons.1 hc with rfl | hc
  ·exact ha
  ·exact hk c hc)
structure Un(S:Src9)(f:Nat):Prop where
 expr:∀s n s',C0 S f s=.ok (n,s')->WfR 0 n
 sum:∀s n s',Dc S f s=.ok (n,s')->WfR 0 n
 sumL:∀n s m s',WfR 0 n->sumL S f n s=.ok (m,s')->WfR 0 m
 term:∀s n s',Ck S f s=.ok (n,s')->WfR 0 n
 termL:∀n s m s',WfR 0 n->termL S f n s=.ok (m,s')->WfR 0 m
 unary:∀s n s',C5 S f s=.ok (n,s')->WfR 0 n
 call:∀s n s',D0 S f s=.ok (n,s')->WfR 0 n
 callL:∀n s m s',WfR 0 n->callL S f n s=.ok (m,s')->WfR 0 m
 args:∀s ks s',Cr S f s=.ok (ks,s')->∀c∈ks,WfR 0 c
 prim:∀s n s',D1 S f s=.ok (n,s')->WfR 0 n
theorem Bh{kind num:Int}{x:List Int}{ks:List Nd}{s1 s':PS}{n:Nd}{r:Nat}(h:AH kind x num ks s1=.ok (n,s'))(hw:WfR r (.mk kind x num ks)):WfR r n:=by
 cases h
 exact hw
theorem Hg{S:Src9}(hS:S.good):∀f,Un S f
 | 0=>by
  constructor
  ·intro s n s' h;rw[C0]at h;exact BN h
  ·intro s n s' h;rw[Dc]at h;exact BN h
  ·intro n s m s' _ h;rw[sumL]at h;exact BN h
  ·intro s n s' h;rw[Ck]at h;exact BN h
  ·intro n s m s' _ h;rw[termL]at h;exact BN h
  ·intro s n s' h;rw[C5]at h;exact BN h
  ·intro s n s' h;rw[D0]at h;exact BN h
  ·intro n s m s' _ h;rw[callL]at h;exact BN h
  ·intro s n s' h;rw[Cr]at h;exact BN h
  ·intro s n s' h;rw[D1]at h;exact BN h
 | f+1=>by
  have I:=Hg hS f
  constructor
  ·intro s n s' h
   rw[C0]at h
   obtain⟨a,s1,ha,h⟩:=A3 h
   split at h
   ·obtain⟨b,s2,hb,h⟩:=A3 h
    exact Bh h (J8 (by decide) (I.sum _ _ _ ha) (I.sum _ _ _ hb))
   ·split at h
    ·obtain⟨b,s2,hb,h⟩:=A3 h
     exact Bh h (J8 (by decide) (I.sum _ _ _ ha) (I.sum _ _ _ hb))
    ·cases h
     exact I.sum _ _ _ ha
  ·intro s n s' h
   rw[Dc]at h
   obtain⟨a,s1,ha,h⟩:=A3 h
   exact I.sumL _ _ _ _ (I.term _ _ _ ha) h
  ·intro n s m s' hn h
   rw[sumL]at h
   split at h
   ·obtain⟨b,s2,hb,h⟩:=A3 h
    obtain⟨c,s3,hc,h⟩:=A3 h
    exact I.sumL _ _ _ _ (Bh hc (J8 (by decide) hn (I.term _ _ _ hb))) h
   ·split at h
    ·obtain⟨b,s2,hb,h⟩:=A3 h
     obtain⟨c,s3,hc,h⟩:=A3 h
     exact I.sumL _ _ _ _ (Bh hc (J8 (by decide) hn (I.term _ _ _ hb))) h
    ·cases h
     exact hn
  ·intro s n s' h
   rw[Ck]at h
   obtain⟨a,s1,ha,h⟩:=A3 h
   exact I.termL _ _ _ _ (I.unary _ _ _ ha) h
  ·intro n s m s' hn h
   rw[termL]at h
   split at h
   ·obtain⟨b,s2,hb,h⟩:=A3 h
    obtain⟨c,s3,hc,h⟩:=A3 h
    exact I.termL _ _ _ _ (Bh hc (J8 (by decide) hn (I.unary _ _ _ hb))) h
   ·cases h
    exact hn
  ·intro s n s' h
   rw[C5]at h
   split at h
   ·obtain⟨b,s2,hb,h⟩:=A3 h
    exact Bh h (R7 (by decide) (I.unary _ _ _ hb))
   ·split at h
    ·obtain⟨b,s2,hb,h⟩:=A3 h
     exact Bh h (R7 (by decide) (I.unary _ _ _ hb))
    ·exact I.call _ _ _ h
  ·intro s n s' h
   rw[D0]at h
   obtain⟨a,s1,ha,h⟩:=A3 h
   exact I.callL _ _ _ _ (I.prim _ _ _ ha) h
  ·intro n s m s' hn h
   rw[callL]at h
   split at h
   ·obtain⟨x,s1,hx,h⟩:=A3 h
    obtain⟨nx,rfl⟩:=Ch hS hx
    obtain⟨u,s2,hu,h⟩:=A3 h
    obtain⟨ks,s3,hk,h⟩:=A3 h
    obtain⟨v,s4,hv,h⟩:=A3 h
    have q:∀c∈ks,WfR 0 c:=by
     split at hk
     ·cases hk
      intro c hc;cases hc
     ·exact I.args _ _ _ hk
    obtain⟨c,s5,hc,h⟩:=A3 h
    exact I.callL _ _ _ _ (Bh hc (Tu nx hn q)) h
   ·cases h
    exact hn
  ·intro s ks s' h
   rw[Cr]at h
   obtain⟨a,s1,ha,h⟩:=A3 h
   split at h
   ·obtain⟨b,s2,hb,h⟩:=A3 h
    cases h
    intro c hc
    rcases List.mem_cons.1 hc with rfl | hc
    ·exact I.expr _ _ _ ha
    ·exact I.args _ _ _ hb c hc
   ·cases h
    intro c hc
    rw[List.mem_singleton.1 hc]
    exact I.expr _ _ _ ha
  ·intro s n s' h
   rw[D1]at h
   split at h
   ·rename_i hi
    obtain⟨h1,h2⟩:=IB hi
    obtain⟨h3,h4⟩:=(hS _ h1).2 h2
    exact Bh h (DB (Or.inr (Or.inr (Or.inr (Or.inl ⟨rfl,rfl,h3,h4,rfl⟩)))) (E8 _ _))
   split at h
   ·obtain⟨x,s1,hx,h⟩:=A3 h
    obtain⟨nx,rfl⟩:=Ch hS hx
    exact Bh h (DB (Or.inr (Or.inr (Or.inr (Or.inr (Or.inr ⟨Or.inr rfl,nx,rfl,rfl⟩))))) (E8 _ _))
   split at h
   ·exact Bh h (DB (Or.inr (Or.inr (Or.inr (Or.inr (Or.inl ⟨Or.inl rfl,rfl,rfl,rfl⟩))))) (E8 _ _))
   split at h
   ·exact Bh h (DB (Or.inr (Or.inr (Or.inr (Or.inr (Or.inl ⟨Or.inr (Or.inl rfl),rfl,rfl,rfl⟩))))) (E8 _ _))
   split at h
   ·exact Bh h (DB (Or.inr (Or.inr (Or.inr (Or.inr (Or.inl ⟨Or.inr (Or.inr rfl),rfl,rfl,rfl⟩))))) (E8 _ _))
   split at h
   ·obtain⟨x,s1,hx,h⟩:=A3 h
    obtain⟨nx,rfl⟩:=Ch hS hx
    exact Bh h (DB (Or.inr (Or.inr (Or.inr (Or.inr (Or.inr ⟨Or.inl rfl,nx,rfl,rfl⟩))))) (E8 _ _))
   ·obtain⟨u,s1,hu,h⟩:=A3 h
    obtain⟨a,s2,ha,h⟩:=A3 h
    obtain⟨v,s3,hv,h⟩:=A3 h
    cases h
    exact I.expr _ _ _ ha
theorem Px{k:Int}(h6:k≠6)(h9:k≠9)(h10:k≠10)(h13:k≠13)(i:Nat):GZ k i=0:=by
 unfold GZ
 rw[if_neg h6,if_neg h13,if_neg (by omega)]
theorem Jh{k:Int}{x:List Int}{a:Nd}(hk:((k=7\/k=8)/\C1 x=true)\/((k=11\/k=12\/k=14\/k=15\/k=17)/\x=[]))(ha:WfR 0 a):WfR 1 (.mk k x 0 [a]):=by
 refine DB ?_ (Fy (r:=0) (Px (by omega) (by omega) (by omega) (by omega)) _ _ fun c hc=>by rw[List.mem_singleton.1 hc];exact ha)
 rcases hk with⟨h1,h2⟩ | ⟨h1,h2⟩
 ·exact Or.inl ⟨h1,h2,rfl,rfl⟩
 ·exact Or.inr (Or.inr (Or.inr ⟨by omega,h2,rfl,rfl⟩))
theorem Sb{a b:Nd}(ha:WfR 0 a)(hb:WfR 0 b):WfR 1 (.mk 16 [] 0 [a,b]):=
 DB (Or.inr (Or.inr (Or.inl ⟨Or.inr rfl,rfl,rfl,rfl⟩))) (Fy (r:=0) (Px (by decide) (by decide) (by decide) (by decide)) _ _ fun c hc=>by
  rcases List.mem_cons.1 hc with rfl | hc
  ·exact ha
  ·rw[List.mem_singleton.1 hc];exact hb)
theorem Sc{b:Nd}(hb:WfR 2 b):WfR 1 (.mk 13 [] 0 [b]):=
 DB (Or.inr (Or.inr (Or.inr ⟨Or.inr (Or.inr (Or.inl rfl)),rfl,rfl,rfl⟩))) (EJ hb (E8 _ _))
theorem R8{a b:Nd}(ha:WfR 0 a)(hb:WfR 2 b):WfR 1 (.mk 10 [] 0 [a,b]):=
 DB (Or.inr (Or.inr (Or.inl ⟨Or.inl rfl,rfl,rfl,rfl⟩))) (EJ ha (EJ hb (E8 _ _)))
theorem UK{a b:Nd}(ha:WfR 0 a)(hb:WfR 2 b):WfR 1 (.mk 9 [] 0 [a,b]):=
 DB (Or.inr (Or.inl ⟨rfl,rfl,rfl,Or.inl rfl⟩)) (EJ ha (EJ hb (E8 _ _)))
theorem Sd{a b c:Nd}(ha:WfR 0 a)(hb:WfR 2 b)(hc:WfR 2 c):WfR 1 (.mk 9 [] 0 [a,b,c]):=
 DB (Or.inr (Or.inl ⟨rfl,rfl,rfl,Or.inr rfl⟩)) (EJ ha (EJ hb (EJ hc (E8 _ _))))
theorem Se{ks:List Nd}(h:∀c∈ks,WfR 1 c):WfR 2 (.mk 6 [] 0 ks):=
 DB ⟨rfl,rfl,rfl⟩ (Fy (r:=1) (fun _=>rfl) _ _ h)
theorem PU{S:Src9}(hS:S.good){f:Nat}{kind:Int}{s s':PS}{n:Nd}(h:FG S f kind s=.ok (n,s'))(hk:kind=7\/kind=8):WfR 1 n:=by
 unfold FG at h
 obtain⟨x,s1,hx,h⟩:=A3 h
 obtain⟨nx,rfl⟩:=Ch hS hx
 obtain⟨u,s2,hu,h⟩:=A3 h
 obtain⟨a,s3,ha,h⟩:=A3 h
 obtain⟨v,s4,hv,h⟩:=A3 h
 exact Bh h (Jh (Or.inl ⟨hk,nx⟩) ((Hg hS f).expr _ _ _ ha))
theorem Lt{S:Src9}(hS:S.good){f:Nat}{s s':PS}{n:Nd}(h:FH S f s=.ok (n,s')):WfR 0 n:=by
 unfold FH at h
 obtain⟨u,s1,hu,h⟩:=A3 h
 obtain⟨a,s2,ha,h⟩:=A3 h
 obtain⟨v,s3,hv,h⟩:=A3 h
 cases h
 exact(Hg hS f).expr _ _ _ ha
theorem NK{S:Src9}(hS:S.good){f:Nat}{kind:Int}{s s':PS}{n:Nd}(h:Fv S f kind s=.ok (n,s'))(hk:kind=12\/kind=14\/kind=15):WfR 1 n:=by
 unfold Fv at h
 obtain⟨u,s1,hu,h⟩:=A3 h
 obtain⟨a,s2,ha,h⟩:=A3 h
 obtain⟨v,s3,hv,h⟩:=A3 h
 obtain⟨t,s4,ht,h⟩:=A3 h
 exact Bh h (Jh (Or.inr ⟨by omega,rfl⟩) ((Hg hS f).expr _ _ _ ha))
theorem UL{S:Src9}(hS:S.good){f:Nat}{s s':PS}{n:Nd}(h:Gn S f 16 s=.ok (n,s')):WfR 1 n:=by
 unfold Gn at h
 obtain⟨u,s1,hu,h⟩:=A3 h
 obtain⟨a,s2,ha,h⟩:=A3 h
 obtain⟨w,s3,hw,h⟩:=A3 h
 obtain⟨b,s4,hb,h⟩:=A3 h
 obtain⟨v,s5,hv,h⟩:=A3 h
 obtain⟨t,s6,ht,h⟩:=A3 h
 exact Bh h (Sb ((Hg hS f).expr _ _ _ ha) ((Hg hS f).expr _ _ _ hb))
structure UM(S:Src9)(f:Nat):Prop where
 block:∀s n s',Bj S f s=.ok (n,s')->WfR 2 n
 stmts:∀s ks s',CJ S f s=.ok (ks,s')->∀c∈ks,WfR 1 c
 stmt:∀s n s',D2 S f s=.ok (n,s')->WfR 1 n
theorem NL{S:Src9}(hS:S.good):∀f,UM S f
 | 0=>by
  constructor
  ·intro s n s' h;rw[Bj]at h;exact BN h
  ·intro s n s' h;rw[CJ]at h;exact BN h
  ·intro s n s' h;rw[D2]at h;exact BN h
 | f+1=>by
  have I:=NL hS f
  constructor
  ·intro s n s' h
   rw[Bj]at h
   obtain⟨u,s1,hu,h⟩:=A3 h
   obtain⟨ks,s2,hk,h⟩:=A3 h
   obtain⟨v,s3,hv,h⟩:=A3 h
   exact Bh h (Se (I.stmts _ _ _ hk))
  ·intro s ks s' h
   rw[CJ]at h
   split at h
   ·cases h
    intro c hc;cases hc
   ·obtain⟨k,s1,hk,h⟩:=A3 h
    obtain⟨ls,s2,hl,h⟩:=A3 h
    cases h
    intro c hc
    rcases List.mem_cons.1 hc with rfl | hc
    ·exact I.stmt _ _ _ hk
    ·exact I.stmts _ _ _ hl c hc
  ·intro s n s' h
   rw[D2]at h
   split at h
   ·exact PU hS h (Or.inl rfl)
   split at h
   ·obtain⟨a,s1,ha,h⟩:=A3 h
    obtain⟨b,s2,hb,h⟩:=A3 h
    split at h
    ·obtain⟨c,s3,hc,h⟩:=A3 h
     exact Bh h (Sd (Lt hS ha) (I.block _ _ _ hb) (I.block _ _ _ hc))
    ·exact Bh h (UK (Lt hS ha) (I.block _ _ _ hb))
   split at h
   ·obtain⟨a,s1,ha,h⟩:=A3 h
    obtain⟨b,s2,hb,h⟩:=A3 h
    exact Bh h (R8 (Lt hS ha) (I.block _ _ _ hb))
   split at h
   ·obtain⟨a,s1,ha,h⟩:=A3 h
    obtain⟨v,s2,hv,h⟩:=A3 h
    exact Bh h (Jh (Or.inr ⟨by decide,rfl⟩) ((Hg hS f).expr _ _ _ ha))
   split at h
   ·exact NK hS h (by decide)
   split at h
   ·obtain⟨b,s2,hb,h⟩:=A3 h
    exact Bh h (Sc (I.block _ _ _ hb))
   split at h
   ·exact NK hS h (by decide)
   split at h
   ·exact NK hS h (by decide)
   split at h
   ·exact UL hS h
   split at h
   ·exact PU hS h (Or.inr rfl)
   ·obtain⟨a,s1,ha,h⟩:=A3 h
    obtain⟨v,s2,hv,h⟩:=A3 h
    exact Bh h (Jh (Or.inr ⟨by decide,rfl⟩) ((Hg hS f).expr _ _ _ ha))
def WfM(n:Nd):Prop:=∃x ks b,n=.mk 4 x ((ks:List Nd).length:Int) (ks++[b])/\C1 x=true/\(∀c∈ks,KR c)/\WfR 2 b
def WfC(n:Nd):Prop:=∃x up ks ms,n=.mk 2 x 0 (up++ks++ms)/\C1 x=true/\(up=[]\/∃y,C1 y=true/\up=[.mk 31 y 0 []])/\(∀c∈ks,Kv c)/\(∀c∈ms,WfM c)
def WfP(n:Nd):Prop:=∃ks b,n=.mk 1 [] 0 (ks++[b])/\(∀c∈ks,WfC c)/\WfR 2 b
theorem R9{S:Src9}(hS:S.good){f:Nat}{s s':PS}{n:Nd}(h:Co S f s=.ok (n,s')):WfM n:=by
 unfold Co at h
 obtain⟨x,s1,hx,h⟩:=A3 h
 obtain⟨nx,rfl⟩:=Ch hS hx
 obtain⟨u,s2,hu,h⟩:=A3 h
 obtain⟨ks,s3,hk,h⟩:=A3 h
 have q:∀c∈ks,KR c:=by
  split at hk
  ·cases hk
   intro c hc;cases hc
  ·exact(KS hS _ _ _ _ hk).2.2
 obtain⟨v,s4,hv,h⟩:=A3 h
 obtain⟨b,s5,hb,h⟩:=A3 h
 cases h
 exact⟨x,ks,b,rfl,nx,q,(NL hS f).block _ _ _ hb⟩
theorem L3{S:Src9}(hS:S.good):∀(f:Nat) (s:PS) (ks:List Nd) (s':PS),Ay S f s=.ok (ks,s')->∀c∈ks,WfM c
 | 0,s,ks,s',h=>by rw[Ay]at h;exact BN h
 | f+1,s,ks,s',h=>by
  rw[Ay]at h
  split at h
  ·obtain⟨k,s1,hk,h⟩:=A3 h
   obtain⟨ls,s2,hl,h⟩:=A3 h
   cases h
   intro c hc
   rcases List.mem_cons.1 hc with rfl | hc
   ·exact R9 hS hk
   ·exact L3 hS f _ _ _ hl c hc
  ·cases h
   intro c hc;cases hc
theorem Sf{S:Src9}(hS:S.good){f:Nat}{s s':PS}{n:Nd}(h:D7 S f s=.ok (n,s')):WfC n:=by
 unfold D7 at h
 obtain⟨x,s1,hx,h⟩:=A3 h
 obtain⟨nx,rfl⟩:=Ch hS hx
 obtain⟨up,s2,hu,h⟩:=A3 h
 have q:up=[]\/∃y,C1 y=true/\up=[.mk 31 y 0 []]:=by
  split at hu
  ·obtain⟨y,s3,hy,hu⟩:=A3 hu
   obtain⟨ny,rfl⟩:=Ch hS hy
   obtain⟨k,s4,hk,hu⟩:=A3 hu
   cases hk
   cases hu
   exact Or.inr ⟨y,ny,rfl⟩
  ·cases hu
   exact Or.inl rfl
 obtain⟨v,s3,hv,h⟩:=A3 h
 obtain⟨ks,s4,hk,h⟩:=A3 h
 obtain⟨ms,s5,hm,h⟩:=A3 h
 obtain⟨w,s6,hw,h⟩:=A3 h
 cases h
 exact⟨x,up,ks,ms,rfl,nx,q,(KT hS _ _ _ _ hk).2.2,L3 hS _ _ _ _ hm⟩
theorem L4{S:Src9}(hS:S.good):∀(f:Nat) (s:PS) (ks:List Nd) (s':PS),BG S f s=.ok (ks,s')->∀c∈ks,WfC c
 | 0,s,ks,s',h=>by rw[BG]at h;exact BN h
 | f+1,s,ks,s',h=>by
  rw[BG]at h
  split at h
  ·obtain⟨k,s1,hk,h⟩:=A3 h
   obtain⟨ls,s2,hl,h⟩:=A3 h
   cases h
   intro c hc
   rcases List.mem_cons.1 hc with rfl | hc
   ·exact Sf hS hk
   ·exact L4 hS f _ _ _ hl c hc
  ·cases h
   intro c hc;cases hc
theorem Sg{S:Src9}(hS:S.good){f:Nat}{n:Nd}(h:EN S f=.ok n):WfP n:=by
 unfold EN at h
 split at h
 ·cases h
 ·rename_i m s hp
  have hm:WfP m:=by
   unfold Et at hp
   obtain⟨ks,s1,hk,hp⟩:=A3 hp
   obtain⟨u,s2,hu,hp⟩:=A3 hp
   obtain⟨b,s3,hb,hp⟩:=A3 hp
   cases hp
   exact⟨ks,b,rfl,L4 hS _ _ _ _ hk,(NL hS f).block _ _ _ hb⟩
  split at h
  ·cases h
  ·split at h
   ·cases h
   ·cases h
    exact hm
theorem Sh{T:List Int}{n:Nd}(h:CD T=.ok n):WfP n/\A0 n<=600:=by
 unfold CD at h
 split at h
 ·cases h
 ·rename_i l hl
  exact⟨Sg (FV hl) h,(Sa (FV hl) h).1⟩
def Jj(t:Tok):Prop:=(t.1=1/\C1 t.2.1=true)\/(t.1=2/\0<t.2.1.length/\t.2.1.all BP=true/\Db t.2.1<=1073741823)\/t.1=3\/t.1=4
theorem RE{T:List Int}{i k:Nat}{t:Tok}(hi:i<T.length)(h:B9 T i=.tok t k):Jj t:=by
 have hf:=NJ hi h
 unfold B9 at h
 split at h
 ·cases h
 ·split at h
  ·cases h
  ·split at h
   ·cases h
    by_cases hw:FE (B4 T i (AO DE T i))=true
    ·exact Or.inr (Or.inr (Or.inl (by show(if _ then _ else _:Int)=3;rw[if_pos hw])))
    ·have e:(if FE (B4 T i (AO DE T i))=true then(3:Int)else 1)=1:=if_neg hw
     exact Or.inl ⟨e,hf.1 e⟩
   ·split at h
    ·rename_i hd
     split at h
     ·cases h
     ·cases h
      obtain⟨s1,s2⟩:=Eb (p:=BP) hi hd
      have hlen:=DM (T:=T) (i:=i) s2
      refine Or.inr (Or.inl ⟨rfl,?_,?_,(hf.2 rfl).2⟩)
      ·show 0<(B4 T i (AO BP T i)).length
       omega
      ·exact R6 fun j hj=>by
        have hj':j<(B4 T i (AO BP T i)).length:=hj
        show BP (wd (B4 T i (AO BP T i)) j)=true
        rw[Ea (by omega)]
        exact KU (p:=BP) (T:=T) (i:=i) (by omega) (by omega)
    ·split at h
     ·cases h
     ·cases h
      exact Or.inr (Or.inr (Or.inr rfl))
theorem IW{T:List Int}:∀(m i:Nat) (l:List Tok),Bz T m i=.ok l->∀t∈l,Jj t
 | 0,i,l,h=>by
  unfold Bz at h
  cases h
  intro t ht;cases ht
 | m+1,i,l,h=>by
  unfold Bz at h
  split at h
  ·rename_i hi
   cases hc:B9 T i with
   | skip k=>rw[hc]at h;exact IW m k l h
   | tok t k=>
    rw[hc]at h
    simp only at h
    cases hs:Bz T m k with
    | error e=>rw[hs]at h;cases h
    | ok l'=>
     rw[hs]at h
     cases h
     intro u hu
     rcases List.mem_cons.1 hu with rfl | hu
     ·exact RE hi hc
     ·exact IW m k l' hs u hu
   | bad c a=>rw[hc]at h;cases h
  ·cases h
   intro t ht;cases ht
def AW(S:Src9):Prop:=∀i,i<S.L.length->Jj (S.at i)
theorem Sp{l:List Tok}{fin:Nat}(h:∀t∈l,Jj t):AW ⟨l,fin⟩:=fun i hi=>by
 have hi':i<l.length:=hi
 have e:Src9.at ⟨l,fin⟩ i=l[i]:=by
  unfold Src9.at
  rw[Z2,List.getElem?_eq_getElem hi']
  rfl
 rw[e]
 exact h _ (Z6 hi')
theorem LB{T:List Int}{l:List Tok}(h:CW T=.ok l):AW ⟨l,T.length⟩:=by
 unfold CW at h
 split at h
 ·cases h
 ·exact Sp (IW _ _ _ h)
def Src9.text(S:Src9)(s:PS):List Int:=if s.tok<S.L.length then(S.at s.tok).2.1 else[]
def Cx(x:List Int):Bool:=!x.isEmpty&&(!C1 x&&!(x.all BP))
theorem Ci{S:Src9}(hl:AW S){x:List Int}(hx:Cx x=true)(s:PS):A4 S x s=(S.text s==x):=by
 unfold Cx at hx
 simp only[Bool.and_eq_true,Bool.not_eq_true']at hx
 obtain⟨h0,h1,h2⟩:=hx
 unfold A4 Src9.text
 by_cases ht:s.tok<S.L.length
 ·rw[if_pos ht,decide_eq_true ht,Bool.true_and]
  cases he:(S.at s.tok).2.1==x with
  | false=>rfl
  | true=>
   have e:(S.at s.tok).2.1=x:=by simpa using he
   rcases hl s.tok ht with⟨_,hn⟩ | ⟨_,_,hd,_⟩ | hk | hk
   ·rw[e,h1]at hn;cases hn
   ·rw[e,h2]at hd;cases hd
   ·rw[hk];rfl
   ·rw[hk];rfl
 ·rw[if_neg ht,decide_eq_false ht,Bool.false_and]
  cases x with
  | nil=>cases h0
  | cons a l=>rfl
def Br(S:Src9)(s:PS):Got (List Int):=
 if S.text s=AG\/S.text s=Al then(if 20<s.deep+1 then Bp S 13 s else .ok (S.text s,{ s with tok:=s.tok+1,deep:=s.deep+1 }))
 else if S.text s=AD\/S.text s=Ax then .ok (S.text s,{ s with tok:=s.tok+1,deep:=s.deep-1 })
 else .ok (S.text s,s.step)
theorem RF{S:Src9}(hl:AW S){x:List Int}(hx:Cx x=true)(s:PS):A9 S x s=if S.text s=x then(Br S s).then fun _ s=>.ok ((),s)else Bp S 12 s:=by
 unfold A9 Br
 rw[Ci hl hx]
 by_cases he:S.text s=x
 ·rw[if_pos he,if_pos (by rw[he];simp),he]
  split
  ·split<;>rfl
  ·split<;>rfl
 ·rw[if_neg he,if_neg (by simpa using he)]
theorem MJ{S:Src9}(hl:AW S)(s:PS):Ad S s=if isB S 1 s=true then Br S s else Bp S 12 s:=by
 unfold Ad
 by_cases h:isB S 1 s=true
 ·rw[if_pos h,if_pos h]
  have h':=h
  unfold isB at h'
  simp only[Bool.and_eq_true,decide_eq_true_eq]at h'
  obtain⟨ht,hk⟩:=h'
  have hk1:(S.at s.tok).1=1:=by simpa using hk
  have hn:C1 (S.at s.tok).2.1=true:=by
   rcases hl s.tok ht with⟨_,hn⟩ | ⟨hk2,_⟩ | hk2 | hk2
   ·exact hn
   ·rw[hk1]at hk2;exact absurd hk2 (by decide)
   ·rw[hk1]at hk2;exact absurd hk2 (by decide)
   ·rw[hk1]at hk2;exact absurd hk2 (by decide)
  have e:S.text s=(S.at s.tok).2.1:=by unfold Src9.text;rw[if_pos ht]
  unfold Br
  rw[e]
  rw[if_neg (by rintro(h | h)<;>(rw[h]at hn;exact absurd hn (by decide))),if_neg (by rintro(h | h)<;>(rw[h]at hn;exact absurd hn (by decide)))]
 ·rw[if_neg h,if_neg h]
def Bad{α:Type}(g:Got α):Prop:=∀e,g=.error e->e.1≠0
theorem BE{α:Type}(y:α×PS):Bad (.ok y:Got α):=fun e h=>by cases h
theorem Ag{α:Type}:Bad (DN:Got α):=fun e h=>by unfold DN at h;cases h;decide
theorem B8{α:Type}{c:Int}(S:Src9)(s:PS)(hc:c≠0):Bad (Bp S c s:Got α):=fun e h=>by unfold Bp at h;cases h;exact hc
theorem BJ{α β:Type}{g:Got α}{f:α->PS->Got β}(h:Bad g)(h':∀a s,Bad (f a s)):Bad (g.then f):=fun e he=>by
 cases g with
 | error e'=>exact h e (by unfold Got.then at he;exact congrArg _ (by injection he))
 | ok y=>exact h' y.1 y.2 e he
theorem BF{α:Type}{p:Prop}[Decidable p]{a b:Got α}(ha:Bad a)(hb:Bad b):Bad (if p then a else b):=by
 by_cases h:p
 ·rw[if_pos h];exact ha
 ·rw[if_neg h];exact hb
theorem BK(S:Src9)(x:List Int)(s:PS):Bad (A9 S x s):=by
 unfold A9
 exact BF (BF (BF (B8 _ _ (by decide)) (BE _)) (BF (BE _) (BE _))) (B8 _ _ (by decide))
theorem BL(S:Src9)(s:PS):Bad (Ad S s):=BF (BE _) (B8 _ _ (by decide))
theorem BM(k:Int)(x:List Int)(m:Int)(ks:List Nd)(s:PS):Bad (AH k x m ks s):=BE _
structure V3(S:Src9)(f:Nat):Prop where
 expr:∀s,Bad (C0 S f s)
 sum:∀s,Bad (Dc S f s)
 sumL:∀n s,Bad (sumL S f n s)
 term:∀s,Bad (Ck S f s)
 termL:∀n s,Bad (termL S f n s)
 unary:∀s,Bad (C5 S f s)
 call:∀s,Bad (D0 S f s)
 callL:∀n s,Bad (callL S f n s)
 args:∀s,Bad (Cr S f s)
 prim:∀s,Bad (D1 S f s)
theorem JX(S:Src9):∀f,V3 S f
 | 0=>⟨fun _=>by rw[C0];exact Ag,fun _=>by rw[Dc];exact Ag,fun _ _=>by rw[sumL];exact Ag,fun _=>by rw[Ck];exact Ag,fun _ _=>by rw[termL];exact Ag,fun _=>by rw[C5];exact Ag,fun _=>by rw[D0];exact Ag,fun _ _=>by rw[callL];exact Ag,fun _=>by rw[Cr];exact Ag,fun _=>by rw[D1];exact Ag⟩
 | f+1=>by
  have ih:=JX S f
  refine⟨fun s=>?_,fun s=>?_,fun n s=>?_,fun s=>?_,fun n s=>?_,fun s=>?_,fun s=>?_,fun n s=>?_,fun s=>?_,fun s=>?_⟩
  ·rw[C0];(repeat (first | exact ih.expr _ | exact ih.sum _ | exact ih.sumL _ _ | exact ih.term _ | exact ih.termL _ _ | exact ih.unary _ | exact ih.call _ | exact ih.callL _ _ | exact ih.args _ | exact ih.prim _ | exact BE _ | exact Ag | exact BK _ _ _ | exact BL _ _ | exact BM _ _ _ _ _ | exact B8 _ _ (by decide) | refine BJ ?_ (fun _ _=>?_) | refine BF ?_ ?_))
  ·rw[Dc];(repeat (first | exact ih.expr _ | exact ih.sum _ | exact ih.sumL _ _ | exact ih.term _ | exact ih.termL _ _ | exact ih.unary _ | exact ih.call _ | exact ih.callL _ _ | exact ih.args _ | exact ih.prim _ | exact BE _ | exact Ag | exact BK _ _ _ | exact BL _ _ | exact BM _ _ _ _ _ | exact B8 _ _ (by decide) | refine BJ ?_ (fun _ _=>?_) | refine BF ?_ ?_))
  ·rw[sumL];(repeat (first | exact ih.expr _ | exact ih.sum _ | exact ih.sumL _ _ | exact ih.term _ | exact ih.termL _ _ | exact ih.unary _ | exact ih.call _ | exact ih.callL _ _ | exact ih.args _ | exact ih.prim _ | exact BE _ | exact Ag | exact BK _ _ _ | exact BL _ _ | exact BM _ _ _ _ _ | exact B8 _ _ (by decide) | refine BJ ?_ (fun _ _=>?_) | refine BF ?_ ?_))
  ·rw[Ck];(repeat (first | exact ih.expr _ | exact ih.sum _ | exact ih.sumL _ _ | exact ih.term _ | exact ih.termL _ _ | exact ih.unary _ | exact ih.call _ | exact ih.callL _ _ | exact ih.args _ | exact ih.prim _ | exact BE _ | exact Ag | exact BK _ _ _ | exact BL _ _ | exact BM _ _ _ _ _ | exact B8 _ _ (by decide) | refine BJ ?_ (fun _ _=>?_) | refine BF ?_ ?_))
  ·rw[termL];(repeat (first | exact ih.expr _ | exact ih.sum _ | exact ih.sumL _ _ | exact ih.term _ | exact ih.termL _ _ | exact ih.unary _ | exact ih.call _ | exact ih.callL _ _ | exact ih.args _ | exact ih.prim _ | exact BE _ | exact Ag | exact BK _ _ _ | exact BL _ _ | exact BM _ _ _ _ _ | exact B8 _ _ (by decide) | refine BJ ?_ (fun _ _=>?_) | refine BF ?_ ?_))
  ·rw[C5];(repeat (first | exact ih.expr _ | exact ih.sum _ | exact ih.sumL _ _ | exact ih.term _ | exact ih.termL _ _ | exact ih.unary _ | exact ih.call _ | exact ih.callL _ _ | exact ih.args _ | exact ih.prim _ | exact BE _ | exact Ag | exact BK _ _ _ | exact BL _ _ | exact BM _ _ _ _ _ | exact B8 _ _ (by decide) | refine BJ ?_ (fun _ _=>?_) | refine BF ?_ ?_))
  ·rw[D0];(repeat (first | exact ih.expr _ | exact ih.sum _ | exact ih.sumL _ _ | exact ih.term _ | exact ih.termL _ _ | exact ih.unary _ | exact ih.call _ | exact ih.callL _ _ | exact ih.args _ | exact ih.prim _ | exact BE _ | exact Ag | exact BK _ _ _ | exact BL _ _ | exact BM _ _ _ _ _ | exact B8 _ _ (by decide) | refine BJ ?_ (fun _ _=>?_) | refine BF ?_ ?_))
  ·rw[callL];(repeat (first | exact ih.expr _ | exact ih.sum _ | exact ih.sumL _ _ | exact ih.term _ | exact ih.termL _ _ | exact ih.unary _ | exact ih.call _ | exact ih.callL _ _ | exact ih.args _ | exact ih.prim _ | exact BE _ | exact Ag | exact BK _ _ _ | exact BL _ _ | exact BM _ _ _ _ _ | exact B8 _ _ (by decide) | refine BJ ?_ (fun _ _=>?_) | refine BF ?_ ?_))
  ·rw[Cr];(repeat (first | exact ih.expr _ | exact ih.sum _ | exact ih.sumL _ _ | exact ih.term _ | exact ih.termL _ _ | exact ih.unary _ | exact ih.call _ | exact ih.callL _ _ | exact ih.args _ | exact ih.prim _ | exact BE _ | exact Ag | exact BK _ _ _ | exact BL _ _ | exact BM _ _ _ _ _ | exact B8 _ _ (by decide) | refine BJ ?_ (fun _ _=>?_) | refine BF ?_ ?_))
  ·rw[D1];(repeat (first | exact ih.expr _ | exact ih.sum _ | exact ih.sumL _ _ | exact ih.term _ | exact ih.termL _ _ | exact ih.unary _ | exact ih.call _ | exact ih.callL _ _ | exact ih.args _ | exact ih.prim _ | exact BE _ | exact Ag | exact BK _ _ _ | exact BL _ _ | exact BM _ _ _ _ _ | exact B8 _ _ (by decide) | refine BJ ?_ (fun _ _=>?_) | refine BF ?_ ?_))
theorem Kh(S:Src9)(f:Nat)(k:Int)(s:PS):Bad (FG S f k s):=by
 have ih:=JX S f
 unfold FG;(repeat (first | exact ih.expr _ | exact BE _ | exact Ag | exact BK _ _ _ | exact BL _ _ | exact BM _ _ _ _ _ | exact B8 _ _ (by decide) | refine BJ ?_ (fun _ _=>?_) | refine BF ?_ ?_))
theorem M7(S:Src9)(f:Nat)(k:Int)(s:PS):Bad (Fv S f k s):=by
 have ih:=JX S f
 unfold Fv;(repeat (first | exact ih.expr _ | exact BE _ | exact Ag | exact BK _ _ _ | exact BL _ _ | exact BM _ _ _ _ _ | exact B8 _ _ (by decide) | refine BJ ?_ (fun _ _=>?_) | refine BF ?_ ?_))
theorem M8(S:Src9)(f:Nat)(k:Int)(s:PS):Bad (Gn S f k s):=by
 have ih:=JX S f
 unfold Gn;(repeat (first | exact ih.expr _ | exact BE _ | exact Ag | exact BK _ _ _ | exact BL _ _ | exact BM _ _ _ _ _ | exact B8 _ _ (by decide) | refine BJ ?_ (fun _ _=>?_) | refine BF ?_ ?_))
theorem Ki(S:Src9)(f:Nat)(s:PS):Bad (FH S f s):=by
 have ih:=JX S f
 unfold FH;(repeat (first | exact ih.expr _ | exact BE _ | exact Ag | exact BK _ _ _ | exact BL _ _ | exact BM _ _ _ _ _ | exact B8 _ _ (by decide) | refine BJ ?_ (fun _ _=>?_) | refine BF ?_ ?_))
structure V4(S:Src9)(f:Nat):Prop where
 block:∀s,Bad (Bj S f s)
 stmts:∀s,Bad (CJ S f s)
 stmt:∀s,Bad (D2 S f s)
theorem TS(S:Src9):∀f,V4 S f
 | 0=>⟨fun _=>by rw[Bj];exact Ag,fun _=>by rw[CJ];exact Ag,fun _=>by rw[D2];exact Ag⟩
 | f+1=>by
  have ih:=TS S f
  refine⟨fun s=>?_,fun s=>?_,fun s=>?_⟩
  ·rw[Bj];(repeat (first | exact ih.block _ | exact ih.stmts _ | exact ih.stmt _ | exact(JX S f).expr _ | exact Kh _ _ _ _ | exact M7 _ _ _ _ | exact M8 _ _ _ _ | exact Ki _ _ _ | exact BE _ | exact Ag | exact BK _ _ _ | exact BL _ _ | exact BM _ _ _ _ _ | exact B8 _ _ (by decide) | refine BJ ?_ (fun _ _=>?_) | refine BF ?_ ?_))
  ·rw[CJ];(repeat (first | exact ih.block _ | exact ih.stmts _ | exact ih.stmt _ | exact(JX S f).expr _ | exact Kh _ _ _ _ | exact M7 _ _ _ _ | exact M8 _ _ _ _ | exact Ki _ _ _ | exact BE _ | exact Ag | exact BK _ _ _ | exact BL _ _ | exact BM _ _ _ _ _ | exact B8 _ _ (by decide) | refine BJ ?_ (fun _ _=>?_) | refine BF ?_ ?_))
  ·rw[D2];(repeat (first | exact ih.block _ | exact ih.stmts _ | exact ih.stmt _ | exact(JX S f).expr _ | exact Kh _ _ _ _ | exact M7 _ _ _ _ | exact M8 _ _ _ _ | exact Ki _ _ _ | exact BE _ | exact Ag | exact BK _ _ _ | exact BL _ _ | exact BM _ _ _ _ _ | exact B8 _ _ (by decide) | refine BJ ?_ (fun _ _=>?_) | refine BF ?_ ?_))
theorem Ml(S:Src9):∀f s,Bad (C6 S f s)
 | 0,_=>by rw[C6];exact Ag
 | f+1,s=>by
  have ih:=Ml S f
  rw[C6];(repeat (first | exact ih _ | exact BE _ | exact Ag | exact BK _ _ _ | exact BL _ _ | exact BM _ _ _ _ _ | exact B8 _ _ (by decide) | refine BJ ?_ (fun _ _=>?_) | refine BF ?_ ?_))
theorem Qd(S:Src9)(f:Nat)(s:PS):Bad (Co S f s):=by
 unfold Co;(repeat (first | exact Ml _ _ _ | exact(TS S f).block _ | exact BE _ | exact Ag | exact BK _ _ _ | exact BL _ _ | exact BM _ _ _ _ _ | exact B8 _ _ (by decide) | refine BJ ?_ (fun _ _=>?_) | refine BF ?_ ?_))
theorem Mm(S:Src9):∀f s,Bad (Bi S f s)
 | 0,_=>by rw[Bi];exact Ag
 | f+1,s=>by
  have ih:=Mm S f
  rw[Bi];(repeat (first | exact ih _ | exact BE _ | exact Ag | exact BK _ _ _ | exact BL _ _ | exact BM _ _ _ _ _ | exact B8 _ _ (by decide) | refine BJ ?_ (fun _ _=>?_) | refine BF ?_ ?_))
theorem KG(S:Src9):∀f s,Bad (Ay S f s)
 | 0,_=>by rw[Ay];exact Ag
 | f+1,s=>by
  have ih:=KG S f
  rw[Ay];(repeat (first | exact ih _ | exact Qd _ _ _ | exact BE _ | exact Ag | exact BK _ _ _ | exact BL _ _ | exact BM _ _ _ _ _ | exact B8 _ _ (by decide) | refine BJ ?_ (fun _ _=>?_) | refine BF ?_ ?_))
theorem S8(S:Src9)(f:Nat)(s:PS):Bad (D7 S f s):=by
 unfold D7;(repeat (first | exact Mm _ _ _ | exact KG _ _ _ | exact BE _ | exact Ag | exact BK _ _ _ | exact BL _ _ | exact BM _ _ _ _ _ | exact B8 _ _ (by decide) | refine BJ ?_ (fun _ _=>?_) | refine BF ?_ ?_))
theorem KH(S:Src9):∀f s,Bad (BG S f s)
 | 0,_=>by rw[BG];exact Ag
 | f+1,s=>by
  have ih:=KH S f
  rw[BG];(repeat (first | exact ih _ | exact S8 _ _ _ | exact BE _ | exact Ag | exact BK _ _ _ | exact BL _ _ | exact BM _ _ _ _ _ | exact B8 _ _ (by decide) | refine BJ ?_ (fun _ _=>?_) | refine BF ?_ ?_))
theorem TT(S:Src9)(f:Nat)(s:PS):Bad (Et S f s):=by
 unfold Et;(repeat (first | exact KH _ _ _ | exact(TS S f).block _ | exact BE _ | exact Ag | exact BK _ _ _ | exact BL _ _ | exact BM _ _ _ _ _ | exact B8 _ _ (by decide) | refine BJ ?_ (fun _ _=>?_) | refine BF ?_ ?_))
end Go.Proofs.YtpfdgbalchmmfaaGreatDoor
