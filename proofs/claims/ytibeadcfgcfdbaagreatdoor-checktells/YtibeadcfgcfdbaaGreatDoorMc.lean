/- Texts in one. -/
import Derived.Test.YtibeadcfgcfdbaaGreatDoorMb
namespace Go.Proofs.YtibeadcfgcfdbaaGreatDoor
def RX(d:Int)(a:Nd)(la:List Tok):Prop:=∀(S:Src9) (s:PS) (x:List Int),s.deep<=d->Ar S s.tok la->Ar S (s.past la (A4 a)).tok (AB x)->(x=AQ\/x=AC\/x=Al)->AR S s=.ok (a,s.past la (A4 a))
theorem Ev{d:Int}{a:Nd}(h:Nat9 d a):∃la,(∀F,2*A4 a+1<=F->Ax F 0 a=some la)/\RX d a la:=by
 obtain⟨la,w,o⟩:=h
 refine⟨la,fun F hF=>?_,fun S s x hs ht hx he=>?_⟩
 ·obtain⟨G,rfl⟩:∃G,F=G+1:=⟨F-1,by omega⟩
  exact w G (by omega)
 ·refine o.r0 S s hs ht ?_
  rcases he with rfl | rfl | rfl<;>exact GI hx (fun _=>by decide) (fun _=>by decide) (fun _=>⟨by decide,by decide⟩) (fun _=>⟨by decide,by decide⟩)
theorem Dx{α:Type}{n:α}{st s:PS}{l:List Tok}{k:Nat}(h1:st.tok=s.tok+l.length)(h2:st.deep=s.deep)(h3:st.many=s.many+(k:Int)):(Except.ok (n,st):Got α)=.ok (n,s.past l k):=by
 obtain⟨a,b,c⟩:=st
 simp only at h1 h2 h3
 subst h1 h2 h3
 rfl
theorem M5{d:Int}{a:Nd}{la:List Tok}(h:RX d a la){S:Src9}{s:PS}(kind:Int){x:List Int}(hs:s.deep<=d)(ht:Ar S s.tok ([(1,x,0)]++(AB DU++(la++AB AQ)))):Cy S kind s=.ok (.mk kind x 0 [a],s.past ([(1,x,0)]++(AB DU++(la++AB AQ))) (1+A4 a)):=by
 obtain⟨t1,t'⟩:=AU ht
 obtain⟨t2,t'⟩:=AU t'
 obtain⟨t3,t4⟩:=AU t'
 unfold Cy
 rw[Eh t1]
 show(A3 S DU s.step).then _=_
 rw[FG (s:=s.step) t2 (by decide) (by decide)]
 show(AR S s.step.step).then _=_
 rw[h S s.step.step AQ hs t3 t4 (Or.inl rfl)]
 show(A3 S AQ (s.step.step.past la (A4 a))).then _=_
 rw[FG (s:=s.step.step.past la (A4 a)) t4 (by decide) (by decide)]
 refine Dx (st:=(s.step.step.past la (A4 a)).step.node) ?_ rfl ?_
 ·show s.tok+1+1+la.length+1=_
  simp only[Z1,Bp,List.length_singleton];omega
 ·show s.many+(A4 a:Int)+1=_
  push_cast;omega
theorem I7{d:Int}{a:Nd}{la:List Tok}(h:RX (d+1) a la)(hd:d+1<=20){S:Src9}{s:PS}(hs:s.deep<=d)(ht:Ar S s.tok (AB AE++(la++AB AC))):Bc S s=.ok (a,s.past (AB AE++(la++AB AC)) (A4 a)):=by
 obtain⟨t1,t'⟩:=AU ht
 obtain⟨t2,t3⟩:=AU t'
 unfold Bc
 rw[GT t1 (Or.inl rfl) (by omega)]
 show(AR S s.down).then _=_
 rw[h S s.down AC (show s.deep+1<=d+1 by omega) t2 t3 (Or.inr (Or.inl rfl))]
 show(A3 S AC (s.down.past la (A4 a))).then _=_
 rw[IM (s:=s.down.past la (A4 a)) t3 (Or.inl rfl)]
 refine Dx (st:=(s.down.past la (A4 a)).up) ?_ ?_ rfl
 ·show s.tok+1+la.length+1=_
  simp only[Z1,Bp];omega
 ·show s.deep+1-1=s.deep
  omega
theorem Tw(S:Src9)(kind:Int)(s:PS):D0 S kind s=(Bc S s).then fun k s=>(A3 S AQ s).then fun _ s=>AD kind [] 0 [k] s:=by
 unfold D0 Bc
 cases A3 S AE s with
 | error e=>rfl
 | ok p=>
  obtain⟨u,s1⟩:=p
  show(AR S s1).then _=((AR S s1).then _).then _
  cases AR S s1 with
  | error e=>rfl
  | ok p=>
   obtain⟨k,s2⟩:=p
   show(A3 S AC s2).then _=((A3 S AC s2).then _).then _
   cases A3 S AC s2 with
   | error e=>rfl
   | ok p=>rfl
theorem SM{d:Int}{a:Nd}{la:List Tok}(h:RX (d+1) a la)(hd:d+1<=20){S:Src9}{s:PS}(kind:Int)(hs:s.deep<=d)(ht:Ar S s.tok ((AB AE++(la++AB AC))++AB AQ)):D0 S kind s=.ok (.mk kind [] 0 [a],s.past ((AB AE++(la++AB AC))++AB AQ) (1+A4 a)):=by
 obtain⟨t1,t2⟩:=AU ht
 rw[Tw,I7 h hd hs t1]
 show(A3 S AQ (s.past (AB AE++(la++AB AC)) (A4 a))).then _=_
 rw[FG (s:=s.past (AB AE++(la++AB AC)) (A4 a)) t2 (by decide) (by decide)]
 refine Dx (st:=(s.past (AB AE++(la++AB AC)) (A4 a)).step.node) ?_ rfl ?_
 ·show s.tok+(AB AE++(la++AB AC)).length+1=_
  simp only[Z1,Bp];omega
 ·show s.many+(A4 a:Int)+1=_
  push_cast;omega
theorem SN{d:Int}{a b:Nd}{la lb:List Tok}(h:RX (d+1) a la)(h':RX (d+1) b lb)(hd:d+1<=20){S:Src9}{s:PS}(kind:Int)(hs:s.deep<=d)(ht:Ar S s.tok (AB AE++(la++(AB Al++(lb++(AB AC++AB AQ)))))):FQ S kind s=.ok (.mk kind [] 0 [a,b],s.past (AB AE++(la++(AB Al++(lb++(AB AC++AB AQ))))) (1+(A4 a+A4 b))):=by
 obtain⟨t1,t'⟩:=AU ht
 obtain⟨t2,t'⟩:=AU t'
 obtain⟨t3,t'⟩:=AU t'
 obtain⟨t4,t'⟩:=AU t'
 obtain⟨t5,t6⟩:=AU t'
 unfold FQ
 rw[GT t1 (Or.inl rfl) (by omega)]
 show(AR S s.down).then _=_
 rw[h S s.down Al (show s.deep+1<=d+1 by omega) t2 t3 (Or.inr (Or.inr rfl))]
 show(A3 S Al (s.down.past la (A4 a))).then _=_
 rw[FG (s:=s.down.past la (A4 a)) t3 (by decide) (by decide)]
 show(AR S (s.down.past la (A4 a)).step).then _=_
 rw[h' S (s.down.past la (A4 a)).step AC (show s.deep+1<=d+1 by omega) t4 t5 (Or.inr (Or.inl rfl))]
 show(A3 S AC ((s.down.past la (A4 a)).step.past lb (A4 b))).then _=_
 rw[IM (s:=(s.down.past la (A4 a)).step.past lb (A4 b)) t5 (Or.inl rfl)]
 show(A3 S AQ ((s.down.past la (A4 a)).step.past lb (A4 b)).up).then _=_
 rw[FG (s:=((s.down.past la (A4 a)).step.past lb (A4 b)).up) t6 (by decide) (by decide)]
 refine Dx (st:=((s.down.past la (A4 a)).step.past lb (A4 b)).up.step.node) ?_ ?_ ?_
 ·show s.tok+1+la.length+1+lb.length+1+1=_
  simp only[Z1,Bp];omega
 ·show s.deep+1-1=s.deep
  omega
 ·show s.many+(A4 a:Int)+(A4 b:Int)+1=_
  push_cast;omega
def VU(d:Int)(n:Nd)(l:List Tok):Prop:=∀(S:Src9) (s:PS),s.deep<=d->Ar S s.tok l->A1 S CU (s.past l (A4 n))=false->CO S s=.ok (n,s.past l (A4 n))
def Vz(d:Int)(n:Nd)(l:List Tok):Prop:=∀(S:Src9) (s:PS),s.deep<=d->Ar S s.tok l->AP S s=.ok (n,s.past l (A4 n))
def Fd(d:Int)(n:Nd):Prop:=∃l,(∀F,2*A4 n<=F->FD F n=some l)/\VU d n l
def Ja(d:Int)(n:Nd):Prop:=∃l,(∀F,2*A4 n<=F->FZ F n=some l)/\Vz d n l
theorem Oc{S:Src9}{s:PS}{x:List Int}{n:Nd}{s1:PS}(he:CO S s=.ok (n,s1))(h1:x=Av\/x=CU):A1 S x s=false:=by
 cases h:A1 S x s with
 | false=>rfl
 | true=>
  obtain⟨q,i1,i2⟩:=KB h
  rw[CJ]at he
  have hs:¬DD S s=true:=by unfold DD;rw[i1,Bool.false_and];decide
  have hx:AR S s=C7 S 12 s:=Ob h (by rcases h1 with rfl | rfl<;>decide)
  have nn:∀y,x≠y->¬A1 S y s=true:=fun y hy=>by rw[q,beq_eq_false_iff_ne.2 hy];decide
  rw[if_neg (nn _ (by rcases h1 with rfl | rfl<;>decide)),if_neg (nn _ (by rcases h1 with rfl | rfl<;>decide)),if_neg (nn _ (by rcases h1 with rfl | rfl<;>decide)),if_neg (nn _ (by rcases h1 with rfl | rfl<;>decide)),if_neg (nn _ (by rcases h1 with rfl | rfl<;>decide)),if_neg (nn _ (by rcases h1 with rfl | rfl<;>decide)),if_neg (nn _ (by rcases h1 with rfl | rfl<;>decide)),if_neg (nn _ (by rcases h1 with rfl | rfl<;>decide)),if_neg (nn _ (by rcases h1 with rfl | rfl<;>decide)),if_neg hs,hx]at he
  cases he
theorem KC{e:Int}:∀(ks:List Nd),(∀c∈ks,Fd e c)->∃l,(∀F,2*A5 ks<=F->Ea (ks.map (FD F))=some l)/\(∀(S:Src9) (s:PS),s.deep<=e->Ar S s.tok l->Ar S (s.past l (A5 ks)).tok (AB Av)->CI S s=.ok (ks,s.past l (A5 ks))/\A1 S CU s=false)
 | [],_=>by
  refine⟨[],fun F _=>rfl,fun S s hs ht hc=>?_⟩
  rw[show s.past [] (A5 [])=s from GR s]at hc⊢
  refine⟨?_,by rw[AV hc];decide⟩
  rw[IZ S s (by have:=ht.1;simp at this;omega),if_pos (As hc)]
 | c::ks,h=>by
  obtain⟨l,w,o⟩:=h c (Z7 ..)
  obtain⟨l2,w2,o2⟩:=KC ks fun x hx=>h x (Z8 _ hx)
  refine⟨l++l2,fun F hF=>?_,fun S s hs ht hc=>?_⟩
  ·show Ad (FD F c) (Ea (ks.map (FD F)))=_
   rw[BG]at hF
   rw[w F (by omega),w2 F (by omega)]
   rfl
  ·rw[BG]at hc⊢
   obtain⟨t1,t2⟩:=AU ht
   rw[<-DW]at hc⊢
   obtain⟨r2,el⟩:=o2 S (s.past l (A4 c)) hs t2 hc
   have r1:=o S s hs t1 el
   refine⟨?_,Oc r1 (Or.inr rfl)⟩
   rw[IZ S s (by have:=ht.1;omega),if_neg (by rw[Oc r1 (Or.inl rfl)];decide),r1]
   show(CI S (s.past l (A4 c))).then _=_
   rw[r2]
   rfl
theorem SO{d:Int}{ks:List Nd}(hd:d+1<=20)(h:∀c∈ks,Fd (d+1) c):Ja d (.mk 6 [] 0 ks):=by
 obtain⟨l,w,o⟩:=KC ks h
 have hsz:A4 (.mk 6 [] 0 ks)=1+A5 ks:=by conv=>lhs;unfold A4
 refine⟨AB Ao++(l++AB Av),fun F hF=>?_,fun S s hs ht=>?_⟩
 ·rw[hsz]at hF
  obtain⟨G,rfl⟩:∃G,F=G+1:=⟨F-1,by omega⟩
  rw[FZ,if_pos rfl,w G (by omega)]
  rfl
 ·obtain⟨t1,t'⟩:=AU ht
  obtain⟨t2,t3⟩:=AU t'
  rw[LX,GT t1 (Or.inr rfl) (by omega)]
  show(CI S s.down).then _=_
  obtain⟨r,_⟩:=o S s.down (show s.deep+1<=d+1 by omega) t2 t3
  rw[r]
  show(A3 S Av (s.down.past l (A5 ks))).then _=_
  rw[IM (s:=s.down.past l (A5 ks)) t3 (Or.inr rfl),hsz]
  refine Dx (st:=(s.down.past l (A5 ks)).up.node) ?_ ?_ ?_
  ·show s.tok+1+l.length+1=_
   simp only[Z1,Bp];omega
  ·show s.deep+1-1=s.deep
   omega
  ·show s.many+(A5 ks:Int)+1=_
   push_cast;omega
theorem Gf{x:List Int}(h:C8 x=true):D1 x=some [(1,x,0)]:=by unfold D1;rw[if_pos h]
theorem M6(k:Int)(x:List Int)(m:Int)(a b c:Nd):A4 (.mk k x m [a,b,c])=1+(A4 a+(A4 b+A4 c)):=rfl
theorem VV{d:Int}{a:Nd}{x:List Int}(hx:C8 x=true)(ha:Nat9 d a):Fd d (.mk 7 x 0 [a]):=by
 obtain⟨la,w,r⟩:=Ev ha
 refine⟨AB BD++([(1,x,0)]++(AB DU++(la++AB AQ))),fun F hF=>?_,fun S s hs ht _=>?_⟩
 ·rw[Dq]at hF
  obtain⟨G,rfl⟩:∃G,F=G+1:=⟨F-1,by omega⟩
  rw[FD]
  show(if(7:Int)=7 then _ else _)=_
  rw[if_pos rfl,Gf hx,w G (by omega)]
  simp[EZ,Ad]
 ·obtain⟨t1,t2⟩:=AU ht
  rw[CJ,if_pos (As t1),M5 r (s:=s.step) 7 hs t2,Dq]
  refine Dx ?_ rfl rfl
  show s.tok+1+_=_
  rw[Z1 (as:=AB BD),Bp];omega
theorem VW{d:Int}{a:Nd}{x:List Int}(hx:C8 x=true)(ha:Nat9 d a):Fd d (.mk 8 x 0 [a]):=by
 obtain⟨la,w,r⟩:=Ev ha
 refine⟨[(1,x,0)]++(AB DU++(la++AB AQ)),fun F hF=>?_,fun S s hs ht _=>?_⟩
 ·rw[Dq]at hF
  obtain⟨G,rfl⟩:∃G,F=G+1:=⟨F-1,by omega⟩
  rw[FD]
  show(if(8:Int)=7 then _ else _)=_
  rw[if_neg (by decide),if_pos rfl,Gf hx,w G (by omega)]
  simp[EZ,Ad]
 ·obtain⟨t1,t'⟩:=AU ht
  obtain⟨t2,_⟩:=AU t'
  have n:∀y,¬A1 S y s=true:=fun y=>by rw[Fc t1 (Or.inl rfl)];decide
  have hb:DD S s=true:=by
   obtain⟨k1,_,_⟩:=IL t1 1
   obtain⟨p1,_,p3⟩:=Et (s:=s.step) t2
   have p1':s.tok+1<S.L.length:=p1
   have p3':(S.at (s.tok+1)).2.1=DU:=p3
   unfold DD
   rw[k1,p3',decide_eq_true p1']
   rfl
  rw[CJ,if_neg (n _),if_neg (n _),if_neg (n _),if_neg (n _),if_neg (n _),if_neg (n _),if_neg (n _),if_neg (n _),if_neg (n _),if_pos hb,M5 r 8 hs ht]
  rfl
theorem R5{d:Int}{a:Nd}(ha:Nat9 d a):Fd d (.mk 11 [] 0 [a]):=by
 obtain⟨la,w,r⟩:=Ev ha
 refine⟨AB B3++(la++AB AQ),fun F hF=>?_,fun S s hs ht _=>?_⟩
 ·rw[Dq]at hF
  obtain⟨G,rfl⟩:∃G,F=G+1:=⟨F-1,by omega⟩
  rw[FD]
  show(if(11:Int)=7 then _ else _)=_
  rw[if_neg (by decide),if_neg (by decide),if_neg (by decide),if_neg (by decide),if_pos rfl,w G (by omega)]
  simp[EZ,Ad]
 ·obtain⟨t1,t'⟩:=AU ht
  obtain⟨t2,t3⟩:=AU t'
  rw[CJ,if_neg (by rw[AV t1];decide),if_neg (by rw[AV t1];decide),if_neg (by rw[AV t1];decide),if_pos (As t1),r S s.step AQ hs t2 t3 (Or.inl rfl)]
  show(A3 S AQ (s.step.past la (A4 a))).then _=_
  rw[FG (s:=s.step.past la (A4 a)) t3 (by decide) (by decide),Dq]
  refine Dx (st:=(s.step.past la (A4 a)).step.node) ?_ rfl ?_
  ·show s.tok+1+la.length+1=_
   simp only[Z1,Bp];omega
  ·show s.many+(A4 a:Int)+1=_
   push_cast;omega
theorem W3{S:Src9}{s s1:PS}{a:Nd}(he:AR S s=.ok (a,s1))(ht:Ar S s1.tok (AB AQ)):¬DD S s=true:=by
 intro hb
 unfold DD at hb
 simp only[Bool.and_eq_true,beq_iff_eq,decide_eq_true_eq]at hb
 obtain⟨h1,h2,h3⟩:=hb
 obtain⟨i1,i2⟩:=JN h1
 have n:∀y,¬A1 S y s=true:=fun y h=>by
  have:=(KB h).2.1
  rw[h1]at this;cases this
 have n2:isB S 2 s=false:=by
  unfold isB;rw[i2];simp
 have q:∀y,DU≠y->¬A1 S y s.step.node=true:=fun y hy h=>by
  unfold A1 at h
  simp only[Bool.and_eq_true,beq_iff_eq]at h
  have h3':(S.at s.step.node.tok).2.1=DU:=h3
  exact hy (h3'.symm.trans h.2.1)
 have e0:DB S s=.ok (.mk 31 (S.at s.tok).2.1 0 [],s.step.node):=by
  rw[Ft,if_neg (by rw[n2];decide),if_pos h1]
  unfold AW
  rw[if_pos h1]
  rfl
 have e1:E4 S s=.ok (.mk 31 (S.at s.tok).2.1 0 [],s.step.node):=by
  rw[JK,e0]
  show Cp S _ s.step.node=_
  rw[Gy,if_neg (q _ (by decide))]
 have e2:Aw S s=.ok (.mk 31 (S.at s.tok).2.1 0 [],s.step.node):=by rw[Fb,if_neg (n _),if_neg (n _),e1]
 have e3:BT S s=.ok (.mk 31 (S.at s.tok).2.1 0 [],s.step.node):=by
  rw[JJ,e2]
  show DK S _ s.step.node=_
  rw[Gx,if_neg (q _ (by decide))]
 have e4:Br S s=.ok (.mk 31 (S.at s.tok).2.1 0 [],s.step.node):=by
  rw[K7,e3]
  show Dj S _ s.step.node=_
  rw[Gw,if_neg (q _ (by decide)),if_neg (q _ (by decide))]
 have e5:AR S s=.ok (.mk 31 (S.at s.tok).2.1 0 [],s.step.node):=by
  rw[IK,e4]
  show(if _ then _ else _)=_
  rw[if_neg (q _ (by decide)),if_neg (q _ (by decide))]
 rw[e5]at he
 cases he
 have:=(Et ht).2.2
 have h3':(S.at s.step.node.tok).2.1=DU:=h3
 rw[h3']at this
 exact absurd this (by decide)
theorem Tx{d:Int}{a:Nd}(ha:Nat9 d a):Fd d (.mk 17 [] 0 [a]):=by
 obtain⟨la,w,r⟩:=Ev ha
 refine⟨la++AB AQ,fun F hF=>?_,fun S s hs ht _=>?_⟩
 ·rw[Dq]at hF
  obtain⟨G,rfl⟩:∃G,F=G+1:=⟨F-1,by omega⟩
  rw[FD]
  show(if(17:Int)=7 then _ else _)=_
  rw[if_neg (by decide),if_neg (by decide),if_neg (by decide),if_neg (by decide),if_neg (by decide),if_neg (by decide),if_neg (by decide),if_neg (by decide),if_neg (by decide),if_neg (by decide),if_pos rfl,w G (by omega)]
  rfl
 ·obtain⟨t2,t3⟩:=AU ht
  have e:=r S s AQ hs t2 t3 (Or.inl rfl)
  have n:∀y,(y≠B7/\y≠Es/\y≠D8/\y≠Cu/\y≠DQ/\y≠F2/\y≠AE)->¬A1 S y s=true:=fun y hy=>by rw[Lc e hy];decide
  rw[CJ,if_neg (n _ (by decide)),if_neg (n _ (by decide)),if_neg (n _ (by decide)),if_neg (n _ (by decide)),if_neg (n _ (by decide)),if_neg (n _ (by decide)),if_neg (n _ (by decide)),if_neg (n _ (by decide)),if_neg (n _ (by decide)),if_neg (W3 e t3),e]
  show(A3 S AQ (s.past la (A4 a))).then _=_
  rw[FG (s:=s.past la (A4 a)) t3 (by decide) (by decide),Dq]
  refine Dx (st:=(s.past la (A4 a)).step.node) ?_ rfl ?_
  ·show s.tok+la.length+1=_
   simp only[Z1,Bp];omega
  ·show s.many+(A4 a:Int)+1=_
   push_cast;omega
theorem VX{d:Int}{a:Nd}{k:Int}{x:List Int}(hk:(k=12/\x=BH)\/(k=14/\x=Cm)\/(k=15/\x=Bw))(hd:d+1<=20)(ha:Nat9 (d+1) a):Fd d (.mk k [] 0 [a]):=by
 obtain⟨la,w,r⟩:=Ev ha
 refine⟨AB x++((AB AE++(la++AB AC))++AB AQ),fun F hF=>?_,fun S s hs ht _=>?_⟩
 ·rw[Dq]at hF
  obtain⟨G,rfl⟩:∃G,F=G+1:=⟨F-1,by omega⟩
  have e:=w G (by omega)
  rw[FD]
  rcases hk with⟨rfl,rfl⟩ | ⟨rfl,rfl⟩ | ⟨rfl,rfl⟩
  ·show(if(12:Int)=7 then _ else _)=_
   rw[if_neg (by decide),if_neg (by decide),if_neg (by decide),if_neg (by decide),if_neg (by decide),if_pos rfl]
   simp[EZ,Ad,GF,e]
  ·show(if(14:Int)=7 then _ else _)=_
   rw[if_neg (by decide),if_neg (by decide),if_neg (by decide),if_neg (by decide),if_neg (by decide),if_neg (by decide),if_neg (by decide),if_pos rfl]
   simp[EZ,Ad,GF,e]
  ·show(if(15:Int)=7 then _ else _)=_
   rw[if_neg (by decide),if_neg (by decide),if_neg (by decide),if_neg (by decide),if_neg (by decide),if_neg (by decide),if_neg (by decide),if_neg (by decide),if_pos rfl]
   simp[EZ,Ad,GF,e]
 ·obtain⟨t1,t2⟩:=AU ht
  have g:=SM r hd (s:=s.step) k hs t2
  have fin:(Except.ok (Nd.mk k [] 0 [a],s.step.past ((AB AE++(la++AB AC))++AB AQ) (1+A4 a)):Got Nd)=.ok (.mk k [] 0 [a],s.past (AB x++((AB AE++(la++AB AC))++AB AQ)) (A4 (.mk k [] 0 [a]))):=by
   rw[Dq]
   refine Dx ?_ rfl rfl
   show s.tok+1+_=_
   rw[Z1 (as:=AB x),Bp];omega
  rw[<-fin,<-g,CJ]
  rcases hk with⟨rfl,rfl⟩ | ⟨rfl,rfl⟩ | ⟨rfl,rfl⟩
  ·rw[if_neg (by rw[AV t1];decide),if_neg (by rw[AV t1];decide),if_neg (by rw[AV t1];decide),if_neg (by rw[AV t1];decide),if_pos (As t1)]
  ·rw[if_neg (by rw[AV t1];decide),if_neg (by rw[AV t1];decide),if_neg (by rw[AV t1];decide),if_neg (by rw[AV t1];decide),if_neg (by rw[AV t1];decide),if_neg (by rw[AV t1];decide),if_pos (As t1)]
  ·rw[if_neg (by rw[AV t1];decide),if_neg (by rw[AV t1];decide),if_neg (by rw[AV t1];decide),if_neg (by rw[AV t1];decide),if_neg (by rw[AV t1];decide),if_neg (by rw[AV t1];decide),if_neg (by rw[AV t1];decide),if_pos (As t1)]
theorem VY{d:Int}{a b:Nd}(hd:d+1<=20)(ha:Nat9 (d+1) a)(hb:Nat9 (d+1) b):Fd d (.mk 16 [] 0 [a,b]):=by
 obtain⟨la,w,r⟩:=Ev ha
 obtain⟨lb,w2,r2⟩:=Ev hb
 refine⟨AB Dt++(AB AE++(la++(AB Al++(lb++(AB AC++AB AQ))))),fun F hF=>?_,fun S s hs ht _=>?_⟩
 ·rw[E9]at hF
  obtain⟨G,rfl⟩:∃G,F=G+1:=⟨F-1,by omega⟩
  have e:=w G (by omega)
  have e2:=w2 G (by omega)
  rw[FD]
  show(if(16:Int)=7 then _ else _)=_
  rw[if_neg (by decide),if_neg (by decide),if_neg (by decide),if_neg (by decide),if_neg (by decide),if_neg (by decide),if_neg (by decide),if_neg (by decide),if_neg (by decide),if_pos rfl]
  simp[EZ,Ad,e,e2]
 ·obtain⟨t1,t2⟩:=AU ht
  have g:=SN r r2 hd (s:=s.step) 16 hs t2
  rw[CJ,if_neg (by rw[AV t1];decide),if_neg (by rw[AV t1];decide),if_neg (by rw[AV t1];decide),if_neg (by rw[AV t1];decide),if_neg (by rw[AV t1];decide),if_neg (by rw[AV t1];decide),if_neg (by rw[AV t1];decide),if_neg (by rw[AV t1];decide),if_pos (As t1),g,E9]
  refine Dx ?_ rfl rfl
  show s.tok+1+_=_
  rw[Z1 (as:=AB Dt),Bp];omega
theorem Ty{d:Int}{b:Nd}(hb:Ja d b):Fd d (.mk 13 [] 0 [b]):=by
 obtain⟨lb,w,r⟩:=hb
 refine⟨AB CN++lb,fun F hF=>?_,fun S s hs ht _=>?_⟩
 ·rw[Dq]at hF
  obtain⟨G,rfl⟩:∃G,F=G+1:=⟨F-1,by omega⟩
  rw[FD]
  show(if(13:Int)=7 then _ else _)=_
  rw[if_neg (by decide),if_neg (by decide),if_neg (by decide),if_neg (by decide),if_neg (by decide),if_neg (by decide),if_pos rfl,w G (by omega)]
  rfl
 ·obtain⟨t1,t2⟩:=AU ht
  rw[CJ,if_neg (by rw[AV t1];decide),if_neg (by rw[AV t1];decide),if_neg (by rw[AV t1];decide),if_neg (by rw[AV t1];decide),if_neg (by rw[AV t1];decide),if_pos (As t1),r S s.step hs t2,Dq]
  refine Dx (st:=(s.step.past lb (A4 b)).node) ?_ rfl ?_
  ·show s.tok+1+lb.length=_
   rw[Z1,Bp];omega
  ·show s.many+(A4 b:Int)+1=_
   push_cast;omega
theorem SP{d:Int}{a b:Nd}(hd:d+1<=20)(ha:Nat9 (d+1) a)(hb:Ja d b):Fd d (.mk 10 [] 0 [a,b]):=by
 obtain⟨la,w,r⟩:=Ev ha
 obtain⟨lb,w2,r2⟩:=hb
 refine⟨AB B4++((AB AE++(la++AB AC))++lb),fun F hF=>?_,fun S s hs ht _=>?_⟩
 ·rw[E9]at hF
  obtain⟨G,rfl⟩:∃G,F=G+1:=⟨F-1,by omega⟩
  have e:=w G (by omega)
  have e2:=w2 G (by omega)
  rw[FD]
  show(if(10:Int)=7 then _ else _)=_
  rw[if_neg (by decide),if_neg (by decide),if_neg (by decide),if_pos rfl]
  simp[Ad,GF,e,e2]
 ·obtain⟨t1,t'⟩:=AU ht
  obtain⟨t2,t3⟩:=AU t'
  rw[CJ,if_neg (by rw[AV t1];decide),if_neg (by rw[AV t1];decide),if_pos (As t1),I7 r hd (s:=s.step) hs t2]
  show(AP S (s.step.past (AB AE++(la++AB AC)) (A4 a))).then _=_
  rw[r2 S (s.step.past (AB AE++(la++AB AC)) (A4 a)) hs t3,E9]
  refine Dx (st:=((s.step.past (AB AE++(la++AB AC)) (A4 a)).past lb (A4 b)).node) ?_ rfl ?_
  ·show s.tok+1+(AB AE++(la++AB AC)).length+lb.length=_
   rw[Z1 (as:=AB B4),Z1 (bs:=lb),Bp];omega
  ·show s.many+(A4 a:Int)+(A4 b:Int)+1=_
   push_cast;omega
theorem W4{d:Int}{a b:Nd}(hd:d+1<=20)(ha:Nat9 (d+1) a)(hb:Ja d b):Fd d (.mk 9 [] 0 [a,b]):=by
 obtain⟨la,w,r⟩:=Ev ha
 obtain⟨lb,w2,r2⟩:=hb
 refine⟨AB wIf++((AB AE++(la++AB AC))++lb),fun F hF=>?_,fun S s hs ht hel=>?_⟩
 ·rw[E9]at hF
  obtain⟨G,rfl⟩:∃G,F=G+1:=⟨F-1,by omega⟩
  have e:=w G (by omega)
  have e2:=w2 G (by omega)
  rw[FD]
  show(if(9:Int)=7 then _ else _)=_
  rw[if_neg (by decide),if_neg (by decide),if_pos rfl]
  simp[Ad,GF,e,e2]
 ·obtain⟨t1,t'⟩:=AU ht
  obtain⟨t2,t3⟩:=AU t'
  have fin:((s.step.past (AB AE++(la++AB AC)) (A4 a)).past lb (A4 b)).node=s.past (AB wIf++((AB AE++(la++AB AC))++lb)) (1+(A4 a+A4 b)):=by
   rw[GQ _ wIf,DW,DW,NQ]
   simp only[List.append_assoc]
   congr 1
   omega
  rw[E9]at hel⊢
  rw[<-fin]at hel⊢
  rw[CJ,if_neg (by rw[AV t1];decide),if_pos (As t1),I7 r hd (s:=s.step) hs t2]
  show(AP S (s.step.past (AB AE++(la++AB AC)) (A4 a))).then _=_
  rw[r2 S (s.step.past (AB AE++(la++AB AC)) (A4 a)) hs t3]
  show(if A1 S CU ((s.step.past (AB AE++(la++AB AC)) (A4 a)).past lb (A4 b))=true then _ else _)=_
  have hel':A1 S CU ((s.step.past (AB AE++(la++AB AC)) (A4 a)).past lb (A4 b))=false:=hel
  rw[if_neg (by rw[hel'];decide)]
  rfl
theorem Tz{d:Int}{a b c:Nd}(hd:d+1<=20)(ha:Nat9 (d+1) a)(hb:Ja d b)(hc:Ja d c):Fd d (.mk 9 [] 0 [a,b,c]):=by
 obtain⟨la,w,r⟩:=Ev ha
 obtain⟨lb,w2,r2⟩:=hb
 obtain⟨lc,w3,r3⟩:=hc
 refine⟨AB wIf++((AB AE++(la++AB AC))++(lb++(AB CU++lc))),fun F hF=>?_,fun S s hs ht _=>?_⟩
 ·rw[M6]at hF
  obtain⟨G,rfl⟩:∃G,F=G+1:=⟨F-1,by omega⟩
  have e:=w G (by omega)
  have e2:=w2 G (by omega)
  have e3:=w3 G (by omega)
  rw[FD]
  show(if(9:Int)=7 then _ else _)=_
  rw[if_neg (by decide),if_neg (by decide),if_pos rfl]
  simp[Ad,GF,e,e2,e3]
 ·obtain⟨t1,t'⟩:=AU ht
  obtain⟨t2,t'⟩:=AU t'
  obtain⟨t3,t'⟩:=AU t'
  obtain⟨t4,t5⟩:=AU t'
  have fin:(((s.step.past (AB AE++(la++AB AC)) (A4 a)).past lb (A4 b)).step.past lc (A4 c)).node=s.past (AB wIf++((AB AE++(la++AB AC))++(lb++(AB CU++lc)))) (1+(A4 a+(A4 b+A4 c))):=by
   rw[GQ s wIf,GQ _ CU,DW,DW,DW,DW,NQ]
   simp only[List.append_assoc]
   congr 1
   omega
  rw[M6,<-fin,CJ,if_neg (by rw[AV t1];decide),if_pos (As t1),I7 r hd (s:=s.step) hs t2]
  show(AP S (s.step.past (AB AE++(la++AB AC)) (A4 a))).then _=_
  rw[r2 S (s.step.past (AB AE++(la++AB AC)) (A4 a)) hs t3]
  have t4':Ar S ((s.step.past (AB AE++(la++AB AC)) (A4 a)).past lb (A4 b)).tok (AB CU):=t4
  show(if A1 S CU ((s.step.past (AB AE++(la++AB AC)) (A4 a)).past lb (A4 b))=true then _ else _)=_
  rw[if_pos (As t4'),r3 S ((s.step.past (AB AE++(la++AB AC)) (A4 a)).past lb (A4 b)).step hs t5]
  rfl
def RdP(P:Int->Nd->Prop)(s:PS)(n:Nd)(s':PS):Prop:=s'.deep=s.deep/\s'.many=s.many+(A4 n:Int)/\P s.deep n
theorem EA{P:Int->Nd->Prop}{s s1 s':PS}{kind num:Int}{x:List Int}{ks:List Nd}{n:Nd}(h:AD kind x num ks s1=.ok (n,s'))(h1:s1.deep=s.deep)(h2:s1.many=s.many+(A5 ks:Int))(h3:P s.deep (.mk kind x num ks)):RdP P s n s':=by
 cases h
 refine⟨h1,?_,h3⟩
 have e:A4 (.mk kind x num ks)=1+A5 ks:=by conv=>lhs;unfold A4
 rw[e]
 show s1.many+1=_
 push_cast;omega
theorem Dy(a:Nd):A5 [a]=A4 a:=by rw[BG];rfl
theorem Ij(a b:Nd):A5 [a,b]=A4 a+A4 b:=by rw[BG,Dy]
theorem Ps(a b c:Nd):A5 [a,b,c]=A4 a+(A4 b+A4 c):=by rw[BG,Ij]
theorem H3{S:Src9}(hS:S.good){f:Nat}{s s':PS}{n:Nd}(h:CV S f s=.ok (n,s')):s'.deep=s.deep/\s'.many=s.many+(A4 n:Int)/\Nat9 s.deep n:=by
 obtain⟨a,b,c⟩:=(kept hS f).expr _ _ _ h
 exact⟨a,b,c.nat⟩
theorem Qd{S:Src9}(hS:S.good){f:Nat}{kind:Int}{s s':PS}{n:Nd}(h:Fp S f kind s=.ok (n,s'))(hk:kind=7\/kind=8):RdP Fd s n s':=by
 unfold Fp at h
 obtain⟨x,s1,hx,h⟩:=A6 h
 obtain⟨nx,rfl⟩:=Dc hS hx
 obtain⟨u,s2,hu,h⟩:=A6 h
 obtain rfl:=(Bx hu).2.2 (by decide) (by decide)
 obtain⟨a,s3,ha,h⟩:=A6 h
 obtain⟨d1,m1,k1⟩:=H3 hS ha
 obtain⟨v,s4,hv,h⟩:=A6 h
 obtain rfl:=(Bx hv).2.2 (by decide) (by decide)
 refine EA h d1 (by rw[Dy];exact m1) ?_
 rcases hk with rfl | rfl
 ·exact VV nx k1
 ·exact VW nx k1
theorem Qe{S:Src9}(hS:S.good){f:Nat}{s s':PS}{n:Nd}(h:Fq S f s=.ok (n,s')):s'.deep=s.deep/\s'.many=s.many+(A4 n:Int)/\s.deep+1<=20/\Nat9 (s.deep+1) n:=by
 unfold Fq at h
 obtain⟨u,s1,hu,h⟩:=A6 h
 obtain⟨rfl,hd⟩:=(Bx hu).1 (Or.inl rfl)
 obtain⟨a,s2,ha,h⟩:=A6 h
 obtain⟨d1,m1,k1⟩:=H3 hS ha
 obtain⟨v,s3,hv,h⟩:=A6 h
 obtain rfl:=(Bx hv).2.1 (Or.inl rfl)
 cases h
 have e1:s.down.deep=s.deep+1:=rfl
 exact⟨by show s2.deep-1=s.deep;omega,m1,hd,k1⟩
theorem Od{S:Src9}(hS:S.good){f:Nat}{kind:Int}{s s':PS}{n:Nd}(h:Gc S f kind s=.ok (n,s')){x:List Int}(hk:(kind=12/\x=BH)\/(kind=14/\x=Cm)\/(kind=15/\x=Bw)):RdP Fd s n s':=by
 unfold Gc at h
 obtain⟨u,s1,hu,h⟩:=A6 h
 obtain⟨rfl,hd⟩:=(Bx hu).1 (Or.inl rfl)
 obtain⟨a,s2,ha,h⟩:=A6 h
 obtain⟨d1,m1,k1⟩:=H3 hS ha
 obtain⟨v,s3,hv,h⟩:=A6 h
 obtain rfl:=(Bx hv).2.1 (Or.inl rfl)
 obtain⟨t,s4,ht,h⟩:=A6 h
 obtain rfl:=(Bx ht).2.2 (by decide) (by decide)
 have e1:s.down.deep=s.deep+1:=rfl
 exact EA h (by show s2.deep-1=s.deep;omega) (by rw[Dy];exact m1) (VX hk hd k1)
theorem W5{S:Src9}(hS:S.good){f:Nat}{s s':PS}{n:Nd}(h:Hy S f 16 s=.ok (n,s')):RdP Fd s n s':=by
 unfold Hy at h
 obtain⟨u,s1,hu,h⟩:=A6 h
 obtain⟨rfl,hd⟩:=(Bx hu).1 (Or.inl rfl)
 obtain⟨a,s2,ha,h⟩:=A6 h
 obtain⟨d1,m1,k1⟩:=H3 hS ha
 obtain⟨w,s3,hw,h⟩:=A6 h
 obtain rfl:=(Bx hw).2.2 (by decide) (by decide)
 obtain⟨b,s4,hb,h⟩:=A6 h
 obtain⟨d2,m2,k2⟩:=H3 hS hb
 obtain⟨v,s5,hv,h⟩:=A6 h
 obtain rfl:=(Bx hv).2.1 (Or.inl rfl)
 obtain⟨t,s6,ht,h⟩:=A6 h
 obtain rfl:=(Bx ht).2.2 (by decide) (by decide)
 have e1:s.down.deep=s.deep+1:=rfl
 have e2:s2.step.deep=s2.deep:=rfl
 have e3:s2.step.many=s2.many:=rfl
 have e4:s.down.many=s.many:=rfl
 rw[e2,d1,e1]at k2
 exact EA h (by show s4.deep-1=s.deep;omega) (by rw[Ij];show s4.many=_;push_cast;omega) (VY hd k1 k2)
structure WV(S:Src9)(f:Nat):Prop where
 block:∀s n s',Bz S f s=.ok (n,s')->RdP Ja s n s'
 stmts:∀s ks s',Cv S f s=.ok (ks,s')->s'.deep=s.deep/\s'.many=s.many+(A5 ks:Int)/\∀c∈ks,Fd s.deep c
 stmt:∀s n s',Di S f s=.ok (n,s')->RdP Fd s n s'
theorem kept2{S:Src9}(hS:S.good):∀f,WV S f
 | 0=>by
  constructor
  ·intro s n s' h;rw[Bz]at h;exact Bl h
  ·intro s n s' h;rw[Cv]at h;exact Bl h
  ·intro s n s' h;rw[Di]at h;exact Bl h
 | f+1=>by
  have I:=kept2 hS f
  constructor
  ·intro s n s' h
   rw[Bz]at h
   obtain⟨u,s1,hu,h⟩:=A6 h
   obtain⟨rfl,hd⟩:=(Bx hu).1 (Or.inr rfl)
   obtain⟨ks,s2,hk,h⟩:=A6 h
   obtain⟨d1,m1,k1⟩:=I.stmts _ _ _ hk
   obtain⟨v,s3,hv,h⟩:=A6 h
   obtain rfl:=(Bx hv).2.1 (Or.inr rfl)
   have e1:s.down.deep=s.deep+1:=rfl
   exact EA h (by show s2.deep-1=s.deep;omega) m1 (SO hd k1)
  ·intro s ks s' h
   rw[Cv]at h
   split at h
   ·cases h
    exact⟨rfl,by show s.many=s.many+0;omega,fun c hc=>by cases hc⟩
   ·obtain⟨k,s1,hk,h⟩:=A6 h
    obtain⟨d1,m1,k1⟩:=I.stmt _ _ _ hk
    obtain⟨ls,s2,hl,h⟩:=A6 h
    obtain⟨d2,m2,k2⟩:=I.stmts _ _ _ hl
    cases h
    rw[d1]at d2 k2
    refine⟨d2,by rw[BG];push_cast;omega,fun c hc=>?_⟩
    rcases List.mem_cons.1 hc with rfl | hc
    ·exact k1
    ·exact k2 c hc
  ·intro s n s' h
   rw[Di]at h
   have e2:s.step.many=s.many:=rfl
   split at h
   ·exact Qd (s:=s.step) hS h (Or.inl rfl)
   split at h
   ·obtain⟨a,s1,ha,h⟩:=A6 h
    obtain⟨d1,m1,hd,k1⟩:=Qe hS ha
    have d1':s1.deep=s.deep:=d1
    obtain⟨b,s2,hb,h⟩:=A6 h
    obtain⟨d2,m2,k2⟩:=I.block _ _ _ hb
    rw[d1']at d2 k2
    split at h
    ·obtain⟨c,s3,hc,h⟩:=A6 h
     obtain⟨d3,m3,k3⟩:=I.block _ _ _ hc
     have d2':s2.step.deep=s.deep:=d2
     have e3:s2.step.many=s2.many:=rfl
     rw[d2']at d3 k3
     exact EA h d3 (by rw[Ps];push_cast;omega) (Tz hd k1 k2 k3)
    ·exact EA h d2 (by rw[Ij];push_cast;omega) (W4 hd k1 k2)
   split at h
   ·obtain⟨a,s1,ha,h⟩:=A6 h
    obtain⟨d1,m1,hd,k1⟩:=Qe hS ha
    have d1':s1.deep=s.deep:=d1
    obtain⟨b,s2,hb,h⟩:=A6 h
    obtain⟨d2,m2,k2⟩:=I.block _ _ _ hb
    rw[d1']at d2 k2
    exact EA h d2 (by rw[Ij];push_cast;omega) (SP hd k1 k2)
   split at h
   ·obtain⟨a,s1,ha,h⟩:=A6 h
    obtain⟨d1,m1,k1⟩:=H3 hS ha
    obtain⟨v,s2,hv,h⟩:=A6 h
    obtain rfl:=(Bx hv).2.2 (by decide) (by decide)
    exact EA (s:=s) h d1 (by rw[Dy];exact m1) (R5 k1)
   split at h
   ·exact Od (s:=s.step) hS h (Or.inl ⟨rfl,rfl⟩)
   split at h
   ·obtain⟨b,s2,hb,h⟩:=A6 h
    obtain⟨d2,m2,k2⟩:=I.block _ _ _ hb
    exact EA (s:=s) h d2 (by rw[Dy];exact m2) (Ty k2)
   split at h
   ·exact Od (s:=s.step) hS h (Or.inr (Or.inl ⟨rfl,rfl⟩))
   split at h
   ·exact Od (s:=s.step) hS h (Or.inr (Or.inr ⟨rfl,rfl⟩))
   split at h
   ·exact W5 (s:=s.step) hS h
   split at h
   ·exact Qd (s:=s) hS h (Or.inr rfl)
   ·obtain⟨a,s1,ha,h⟩:=A6 h
    obtain⟨d1,m1,k1⟩:=H3 hS ha
    obtain⟨v,s2,hv,h⟩:=A6 h
    obtain rfl:=(Bx hv).2.2 (by decide) (by decide)
    exact EA (s:=s) h d1 (by rw[Dy];exact m1) (Tx k1)
theorem R6(a b c:Option (List Tok)):Ad (Ad a b) c=Ad a (Ad b c):=by
 cases a<;>cases b<;>cases c<;>simp[Ad]
theorem Oe:∀(a b:List (Option (List Tok))),Ea (a++b)=Ad (Ea a) (Ea b)
 | [],b=>by
  show Ea b=Ad (some []) (Ea b)
  cases Ea b<;>rfl
 | x::a,b=>by
  show Ad x (Ea (a++b))=Ad (Ad x (Ea a)) (Ea b)
  rw[Oe a b,R6]
theorem CT:∀(a b:List Nd),A5 (a++b)=A5 a+A5 b
 | [],b=>by show A5 b=0+A5 b;omega
 | x::a,b=>by show A4 x+A5 (a++b)=A4 x+A5 a+A5 b;rw[CT a b];omega
theorem Ko(k:Int)(x:List Int)(m:Int)(ks:List Nd):A4 (.mk k x m ks)=1+A5 ks:=by conv=>lhs;unfold A4
def Ld(c:Nd):Prop:=∃x,C8 x=true/\c=.mk 5 x 0 []
theorem KD:∀(ks:List Nd) (b:Nd),(∀c∈b::ks,Ld c)->∃l,G5 ((b::ks).map fun a=>D1 a.text)=some l/\(∀(S:Src9) (s:PS) (f:Nat),12*S.left s+1<=f->Ar S s.tok l->Ar S (s.past l (A5 (b::ks))).tok (AB AC)->Cb S f s=.ok (b::ks,s.past l (A5 (b::ks)))/\A1 S AC s=false)
 | [],b,h=>by
  obtain⟨x,hx,rfl⟩:=h b (Z7 ..)
  refine⟨[(1,x,0)],Gf hx,fun S s f hf ht hc=>?_⟩
  obtain⟨g,rfl⟩:∃g,f=g+1:=⟨f-1,by omega⟩
  refine⟨?_,Fc ht (Or.inl rfl) _⟩
  rw[Cb,Eh ht]
  show(if A1 S Al s.step.node=true then _ else _)=_
  have hc':Ar S s.step.node.tok (AB AC):=hc
  rw[if_neg (by rw[AV hc'];decide)]
  rfl
 | c::ks,b,h=>by
  obtain⟨x,hx,rfl⟩:=h b (Z7 ..)
  obtain⟨l2,w2,o2⟩:=KD ks c fun y hy=>h y (Z8 _ hy)
  refine⟨[(1,x,0)]++(AB Al++l2),?_,fun S s f hf ht hc=>?_⟩
  ·show Ad (D1 x) (Ad (some (AB Al)) (G5 ((c::ks).map fun a=>D1 a.text)))=_
   rw[Gf hx,w2];rfl
  ·obtain⟨g,rfl⟩:∃g,f=g+1:=⟨f-1,by omega⟩
   obtain⟨t1,t'⟩:=AU ht
   obtain⟨t2,t3⟩:=AU t'
   refine⟨?_,Fc t1 (Or.inl rfl) _⟩
   have t2':Ar S s.step.node.tok (AB Al):=t2
   have t3':Ar S s.step.node.step.tok l2:=t3
   have e:s.step.node.step.past l2 (A5 (c::ks))=s.past ([(1,x,0)]++(AB Al++l2)) (A5 (.mk 5 x 0 []::c::ks)):=by
    rw[BG (.mk 5 x 0 []) (c::ks),Hn]
    unfold PS.past PS.step PS.node
    simp only[Z1,Bp,List.length_singleton,PS.mk.injEq,true_and]
    exact⟨by omega,by push_cast;omega⟩
   rw[<-e]at hc⊢
   have hl:S.left s.step.node.step+2<=S.left s:=by
    have:=(Et (s:=s.step.node) t2').1
    have h1:s.step.node.tok=s.tok+1:=rfl
    have h2:s.step.node.step.tok=s.tok+2:=rfl
    unfold Src9.left
    omega
   obtain⟨r,_⟩:=o2 S s.step.node.step g (by omega) t3' hc
   rw[Cb,Eh t1]
   show(if A1 S Al s.step.node=true then _ else _)=_
   rw[if_pos (As t2'),r]
   rfl
theorem SQ(ks:List Nd)(h:∀c∈ks,Ld c):∃l,G5 (ks.map fun a=>D1 a.text)=some l/\(∀(S:Src9) (s:PS) (f:Nat),12*S.left s+1<=f->Ar S s.tok l->Ar S (s.past l (A5 ks)).tok (AB AC)->(if A1 S AC s=true then Except.ok ([],s)else Cb S f s)=.ok (ks,s.past l (A5 ks))):=by
 cases ks with
 | nil=>
  refine⟨[],rfl,fun S s f _ _ hc=>?_⟩
  rw[show s.past [] (A5 [])=s from GR s]at hc⊢
  rw[if_pos (As hc)]
 | cons b ks=>
  obtain⟨l,w,o⟩:=KD ks b h
  refine⟨l,w,fun S s f hf ht hc=>?_⟩
  obtain⟨o1,o2⟩:=o S s f hf ht hc
  rw[if_neg (by rw[o2];decide),o1]
def N0(d:Int)(n:Nd):Prop:=n.kind=4/\∃l,(∀F,2*A4 n<=F->FO F n=some (AB wTo++l))/\∀(S:Src9) (s:PS) (f:Nat),12*S.left s+10<=f->s.deep<=d->Ar S s.tok l->DI S f s=.ok (n,s.past l (A4 n))
theorem R7{d:Int}{x:List Int}{ks:List Nd}{b:Nd}(hx:C8 x=true)(hd:d+1<=20)(hk:∀c∈ks,Ld c)(hb:Ja d b):N0 d (.mk 4 x (ks.length:Int) (ks++[b])):=by
 obtain⟨la,wa,ra⟩:=SQ ks hk
 obtain⟨lb,wb,rb⟩:=hb
 have hsz:A4 (.mk 4 x (ks.length:Int) (ks++[b]))=1+(A5 ks+A4 b):=by rw[Ko,CT,Dy]
 refine⟨rfl,[(1,x,0)]++(AB AE++(la++(AB AC++lb))),fun F hF=>?_,fun S s f hf hs ht=>?_⟩
 ·rw[hsz]at hF
  have e:=wb F (by omega)
  unfold FO
  rw[if_neg (by show ¬(4:Int)=3;decide),if_pos (show(Nd.mk 4 x (ks.length:Int) (ks++[b])).kind=4 from rfl)]
  show(match (ks++[b]).getLast? with | some b=>_ | none=>_)=_
  rw[List.getLast?_concat]
  show Ad (some (AB wTo)) (Ad (D1 x) (Ad (some (AB AE)) (Ad (R3 (ks++[b])) (Ad (some (AB AC)) (FZ F b)))))=_
  unfold R3
  rw[List.dropLast_concat,wa,Gf hx,e]
  rfl
 ·obtain⟨t1,t'⟩:=AU ht
  obtain⟨t2,t'⟩:=AU t'
  obtain⟨t3,t'⟩:=AU t'
  obtain⟨t4,t5⟩:=AU t'
  have t2':Ar S s.step.tok (AB AE):=t2
  have t3':Ar S s.step.down.tok la:=t3
  have t4':Ar S (s.step.down.past la (A5 ks)).tok (AB AC):=t4
  have t5':Ar S (s.step.down.past la (A5 ks)).up.tok lb:=t5
  have l1:=Aj (S:=S) (s:=s) (s':=s.step.down) (by show s.tok<=s.tok+1+1;omega)
  have l2:=Aj (S:=S) (s:=s) (s':=(s.step.down.past la (A5 ks)).up) (by show s.tok<=s.tok+1+1+la.length+1;omega)
  unfold DI
  rw[Eh t1]
  show(A3 S AE s.step).then _=_
  rw[GT t2' (Or.inl rfl) (by show s.deep+1<=20;omega)]
  show Got.then (if A1 S AC s.step.down=true then Except.ok ([],_)else Cb S f _) _=_
  rw[ra S s.step.down f (by omega) t3' t4']
  show(A3 S AC (s.step.down.past la (A5 ks))).then _=_
  rw[IM t4' (Or.inl rfl)]
  show(Bz S f (s.step.down.past la (A5 ks)).up).then _=_
  rw[Fu (by omega),rb S _ (show s.deep+1-1<=d by omega) t5',hsz]
  refine Dx (st:=((s.step.down.past la (A5 ks)).up.past lb (A4 b)).node) ?_ ?_ ?_
  ·show s.tok+1+1+la.length+1+lb.length=_
   simp only[Z1,Bp,List.length_singleton];omega
  ·show s.deep+1-1=s.deep
   omega
  ·show s.many+(A5 ks:Int)+(A4 b:Int)+1=_
   push_cast;omega
def SlotN(c:Nd):Prop:=∃x,C8 x=true/\c=.mk 3 x 0 []
theorem KE:∀(ks:List Nd),(∀c∈ks,SlotN c)->∃l,(∀F,Ea (ks.map (FO F))=some l)/\(∀(S:Src9) (s:PS) (f:Nat),12*S.left s+1<=f->Ar S s.tok l->A1 S FC (s.past l (A5 ks))=false->Bo S f s=.ok (ks,s.past l (A5 ks)))
 | [],_=>by
  refine⟨[],fun F=>rfl,fun S s f hf ht hc=>?_⟩
  obtain⟨g,rfl⟩:∃g,f=g+1:=⟨f-1,by omega⟩
  rw[show s.past [] (A5 [])=s from GR s]at hc⊢
  rw[Bo,if_neg (by rw[hc];decide)]
 | c::ks,h=>by
  obtain⟨x,hx,rfl⟩:=h c (Z7 ..)
  obtain⟨l2,w2,o2⟩:=KE ks fun y hy=>h y (Z8 _ hy)
  refine⟨AB FC++([(1,x,0)]++(AB AQ++l2)),fun F=>?_,fun S s f hf ht hc=>?_⟩
  ·show Ad (FO F (.mk 3 x 0 [])) (Ea (ks.map (FO F)))=_
   rw[w2 F]
   unfold FO
   rw[if_pos (show(Nd.mk 3 x 0 []).kind=3 from rfl)]
   show Ad (EZ (Ad (some (AB FC)) (D1 x))) _=_
   rw[Gf hx]
   simp[EZ,Ad]
  ·obtain⟨g,rfl⟩:∃g,f=g+1:=⟨f-1,by omega⟩
   obtain⟨t1,t'⟩:=AU ht
   obtain⟨t2,t'⟩:=AU t'
   obtain⟨t3,t4⟩:=AU t'
   have t2':Ar S s.step.tok [(1,x,0)]:=t2
   have t3':Ar S s.step.step.tok (AB AQ):=t3
   have t4':Ar S s.step.step.step.node.tok l2:=t4
   have e:s.step.step.step.node.past l2 (A5 ks)=s.past (AB FC++([(1,x,0)]++(AB AQ++l2))) (A5 (.mk 3 x 0 []::ks)):=by
    rw[BG,Hn]
    unfold PS.past PS.step PS.node
    simp only[Z1,Bp,List.length_singleton,PS.mk.injEq,true_and]
    exact⟨by omega,by push_cast;omega⟩
   rw[<-e]at hc⊢
   have hl:=AF (S:=S) (s:=s) (s':=s.step.step.step.node) (Et t1).1 (by show s.tok+1<=s.tok+1+1+1;omega)
   rw[Bo,if_pos (As t1),Eh t2']
   show(A3 S AQ s.step.step).then _=_
   rw[FG t3' (by decide) (by decide)]
   show(Bo S g s.step.step.step.node).then _=_
   rw[o2 S _ g (by omega) t4' hc]
   rfl
theorem JO{d:Int}:∀(ks:List Nd),(∀c∈ks,N0 d c)->∃l,(∀F,2*A5 ks<=F->Ea (ks.map (FO F))=some l)/\(∀(S:Src9) (s:PS) (f:Nat),12*S.left s+1<=f->s.deep<=d->Ar S s.tok l->Ar S (s.past l (A5 ks)).tok (AB Av)->B6 S f s=.ok (ks,s.past l (A5 ks))/\A1 S FC s=false)
 | [],_=>by
  refine⟨[],fun F _=>rfl,fun S s f hf _ ht hc=>?_⟩
  obtain⟨g,rfl⟩:∃g,f=g+1:=⟨f-1,by omega⟩
  rw[show s.past [] (A5 [])=s from GR s]at hc⊢
  refine⟨?_,by rw[AV hc];decide⟩
  rw[B6,if_neg (by rw[AV hc];decide)]
 | c::ks,h=>by
  obtain⟨_,l,w,o⟩:=h c (Z7 ..)
  obtain⟨l2,w2,o2⟩:=JO ks fun y hy=>h y (Z8 _ hy)
  refine⟨AB wTo++(l++l2),fun F hF=>?_,fun S s f hf hs ht hc=>?_⟩
  ·show Ad (FO F c) (Ea (ks.map (FO F)))=_
   rw[BG]at hF
   rw[w F (by omega),w2 F (by omega)]
   simp[Ad]
  ·obtain⟨g,rfl⟩:∃g,f=g+1:=⟨f-1,by omega⟩
   obtain⟨t1,t'⟩:=AU ht
   obtain⟨t2,t3⟩:=AU t'
   have t2':Ar S s.step.tok l:=t2
   have t3':Ar S (s.step.past l (A4 c)).tok l2:=t3
   have e:(s.step.past l (A4 c)).past l2 (A5 ks)=s.past (AB wTo++(l++l2)) (A5 (c::ks)):=by
    rw[BG,GQ s wTo,DW,DW,Nat.zero_add]
   rw[<-e]at hc⊢
   have hl:=AF (S:=S) (s:=s) (s':=s.step) (Et t1).1 (Z0 _)
   have hl2:=AF (S:=S) (s:=s) (s':=s.step.past l (A4 c)) (Et t1).1 (by show s.tok+1<=s.tok+1+l.length;omega)
   obtain⟨r2,_⟩:=o2 S (s.step.past l (A4 c)) g (by omega) hs t3' hc
   refine⟨?_,by rw[AV t1];decide⟩
   rw[B6,if_pos (As t1),o S s.step g (by omega) hs t2']
   show(B6 S g (s.step.past l (A4 c))).then _=_
   rw[r2]
   rfl
theorem Pt{d:Int}{ks ms:List Nd}(hd:d+1<=20)(hk:∀c∈ks,SlotN c)(hm:∀c∈ms,N0 (d+1) c):∃l,(∀F,2*A5 ms<=F->ET.bodyW F (ks++ms)=some (AB Ao++(l++AB Av)))/\∀(S:Src9) (s:PS) (f:Nat) (x:List Int) (up:List Nd),12*S.left s+1<=f->s.deep<=d->Ar S s.tok (AB Ao++(l++AB Av)) ->
  ((A3 S Ao s).then fun _ s=>(Bo S f s).then fun ks s=>(B6 S f s).then fun ms s=>(A3 S Av s).then fun _ s=>AD 2 x 0 (up++ks++ms) s)=.ok (.mk 2 x 0 (up++ks++ms),s.past (AB Ao++(l++AB Av)) (1+(A5 ks+A5 ms))):=by
 obtain⟨la,wa,ra⟩:=KE ks hk
 obtain⟨lb,wb,rb⟩:=JO ms hm
 refine⟨la++lb,fun F hF=>?_,fun S s f x up hf hs ht=>?_⟩
 ·unfold ET.bodyW
  rw[List.map_append,Oe,wa F,wb F hF]
  rfl
 ·obtain⟨t1,t'⟩:=AU ht
  obtain⟨t',t4⟩:=AU t'
  obtain⟨t2,t3⟩:=AU t'
  have t2':Ar S s.down.tok la:=t2
  have t3':Ar S (s.down.past la (A5 ks)).tok lb:=t3
  have t4':Ar S ((s.down.past la (A5 ks)).past lb (A5 ms)).tok (AB Av):=by
   rw[DW];exact t4
  have l1:=Aj (S:=S) (s:=s) (s':=s.down) (by show s.tok<=s.tok+1;omega)
  have l2:=Aj (S:=S) (s:=s) (s':=s.down.past la (A5 ks)) (by show s.tok<=s.tok+1+la.length;omega)
  obtain⟨r2,ns⟩:=rb S (s.down.past la (A5 ks)) f (by omega) (show s.deep+1<=d+1 by omega) t3' t4'
  rw[GT t1 (Or.inr rfl) (by omega)]
  show(Bo S f s.down).then _=_
  rw[ra S s.down f (by omega) t2' ns]
  show(B6 S f (s.down.past la (A5 ks))).then _=_
  rw[r2]
  show(A3 S Av ((s.down.past la (A5 ks)).past lb (A5 ms))).then _=_
  rw[IM t4' (Or.inr rfl)]
  refine Dx (st:=((s.down.past la (A5 ks)).past lb (A5 ms)).up.node) ?_ ?_ ?_
  ·show s.tok+1+la.length+lb.length+1=_
   simp only[Z1,Bp];omega
  ·show s.deep+1-1=s.deep
   omega
  ·show s.many+(A5 ks:Int)+(A5 ms:Int)+1=_
   push_cast;omega
def Of(d:Int)(n:Nd):Prop:=∃l,(∀F,2*A4 n<=F->ET F n=some (AB ER++l))/\∀(S:Src9) (s:PS) (f:Nat),12*S.left s+1<=f->s.deep<=d->Ar S s.tok l->Dm S f s=.ok (n,s.past l (A4 n))
theorem SR{d:Int}{x:List Int}{up ks ms:List Nd}(hx:C8 x=true)(hd:d+1<=20)(hu:up=[]\/∃y,C8 y=true/\up=[.mk 31 y 0 []])(hk:∀c∈ks,SlotN c)(hm:∀c∈ms,N0 (d+1) c):Of d (.mk 2 x 0 (up++ks++ms)):=by
 obtain⟨l,w,r⟩:=Pt hd hk hm
 have hsz:A4 (.mk 2 x 0 (up++ks++ms))=1+(A5 up+A5 ks+A5 ms):=by rw[Ko,CT,CT]
 rcases hu with rfl | ⟨y,hy,rfl⟩
 ·refine⟨[(1,x,0)]++(AB Ao++(l++AB Av)),fun F hF=>?_,fun S s f hf hs ht=>?_⟩
  ·rw[hsz]at hF
   have e:=w F (by omega)
   unfold ET
   show Ad (some (AB ER)) (Ad (D1 x) (match ks++ms with | u::ks=>_ | []=>_))=_
   have e2:(match ks++ms with | u::ks=>if u.kind=31 then Ad (some (AB Dv)) (Ad (D1 u.text) (ET.bodyW F ks))else ET.bodyW F (u::ks) | []=>ET.bodyW F [])=ET.bodyW F (ks++ms):=by
    cases hl:ks++ms with
    | nil=>rfl
    | cons u us=>
     have hk31:¬u.kind=31:=by
      have hmem:u∈ks++ms:=by rw[hl];exact Z7 ..
      rcases List.mem_append.1 hmem with h | h
      ·obtain⟨z,_,rfl⟩:=hk u h
       show ¬(3:Int)=31
       decide
      ·rw[(hm u h).1];decide
     show(if u.kind=31 then _ else _)=_
     rw[if_neg hk31]
   rw[e2,e,Gf hx]
   rfl
  ·obtain⟨t1,t2⟩:=AU ht
   have t2':Ar S s.step.tok (AB Ao++(l++AB Av)):=t2
   have l1:=Aj (S:=S) (s:=s) (s':=s.step) (by show s.tok<=s.tok+1;omega)
   unfold Dm
   rw[Eh t1]
   show Got.then (if A1 S Dv s.step=true then _ else Except.ok ([],s.step)) _=_
   rw[if_neg (by rw[AV (AU t2').1];decide)]
   show Got.then (A3 S Ao s.step) _=_
   rw[r S s.step f x [] (by omega) hs t2',hsz]
   refine Dx ?_ rfl ?_
   ·show s.tok+1+_=_
    simp only[Z1,Bp,List.length_singleton];omega
   ·show s.many+((1+(A5 ks+A5 ms):Nat):Int)=s.many+((1+(0+A5 ks+A5 ms):Nat):Int)
    push_cast;omega
 ·refine⟨[(1,x,0)]++(AB Dv++([(1,y,0)]++(AB Ao++(l++AB Av)))),fun F hF=>?_,fun S s f hf hs ht=>?_⟩
  ·rw[hsz]at hF
   have e:=w F (by omega)
   unfold ET
   show Ad (some (AB ER)) (Ad (D1 x) (if(31:Int)=31 then Ad (some (AB Dv)) (Ad (D1 y) (ET.bodyW F (ks++ms)))else _))=_
   rw[if_pos rfl,e,Gf hx,Gf hy]
   rfl
  ·obtain⟨t1,t'⟩:=AU ht
   obtain⟨t2,t'⟩:=AU t'
   obtain⟨t3,t4⟩:=AU t'
   have t2':Ar S s.step.tok (AB Dv):=t2
   have t3':Ar S s.step.step.tok [(1,y,0)]:=t3
   have t4':Ar S s.step.step.step.node.tok (AB Ao++(l++AB Av)):=t4
   have l1:=Aj (S:=S) (s:=s) (s':=s.step.step.step.node) (by show s.tok<=s.tok+1+1+1;omega)
   unfold Dm
   rw[Eh t1]
   show Got.then (if A1 S Dv s.step=true then Got.then (AW S s.step.step) _ else _) _=_
   rw[if_pos (As t2'),Eh t3']
   show Got.then (A3 S Ao s.step.step.step.node) _=_
   rw[r S s.step.step.step.node f x [.mk 31 y 0 []] (by omega) hs t4',hsz]
   refine Dx ?_ rfl ?_
   ·show s.tok+1+1+1+_=_
    simp only[Z1,Bp,List.length_singleton];omega
   ·rw[Dy,Hn]
    show s.many+1+((1+(A5 ks+A5 ms):Nat):Int)=_
    push_cast;omega
theorem JP{d:Int}:∀(ks:List Nd),(∀c∈ks,Of d c)->∃l,(∀F,2*A5 ks<=F->Ea (ks.map (ET F))=some l)/\(∀(S:Src9) (s:PS) (f:Nat),12*S.left s+1<=f->s.deep<=d->Ar S s.tok l->Ar S (s.past l (A5 ks)).tok (AB Ds)->B9 S f s=.ok (ks,s.past l (A5 ks)))
 | [],_=>by
  refine⟨[],fun F _=>rfl,fun S s f hf _ ht hc=>?_⟩
  obtain⟨g,rfl⟩:∃g,f=g+1:=⟨f-1,by omega⟩
  rw[show s.past [] (A5 [])=s from GR s]at hc⊢
  rw[B9,if_neg (by rw[AV hc];decide)]
 | c::ks,h=>by
  obtain⟨l,w,o⟩:=h c (Z7 ..)
  obtain⟨l2,w2,o2⟩:=JP ks fun y hy=>h y (Z8 _ hy)
  refine⟨AB ER++(l++l2),fun F hF=>?_,fun S s f hf hs ht hc=>?_⟩
  ·show Ad (ET F c) (Ea (ks.map (ET F)))=_
   rw[BG]at hF
   rw[w F (by omega),w2 F (by omega)]
   simp[Ad]
  ·obtain⟨g,rfl⟩:∃g,f=g+1:=⟨f-1,by omega⟩
   obtain⟨t1,t'⟩:=AU ht
   obtain⟨t2,t3⟩:=AU t'
   have t2':Ar S s.step.tok l:=t2
   have t3':Ar S (s.step.past l (A4 c)).tok l2:=t3
   have e:(s.step.past l (A4 c)).past l2 (A5 ks)=s.past (AB ER++(l++l2)) (A5 (c::ks)):=by
    rw[BG,GQ s ER,DW,DW,Nat.zero_add]
   rw[<-e]at hc⊢
   have hl:=AF (S:=S) (s:=s) (s':=s.step) (Et t1).1 (Z0 _)
   have hl2:=AF (S:=S) (s:=s) (s':=s.step.past l (A4 c)) (Et t1).1 (by show s.tok+1<=s.tok+1+l.length;omega)
   rw[B9,if_pos (As t1),o S s.step g (by omega) hs t2']
   show(B9 S g (s.step.past l (A4 c))).then _=_
   rw[o2 S (s.step.past l (A4 c)) g (by omega) hs t3' hc]
   rfl
def U0(n:Nd):Prop:=∃l,(∀F,2*A4 n<=F->VD F n=some l)/\∀(S:Src9),Ar S 0 l->Ec S (Co S) ⟨0,0,0⟩=.ok (n,PS.past ⟨0,0,0⟩ l (A4 n))
theorem U1{ks:List Nd}{b:Nd}(hk:∀c∈ks,Of 0 c)(hb:Ja 0 b):U0 (.mk 1 [] 0 (ks++[b])):=by
 obtain⟨la,wa,ra⟩:=JP ks hk
 obtain⟨lb,wb,rb⟩:=hb
 have hsz:A4 (.mk 1 [] 0 (ks++[b]))=1+(A5 ks+A4 b):=by rw[Ko,CT,Dy]
 refine⟨la++(AB Ds++lb),fun F hF=>?_,fun S ht=>?_⟩
 ·rw[hsz]at hF
  unfold VD
  show(match (ks++[b]).getLast? with | some b=>_ | none=>_)=_
  rw[List.getLast?_concat]
  show(if(1:Int)=1 then Ad (Ea ((ks++[b]).dropLast.map (ET F))) (Ad (some (AB Ds)) (FZ F b))else _)=_
  rw[if_pos rfl,List.dropLast_concat,wa F (by omega),wb F (by omega)]
  rfl
 ·obtain⟨t1,t'⟩:=AU ht
  obtain⟨t2,t3⟩:=AU t'
  have t2':Ar S (PS.past ⟨0,0,0⟩ la (A5 ks)).tok (AB Ds):=t2
  have t3':Ar S (PS.past ⟨0,0,0⟩ la (A5 ks)).step.tok lb:=t3
  have hl:∀s,S.left s<=S.L.length:=fun s=>by unfold Src9.left;omega
  have h1:=hl ⟨0,0,0⟩
  have h2:=hl (PS.past ⟨0,0,0⟩ la (A5 ks)).step
  unfold Ec
  rw[ra S ⟨0,0,0⟩ (Co S) (by unfold Co;omega) (Int.le_refl _) t1 t2']
  show(A3 S Ds (PS.past ⟨0,0,0⟩ la (A5 ks))).then _=_
  rw[FG t2' (by decide) (by decide)]
  show(Bz S (Co S) (PS.past ⟨0,0,0⟩ la (A5 ks)).step).then _=_
  rw[Fu (by unfold Co;omega),rb S _ (Int.le_refl _) t3',hsz]
  refine Dx (st:=((PS.past ⟨0,0,0⟩ la (A5 ks)).step.past lb (A4 b)).node) ?_ rfl ?_
  ·show 0+la.length+1+lb.length=_
   simp only[Z1,Bp];omega
  ·show(0:Int)+(A5 ks:Int)+(A4 b:Int)+1=_
   push_cast;omega
theorem Le{S:Src9}(hS:S.good):∀(f:Nat) (s:PS) (ks:List Nd) (s':PS),Cb S f s=.ok (ks,s')->s'.deep=s.deep/\s'.many=s.many+(A5 ks:Int)/\∀c∈ks,Ld c
 | 0,s,ks,s',h=>by rw[Cb]at h;exact Bl h
 | f+1,s,ks,s',h=>by
  rw[Cb]at h
  obtain⟨x,s1,hx,h⟩:=A6 h
  obtain⟨nx,rfl⟩:=Dc hS hx
  obtain⟨k,s2,hk,h⟩:=A6 h
  cases hk
  split at h
  ·obtain⟨ls,s3,hl,h⟩:=A6 h
   obtain⟨d1,m1,k1⟩:=Le hS f _ _ _ hl
   cases h
   have e1:s.step.node.step.deep=s.deep:=rfl
   have e2:s.step.node.step.many=s.many+1:=rfl
   rw[e1]at d1
   refine⟨d1,by rw[BG,Hn];push_cast;omega,fun c hc=>?_⟩
   rcases List.mem_cons.1 hc with rfl | hc
   ·exact⟨x,nx,rfl⟩
   ·exact k1 c hc
  ·cases h
   refine⟨rfl,rfl,fun c hc=>?_⟩
   rcases List.mem_cons.1 hc with rfl | hc
   ·exact⟨x,nx,rfl⟩
   ·cases hc
theorem SS{S:Src9}(hS:S.good){f:Nat}{s s':PS}{n:Nd}(h:DI S f s=.ok (n,s')):RdP N0 s n s':=by
 unfold DI at h
 obtain⟨x,s1,hx,h⟩:=A6 h
 obtain⟨nx,rfl⟩:=Dc hS hx
 obtain⟨u,s2,hu,h⟩:=A6 h
 obtain⟨rfl,hd⟩:=(Bx hu).1 (Or.inl rfl)
 obtain⟨ks,s3,hk,h⟩:=A6 h
 have q:s3.deep=s.deep+1/\s3.many=s.many+(A5 ks:Int)/\∀c∈ks,Ld c:=by
  split at hk
  ·cases hk
   exact⟨rfl,by show s.many=s.many+0;omega,fun c hc=>by cases hc⟩
  ·exact Le hS _ _ _ _ hk
 obtain⟨q1,q2,q3⟩:=q
 obtain⟨v,s4,hv,h⟩:=A6 h
 obtain rfl:=(Bx hv).2.1 (Or.inl rfl)
 obtain⟨b,s5,hb,h⟩:=A6 h
 obtain⟨d1,m1,k1⟩:=(kept2 hS f).block _ _ _ hb
 have e1:s3.up.deep=s.deep:=by show s3.deep-1=s.deep;omega
 have e2:s3.up.many=s3.many:=rfl
 rw[e1]at d1 k1
 exact EA h d1 (by rw[CT,Dy];push_cast;omega) (R7 nx hd q3 k1)
theorem Lf{S:Src9}(hS:S.good):∀(f:Nat) (s:PS) (ks:List Nd) (s':PS),Bo S f s=.ok (ks,s')->s'.deep=s.deep/\s'.many=s.many+(A5 ks:Int)/\∀c∈ks,SlotN c
 | 0,s,ks,s',h=>by rw[Bo]at h;exact Bl h
 | f+1,s,ks,s',h=>by
  rw[Bo]at h
  split at h
  ·obtain⟨x,s1,hx,h⟩:=A6 h
   obtain⟨nx,rfl⟩:=Dc hS hx
   obtain⟨u,s2,hu,h⟩:=A6 h
   obtain rfl:=(Bx hu).2.2 (by decide) (by decide)
   obtain⟨k,s3,hk,h⟩:=A6 h
   cases hk
   obtain⟨ls,s4,hl,h⟩:=A6 h
   obtain⟨d1,m1,k1⟩:=Lf hS f _ _ _ hl
   cases h
   have e1:s.step.step.step.node.deep=s.deep:=rfl
   have e2:s.step.step.step.node.many=s.many+1:=rfl
   rw[e1]at d1
   refine⟨d1,by rw[BG,Hn];push_cast;omega,fun c hc=>?_⟩
   rcases List.mem_cons.1 hc with rfl | hc
   ·exact⟨x,nx,rfl⟩
   ·exact k1 c hc
  ·cases h
   exact⟨rfl,by show s.many=s.many+0;omega,fun c hc=>by cases hc⟩
theorem M7{S:Src9}(hS:S.good):∀(f:Nat) (s:PS) (ks:List Nd) (s':PS),B6 S f s=.ok (ks,s')->s'.deep=s.deep/\s'.many=s.many+(A5 ks:Int)/\∀c∈ks,N0 s.deep c
 | 0,s,ks,s',h=>by rw[B6]at h;exact Bl h
 | f+1,s,ks,s',h=>by
  rw[B6]at h
  split at h
  ·obtain⟨k,s1,hk,h⟩:=A6 h
   obtain⟨d1,m1,k1⟩:=SS hS hk
   have e1:s.step.deep=s.deep:=rfl
   have e2:s.step.many=s.many:=rfl
   rw[e1]at d1 k1
   obtain⟨ls,s2,hl,h⟩:=A6 h
   obtain⟨d2,m2,k2⟩:=M7 hS f _ _ _ hl
   rw[d1]at d2 k2
   cases h
   refine⟨d2,by rw[BG];push_cast;omega,fun c hc=>?_⟩
   rcases List.mem_cons.1 hc with rfl | hc
   ·exact k1
   ·exact k2 c hc
  ·cases h
   exact⟨rfl,by show s.many=s.many+0;omega,fun c hc=>by cases hc⟩
theorem U2{S:Src9}(hS:S.good){f:Nat}{s s':PS}{n:Nd}(h:Dm S f s=.ok (n,s')):RdP Of s n s':=by
 unfold Dm at h
 obtain⟨x,s1,hx,h⟩:=A6 h
 obtain⟨nx,rfl⟩:=Dc hS hx
 obtain⟨up,s2,hu,h⟩:=A6 h
 have q:s2.deep=s.deep/\s2.many=s.many+(A5 up:Int)/\(up=[]\/∃y,C8 y=true/\up=[.mk 31 y 0 []]):=by
  split at hu
  ·obtain⟨y,s3,hy,hu⟩:=A6 hu
   obtain⟨ny,rfl⟩:=Dc hS hy
   obtain⟨k,s4,hk,hu⟩:=A6 hu
   cases hk
   cases hu
   exact⟨rfl,rfl,Or.inr ⟨y,ny,rfl⟩⟩
  ·cases hu
   exact⟨rfl,by show s.many=s.many+0;omega,Or.inl rfl⟩
 obtain⟨q1,q2,q3⟩:=q
 obtain⟨v,s3,hv,h⟩:=A6 h
 obtain⟨rfl,hd⟩:=(Bx hv).1 (Or.inr rfl)
 obtain⟨ks,s4,hk,h⟩:=A6 h
 obtain⟨d1,m1,k1⟩:=Lf hS _ _ _ _ hk
 obtain⟨ms,s5,hm,h⟩:=A6 h
 obtain⟨d2,m2,k2⟩:=M7 hS _ _ _ _ hm
 obtain⟨w,s6,hw,h⟩:=A6 h
 obtain rfl:=(Bx hw).2.1 (Or.inr rfl)
 have e1:s2.down.deep=s.deep+1:=by show s2.deep+1=_;omega
 have e2:s2.down.many=s2.many:=rfl
 rw[d1,e1]at k2
 exact EA h (by show s5.deep-1=s.deep;omega) (by show s5.many=_;rw[CT,CT];push_cast;omega) (SR nx (by omega) q3 k1 k2)
theorem M8{S:Src9}(hS:S.good):∀(f:Nat) (s:PS) (ks:List Nd) (s':PS),B9 S f s=.ok (ks,s')->s'.deep=s.deep/\s'.many=s.many+(A5 ks:Int)/\∀c∈ks,Of s.deep c
 | 0,s,ks,s',h=>by rw[B9]at h;exact Bl h
 | f+1,s,ks,s',h=>by
  rw[B9]at h
  split at h
  ·obtain⟨k,s1,hk,h⟩:=A6 h
   obtain⟨d1,m1,k1⟩:=U2 hS hk
   have e1:s.step.deep=s.deep:=rfl
   have e2:s.step.many=s.many:=rfl
   rw[e1]at d1 k1
   obtain⟨ls,s2,hl,h⟩:=A6 h
   obtain⟨d2,m2,k2⟩:=M8 hS f _ _ _ hl
   rw[d1]at d2 k2
   cases h
   refine⟨d2,by rw[BG];push_cast;omega,fun c hc=>?_⟩
   rcases List.mem_cons.1 hc with rfl | hc
   ·exact k1
   ·exact k2 c hc
  ·cases h
   exact⟨rfl,by show s.many=s.many+0;omega,fun c hc=>by cases hc⟩
theorem N1{S:Src9}(hS:S.good){f:Nat}{s':PS}{n:Nd}(h:Ec S f ⟨0,0,0⟩=.ok (n,s')):s'.many=(A4 n:Int)/\U0 n:=by
 unfold Ec at h
 obtain⟨ks,s1,hk,h⟩:=A6 h
 obtain⟨d1,m1,k1⟩:=M8 hS _ _ _ _ hk
 obtain⟨u,s2,hu,h⟩:=A6 h
 obtain rfl:=(Bx hu).2.2 (by decide) (by decide)
 obtain⟨b,s3,hb,h⟩:=A6 h
 obtain⟨d2,m2,k2⟩:=(kept2 hS f).block _ _ _ hb
 have e1:s1.step.deep=0:=d1
 have e2:s1.step.many=s1.many:=rfl
 rw[e1]at k2
 cases h
 refine⟨?_,U1 k1 k2⟩
 rw[Ko,CT,Dy]
 show s3.many+1=_
 simp only at m1
 push_cast;omega
theorem U3{S:Src9}(hS:S.good){f:Nat}{n:Nd}(h:Cn S f=.ok n):A4 n<=600/\U0 n:=by
 unfold Cn at h
 split at h
 ·cases h
 ·rename_i m s hp
  obtain⟨h1,h2⟩:=N1 hS hp
  split at h
  ·cases h
  ·split at h
   ·cases h
   ·cases h
    exact⟨by omega,h2⟩
theorem M9{p:Int->Bool}{T:List Int}:∀(m i j:Nat),i<=j->j<G4 p T i m->p (wd T j)=true
 | 0,i,j,h1,h2=>by unfold G4 at h2;omega
 | m+1,i,j,h1,h2=>by
  unfold G4 at h2
  split at h2
  ·rename_i hp
   by_cases hj:j=i
   ·rw[hj];exact hp
   ·exact M9 m (i+1) j (by omega) h2
  ·omega
theorem Lg{p:Int->Bool}{T:List Int}{i j:Nat}(h1:i<=j)(h2:j<Ac p T i):p (wd T j)=true:=M9 _ i j h1 h2
theorem ST{p:Int->Bool}{x:List Int}(h:∀j,j<x.length->p (wd x j)=true):x.all p=true:=by
 rw[List.all_eq_true]
 intro b hb
 obtain⟨j,hj,rfl⟩:=List.mem_iff_getElem.1 hb
 have:=h j hj
 unfold wd at this
 rwa [Z2,List.getElem?_eq_getElem hj]at this
theorem W6{p:Int->Bool}{x:List Int}(h:x.all p=true){j:Nat}(hj:j<x.length):p (wd x j)=true:=by
 rw[List.all_eq_true]at h
 unfold wd
 rw[Z2,List.getElem?_eq_getElem hj]
 exact h _ (Z6 hj)
theorem LA{T:List Int}{i k:Nat}:∀m,m<=k-i->Be (Am T i k) 0 m=Be T i m
 | 0,_=>rfl
 | m+1,h=>by
  unfold Be
  rw[LA m (by omega),Nat.zero_add,Er (by omega)]
def Og(t:Tok):Prop:=(t.1=1->C8 t.2.1=true)/\(t.1=2->0<=Dn t.2.1/\Dn t.2.1<=1073741823)
theorem Oh{T:List Int}{i k:Nat}{t:Tok}(hi:i<T.length)(h:BJ T i=.tok t k):Og t:=by
 unfold BJ at h
 split at h
 ·cases h
 ·split at h
  ·cases h
  ·split at h
   ·rename_i hl
    cases h
    obtain⟨s1,s2⟩:=Eb (p:=CZ) hi (by unfold CZ;rw[hl];rfl)
    refine⟨fun hk=>?_,fun hk=>?_⟩
    ·simp only at hk⊢
     have hw:Ey (Am T i (Ac CZ T i))=false:=by
      cases hw:Ey (Am T i (Ac CZ T i))with
      | false=>rfl
      | true=>rw[if_pos hw]at hk;exact absurd hk (by decide)
     have hlen:=DT (T:=T) (i:=i) s2
     have h0:wd (Am T i (Ac CZ T i)) 0=wd T i:=by rw[Er (by omega),Nat.add_zero]
     have ha:(Am T i (Ac CZ T i)).all CZ=true:=ST fun j hj=>by
      rw[Er (by omega)]
      exact Lg (p:=CZ) (T:=T) (i:=i) (by omega) (by omega)
     have hne:(Am T i (Ac CZ T i)).isEmpty=false:=by
      cases hp:Am T i (Ac CZ T i)with
      | nil=>rw[hp]at hlen;simp at hlen;omega
      | cons a l=>rfl
     unfold C8
     rw[hne,h0,hl,ha,hw]
     rfl
    ·simp only at hk
     split at hk<;>exact absurd hk (by decide)
   ·split at h
    ·rename_i hd
     split at h
     ·cases h
     ·rename_i hb
      cases h
      refine⟨fun hk=>absurd hk (show ¬(2:Int)=1 by decide),fun _=>?_⟩
      obtain⟨s1,s2⟩:=Eb (p:=Az) hi hd
      have hlen:=DT (T:=T) (i:=i) s2
      have e:Dn (Am T i (Ac Az T i))=Be T i (Ac Az T i-i):=by
       unfold Dn
       rw[hlen,LA _ (Z0 _)]
      simp only
      rw[e]
      have hdg:LT T i (Ac Az T i-i):=fun j hj=>Lg (p:=Az) (T:=T) (i:=i) (by omega) (by omega)
      refine⟨IV _ hdg,?_⟩
      unfold FX at hb
      simp only[Bool.or_eq_true,decide_eq_true_eq,not_or]at hb
      omega
    ·split at h
     ·cases h
     ·cases h
      exact⟨fun hk=>absurd hk (show ¬(4:Int)=1 by decide),fun hk=>absurd hk (show ¬(4:Int)=2 by decide)⟩
theorem KF{T:List Int}:∀(m i:Nat) (l:List Tok),Cl T m i=.ok l->∀t∈l,Og t
 | 0,i,l,h=>by
  unfold Cl at h
  cases h
  intro t ht;cases ht
 | m+1,i,l,h=>by
  unfold Cl at h
  split at h
  ·rename_i hi
   cases hc:BJ T i with
   | skip k=>rw[hc]at h;exact KF m k l h
   | tok t k=>
    rw[hc]at h
    simp only at h
    cases hs:Cl T m k with
    | error e=>rw[hs]at h;cases h
    | ok l'=>
     rw[hs]at h
     cases h
     intro u hu
     rcases List.mem_cons.1 hu with rfl | hu
     ·exact Oh hi hc
     ·exact KF m k l' hs u hu
   | bad c a=>rw[hc]at h;cases h
  ·cases h
   intro t ht;cases ht
theorem VZ{l:List Tok}{fin:Nat}(h:∀t∈l,Og t):Src9.good ⟨l,fin⟩:=fun i hi=>by
 have hi':i<l.length:=hi
 have e:Src9.at ⟨l,fin⟩ i=l[i]:=by
  unfold Src9.at
  rw[Z2,List.getElem?_eq_getElem hi']
  rfl
 rw[e]
 exact h _ (Z6 hi')
theorem Fe{T:List Int}{l:List Tok}(h:Cf T=.ok l):Src9.good ⟨l,T.length⟩:=by
 unfold Cf at h
 split at h
 ·cases h
 ·exact VZ (KF _ _ _ h)
def Kp(t:Tok):Prop:=(t.1=1/\C8 t.2.1=true)\/(t.1=2/\0<t.2.1.length/\t.2.1.all Az=true/\Dn t.2.1<=1073741823)\/t.1=3\/t.1=4
theorem SU{T:List Int}{i k:Nat}{t:Tok}(hi:i<T.length)(h:BJ T i=.tok t k):Kp t:=by
 have hf:=Oh hi h
 unfold BJ at h
 split at h
 ·cases h
 ·split at h
  ·cases h
  ·split at h
   ·cases h
    by_cases hw:Ey (Am T i (Ac CZ T i))=true
    ·exact Or.inr (Or.inr (Or.inl (by show(if _ then _ else _:Int)=3;rw[if_pos hw])))
    ·have e:(if Ey (Am T i (Ac CZ T i))=true then(3:Int)else 1)=1:=if_neg hw
     exact Or.inl ⟨e,hf.1 e⟩
   ·split at h
    ·rename_i hd
     split at h
     ·cases h
     ·cases h
      obtain⟨s1,s2⟩:=Eb (p:=Az) hi hd
      have hlen:=DT (T:=T) (i:=i) s2
      refine Or.inr (Or.inl ⟨rfl,?_,?_,(hf.2 rfl).2⟩)
      ·show 0<(Am T i (Ac Az T i)).length
       omega
      ·exact ST fun j hj=>by
        have hj':j<(Am T i (Ac Az T i)).length:=hj
        show Az (wd (Am T i (Ac Az T i)) j)=true
        rw[Er (by omega)]
        exact Lg (p:=Az) (T:=T) (i:=i) (by omega) (by omega)
    ·split at h
     ·cases h
     ·cases h
      exact Or.inr (Or.inr (Or.inr rfl))
theorem Jd{T:List Int}:∀(m i:Nat) (l:List Tok),Cl T m i=.ok l->∀t∈l,Kp t
 | 0,i,l,h=>by
  unfold Cl at h
  cases h
  intro t ht;cases ht
 | m+1,i,l,h=>by
  unfold Cl at h
  split at h
  ·rename_i hi
   cases hc:BJ T i with
   | skip k=>rw[hc]at h;exact Jd m k l h
   | tok t k=>
    rw[hc]at h
    simp only at h
    cases hs:Cl T m k with
    | error e=>rw[hs]at h;cases h
    | ok l'=>
     rw[hs]at h
     cases h
     intro u hu
     rcases List.mem_cons.1 hu with rfl | hu
     ·exact SU hi hc
     ·exact Jd m k l' hs u hu
   | bad c a=>rw[hc]at h;cases h
  ·cases h
   intro t ht;cases ht
def Aq(S:Src9):Prop:=∀i,i<S.L.length->Kp (S.at i)
theorem U5{l:List Tok}{fin:Nat}(h:∀t∈l,Kp t):Aq ⟨l,fin⟩:=fun i hi=>by
 have hi':i<l.length:=hi
 have e:Src9.at ⟨l,fin⟩ i=l[i]:=by
  unfold Src9.at
  rw[Z2,List.getElem?_eq_getElem hi']
  rfl
 rw[e]
 exact h _ (Z6 hi')
theorem MC{T:List Int}{l:List Tok}(h:Cf T=.ok l):Aq ⟨l,T.length⟩:=by
 unfold Cf at h
 split at h
 ·cases h
 ·exact U5 (Jd _ _ _ h)
def Src9.text(S:Src9)(s:PS):List Int:=if s.tok<S.L.length then(S.at s.tok).2.1 else[]
def Dz(x:List Int):Bool:=!x.isEmpty&&(!C8 x&&!(x.all Az))
theorem Df{S:Src9}(hl:Aq S){x:List Int}(hx:Dz x=true)(s:PS):A1 S x s=(S.text s==x):=by
 unfold Dz at hx
 simp only[Bool.and_eq_true,Bool.not_eq_true']at hx
 obtain⟨h0,h1,h2⟩:=hx
 unfold A1 Src9.text
 by_cases ht:s.tok<S.L.length
 ·rw[if_pos ht,decide_eq_true ht,Bool.true_and]
  cases he:(S.at s.tok).2.1==x with
  | false=>rfl
  | true=>
   have e:(S.at s.tok).2.1=x:=by simpa using he
   rcases hl s.tok ht with⟨_,hn⟩ | ⟨_,_,hd,_⟩ | hk | hk
   ·rw[e,h1]at hn;cases hn
   ·rw[e,h2]at hd;cases hd
   ·rw[hk];rfl
   ·rw[hk];rfl
 ·rw[if_neg ht,decide_eq_false ht,Bool.false_and]
  cases x with
  | nil=>cases h0
  | cons a l=>rfl
def CW(S:Src9)(s:PS):Got (List Int):=
 if S.text s=AE\/S.text s=Ao then(if 20<s.deep+1 then C7 S 13 s else .ok (S.text s,{ s with tok:=s.tok+1,deep:=s.deep+1 }))
 else if S.text s=AC\/S.text s=Av then .ok (S.text s,{ s with tok:=s.tok+1,deep:=s.deep-1 })
 else .ok (S.text s,s.step)
theorem SV{S:Src9}(hl:Aq S){x:List Int}(hx:Dz x=true)(s:PS):A3 S x s=if S.text s=x then(CW S s).then fun _ s=>.ok ((),s)else C7 S 12 s:=by
 unfold A3 CW
 rw[Df hl hx]
 by_cases he:S.text s=x
 ·rw[if_pos he,if_pos (by rw[he];simp),he]
  split
  ·split<;>rfl
  ·split<;>rfl
 ·rw[if_neg he,if_neg (by simpa using he)]
theorem NU{S:Src9}(hl:Aq S)(s:PS):AW S s=if isB S 1 s=true then CW S s else C7 S 12 s:=by
 unfold AW
 by_cases h:isB S 1 s=true
 ·rw[if_pos h,if_pos h]
  have h':=h
  unfold isB at h'
  simp only[Bool.and_eq_true,decide_eq_true_eq]at h'
  obtain⟨ht,hk⟩:=h'
  have hk1:(S.at s.tok).1=1:=by simpa using hk
  have hn:C8 (S.at s.tok).2.1=true:=by
   rcases hl s.tok ht with⟨_,hn⟩ | ⟨hk2,_⟩ | hk2 | hk2
   ·exact hn
   ·rw[hk1]at hk2;exact absurd hk2 (by decide)
   ·rw[hk1]at hk2;exact absurd hk2 (by decide)
   ·rw[hk1]at hk2;exact absurd hk2 (by decide)
  have e:S.text s=(S.at s.tok).2.1:=by unfold Src9.text;rw[if_pos ht]
  unfold CW
  rw[e]
  rw[if_neg (by rintro(h | h)<;>(rw[h]at hn;exact absurd hn (by decide))),if_neg (by rintro(h | h)<;>(rw[h]at hn;exact absurd hn (by decide)))]
 ·rw[if_neg h,if_neg h]
end Go.Proofs.YtibeadcfgcfdbaaGreatDoor
namespace Go.Proofs.YtibeadcfgcfdbaaGreatDoor
def Oy(r:Nat)(k:Int)(x:List Int)(m:Int)(len:Nat):Prop:=
 if r=0 then
  ((k=18\/k=19\/k=20\/k=21\/k=22)/\x=[]/\m=0/\len=2)\/((k=23\/k=24)/\x=[]/\m=0/\len=1)\/(k=25/\C8 x=true/\m=0/\1<=len) \/
  (k=26/\x=[]/\0<=m/\m<=1073741823/\len=0)\/((k=27\/k=28\/k=29)/\x=[]/\m=0/\len=0)\/((k=30\/k=31)/\C8 x=true/\m=0/\len=0)
 else if r=1 then
  ((k=7\/k=8)/\C8 x=true/\m=0/\len=1)\/(k=9/\x=[]/\m=0/\(len=2\/len=3))\/((k=10\/k=16)/\x=[]/\m=0/\len=2) \/
  ((k=11\/k=12\/k=13\/k=14\/k=15\/k=17)/\x=[]/\m=0/\len=1)
 else k=6/\x=[]/\m=0
def Io(k:Int)(i:Nat):Nat:=if k=6 then 1 else if k=13 then 2 else if(k=9\/k=10)/\i≠0 then 2 else 0
mutual
def WfR(r:Nat):Nd->Prop
 | .mk k x m ks=>Oy r k x m ks.length/\WfK k 0 ks
def WfK (k:Int) (i:Nat):List Nd->Prop
 | []=>True
 | n::ns=>WfR (Io k i) n/\WfK k (i+1) ns
end
theorem EF{r:Nat}{k m:Int}{x:List Int}{ks:List Nd}(h:Oy r k x m ks.length)(hk:WfK k 0 ks):WfR r (.mk k x m ks):=by unfold WfR;exact⟨h,hk⟩
theorem F5(k:Int)(i:Nat):WfK k i []:=by unfold WfK;trivial
theorem FK{k:Int}{i:Nat}{n:Nd}{ns:List Nd}(h:WfR (Io k i) n)(hs:WfK k (i+1) ns):WfK k i (n::ns):=by unfold WfK;exact⟨h,hs⟩
theorem H7{k:Int}{r:Nat}(hr:∀i,Io k i=r):∀(ks:List Nd) (i:Nat),(∀c∈ks,WfR r c)->WfK k i ks
 | [],i,_=>F5 k i
 | n::ns,i,h=>FK (by rw[hr];exact h n (Z7 ..)) (H7 hr ns (i+1) fun c hc=>h c (Z8 _ hc))
theorem KR{k:Int}{a b:Nd}(hk:k=18\/k=19\/k=20\/k=21\/k=22)(ha:WfR 0 a)(hb:WfR 0 b):WfR 0 (.mk k [] 0 [a,b]):=
 EF (Or.inl ⟨hk,rfl,rfl,rfl⟩) (H7 (r:=0) (fun i=>by unfold Io;rw[if_neg (by omega),if_neg (by omega),if_neg (by omega)]) _ _ fun c hc=>by
  rcases List.mem_cons.1 hc with rfl | hc
  ·exact ha
  ·rw[List.mem_singleton.1 hc];exact hb)
theorem Se{k:Int}{a:Nd}(hk:k=23\/k=24)(ha:WfR 0 a):WfR 0 (.mk k [] 0 [a]):=
 EF (Or.inr (Or.inl ⟨hk,rfl,rfl,rfl⟩)) (H7 (r:=0) (fun i=>by unfold Io;rw[if_neg (by omega),if_neg (by omega),if_neg (by omega)]) _ _ fun c hc=>by rw[List.mem_singleton.1 hc];exact ha)
theorem Vb{x:List Int}{a:Nd}{ks:List Nd}(hx:C8 x=true)(ha:WfR 0 a)(hk:∀c∈ks,WfR 0 c):WfR 0 (.mk 25 x 0 (a::ks)):=
 EF (Or.inr (Or.inr (Or.inl ⟨rfl,hx,rfl,by simp⟩))) (H7 (r:=0) (fun i=>by unfold Io;rw[if_neg (by decide),if_neg (by decide),if_neg (by omega)]) _ _ fun c hc=>by
  rcases List.mem_cons.1 hc with rfl | hc
  ·exact ha
  ·exact hk c hc)
structure WY(S:Src9)(f:Nat):Prop where
 expr:∀s n s',CV S f s=.ok (n,s')->WfR 0 n
 sum:∀s n s',EJ S f s=.ok (n,s')->WfR 0 n
 sumL:∀n s m s',WfR 0 n->sumL S f n s=.ok (m,s')->WfR 0 m
 term:∀s n s',DR S f s=.ok (n,s')->WfR 0 n
 termL:∀n s m s',WfR 0 n->termL S f n s=.ok (m,s')->WfR 0 m
 unary:∀s n s',Ca S f s=.ok (n,s')->WfR 0 n
 call:∀s n s',Dg S f s=.ok (n,s')->WfR 0 n
 callL:∀n s m s',WfR 0 n->callL S f n s=.ok (m,s')->WfR 0 m
 args:∀s ks s',DV S f s=.ok (ks,s')->∀c∈ks,WfR 0 c
 prim:∀s n s',Dh S f s=.ok (n,s')->WfR 0 n
theorem CB{kind num:Int}{x:List Int}{ks:List Nd}{s1 s':PS}{n:Nd}{r:Nat}(h:AD kind x num ks s1=.ok (n,s'))(hw:WfR r (.mk kind x num ks)):WfR r n:=by
 cases h
 exact hw
theorem Ip{S:Src9}(hS:S.good):∀f,WY S f
 | 0=>by
  constructor
  ·intro s n s' h;rw[CV]at h;exact Bl h
  ·intro s n s' h;rw[EJ]at h;exact Bl h
  ·intro n s m s' _ h;rw[sumL]at h;exact Bl h
  ·intro s n s' h;rw[DR]at h;exact Bl h
  ·intro n s m s' _ h;rw[termL]at h;exact Bl h
  ·intro s n s' h;rw[Ca]at h;exact Bl h
  ·intro s n s' h;rw[Dg]at h;exact Bl h
  ·intro n s m s' _ h;rw[callL]at h;exact Bl h
  ·intro s n s' h;rw[DV]at h;exact Bl h
  ·intro s n s' h;rw[Dh]at h;exact Bl h
 | f+1=>by
  have I:=Ip hS f
  constructor
  ·intro s n s' h
   rw[CV]at h
   obtain⟨a,s1,ha,h⟩:=A6 h
   split at h
   ·obtain⟨b,s2,hb,h⟩:=A6 h
    exact CB h (KR (by decide) (I.sum _ _ _ ha) (I.sum _ _ _ hb))
   ·split at h
    ·obtain⟨b,s2,hb,h⟩:=A6 h
     exact CB h (KR (by decide) (I.sum _ _ _ ha) (I.sum _ _ _ hb))
    ·cases h
     exact I.sum _ _ _ ha
  ·intro s n s' h
   rw[EJ]at h
   obtain⟨a,s1,ha,h⟩:=A6 h
   exact I.sumL _ _ _ _ (I.term _ _ _ ha) h
  ·intro n s m s' hn h
   rw[sumL]at h
   split at h
   ·obtain⟨b,s2,hb,h⟩:=A6 h
    obtain⟨c,s3,hc,h⟩:=A6 h
    exact I.sumL _ _ _ _ (CB hc (KR (by decide) hn (I.term _ _ _ hb))) h
   ·split at h
    ·obtain⟨b,s2,hb,h⟩:=A6 h
     obtain⟨c,s3,hc,h⟩:=A6 h
     exact I.sumL _ _ _ _ (CB hc (KR (by decide) hn (I.term _ _ _ hb))) h
    ·cases h
     exact hn
  ·intro s n s' h
   rw[DR]at h
   obtain⟨a,s1,ha,h⟩:=A6 h
   exact I.termL _ _ _ _ (I.unary _ _ _ ha) h
  ·intro n s m s' hn h
   rw[termL]at h
   split at h
   ·obtain⟨b,s2,hb,h⟩:=A6 h
    obtain⟨c,s3,hc,h⟩:=A6 h
    exact I.termL _ _ _ _ (CB hc (KR (by decide) hn (I.unary _ _ _ hb))) h
   ·cases h
    exact hn
  ·intro s n s' h
   rw[Ca]at h
   split at h
   ·obtain⟨b,s2,hb,h⟩:=A6 h
    exact CB h (Se (by decide) (I.unary _ _ _ hb))
   ·split at h
    ·obtain⟨b,s2,hb,h⟩:=A6 h
     exact CB h (Se (by decide) (I.unary _ _ _ hb))
    ·exact I.call _ _ _ h
  ·intro s n s' h
   rw[Dg]at h
   obtain⟨a,s1,ha,h⟩:=A6 h
   exact I.callL _ _ _ _ (I.prim _ _ _ ha) h
  ·intro n s m s' hn h
   rw[callL]at h
   split at h
   ·obtain⟨x,s1,hx,h⟩:=A6 h
    obtain⟨nx,rfl⟩:=Dc hS hx
    obtain⟨u,s2,hu,h⟩:=A6 h
    obtain⟨ks,s3,hk,h⟩:=A6 h
    obtain⟨v,s4,hv,h⟩:=A6 h
    have q:∀c∈ks,WfR 0 c:=by
     split at hk
     ·cases hk
      intro c hc;cases hc
     ·exact I.args _ _ _ hk
    obtain⟨c,s5,hc,h⟩:=A6 h
    exact I.callL _ _ _ _ (CB hc (Vb nx hn q)) h
   ·cases h
    exact hn
  ·intro s ks s' h
   rw[DV]at h
   obtain⟨a,s1,ha,h⟩:=A6 h
   split at h
   ·obtain⟨b,s2,hb,h⟩:=A6 h
    cases h
    intro c hc
    rcases List.mem_cons.1 hc with rfl | hc
    ·exact I.expr _ _ _ ha
    ·exact I.args _ _ _ hb c hc
   ·cases h
    intro c hc
    rw[List.mem_singleton.1 hc]
    exact I.expr _ _ _ ha
  ·intro s n s' h
   rw[Dh]at h
   split at h
   ·rename_i hi
    obtain⟨h1,h2⟩:=JN hi
    obtain⟨h3,h4⟩:=(hS _ h1).2 h2
    exact CB h (EF (Or.inr (Or.inr (Or.inr (Or.inl ⟨rfl,rfl,h3,h4,rfl⟩)))) (F5 _ _))
   split at h
   ·obtain⟨x,s1,hx,h⟩:=A6 h
    obtain⟨nx,rfl⟩:=Dc hS hx
    exact CB h (EF (Or.inr (Or.inr (Or.inr (Or.inr (Or.inr ⟨Or.inr rfl,nx,rfl,rfl⟩))))) (F5 _ _))
   split at h
   ·exact CB h (EF (Or.inr (Or.inr (Or.inr (Or.inr (Or.inl ⟨Or.inl rfl,rfl,rfl,rfl⟩))))) (F5 _ _))
   split at h
   ·exact CB h (EF (Or.inr (Or.inr (Or.inr (Or.inr (Or.inl ⟨Or.inr (Or.inl rfl),rfl,rfl,rfl⟩))))) (F5 _ _))
   split at h
   ·exact CB h (EF (Or.inr (Or.inr (Or.inr (Or.inr (Or.inl ⟨Or.inr (Or.inr rfl),rfl,rfl,rfl⟩))))) (F5 _ _))
   split at h
   ·obtain⟨x,s1,hx,h⟩:=A6 h
    obtain⟨nx,rfl⟩:=Dc hS hx
    exact CB h (EF (Or.inr (Or.inr (Or.inr (Or.inr (Or.inr ⟨Or.inl rfl,nx,rfl,rfl⟩))))) (F5 _ _))
   ·obtain⟨u,s1,hu,h⟩:=A6 h
    obtain⟨a,s2,ha,h⟩:=A6 h
    obtain⟨v,s3,hv,h⟩:=A6 h
    cases h
    exact I.expr _ _ _ ha
theorem VG{k:Int}(h6:k≠6)(h9:k≠9)(h10:k≠10)(h13:k≠13)(i:Nat):Io k i=0:=by
 unfold Io
 rw[if_neg h6,if_neg h13,if_neg (by omega)]
theorem Kv{k:Int}{x:List Int}{a:Nd}(hk:((k=7\/k=8)/\C8 x=true)\/((k=11\/k=12\/k=14\/k=15\/k=17)/\x=[]))(ha:WfR 0 a):WfR 1 (.mk k x 0 [a]):=by
 refine EF ?_ (H7 (r:=0) (VG (by omega) (by omega) (by omega) (by omega)) _ _ fun c hc=>by rw[List.mem_singleton.1 hc];exact ha)
 rcases hk with⟨h1,h2⟩ | ⟨h1,h2⟩
 ·exact Or.inl ⟨h1,h2,rfl,rfl⟩
 ·exact Or.inr (Or.inr (Or.inr ⟨by omega,h2,rfl,rfl⟩))
theorem UG{a b:Nd}(ha:WfR 0 a)(hb:WfR 0 b):WfR 1 (.mk 16 [] 0 [a,b]):=
 EF (Or.inr (Or.inr (Or.inl ⟨Or.inr rfl,rfl,rfl,rfl⟩))) (H7 (r:=0) (VG (by decide) (by decide) (by decide) (by decide)) _ _ fun c hc=>by
  rcases List.mem_cons.1 hc with rfl | hc
  ·exact ha
  ·rw[List.mem_singleton.1 hc];exact hb)
theorem UH{b:Nd}(hb:WfR 2 b):WfR 1 (.mk 13 [] 0 [b]):=
 EF (Or.inr (Or.inr (Or.inr ⟨Or.inr (Or.inr (Or.inl rfl)),rfl,rfl,rfl⟩))) (FK hb (F5 _ _))
theorem Sf{a b:Nd}(ha:WfR 0 a)(hb:WfR 2 b):WfR 1 (.mk 10 [] 0 [a,b]):=
 EF (Or.inr (Or.inr (Or.inl ⟨Or.inl rfl,rfl,rfl,rfl⟩))) (FK ha (FK hb (F5 _ _)))
theorem W8{a b:Nd}(ha:WfR 0 a)(hb:WfR 2 b):WfR 1 (.mk 9 [] 0 [a,b]):=
 EF (Or.inr (Or.inl ⟨rfl,rfl,rfl,Or.inl rfl⟩)) (FK ha (FK hb (F5 _ _)))
theorem UI{a b c:Nd}(ha:WfR 0 a)(hb:WfR 2 b)(hc:WfR 2 c):WfR 1 (.mk 9 [] 0 [a,b,c]):=
 EF (Or.inr (Or.inl ⟨rfl,rfl,rfl,Or.inr rfl⟩)) (FK ha (FK hb (FK hc (F5 _ _))))
theorem UJ{ks:List Nd}(h:∀c∈ks,WfR 1 c):WfR 2 (.mk 6 [] 0 ks):=
 EF ⟨rfl,rfl,rfl⟩ (H7 (r:=1) (fun _=>rfl) _ _ h)
theorem Qk{S:Src9}(hS:S.good){f:Nat}{kind:Int}{s s':PS}{n:Nd}(h:Fp S f kind s=.ok (n,s'))(hk:kind=7\/kind=8):WfR 1 n:=by
 unfold Fp at h
 obtain⟨x,s1,hx,h⟩:=A6 h
 obtain⟨nx,rfl⟩:=Dc hS hx
 obtain⟨u,s2,hu,h⟩:=A6 h
 obtain⟨a,s3,ha,h⟩:=A6 h
 obtain⟨v,s4,hv,h⟩:=A6 h
 exact CB h (Kv (Or.inl ⟨hk,nx⟩) ((Ip hS f).expr _ _ _ ha))
theorem N7{S:Src9}(hS:S.good){f:Nat}{s s':PS}{n:Nd}(h:Fq S f s=.ok (n,s')):WfR 0 n:=by
 unfold Fq at h
 obtain⟨u,s1,hu,h⟩:=A6 h
 obtain⟨a,s2,ha,h⟩:=A6 h
 obtain⟨v,s3,hv,h⟩:=A6 h
 cases h
 exact(Ip hS f).expr _ _ _ ha
theorem Oz{S:Src9}(hS:S.good){f:Nat}{kind:Int}{s s':PS}{n:Nd}(h:Gc S f kind s=.ok (n,s'))(hk:kind=12\/kind=14\/kind=15):WfR 1 n:=by
 unfold Gc at h
 obtain⟨u,s1,hu,h⟩:=A6 h
 obtain⟨a,s2,ha,h⟩:=A6 h
 obtain⟨v,s3,hv,h⟩:=A6 h
 obtain⟨t,s4,ht,h⟩:=A6 h
 exact CB h (Kv (Or.inr ⟨by omega,rfl⟩) ((Ip hS f).expr _ _ _ ha))
theorem W9{S:Src9}(hS:S.good){f:Nat}{s s':PS}{n:Nd}(h:Hy S f 16 s=.ok (n,s')):WfR 1 n:=by
 unfold Hy at h
 obtain⟨u,s1,hu,h⟩:=A6 h
 obtain⟨a,s2,ha,h⟩:=A6 h
 obtain⟨w,s3,hw,h⟩:=A6 h
 obtain⟨b,s4,hb,h⟩:=A6 h
 obtain⟨v,s5,hv,h⟩:=A6 h
 obtain⟨t,s6,ht,h⟩:=A6 h
 exact CB h (UG ((Ip hS f).expr _ _ _ ha) ((Ip hS f).expr _ _ _ hb))
structure WA(S:Src9)(f:Nat):Prop where
 block:∀s n s',Bz S f s=.ok (n,s')->WfR 2 n
 stmts:∀s ks s',Cv S f s=.ok (ks,s')->∀c∈ks,WfR 1 c
 stmt:∀s n s',Di S f s=.ok (n,s')->WfR 1 n
theorem P0{S:Src9}(hS:S.good):∀f,WA S f
 | 0=>by
  constructor
  ·intro s n s' h;rw[Bz]at h;exact Bl h
  ·intro s n s' h;rw[Cv]at h;exact Bl h
  ·intro s n s' h;rw[Di]at h;exact Bl h
 | f+1=>by
  have I:=P0 hS f
  constructor
  ·intro s n s' h
   rw[Bz]at h
   obtain⟨u,s1,hu,h⟩:=A6 h
   obtain⟨ks,s2,hk,h⟩:=A6 h
   obtain⟨v,s3,hv,h⟩:=A6 h
   exact CB h (UJ (I.stmts _ _ _ hk))
  ·intro s ks s' h
   rw[Cv]at h
   split at h
   ·cases h
    intro c hc;cases hc
   ·obtain⟨k,s1,hk,h⟩:=A6 h
    obtain⟨ls,s2,hl,h⟩:=A6 h
    cases h
    intro c hc
    rcases List.mem_cons.1 hc with rfl | hc
    ·exact I.stmt _ _ _ hk
    ·exact I.stmts _ _ _ hl c hc
  ·intro s n s' h
   rw[Di]at h
   split at h
   ·exact Qk hS h (Or.inl rfl)
   split at h
   ·obtain⟨a,s1,ha,h⟩:=A6 h
    obtain⟨b,s2,hb,h⟩:=A6 h
    split at h
    ·obtain⟨c,s3,hc,h⟩:=A6 h
     exact CB h (UI (N7 hS ha) (I.block _ _ _ hb) (I.block _ _ _ hc))
    ·exact CB h (W8 (N7 hS ha) (I.block _ _ _ hb))
   split at h
   ·obtain⟨a,s1,ha,h⟩:=A6 h
    obtain⟨b,s2,hb,h⟩:=A6 h
    exact CB h (Sf (N7 hS ha) (I.block _ _ _ hb))
   split at h
   ·obtain⟨a,s1,ha,h⟩:=A6 h
    obtain⟨v,s2,hv,h⟩:=A6 h
    exact CB h (Kv (Or.inr ⟨by decide,rfl⟩) ((Ip hS f).expr _ _ _ ha))
   split at h
   ·exact Oz hS h (by decide)
   split at h
   ·obtain⟨b,s2,hb,h⟩:=A6 h
    exact CB h (UH (I.block _ _ _ hb))
   split at h
   ·exact Oz hS h (by decide)
   split at h
   ·exact Oz hS h (by decide)
   split at h
   ·exact W9 hS h
   split at h
   ·exact Qk hS h (Or.inr rfl)
   ·obtain⟨a,s1,ha,h⟩:=A6 h
    obtain⟨v,s2,hv,h⟩:=A6 h
    exact CB h (Kv (Or.inr ⟨by decide,rfl⟩) ((Ip hS f).expr _ _ _ ha))
def WfM(n:Nd):Prop:=∃x ks b,n=.mk 4 x ((ks:List Nd).length:Int) (ks++[b])/\C8 x=true/\(∀c∈ks,Ld c)/\WfR 2 b
def WfC(n:Nd):Prop:=∃x up ks ms,n=.mk 2 x 0 (up++ks++ms)/\C8 x=true/\(up=[]\/∃y,C8 y=true/\up=[.mk 31 y 0 []])/\(∀c∈ks,SlotN c)/\(∀c∈ms,WfM c)
def WfP(n:Nd):Prop:=∃ks b,n=.mk 1 [] 0 (ks++[b])/\(∀c∈ks,WfC c)/\WfR 2 b
theorem Sg{S:Src9}(hS:S.good){f:Nat}{s s':PS}{n:Nd}(h:DI S f s=.ok (n,s')):WfM n:=by
 unfold DI at h
 obtain⟨x,s1,hx,h⟩:=A6 h
 obtain⟨nx,rfl⟩:=Dc hS hx
 obtain⟨u,s2,hu,h⟩:=A6 h
 obtain⟨ks,s3,hk,h⟩:=A6 h
 have q:∀c∈ks,Ld c:=by
  split at hk
  ·cases hk
   intro c hc;cases hc
  ·exact(Le hS _ _ _ _ hk).2.2
 obtain⟨v,s4,hv,h⟩:=A6 h
 obtain⟨b,s5,hb,h⟩:=A6 h
 cases h
 exact⟨x,ks,b,rfl,nx,q,(P0 hS f).block _ _ _ hb⟩
theorem MJ{S:Src9}(hS:S.good):∀(f:Nat) (s:PS) (ks:List Nd) (s':PS),B6 S f s=.ok (ks,s')->∀c∈ks,WfM c
 | 0,s,ks,s',h=>by rw[B6]at h;exact Bl h
 | f+1,s,ks,s',h=>by
  rw[B6]at h
  split at h
  ·obtain⟨k,s1,hk,h⟩:=A6 h
   obtain⟨ls,s2,hl,h⟩:=A6 h
   cases h
   intro c hc
   rcases List.mem_cons.1 hc with rfl | hc
   ·exact Sg hS hk
   ·exact MJ hS f _ _ _ hl c hc
  ·cases h
   intro c hc;cases hc
theorem UK{S:Src9}(hS:S.good){f:Nat}{s s':PS}{n:Nd}(h:Dm S f s=.ok (n,s')):WfC n:=by
 unfold Dm at h
 obtain⟨x,s1,hx,h⟩:=A6 h
 obtain⟨nx,rfl⟩:=Dc hS hx
 obtain⟨up,s2,hu,h⟩:=A6 h
 have q:up=[]\/∃y,C8 y=true/\up=[.mk 31 y 0 []]:=by
  split at hu
  ·obtain⟨y,s3,hy,hu⟩:=A6 hu
   obtain⟨ny,rfl⟩:=Dc hS hy
   obtain⟨k,s4,hk,hu⟩:=A6 hu
   cases hk
   cases hu
   exact Or.inr ⟨y,ny,rfl⟩
  ·cases hu
   exact Or.inl rfl
 obtain⟨v,s3,hv,h⟩:=A6 h
 obtain⟨ks,s4,hk,h⟩:=A6 h
 obtain⟨ms,s5,hm,h⟩:=A6 h
 obtain⟨w,s6,hw,h⟩:=A6 h
 cases h
 exact⟨x,up,ks,ms,rfl,nx,q,(Lf hS _ _ _ _ hk).2.2,MJ hS _ _ _ _ hm⟩
theorem MK{S:Src9}(hS:S.good):∀(f:Nat) (s:PS) (ks:List Nd) (s':PS),B9 S f s=.ok (ks,s')->∀c∈ks,WfC c
 | 0,s,ks,s',h=>by rw[B9]at h;exact Bl h
 | f+1,s,ks,s',h=>by
  rw[B9]at h
  split at h
  ·obtain⟨k,s1,hk,h⟩:=A6 h
   obtain⟨ls,s2,hl,h⟩:=A6 h
   cases h
   intro c hc
   rcases List.mem_cons.1 hc with rfl | hc
   ·exact UK hS hk
   ·exact MK hS f _ _ _ hl c hc
  ·cases h
   intro c hc;cases hc
theorem UL{S:Src9}(hS:S.good){f:Nat}{n:Nd}(h:Cn S f=.ok n):WfP n:=by
 unfold Cn at h
 split at h
 ·cases h
 ·rename_i m s hp
  have hm:WfP m:=by
   unfold Ec at hp
   obtain⟨ks,s1,hk,hp⟩:=A6 hp
   obtain⟨u,s2,hu,hp⟩:=A6 hp
   obtain⟨b,s3,hb,hp⟩:=A6 hp
   cases hp
   exact⟨ks,b,rfl,MK hS _ _ _ _ hk,(P0 hS f).block _ _ _ hb⟩
  split at h
  ·cases h
  ·split at h
   ·cases h
   ·cases h
    exact hm
theorem UM{T:List Int}{n:Nd}(h:Cc T=.ok n):WfP n/\A4 n<=600:=by
 unfold Cc at h
 split at h
 ·cases h
 ·rename_i l hl
  exact⟨UL (Fe hl) h,(U3 (Fe hl) h).1⟩
def Bad{α:Type}(g:Got α):Prop:=∀e,g=.error e->e.1≠0
theorem BW{α:Type}(y:α×PS):Bad (.ok y:Got α):=fun e h=>by cases h
theorem B0{α:Type}:Bad (ES:Got α):=fun e h=>by unfold ES at h;cases h;decide
theorem BK{α:Type}{c:Int}(S:Src9)(s:PS)(hc:c≠0):Bad (C7 S c s:Got α):=fun e h=>by unfold C7 at h;cases h;exact hc
theorem Bh{α β:Type}{g:Got α}{f:α->PS->Got β}(h:Bad g)(h':∀a s,Bad (f a s)):Bad (g.then f):=fun e he=>by
 cases g with
 | error e'=>exact h e (by unfold Got.then at he;exact congrArg _ (by injection he))
 | ok y=>exact h' y.1 y.2 e he
theorem BZ{α:Type}{p:Prop}[Decidable p]{a b:Got α}(ha:Bad a)(hb:Bad b):Bad (if p then a else b):=by
 by_cases h:p
 ·rw[if_pos h];exact ha
 ·rw[if_neg h];exact hb
theorem Bi(S:Src9)(x:List Int)(s:PS):Bad (A3 S x s):=by
 unfold A3
 exact BZ (BZ (BZ (BK _ _ (by decide)) (BW _)) (BZ (BW _) (BW _))) (BK _ _ (by decide))
theorem Bj(S:Src9)(s:PS):Bad (AW S s):=BZ (BW _) (BK _ _ (by decide))
theorem Bk(k:Int)(x:List Int)(m:Int)(ks:List Nd)(s:PS):Bad (AD k x m ks s):=BW _
structure Wm(S:Src9)(f:Nat):Prop where
 expr:∀s,Bad (CV S f s)
 sum:∀s,Bad (EJ S f s)
 sumL:∀n s,Bad (sumL S f n s)
 term:∀s,Bad (DR S f s)
 termL:∀n s,Bad (termL S f n s)
 unary:∀s,Bad (Ca S f s)
 call:∀s,Bad (Dg S f s)
 callL:∀n s,Bad (callL S f n s)
 args:∀s,Bad (DV S f s)
 prim:∀s,Bad (Dh S f s)
theorem Kj(S:Src9):∀f,Wm S f
 | 0=>⟨fun _=>by rw[CV];exact B0,fun _=>by rw[EJ];exact B0,fun _ _=>by rw[sumL];exact B0,fun _=>by rw[DR];exact B0,fun _ _=>by rw[termL];exact B0,fun _=>by rw[Ca];exact B0,fun _=>by rw[Dg];exact B0,fun _ _=>by rw[callL];exact B0,fun _=>by rw[DV];exact B0,fun _=>by rw[Dh];exact B0⟩
 | f+1=>by
  have ih:=Kj S f
  refine⟨fun s=>?_,fun s=>?_,fun n s=>?_,fun s=>?_,fun n s=>?_,fun s=>?_,fun s=>?_,fun n s=>?_,fun s=>?_,fun s=>?_⟩
  ·rw[CV];(repeat (first | exact ih.expr _ | exact ih.sum _ | exact ih.sumL _ _ | exact ih.term _ | exact ih.termL _ _ | exact ih.unary _ | exact ih.call _ | exact ih.callL _ _ | exact ih.args _ | exact ih.prim _ | exact BW _ | exact B0 | exact Bi _ _ _ | exact Bj _ _ | exact Bk _ _ _ _ _ | exact BK _ _ (by decide) | refine Bh ?_ (fun _ _=>?_) | refine BZ ?_ ?_))
  ·rw[EJ];(repeat (first | exact ih.expr _ | exact ih.sum _ | exact ih.sumL _ _ | exact ih.term _ | exact ih.termL _ _ | exact ih.unary _ | exact ih.call _ | exact ih.callL _ _ | exact ih.args _ | exact ih.prim _ | exact BW _ | exact B0 | exact Bi _ _ _ | exact Bj _ _ | exact Bk _ _ _ _ _ | exact BK _ _ (by decide) | refine Bh ?_ (fun _ _=>?_) | refine BZ ?_ ?_))
  ·rw[sumL];(repeat (first | exact ih.expr _ | exact ih.sum _ | exact ih.sumL _ _ | exact ih.term _ | exact ih.termL _ _ | exact ih.unary _ | exact ih.call _ | exact ih.callL _ _ | exact ih.args _ | exact ih.prim _ | exact BW _ | exact B0 | exact Bi _ _ _ | exact Bj _ _ | exact Bk _ _ _ _ _ | exact BK _ _ (by decide) | refine Bh ?_ (fun _ _=>?_) | refine BZ ?_ ?_))
  ·rw[DR];(repeat (first | exact ih.expr _ | exact ih.sum _ | exact ih.sumL _ _ | exact ih.term _ | exact ih.termL _ _ | exact ih.unary _ | exact ih.call _ | exact ih.callL _ _ | exact ih.args _ | exact ih.prim _ | exact BW _ | exact B0 | exact Bi _ _ _ | exact Bj _ _ | exact Bk _ _ _ _ _ | exact BK _ _ (by decide) | refine Bh ?_ (fun _ _=>?_) | refine BZ ?_ ?_))
  ·rw[termL];(repeat (first | exact ih.expr _ | exact ih.sum _ | exact ih.sumL _ _ | exact ih.term _ | exact ih.termL _ _ | exact ih.unary _ | exact ih.call _ | exact ih.callL _ _ | exact ih.args _ | exact ih.prim _ | exact BW _ | exact B0 | exact Bi _ _ _ | exact Bj _ _ | exact Bk _ _ _ _ _ | exact BK _ _ (by decide) | refine Bh ?_ (fun _ _=>?_) | refine BZ ?_ ?_))
  ·rw[Ca];(repeat (first | exact ih.expr _ | exact ih.sum _ | exact ih.sumL _ _ | exact ih.term _ | exact ih.termL _ _ | exact ih.unary _ | exact ih.call _ | exact ih.callL _ _ | exact ih.args _ | exact ih.prim _ | exact BW _ | exact B0 | exact Bi _ _ _ | exact Bj _ _ | exact Bk _ _ _ _ _ | exact BK _ _ (by decide) | refine Bh ?_ (fun _ _=>?_) | refine BZ ?_ ?_))
  ·rw[Dg];(repeat (first | exact ih.expr _ | exact ih.sum _ | exact ih.sumL _ _ | exact ih.term _ | exact ih.termL _ _ | exact ih.unary _ | exact ih.call _ | exact ih.callL _ _ | exact ih.args _ | exact ih.prim _ | exact BW _ | exact B0 | exact Bi _ _ _ | exact Bj _ _ | exact Bk _ _ _ _ _ | exact BK _ _ (by decide) | refine Bh ?_ (fun _ _=>?_) | refine BZ ?_ ?_))
  ·rw[callL];(repeat (first | exact ih.expr _ | exact ih.sum _ | exact ih.sumL _ _ | exact ih.term _ | exact ih.termL _ _ | exact ih.unary _ | exact ih.call _ | exact ih.callL _ _ | exact ih.args _ | exact ih.prim _ | exact BW _ | exact B0 | exact Bi _ _ _ | exact Bj _ _ | exact Bk _ _ _ _ _ | exact BK _ _ (by decide) | refine Bh ?_ (fun _ _=>?_) | refine BZ ?_ ?_))
  ·rw[DV];(repeat (first | exact ih.expr _ | exact ih.sum _ | exact ih.sumL _ _ | exact ih.term _ | exact ih.termL _ _ | exact ih.unary _ | exact ih.call _ | exact ih.callL _ _ | exact ih.args _ | exact ih.prim _ | exact BW _ | exact B0 | exact Bi _ _ _ | exact Bj _ _ | exact Bk _ _ _ _ _ | exact BK _ _ (by decide) | refine Bh ?_ (fun _ _=>?_) | refine BZ ?_ ?_))
  ·rw[Dh];(repeat (first | exact ih.expr _ | exact ih.sum _ | exact ih.sumL _ _ | exact ih.term _ | exact ih.termL _ _ | exact ih.unary _ | exact ih.call _ | exact ih.callL _ _ | exact ih.args _ | exact ih.prim _ | exact BW _ | exact B0 | exact Bi _ _ _ | exact Bj _ _ | exact Bk _ _ _ _ _ | exact BK _ _ (by decide) | refine Bh ?_ (fun _ _=>?_) | refine BZ ?_ ?_))
theorem Lv(S:Src9)(f:Nat)(k:Int)(s:PS):Bad (Fp S f k s):=by
 have ih:=Kj S f
 unfold Fp;(repeat (first | exact ih.expr _ | exact BW _ | exact B0 | exact Bi _ _ _ | exact Bj _ _ | exact Bk _ _ _ _ _ | exact BK _ _ (by decide) | refine Bh ?_ (fun _ _=>?_) | refine BZ ?_ ?_))
theorem NH(S:Src9)(f:Nat)(k:Int)(s:PS):Bad (Gc S f k s):=by
 have ih:=Kj S f
 unfold Gc;(repeat (first | exact ih.expr _ | exact BW _ | exact B0 | exact Bi _ _ _ | exact Bj _ _ | exact Bk _ _ _ _ _ | exact BK _ _ (by decide) | refine Bh ?_ (fun _ _=>?_) | refine BZ ?_ ?_))
theorem NI(S:Src9)(f:Nat)(k:Int)(s:PS):Bad (Hy S f k s):=by
 have ih:=Kj S f
 unfold Hy;(repeat (first | exact ih.expr _ | exact BW _ | exact B0 | exact Bi _ _ _ | exact Bj _ _ | exact Bk _ _ _ _ _ | exact BK _ _ (by decide) | refine Bh ?_ (fun _ _=>?_) | refine BZ ?_ ?_))
theorem Lw(S:Src9)(f:Nat)(s:PS):Bad (Fq S f s):=by
 have ih:=Kj S f
 unfold Fq;(repeat (first | exact ih.expr _ | exact BW _ | exact B0 | exact Bi _ _ _ | exact Bj _ _ | exact Bk _ _ _ _ _ | exact BK _ _ (by decide) | refine Bh ?_ (fun _ _=>?_) | refine BZ ?_ ?_))
structure Wn(S:Src9)(f:Nat):Prop where
 block:∀s,Bad (Bz S f s)
 stmts:∀s,Bad (Cv S f s)
 stmt:∀s,Bad (Di S f s)
theorem V7(S:Src9):∀f,Wn S f
 | 0=>⟨fun _=>by rw[Bz];exact B0,fun _=>by rw[Cv];exact B0,fun _=>by rw[Di];exact B0⟩
 | f+1=>by
  have ih:=V7 S f
  refine⟨fun s=>?_,fun s=>?_,fun s=>?_⟩
  ·rw[Bz];(repeat (first | exact ih.block _ | exact ih.stmts _ | exact ih.stmt _ | exact(Kj S f).expr _ | exact Lv _ _ _ _ | exact NH _ _ _ _ | exact NI _ _ _ _ | exact Lw _ _ _ | exact BW _ | exact B0 | exact Bi _ _ _ | exact Bj _ _ | exact Bk _ _ _ _ _ | exact BK _ _ (by decide) | refine Bh ?_ (fun _ _=>?_) | refine BZ ?_ ?_))
  ·rw[Cv];(repeat (first | exact ih.block _ | exact ih.stmts _ | exact ih.stmt _ | exact(Kj S f).expr _ | exact Lv _ _ _ _ | exact NH _ _ _ _ | exact NI _ _ _ _ | exact Lw _ _ _ | exact BW _ | exact B0 | exact Bi _ _ _ | exact Bj _ _ | exact Bk _ _ _ _ _ | exact BK _ _ (by decide) | refine Bh ?_ (fun _ _=>?_) | refine BZ ?_ ?_))
  ·rw[Di];(repeat (first | exact ih.block _ | exact ih.stmts _ | exact ih.stmt _ | exact(Kj S f).expr _ | exact Lv _ _ _ _ | exact NH _ _ _ _ | exact NI _ _ _ _ | exact Lw _ _ _ | exact BW _ | exact B0 | exact Bi _ _ _ | exact Bj _ _ | exact Bk _ _ _ _ _ | exact BK _ _ (by decide) | refine Bh ?_ (fun _ _=>?_) | refine BZ ?_ ?_))
theorem OA(S:Src9):∀f s,Bad (Cb S f s)
 | 0,_=>by rw[Cb];exact B0
 | f+1,s=>by
  have ih:=OA S f
  rw[Cb];(repeat (first | exact ih _ | exact BW _ | exact B0 | exact Bi _ _ _ | exact Bj _ _ | exact Bk _ _ _ _ _ | exact BK _ _ (by decide) | refine Bh ?_ (fun _ _=>?_) | refine BZ ?_ ?_))
theorem S0(S:Src9)(f:Nat)(s:PS):Bad (DI S f s):=by
 unfold DI;(repeat (first | exact OA _ _ _ | exact(V7 S f).block _ | exact BW _ | exact B0 | exact Bi _ _ _ | exact Bj _ _ | exact Bk _ _ _ _ _ | exact BK _ _ (by decide) | refine Bh ?_ (fun _ _=>?_) | refine BZ ?_ ?_))
theorem OB(S:Src9):∀f s,Bad (Bo S f s)
 | 0,_=>by rw[Bo];exact B0
 | f+1,s=>by
  have ih:=OB S f
  rw[Bo];(repeat (first | exact ih _ | exact BW _ | exact B0 | exact Bi _ _ _ | exact Bj _ _ | exact Bk _ _ _ _ _ | exact BK _ _ (by decide) | refine Bh ?_ (fun _ _=>?_) | refine BZ ?_ ?_))
theorem LO(S:Src9):∀f s,Bad (B6 S f s)
 | 0,_=>by rw[B6];exact B0
 | f+1,s=>by
  have ih:=LO S f
  rw[B6];(repeat (first | exact ih _ | exact S0 _ _ _ | exact BW _ | exact B0 | exact Bi _ _ _ | exact Bj _ _ | exact Bk _ _ _ _ _ | exact BK _ _ (by decide) | refine Bh ?_ (fun _ _=>?_) | refine BZ ?_ ?_))
theorem Ti(S:Src9)(f:Nat)(s:PS):Bad (Dm S f s):=by
 unfold Dm;(repeat (first | exact OB _ _ _ | exact LO _ _ _ | exact BW _ | exact B0 | exact Bi _ _ _ | exact Bj _ _ | exact Bk _ _ _ _ _ | exact BK _ _ (by decide) | refine Bh ?_ (fun _ _=>?_) | refine BZ ?_ ?_))
theorem LP(S:Src9):∀f s,Bad (B9 S f s)
 | 0,_=>by rw[B9];exact B0
 | f+1,s=>by
  have ih:=LP S f
  rw[B9];(repeat (first | exact ih _ | exact Ti _ _ _ | exact BW _ | exact B0 | exact Bi _ _ _ | exact Bj _ _ | exact Bk _ _ _ _ _ | exact BK _ _ (by decide) | refine Bh ?_ (fun _ _=>?_) | refine BZ ?_ ?_))
theorem V8(S:Src9)(f:Nat)(s:PS):Bad (Ec S f s):=by
 unfold Ec;(repeat (first | exact LP _ _ _ | exact(V7 S f).block _ | exact BW _ | exact B0 | exact Bi _ _ _ | exact Bj _ _ | exact Bk _ _ _ _ _ | exact BK _ _ (by decide) | refine Bh ?_ (fun _ _=>?_) | refine BZ ?_ ?_))
end Go.Proofs.YtibeadcfgcfdbaaGreatDoor
