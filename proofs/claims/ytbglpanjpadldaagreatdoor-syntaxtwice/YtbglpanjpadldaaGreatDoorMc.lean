/- Texts in one. -/
import Derived.Test.YtbglpanjpadldaaGreatDoorMb
namespace Go.Proofs.YtbglpanjpadldaaGreatDoor
def RX(d:Int)(a:Nd)(la:List Tok):Prop:=∀(S:Src9) (s:PS) (x:List Int),s.deep<=d->AY S s.tok la->AY S (s.past la (A1 a)).tok (A5 x)->(x=AQ\/x=A9\/x=An)->Ao S s=.ok (a,s.past la (A1 a))
theorem Du{d:Int}{a:Nd}(h:Nat9 d a):∃la,(∀F,2*A1 a+1<=F->AH F 0 a=some la)/\RX d a la:=by
 obtain⟨la,w,o⟩:=h
 refine⟨la,fun F hF=>?_,fun S s x hs ht hx he=>?_⟩
 ·obtain⟨G,rfl⟩:∃G,F=G+1:=⟨F-1,by omega⟩
  exact w G (by omega)
 ·refine o.r0 S s hs ht ?_
  rcases he with rfl | rfl | rfl<;>exact FF hx (fun _=>by decide) (fun _=>by decide) (fun _=>⟨by decide,by decide⟩) (fun _=>⟨by decide,by decide⟩)
theorem D0{α:Type}{n:α}{st s:PS}{l:List Tok}{k:Nat}(h1:st.tok=s.tok+l.length)(h2:st.deep=s.deep)(h3:st.many=s.many+(k:Int)):(Except.ok (n,st):Got α)=.ok (n,s.past l k):=by
 obtain⟨a,b,c⟩:=st
 simp only at h1 h2 h3
 subst h1 h2 h3
 rfl
theorem Kf{d:Int}{a:Nd}{la:List Tok}(h:RX d a la){S:Src9}{s:PS}(kind:Int){x:List Int}(hs:s.deep<=d)(ht:AY S s.tok ([(1,x,0)]++(A5 Ca++(la++A5 AQ)))):EU S kind s=.ok (.mk kind x 0 [a],s.past ([(1,x,0)]++(A5 Ca++(la++A5 AQ))) (1+A1 a)):=by
 obtain⟨t1,t'⟩:=AK ht
 obtain⟨t2,t'⟩:=AK t'
 obtain⟨t3,t4⟩:=AK t'
 unfold EU
 rw[Dl t1]
 show(A8 S Ca s.step).then _=_
 rw[EA (s:=s.step) t2 (by decide) (by decide)]
 show(Ao S s.step.step).then _=_
 rw[h S s.step.step AQ hs t3 t4 (Or.inl rfl)]
 show(A8 S AQ (s.step.step.past la (A1 a))).then _=_
 rw[EA (s:=s.step.step.past la (A1 a)) t4 (by decide) (by decide)]
 refine D0 (st:=(s.step.step.past la (A1 a)).step.node) ?_ rfl ?_
 ·show s.tok+1+1+la.length+1=_
  simp only[Z1,BN,List.length_singleton];omega
 ·show s.many+(A1 a:Int)+1=_
  push_cast;omega
theorem GU{d:Int}{a:Nd}{la:List Tok}(h:RX (d+1) a la)(hd:d+1<=20){S:Src9}{s:PS}(hs:s.deep<=d)(ht:AY S s.tok (A5 AD++(la++A5 A9))):Bw S s=.ok (a,s.past (A5 AD++(la++A5 A9)) (A1 a)):=by
 obtain⟨t1,t'⟩:=AK ht
 obtain⟨t2,t3⟩:=AK t'
 unfold Bw
 rw[FO t1 (Or.inl rfl) (by omega)]
 show(Ao S s.down).then _=_
 rw[h S s.down A9 (show s.deep+1<=d+1 by omega) t2 t3 (Or.inr (Or.inl rfl))]
 show(A8 S A9 (s.down.past la (A1 a))).then _=_
 rw[Ga (s:=s.down.past la (A1 a)) t3 (Or.inl rfl)]
 refine D0 (st:=(s.down.past la (A1 a)).up) ?_ ?_ rfl
 ·show s.tok+1+la.length+1=_
  simp only[Z1,BN];omega
 ·show s.deep+1-1=s.deep
  omega
theorem Ri(S:Src9)(kind:Int)(s:PS):Ey S kind s=(Bw S s).then fun k s=>(A8 S AQ s).then fun _ s=>AJ kind [] 0 [k] s:=by
 unfold Ey Bw
 cases A8 S AD s with
 | error e=>rfl
 | ok p=>
  obtain⟨u,s1⟩:=p
  show(Ao S s1).then _=((Ao S s1).then _).then _
  cases Ao S s1 with
  | error e=>rfl
  | ok p=>
   obtain⟨k,s2⟩:=p
   show(A8 S A9 s2).then _=((A8 S A9 s2).then _).then _
   cases A8 S A9 s2 with
   | error e=>rfl
   | ok p=>rfl
theorem QD{d:Int}{a:Nd}{la:List Tok}(h:RX (d+1) a la)(hd:d+1<=20){S:Src9}{s:PS}(kind:Int)(hs:s.deep<=d)(ht:AY S s.tok ((A5 AD++(la++A5 A9))++A5 AQ)):Ey S kind s=.ok (.mk kind [] 0 [a],s.past ((A5 AD++(la++A5 A9))++A5 AQ) (1+A1 a)):=by
 obtain⟨t1,t2⟩:=AK ht
 rw[Ri,GU h hd hs t1]
 show(A8 S AQ (s.past (A5 AD++(la++A5 A9)) (A1 a))).then _=_
 rw[EA (s:=s.past (A5 AD++(la++A5 A9)) (A1 a)) t2 (by decide) (by decide)]
 refine D0 (st:=(s.past (A5 AD++(la++A5 A9)) (A1 a)).step.node) ?_ rfl ?_
 ·show s.tok+(A5 AD++(la++A5 A9)).length+1=_
  simp only[Z1,BN];omega
 ·show s.many+(A1 a:Int)+1=_
  push_cast;omega
theorem QE{d:Int}{a b:Nd}{la lb:List Tok}(h:RX (d+1) a la)(h':RX (d+1) b lb)(hd:d+1<=20){S:Src9}{s:PS}(kind:Int)(hs:s.deep<=d)(ht:AY S s.tok (A5 AD++(la++(A5 An++(lb++(A5 A9++A5 AQ)))))):Gm S kind s=.ok (.mk kind [] 0 [a,b],s.past (A5 AD++(la++(A5 An++(lb++(A5 A9++A5 AQ))))) (1+(A1 a+A1 b))):=by
 obtain⟨t1,t'⟩:=AK ht
 obtain⟨t2,t'⟩:=AK t'
 obtain⟨t3,t'⟩:=AK t'
 obtain⟨t4,t'⟩:=AK t'
 obtain⟨t5,t6⟩:=AK t'
 unfold Gm
 rw[FO t1 (Or.inl rfl) (by omega)]
 show(Ao S s.down).then _=_
 rw[h S s.down An (show s.deep+1<=d+1 by omega) t2 t3 (Or.inr (Or.inr rfl))]
 show(A8 S An (s.down.past la (A1 a))).then _=_
 rw[EA (s:=s.down.past la (A1 a)) t3 (by decide) (by decide)]
 show(Ao S (s.down.past la (A1 a)).step).then _=_
 rw[h' S (s.down.past la (A1 a)).step A9 (show s.deep+1<=d+1 by omega) t4 t5 (Or.inr (Or.inl rfl))]
 show(A8 S A9 ((s.down.past la (A1 a)).step.past lb (A1 b))).then _=_
 rw[Ga (s:=(s.down.past la (A1 a)).step.past lb (A1 b)) t5 (Or.inl rfl)]
 show(A8 S AQ ((s.down.past la (A1 a)).step.past lb (A1 b)).up).then _=_
 rw[EA (s:=((s.down.past la (A1 a)).step.past lb (A1 b)).up) t6 (by decide) (by decide)]
 refine D0 (st:=((s.down.past la (A1 a)).step.past lb (A1 b)).up.step.node) ?_ ?_ ?_
 ·show s.tok+1+la.length+1+lb.length+1+1=_
  simp only[Z1,BN];omega
 ·show s.deep+1-1=s.deep
  omega
 ·show s.many+(A1 a:Int)+(A1 b:Int)+1=_
  push_cast;omega
def Ss(d:Int)(n:Nd)(l:List Tok):Prop:=∀(S:Src9) (s:PS),s.deep<=d->AY S s.tok l->A2 S Cy (s.past l (A1 n))=false->Cf S s=.ok (n,s.past l (A1 n))
def TQ(d:Int)(n:Nd)(l:List Tok):Prop:=∀(S:Src9) (s:PS),s.deep<=d->AY S s.tok l->Aj S s=.ok (n,s.past l (A1 n))
def EZ(d:Int)(n:Nd):Prop:=∃l,(∀F,2*A1 n<=F->Aa F n=some l)/\Ss d n l
def ID(d:Int)(n:Nd):Prop:=∃l,(∀F,2*A1 n<=F->BR F n=some l)/\TQ d n l
theorem Mx{S:Src9}{s:PS}{x:List Int}{n:Nd}{s1:PS}(he:Cf S s=.ok (n,s1))(h1:x=Au\/x=Cy):A2 S x s=false:=by
 cases h:A2 S x s with
 | false=>rfl
 | true=>
  obtain⟨q,i1,i2⟩:=Iw h
  rw[Bt]at he
  have hs:¬Cv S s=true:=by unfold Cv;rw[i1,Bool.false_and];decide
  have hx:Ao S s=Bu S 12 s:=Mw h (by rcases h1 with rfl | rfl<;>decide)
  have nn:∀y,x≠y->¬A2 S y s=true:=fun y hy=>by rw[q,beq_eq_false_iff_ne.2 hy];decide
  rw[if_neg (nn _ (by rcases h1 with rfl | rfl<;>decide)),if_neg (nn _ (by rcases h1 with rfl | rfl<;>decide)),if_neg (nn _ (by rcases h1 with rfl | rfl<;>decide)),if_neg (nn _ (by rcases h1 with rfl | rfl<;>decide)),if_neg (nn _ (by rcases h1 with rfl | rfl<;>decide)),if_neg (nn _ (by rcases h1 with rfl | rfl<;>decide)),if_neg (nn _ (by rcases h1 with rfl | rfl<;>decide)),if_neg (nn _ (by rcases h1 with rfl | rfl<;>decide)),if_neg (nn _ (by rcases h1 with rfl | rfl<;>decide)),if_neg hs,hx]at he
  cases he
theorem Ix{e:Int}:∀(ks:List Nd),(∀c∈ks,EZ e c)->∃l,(∀F,2*AA ks<=F->Bv (ks.map (Aa F))=some l)/\(∀(S:Src9) (s:PS),s.deep<=e->AY S s.tok l->AY S (s.past l (AA ks)).tok (A5 Au)->EN S s=.ok (ks,s.past l (AA ks))/\A2 S Cy s=false)
 | [],_=>by
  refine⟨[],fun F _=>rfl,fun S s hs ht hc=>?_⟩
  rw[show s.past [] (AA [])=s from FN s]at hc⊢
  refine⟨?_,by rw[AL hc];decide⟩
  rw[KF S s (by have:=ht.1;simp at this;omega),if_pos (Ab hc)]
 | c::ks,h=>by
  obtain⟨l,w,o⟩:=h c (Z7 ..)
  obtain⟨l2,w2,o2⟩:=Ix ks fun x hx=>h x (Z8 _ hx)
  refine⟨l++l2,fun F hF=>?_,fun S s hs ht hc=>?_⟩
  ·show AE (Aa F c) (Bv (ks.map (Aa F)))=_
   rw[B1]at hF
   rw[w F (by omega),w2 F (by omega)]
   rfl
  ·rw[B1]at hc⊢
   obtain⟨t1,t2⟩:=AK ht
   rw[<-Cg]at hc⊢
   obtain⟨r2,el⟩:=o2 S (s.past l (A1 c)) hs t2 hc
   have r1:=o S s hs t1 el
   refine⟨?_,Mx r1 (Or.inr rfl)⟩
   rw[KF S s (by have:=ht.1;omega),if_neg (by rw[Mx r1 (Or.inl rfl)];decide),r1]
   show(EN S (s.past l (A1 c))).then _=_
   rw[r2]
   rfl
theorem QF{d:Int}{ks:List Nd}(hd:d+1<=20)(h:∀c∈ks,EZ (d+1) c):ID d (.mk 6 [] 0 ks):=by
 obtain⟨l,w,o⟩:=Ix ks h
 have hsz:A1 (.mk 6 [] 0 ks)=1+AA ks:=by conv=>lhs;unfold A1
 refine⟨A5 Ai++(l++A5 Au),fun F hF=>?_,fun S s hs ht=>?_⟩
 ·rw[hsz]at hF
  obtain⟨G,rfl⟩:∃G,F=G+1:=⟨F-1,by omega⟩
  rw[BR,if_pos rfl,w G (by omega)]
  rfl
 ·obtain⟨t1,t'⟩:=AK ht
  obtain⟨t2,t3⟩:=AK t'
  rw[Mt,FO t1 (Or.inr rfl) (by omega)]
  show(EN S s.down).then _=_
  obtain⟨r,_⟩:=o S s.down (show s.deep+1<=d+1 by omega) t2 t3
  rw[r]
  show(A8 S Au (s.down.past l (AA ks))).then _=_
  rw[Ga (s:=s.down.past l (AA ks)) t3 (Or.inr rfl),hsz]
  refine D0 (st:=(s.down.past l (AA ks)).up.node) ?_ ?_ ?_
  ·show s.tok+1+l.length+1=_
   simp only[Z1,BN];omega
  ·show s.deep+1-1=s.deep
   omega
  ·show s.many+(AA ks:Int)+1=_
   push_cast;omega
theorem Fa{x:List Int}(h:BV x=true):Ax x=some [(1,x,0)]:=by unfold Ax;rw[if_pos h]
theorem Kg(k:Int)(x:List Int)(m:Int)(a b c:Nd):A1 (.mk k x m [a,b,c])=1+(A1 a+(A1 b+A1 c)):=rfl
theorem St{d:Int}{a:Nd}{x:List Int}(hx:BV x=true)(ha:Nat9 d a):EZ d (.mk 7 x 0 [a]):=by
 obtain⟨la,w,r⟩:=Du ha
 refine⟨A5 CT++([(1,x,0)]++(A5 Ca++(la++A5 AQ))),fun F hF=>?_,fun S s hs ht _=>?_⟩
 ·rw[Cw]at hF
  obtain⟨G,rfl⟩:∃G,F=G+1:=⟨F-1,by omega⟩
  rw[Aa]
  show(if(7:Int)=7 then _ else _)=_
  rw[if_pos rfl,Fa hx,w G (by omega)]
  simp[C1,AE]
 ·obtain⟨t1,t2⟩:=AK ht
  rw[Bt,if_pos (Ab t1),Kf r (s:=s.step) 7 hs t2,Cw]
  refine D0 ?_ rfl rfl
  show s.tok+1+_=_
  rw[Z1 (as:=A5 CT),BN];omega
theorem Su{d:Int}{a:Nd}{x:List Int}(hx:BV x=true)(ha:Nat9 d a):EZ d (.mk 8 x 0 [a]):=by
 obtain⟨la,w,r⟩:=Du ha
 refine⟨[(1,x,0)]++(A5 Ca++(la++A5 AQ)),fun F hF=>?_,fun S s hs ht _=>?_⟩
 ·rw[Cw]at hF
  obtain⟨G,rfl⟩:∃G,F=G+1:=⟨F-1,by omega⟩
  rw[Aa]
  show(if(8:Int)=7 then _ else _)=_
  rw[if_neg (by decide),if_pos rfl,Fa hx,w G (by omega)]
  simp[C1,AE]
 ·obtain⟨t1,t'⟩:=AK ht
  obtain⟨t2,_⟩:=AK t'
  have n:∀y,¬A2 S y s=true:=fun y=>by rw[EY t1 (Or.inl rfl)];decide
  have hb:Cv S s=true:=by
   obtain⟨k1,_,_⟩:=GZ t1 1
   obtain⟨p1,_,p3⟩:=Ds (s:=s.step) t2
   have p1':s.tok+1<S.L.length:=p1
   have p3':(S.at (s.tok+1)).2.1=Ca:=p3
   unfold Cv
   rw[k1,p3',decide_eq_true p1']
   rfl
  rw[Bt,if_neg (n _),if_neg (n _),if_neg (n _),if_neg (n _),if_neg (n _),if_neg (n _),if_neg (n _),if_neg (n _),if_neg (n _),if_pos hb,Kf r 8 hs ht]
  rfl
theorem PJ{d:Int}{a:Nd}(ha:Nat9 d a):EZ d (.mk 11 [] 0 [a]):=by
 obtain⟨la,w,r⟩:=Du ha
 refine⟨A5 Bs++(la++A5 AQ),fun F hF=>?_,fun S s hs ht _=>?_⟩
 ·rw[Cw]at hF
  obtain⟨G,rfl⟩:∃G,F=G+1:=⟨F-1,by omega⟩
  rw[Aa]
  show(if(11:Int)=7 then _ else _)=_
  rw[if_neg (by decide),if_neg (by decide),if_neg (by decide),if_neg (by decide),if_pos rfl,w G (by omega)]
  simp[C1,AE]
 ·obtain⟨t1,t'⟩:=AK ht
  obtain⟨t2,t3⟩:=AK t'
  rw[Bt,if_neg (by rw[AL t1];decide),if_neg (by rw[AL t1];decide),if_neg (by rw[AL t1];decide),if_pos (Ab t1),r S s.step AQ hs t2 t3 (Or.inl rfl)]
  show(A8 S AQ (s.step.past la (A1 a))).then _=_
  rw[EA (s:=s.step.past la (A1 a)) t3 (by decide) (by decide),Cw]
  refine D0 (st:=(s.step.past la (A1 a)).step.node) ?_ rfl ?_
  ·show s.tok+1+la.length+1=_
   simp only[Z1,BN];omega
  ·show s.many+(A1 a:Int)+1=_
   push_cast;omega
theorem TR{S:Src9}{s s1:PS}{a:Nd}(he:Ao S s=.ok (a,s1))(ht:AY S s1.tok (A5 AQ)):¬Cv S s=true:=by
 intro hb
 unfold Cv at hb
 simp only[Bool.and_eq_true,beq_iff_eq,decide_eq_true_eq]at hb
 obtain⟨h1,h2,h3⟩:=hb
 obtain⟨i1,i2⟩:=Ft h1
 have n:∀y,¬A2 S y s=true:=fun y h=>by
  have:=(Iw h).2.1
  rw[h1]at this;cases this
 have n2:isB S 2 s=false:=by
  unfold isB;rw[i2];simp
 have q:∀y,Ca≠y->¬A2 S y s.step.node=true:=fun y hy h=>by
  unfold A2 at h
  simp only[Bool.and_eq_true,beq_iff_eq]at h
  have h3':(S.at s.step.node.tok).2.1=Ca:=h3
  exact hy (h3'.symm.trans h.2.1)
 have e0:Di S s=.ok (.mk 31 (S.at s.tok).2.1 0 [],s.step.node):=by
  rw[FL,if_neg (by rw[n2];decide),if_pos h1]
  unfold Ae
  rw[if_pos h1]
  rfl
 have e1:Eo S s=.ok (.mk 31 (S.at s.tok).2.1 0 [],s.step.node):=by
  rw[JY,e0]
  show DF S _ s.step.node=_
  rw[IB,if_neg (q _ (by decide))]
 have e2:BS S s=.ok (.mk 31 (S.at s.tok).2.1 0 [],s.step.node):=by rw[Gl,if_neg (n _),if_neg (n _),e1]
 have e3:CR S s=.ok (.mk 31 (S.at s.tok).2.1 0 [],s.step.node):=by
  rw[JX,e2]
  show Dh S _ s.step.node=_
  rw[IA,if_neg (q _ (by decide))]
 have e4:Ce S s=.ok (.mk 31 (S.at s.tok).2.1 0 [],s.step.node):=by
  rw[Kc,e3]
  show E9 S _ s.step.node=_
  rw[JW,if_neg (q _ (by decide)),if_neg (q _ (by decide))]
 have e5:Ao S s=.ok (.mk 31 (S.at s.tok).2.1 0 [],s.step.node):=by
  rw[Hu,e4]
  show(if _ then _ else _)=_
  rw[if_neg (q _ (by decide)),if_neg (q _ (by decide))]
 rw[e5]at he
 cases he
 have:=(Ds ht).2.2
 have h3':(S.at s.step.node.tok).2.1=Ca:=h3
 rw[h3']at this
 exact absurd this (by decide)
theorem Rj{d:Int}{a:Nd}(ha:Nat9 d a):EZ d (.mk 17 [] 0 [a]):=by
 obtain⟨la,w,r⟩:=Du ha
 refine⟨la++A5 AQ,fun F hF=>?_,fun S s hs ht _=>?_⟩
 ·rw[Cw]at hF
  obtain⟨G,rfl⟩:∃G,F=G+1:=⟨F-1,by omega⟩
  rw[Aa]
  show(if(17:Int)=7 then _ else _)=_
  rw[if_neg (by decide),if_neg (by decide),if_neg (by decide),if_neg (by decide),if_neg (by decide),if_neg (by decide),if_neg (by decide),if_neg (by decide),if_neg (by decide),if_neg (by decide),if_pos rfl,w G (by omega)]
  rfl
 ·obtain⟨t2,t3⟩:=AK ht
  have e:=r S s AQ hs t2 t3 (Or.inl rfl)
  have n:∀y,(y≠CC/\y≠Fq/\y≠Dq/\y≠DK/\y≠De/\y≠EW/\y≠AD)->¬A2 S y s=true:=fun y hy=>by rw[KJ e hy];decide
  rw[Bt,if_neg (n _ (by decide)),if_neg (n _ (by decide)),if_neg (n _ (by decide)),if_neg (n _ (by decide)),if_neg (n _ (by decide)),if_neg (n _ (by decide)),if_neg (n _ (by decide)),if_neg (n _ (by decide)),if_neg (n _ (by decide)),if_neg (TR e t3),e]
  show(A8 S AQ (s.past la (A1 a))).then _=_
  rw[EA (s:=s.past la (A1 a)) t3 (by decide) (by decide),Cw]
  refine D0 (st:=(s.past la (A1 a)).step.node) ?_ rfl ?_
  ·show s.tok+la.length+1=_
   simp only[Z1,BN];omega
  ·show s.many+(A1 a:Int)+1=_
   push_cast;omega
theorem Sv{d:Int}{a:Nd}{k:Int}{x:List Int}(hk:(k=12/\x=CN)\/(k=14/\x=Dd)\/(k=15/\x=Cu))(hd:d+1<=20)(ha:Nat9 (d+1) a):EZ d (.mk k [] 0 [a]):=by
 obtain⟨la,w,r⟩:=Du ha
 refine⟨A5 x++((A5 AD++(la++A5 A9))++A5 AQ),fun F hF=>?_,fun S s hs ht _=>?_⟩
 ·rw[Cw]at hF
  obtain⟨G,rfl⟩:∃G,F=G+1:=⟨F-1,by omega⟩
  have e:=w G (by omega)
  rw[Aa]
  rcases hk with⟨rfl,rfl⟩ | ⟨rfl,rfl⟩ | ⟨rfl,rfl⟩
  ·show(if(12:Int)=7 then _ else _)=_
   rw[if_neg (by decide),if_neg (by decide),if_neg (by decide),if_neg (by decide),if_neg (by decide),if_pos rfl]
   simp[C1,AE,CZ,e]
  ·show(if(14:Int)=7 then _ else _)=_
   rw[if_neg (by decide),if_neg (by decide),if_neg (by decide),if_neg (by decide),if_neg (by decide),if_neg (by decide),if_neg (by decide),if_pos rfl]
   simp[C1,AE,CZ,e]
  ·show(if(15:Int)=7 then _ else _)=_
   rw[if_neg (by decide),if_neg (by decide),if_neg (by decide),if_neg (by decide),if_neg (by decide),if_neg (by decide),if_neg (by decide),if_neg (by decide),if_pos rfl]
   simp[C1,AE,CZ,e]
 ·obtain⟨t1,t2⟩:=AK ht
  have g:=QD r hd (s:=s.step) k hs t2
  have fin:(Except.ok (Nd.mk k [] 0 [a],s.step.past ((A5 AD++(la++A5 A9))++A5 AQ) (1+A1 a)):Got Nd)=.ok (.mk k [] 0 [a],s.past (A5 x++((A5 AD++(la++A5 A9))++A5 AQ)) (A1 (.mk k [] 0 [a]))):=by
   rw[Cw]
   refine D0 ?_ rfl rfl
   show s.tok+1+_=_
   rw[Z1 (as:=A5 x),BN];omega
  rw[<-fin,<-g,Bt]
  rcases hk with⟨rfl,rfl⟩ | ⟨rfl,rfl⟩ | ⟨rfl,rfl⟩
  ·rw[if_neg (by rw[AL t1];decide),if_neg (by rw[AL t1];decide),if_neg (by rw[AL t1];decide),if_neg (by rw[AL t1];decide),if_pos (Ab t1)]
  ·rw[if_neg (by rw[AL t1];decide),if_neg (by rw[AL t1];decide),if_neg (by rw[AL t1];decide),if_neg (by rw[AL t1];decide),if_neg (by rw[AL t1];decide),if_neg (by rw[AL t1];decide),if_pos (Ab t1)]
  ·rw[if_neg (by rw[AL t1];decide),if_neg (by rw[AL t1];decide),if_neg (by rw[AL t1];decide),if_neg (by rw[AL t1];decide),if_neg (by rw[AL t1];decide),if_neg (by rw[AL t1];decide),if_neg (by rw[AL t1];decide),if_pos (Ab t1)]
theorem Sw{d:Int}{a b:Nd}(hd:d+1<=20)(ha:Nat9 (d+1) a)(hb:Nat9 (d+1) b):EZ d (.mk 16 [] 0 [a,b]):=by
 obtain⟨la,w,r⟩:=Du ha
 obtain⟨lb,w2,r2⟩:=Du hb
 refine⟨A5 Ek++(A5 AD++(la++(A5 An++(lb++(A5 A9++A5 AQ))))),fun F hF=>?_,fun S s hs ht _=>?_⟩
 ·rw[DB]at hF
  obtain⟨G,rfl⟩:∃G,F=G+1:=⟨F-1,by omega⟩
  have e:=w G (by omega)
  have e2:=w2 G (by omega)
  rw[Aa]
  show(if(16:Int)=7 then _ else _)=_
  rw[if_neg (by decide),if_neg (by decide),if_neg (by decide),if_neg (by decide),if_neg (by decide),if_neg (by decide),if_neg (by decide),if_neg (by decide),if_neg (by decide),if_pos rfl]
  simp[C1,AE,e,e2]
 ·obtain⟨t1,t2⟩:=AK ht
  have g:=QE r r2 hd (s:=s.step) 16 hs t2
  rw[Bt,if_neg (by rw[AL t1];decide),if_neg (by rw[AL t1];decide),if_neg (by rw[AL t1];decide),if_neg (by rw[AL t1];decide),if_neg (by rw[AL t1];decide),if_neg (by rw[AL t1];decide),if_neg (by rw[AL t1];decide),if_neg (by rw[AL t1];decide),if_pos (Ab t1),g,DB]
  refine D0 ?_ rfl rfl
  show s.tok+1+_=_
  rw[Z1 (as:=A5 Ek),BN];omega
theorem Rk{d:Int}{b:Nd}(hb:ID d b):EZ d (.mk 13 [] 0 [b]):=by
 obtain⟨lb,w,r⟩:=hb
 refine⟨A5 DX++lb,fun F hF=>?_,fun S s hs ht _=>?_⟩
 ·rw[Cw]at hF
  obtain⟨G,rfl⟩:∃G,F=G+1:=⟨F-1,by omega⟩
  rw[Aa]
  show(if(13:Int)=7 then _ else _)=_
  rw[if_neg (by decide),if_neg (by decide),if_neg (by decide),if_neg (by decide),if_neg (by decide),if_neg (by decide),if_pos rfl,w G (by omega)]
  rfl
 ·obtain⟨t1,t2⟩:=AK ht
  rw[Bt,if_neg (by rw[AL t1];decide),if_neg (by rw[AL t1];decide),if_neg (by rw[AL t1];decide),if_neg (by rw[AL t1];decide),if_neg (by rw[AL t1];decide),if_pos (Ab t1),r S s.step hs t2,Cw]
  refine D0 (st:=(s.step.past lb (A1 b)).node) ?_ rfl ?_
  ·show s.tok+1+lb.length=_
   rw[Z1,BN];omega
  ·show s.many+(A1 b:Int)+1=_
   push_cast;omega
theorem QG{d:Int}{a b:Nd}(hd:d+1<=20)(ha:Nat9 (d+1) a)(hb:ID d b):EZ d (.mk 10 [] 0 [a,b]):=by
 obtain⟨la,w,r⟩:=Du ha
 obtain⟨lb,w2,r2⟩:=hb
 refine⟨A5 C0++((A5 AD++(la++A5 A9))++lb),fun F hF=>?_,fun S s hs ht _=>?_⟩
 ·rw[DB]at hF
  obtain⟨G,rfl⟩:∃G,F=G+1:=⟨F-1,by omega⟩
  have e:=w G (by omega)
  have e2:=w2 G (by omega)
  rw[Aa]
  show(if(10:Int)=7 then _ else _)=_
  rw[if_neg (by decide),if_neg (by decide),if_neg (by decide),if_pos rfl]
  simp[AE,CZ,e,e2]
 ·obtain⟨t1,t'⟩:=AK ht
  obtain⟨t2,t3⟩:=AK t'
  rw[Bt,if_neg (by rw[AL t1];decide),if_neg (by rw[AL t1];decide),if_pos (Ab t1),GU r hd (s:=s.step) hs t2]
  show(Aj S (s.step.past (A5 AD++(la++A5 A9)) (A1 a))).then _=_
  rw[r2 S (s.step.past (A5 AD++(la++A5 A9)) (A1 a)) hs t3,DB]
  refine D0 (st:=((s.step.past (A5 AD++(la++A5 A9)) (A1 a)).past lb (A1 b)).node) ?_ rfl ?_
  ·show s.tok+1+(A5 AD++(la++A5 A9)).length+lb.length=_
   rw[Z1 (as:=A5 C0),Z1 (bs:=lb),BN];omega
  ·show s.many+(A1 a:Int)+(A1 b:Int)+1=_
   push_cast;omega
theorem TS{d:Int}{a b:Nd}(hd:d+1<=20)(ha:Nat9 (d+1) a)(hb:ID d b):EZ d (.mk 9 [] 0 [a,b]):=by
 obtain⟨la,w,r⟩:=Du ha
 obtain⟨lb,w2,r2⟩:=hb
 refine⟨A5 wIf++((A5 AD++(la++A5 A9))++lb),fun F hF=>?_,fun S s hs ht hel=>?_⟩
 ·rw[DB]at hF
  obtain⟨G,rfl⟩:∃G,F=G+1:=⟨F-1,by omega⟩
  have e:=w G (by omega)
  have e2:=w2 G (by omega)
  rw[Aa]
  show(if(9:Int)=7 then _ else _)=_
  rw[if_neg (by decide),if_neg (by decide),if_pos rfl]
  simp[AE,CZ,e,e2]
 ·obtain⟨t1,t'⟩:=AK ht
  obtain⟨t2,t3⟩:=AK t'
  have fin:((s.step.past (A5 AD++(la++A5 A9)) (A1 a)).past lb (A1 b)).node=s.past (A5 wIf++((A5 AD++(la++A5 A9))++lb)) (1+(A1 a+A1 b)):=by
   rw[FM _ wIf,Cg,Cg,Lq]
   simp only[List.append_assoc]
   congr 1
   omega
  rw[DB]at hel⊢
  rw[<-fin]at hel⊢
  rw[Bt,if_neg (by rw[AL t1];decide),if_pos (Ab t1),GU r hd (s:=s.step) hs t2]
  show(Aj S (s.step.past (A5 AD++(la++A5 A9)) (A1 a))).then _=_
  rw[r2 S (s.step.past (A5 AD++(la++A5 A9)) (A1 a)) hs t3]
  show(if A2 S Cy ((s.step.past (A5 AD++(la++A5 A9)) (A1 a)).past lb (A1 b))=true then _ else _)=_
  have hel':A2 S Cy ((s.step.past (A5 AD++(la++A5 A9)) (A1 a)).past lb (A1 b))=false:=hel
  rw[if_neg (by rw[hel'];decide)]
  rfl
theorem Rl{d:Int}{a b c:Nd}(hd:d+1<=20)(ha:Nat9 (d+1) a)(hb:ID d b)(hc:ID d c):EZ d (.mk 9 [] 0 [a,b,c]):=by
 obtain⟨la,w,r⟩:=Du ha
 obtain⟨lb,w2,r2⟩:=hb
 obtain⟨lc,w3,r3⟩:=hc
 refine⟨A5 wIf++((A5 AD++(la++A5 A9))++(lb++(A5 Cy++lc))),fun F hF=>?_,fun S s hs ht _=>?_⟩
 ·rw[Kg]at hF
  obtain⟨G,rfl⟩:∃G,F=G+1:=⟨F-1,by omega⟩
  have e:=w G (by omega)
  have e2:=w2 G (by omega)
  have e3:=w3 G (by omega)
  rw[Aa]
  show(if(9:Int)=7 then _ else _)=_
  rw[if_neg (by decide),if_neg (by decide),if_pos rfl]
  simp[AE,CZ,e,e2,e3]
 ·obtain⟨t1,t'⟩:=AK ht
  obtain⟨t2,t'⟩:=AK t'
  obtain⟨t3,t'⟩:=AK t'
  obtain⟨t4,t5⟩:=AK t'
  have fin:(((s.step.past (A5 AD++(la++A5 A9)) (A1 a)).past lb (A1 b)).step.past lc (A1 c)).node=s.past (A5 wIf++((A5 AD++(la++A5 A9))++(lb++(A5 Cy++lc)))) (1+(A1 a+(A1 b+A1 c))):=by
   rw[FM s wIf,FM _ Cy,Cg,Cg,Cg,Cg,Lq]
   simp only[List.append_assoc]
   congr 1
   omega
  rw[Kg,<-fin,Bt,if_neg (by rw[AL t1];decide),if_pos (Ab t1),GU r hd (s:=s.step) hs t2]
  show(Aj S (s.step.past (A5 AD++(la++A5 A9)) (A1 a))).then _=_
  rw[r2 S (s.step.past (A5 AD++(la++A5 A9)) (A1 a)) hs t3]
  have t4':AY S ((s.step.past (A5 AD++(la++A5 A9)) (A1 a)).past lb (A1 b)).tok (A5 Cy):=t4
  show(if A2 S Cy ((s.step.past (A5 AD++(la++A5 A9)) (A1 a)).past lb (A1 b))=true then _ else _)=_
  rw[if_pos (Ab t4'),r3 S ((s.step.past (A5 AD++(la++A5 A9)) (A1 a)).past lb (A1 b)).step hs t5]
  rfl
def RdP(P:Int->Nd->Prop)(s:PS)(n:Nd)(s':PS):Prop:=s'.deep=s.deep/\s'.many=s.many+(A1 n:Int)/\P s.deep n
theorem DC{P:Int->Nd->Prop}{s s1 s':PS}{kind num:Int}{x:List Int}{ks:List Nd}{n:Nd}(h:AJ kind x num ks s1=.ok (n,s'))(h1:s1.deep=s.deep)(h2:s1.many=s.many+(AA ks:Int))(h3:P s.deep (.mk kind x num ks)):RdP P s n s':=by
 cases h
 refine⟨h1,?_,h3⟩
 have e:A1 (.mk kind x num ks)=1+AA ks:=by conv=>lhs;unfold A1
 rw[e]
 show s1.many+1=_
 push_cast;omega
theorem D1(a:Nd):AA [a]=A1 a:=by rw[B1];rfl
theorem HQ(a b:Nd):AA [a,b]=A1 a+A1 b:=by rw[B1,D1]
theorem Np(a b c:Nd):AA [a,b,c]=A1 a+(A1 b+A1 c):=by rw[B1,HQ]
theorem Fu{S:Src9}(hS:S.good){f:Nat}{s s':PS}{n:Nd}(h:Bn S f s=.ok (n,s')):s'.deep=s.deep/\s'.many=s.many+(A1 n:Int)/\Nat9 s.deep n:=by
 obtain⟨a,b,c⟩:=(kept hS f).expr _ _ _ h
 exact⟨a,b,c.nat⟩
theorem Oe{S:Src9}(hS:S.good){f:Nat}{kind:Int}{s s':PS}{n:Nd}(h:ES S f kind s=.ok (n,s'))(hk:kind=7\/kind=8):RdP EZ s n s':=by
 unfold ES at h
 obtain⟨x,s1,hx,h⟩:=A0 h
 obtain⟨nx,rfl⟩:=Cn hS hx
 obtain⟨u,s2,hu,h⟩:=A0 h
 obtain rfl:=(BZ hu).2.2 (by decide) (by decide)
 obtain⟨a,s3,ha,h⟩:=A0 h
 obtain⟨d1,m1,k1⟩:=Fu hS ha
 obtain⟨v,s4,hv,h⟩:=A0 h
 obtain rfl:=(BZ hv).2.2 (by decide) (by decide)
 refine DC h d1 (by rw[D1];exact m1) ?_
 rcases hk with rfl | rfl
 ·exact St nx k1
 ·exact Su nx k1
theorem Of{S:Src9}(hS:S.good){f:Nat}{s s':PS}{n:Nd}(h:ET S f s=.ok (n,s')):s'.deep=s.deep/\s'.many=s.many+(A1 n:Int)/\s.deep+1<=20/\Nat9 (s.deep+1) n:=by
 unfold ET at h
 obtain⟨u,s1,hu,h⟩:=A0 h
 obtain⟨rfl,hd⟩:=(BZ hu).1 (Or.inl rfl)
 obtain⟨a,s2,ha,h⟩:=A0 h
 obtain⟨d1,m1,k1⟩:=Fu hS ha
 obtain⟨v,s3,hv,h⟩:=A0 h
 obtain rfl:=(BZ hv).2.1 (Or.inl rfl)
 cases h
 have e1:s.down.deep=s.deep+1:=rfl
 exact⟨by show s2.deep-1=s.deep;omega,m1,hd,k1⟩
theorem My{S:Src9}(hS:S.good){f:Nat}{kind:Int}{s s':PS}{n:Nd}(h:FE S f kind s=.ok (n,s')){x:List Int}(hk:(kind=12/\x=CN)\/(kind=14/\x=Dd)\/(kind=15/\x=Cu)):RdP EZ s n s':=by
 unfold FE at h
 obtain⟨u,s1,hu,h⟩:=A0 h
 obtain⟨rfl,hd⟩:=(BZ hu).1 (Or.inl rfl)
 obtain⟨a,s2,ha,h⟩:=A0 h
 obtain⟨d1,m1,k1⟩:=Fu hS ha
 obtain⟨v,s3,hv,h⟩:=A0 h
 obtain rfl:=(BZ hv).2.1 (Or.inl rfl)
 obtain⟨t,s4,ht,h⟩:=A0 h
 obtain rfl:=(BZ ht).2.2 (by decide) (by decide)
 have e1:s.down.deep=s.deep+1:=rfl
 exact DC h (by show s2.deep-1=s.deep;omega) (by rw[D1];exact m1) (Sv hk hd k1)
theorem TT{S:Src9}(hS:S.good){f:Nat}{s s':PS}{n:Nd}(h:Fr S f 16 s=.ok (n,s')):RdP EZ s n s':=by
 unfold Fr at h
 obtain⟨u,s1,hu,h⟩:=A0 h
 obtain⟨rfl,hd⟩:=(BZ hu).1 (Or.inl rfl)
 obtain⟨a,s2,ha,h⟩:=A0 h
 obtain⟨d1,m1,k1⟩:=Fu hS ha
 obtain⟨w,s3,hw,h⟩:=A0 h
 obtain rfl:=(BZ hw).2.2 (by decide) (by decide)
 obtain⟨b,s4,hb,h⟩:=A0 h
 obtain⟨d2,m2,k2⟩:=Fu hS hb
 obtain⟨v,s5,hv,h⟩:=A0 h
 obtain rfl:=(BZ hv).2.1 (Or.inl rfl)
 obtain⟨t,s6,ht,h⟩:=A0 h
 obtain rfl:=(BZ ht).2.2 (by decide) (by decide)
 have e1:s.down.deep=s.deep+1:=rfl
 have e2:s2.step.deep=s2.deep:=rfl
 have e3:s2.step.many=s2.many:=rfl
 have e4:s.down.many=s.many:=rfl
 rw[e2,d1,e1]at k2
 exact DC h (by show s4.deep-1=s.deep;omega) (by rw[HQ];show s4.many=_;push_cast;omega) (Sw hd k1 k2)
structure Tt(S:Src9)(f:Nat):Prop where
 block:∀s n s',BQ S f s=.ok (n,s')->RdP ID s n s'
 stmts:∀s ks s',C7 S f s=.ok (ks,s')->s'.deep=s.deep/\s'.many=s.many+(AA ks:Int)/\∀c∈ks,EZ s.deep c
 stmt:∀s n s',Cd S f s=.ok (n,s')->RdP EZ s n s'
theorem PK{S:Src9}(hS:S.good):∀f,Tt S f
 | 0=>by
  constructor
  ·intro s n s' h;rw[BQ]at h;exact Ac h
  ·intro s n s' h;rw[C7]at h;exact Ac h
  ·intro s n s' h;rw[Cd]at h;exact Ac h
 | f+1=>by
  have I:=PK hS f
  constructor
  ·intro s n s' h
   rw[BQ]at h
   obtain⟨u,s1,hu,h⟩:=A0 h
   obtain⟨rfl,hd⟩:=(BZ hu).1 (Or.inr rfl)
   obtain⟨ks,s2,hk,h⟩:=A0 h
   obtain⟨d1,m1,k1⟩:=I.stmts _ _ _ hk
   obtain⟨v,s3,hv,h⟩:=A0 h
   obtain rfl:=(BZ hv).2.1 (Or.inr rfl)
   have e1:s.down.deep=s.deep+1:=rfl
   exact DC h (by show s2.deep-1=s.deep;omega) m1 (QF hd k1)
  ·intro s ks s' h
   rw[C7]at h
   split at h
   ·cases h
    exact⟨rfl,by show s.many=s.many+0;omega,fun c hc=>by cases hc⟩
   ·obtain⟨k,s1,hk,h⟩:=A0 h
    obtain⟨d1,m1,k1⟩:=I.stmt _ _ _ hk
    obtain⟨ls,s2,hl,h⟩:=A0 h
    obtain⟨d2,m2,k2⟩:=I.stmts _ _ _ hl
    cases h
    rw[d1]at d2 k2
    refine⟨d2,by rw[B1];push_cast;omega,fun c hc=>?_⟩
    rcases List.mem_cons.1 hc with rfl | hc
    ·exact k1
    ·exact k2 c hc
  ·intro s n s' h
   rw[Cd]at h
   have e2:s.step.many=s.many:=rfl
   split at h
   ·exact Oe (s:=s.step) hS h (Or.inl rfl)
   split at h
   ·obtain⟨a,s1,ha,h⟩:=A0 h
    obtain⟨d1,m1,hd,k1⟩:=Of hS ha
    have d1':s1.deep=s.deep:=d1
    obtain⟨b,s2,hb,h⟩:=A0 h
    obtain⟨d2,m2,k2⟩:=I.block _ _ _ hb
    rw[d1']at d2 k2
    split at h
    ·obtain⟨c,s3,hc,h⟩:=A0 h
     obtain⟨d3,m3,k3⟩:=I.block _ _ _ hc
     have d2':s2.step.deep=s.deep:=d2
     have e3:s2.step.many=s2.many:=rfl
     rw[d2']at d3 k3
     exact DC h d3 (by rw[Np];push_cast;omega) (Rl hd k1 k2 k3)
    ·exact DC h d2 (by rw[HQ];push_cast;omega) (TS hd k1 k2)
   split at h
   ·obtain⟨a,s1,ha,h⟩:=A0 h
    obtain⟨d1,m1,hd,k1⟩:=Of hS ha
    have d1':s1.deep=s.deep:=d1
    obtain⟨b,s2,hb,h⟩:=A0 h
    obtain⟨d2,m2,k2⟩:=I.block _ _ _ hb
    rw[d1']at d2 k2
    exact DC h d2 (by rw[HQ];push_cast;omega) (QG hd k1 k2)
   split at h
   ·obtain⟨a,s1,ha,h⟩:=A0 h
    obtain⟨d1,m1,k1⟩:=Fu hS ha
    obtain⟨v,s2,hv,h⟩:=A0 h
    obtain rfl:=(BZ hv).2.2 (by decide) (by decide)
    exact DC (s:=s) h d1 (by rw[D1];exact m1) (PJ k1)
   split at h
   ·exact My (s:=s.step) hS h (Or.inl ⟨rfl,rfl⟩)
   split at h
   ·obtain⟨b,s2,hb,h⟩:=A0 h
    obtain⟨d2,m2,k2⟩:=I.block _ _ _ hb
    exact DC (s:=s) h d2 (by rw[D1];exact m2) (Rk k2)
   split at h
   ·exact My (s:=s.step) hS h (Or.inr (Or.inl ⟨rfl,rfl⟩))
   split at h
   ·exact My (s:=s.step) hS h (Or.inr (Or.inr ⟨rfl,rfl⟩))
   split at h
   ·exact TT (s:=s.step) hS h
   split at h
   ·exact Oe (s:=s) hS h (Or.inr rfl)
   ·obtain⟨a,s1,ha,h⟩:=A0 h
    obtain⟨d1,m1,k1⟩:=Fu hS ha
    obtain⟨v,s2,hv,h⟩:=A0 h
    obtain rfl:=(BZ hv).2.2 (by decide) (by decide)
    exact DC (s:=s) h d1 (by rw[D1];exact m1) (Rj k1)
theorem PL(a b c:Option (List Tok)):AE (AE a b) c=AE a (AE b c):=by
 cases a<;>cases b<;>cases c<;>simp[AE]
theorem Mz:∀(a b:List (Option (List Tok))),Bv (a++b)=AE (Bv a) (Bv b)
 | [],b=>by
  show Bv b=AE (some []) (Bv b)
  cases Bv b<;>rfl
 | x::a,b=>by
  show AE x (Bv (a++b))=AE (AE x (Bv a)) (Bv b)
  rw[Mz a b,PL]
theorem Dm:∀(a b:List Nd),AA (a++b)=AA a+AA b
 | [],b=>by show AA b=0+AA b;omega
 | x::a,b=>by show A1 x+AA (a++b)=A1 x+AA a+AA b;rw[Dm a b];omega
theorem JZ(k:Int)(x:List Int)(m:Int)(ks:List Nd):A1 (.mk k x m ks)=1+AA ks:=by conv=>lhs;unfold A1
def Iy(c:Nd):Prop:=∃x,BV x=true/\c=.mk 5 x 0 []
theorem Iz:∀(ks:List Nd) (b:Nd),(∀c∈b::ks,Iy c)->∃l,CO ((b::ks).map fun a=>Ax a.text)=some l/\(∀(S:Src9) (s:PS) (f:Nat),12*S.left s+1<=f->AY S s.tok l->AY S (s.past l (AA (b::ks))).tok (A5 A9)->Bb S f s=.ok (b::ks,s.past l (AA (b::ks)))/\A2 S A9 s=false)
 | [],b,h=>by
  obtain⟨x,hx,rfl⟩:=h b (Z7 ..)
  refine⟨[(1,x,0)],Fa hx,fun S s f hf ht hc=>?_⟩
  obtain⟨g,rfl⟩:∃g,f=g+1:=⟨f-1,by omega⟩
  refine⟨?_,EY ht (Or.inl rfl) _⟩
  rw[Bb,Dl ht]
  show(if A2 S An s.step.node=true then _ else _)=_
  have hc':AY S s.step.node.tok (A5 A9):=hc
  rw[if_neg (by rw[AL hc'];decide)]
  rfl
 | c::ks,b,h=>by
  obtain⟨x,hx,rfl⟩:=h b (Z7 ..)
  obtain⟨l2,w2,o2⟩:=Iz ks c fun y hy=>h y (Z8 _ hy)
  refine⟨[(1,x,0)]++(A5 An++l2),?_,fun S s f hf ht hc=>?_⟩
  ·show AE (Ax x) (AE (some (A5 An)) (CO ((c::ks).map fun a=>Ax a.text)))=_
   rw[Fa hx,w2];rfl
  ·obtain⟨g,rfl⟩:∃g,f=g+1:=⟨f-1,by omega⟩
   obtain⟨t1,t'⟩:=AK ht
   obtain⟨t2,t3⟩:=AK t'
   refine⟨?_,EY t1 (Or.inl rfl) _⟩
   have t2':AY S s.step.node.tok (A5 An):=t2
   have t3':AY S s.step.node.step.tok l2:=t3
   have e:s.step.node.step.past l2 (AA (c::ks))=s.past ([(1,x,0)]++(A5 An++l2)) (AA (.mk 5 x 0 []::c::ks)):=by
    rw[B1 (.mk 5 x 0 []) (c::ks),GE]
    unfold PS.past PS.step PS.node
    simp only[Z1,BN,List.length_singleton,PS.mk.injEq,true_and]
    exact⟨by omega,by push_cast;omega⟩
   rw[<-e]at hc⊢
   have hl:S.left s.step.node.step+2<=S.left s:=by
    have:=(Ds (s:=s.step.node) t2').1
    have h1:s.step.node.tok=s.tok+1:=rfl
    have h2:s.step.node.step.tok=s.tok+2:=rfl
    unfold Src9.left
    omega
   obtain⟨r,_⟩:=o2 S s.step.node.step g (by omega) t3' hc
   rw[Bb,Dl t1]
   show(if A2 S An s.step.node=true then _ else _)=_
   rw[if_pos (Ab t2'),r]
   rfl
theorem QH(ks:List Nd)(h:∀c∈ks,Iy c):∃l,CO (ks.map fun a=>Ax a.text)=some l/\(∀(S:Src9) (s:PS) (f:Nat),12*S.left s+1<=f->AY S s.tok l->AY S (s.past l (AA ks)).tok (A5 A9)->(if A2 S A9 s=true then Except.ok ([],s)else Bb S f s)=.ok (ks,s.past l (AA ks))):=by
 cases ks with
 | nil=>
  refine⟨[],rfl,fun S s f _ _ hc=>?_⟩
  rw[show s.past [] (AA [])=s from FN s]at hc⊢
  rw[if_pos (Ab hc)]
 | cons b ks=>
  obtain⟨l,w,o⟩:=Iz ks b h
  refine⟨l,w,fun S s f hf ht hc=>?_⟩
  obtain⟨o1,o2⟩:=o S s f hf ht hc
  rw[if_neg (by rw[o2];decide),o1]
def LS(d:Int)(n:Nd):Prop:=n.kind=4/\∃l,(∀F,2*A1 n<=F->Bi F n=some (A5 wTo++l))/\∀(S:Src9) (s:PS) (f:Nat),12*S.left s+10<=f->s.deep<=d->AY S s.tok l->Cl S f s=.ok (n,s.past l (A1 n))
theorem PM{d:Int}{x:List Int}{ks:List Nd}{b:Nd}(hx:BV x=true)(hd:d+1<=20)(hk:∀c∈ks,Iy c)(hb:ID d b):LS d (.mk 4 x (ks.length:Int) (ks++[b])):=by
 obtain⟨la,wa,ra⟩:=QH ks hk
 obtain⟨lb,wb,rb⟩:=hb
 have hsz:A1 (.mk 4 x (ks.length:Int) (ks++[b]))=1+(AA ks+A1 b):=by rw[JZ,Dm,D1]
 refine⟨rfl,[(1,x,0)]++(A5 AD++(la++(A5 A9++lb))),fun F hF=>?_,fun S s f hf hs ht=>?_⟩
 ·rw[hsz]at hF
  have e:=wb F (by omega)
  unfold Bi
  rw[if_neg (by show ¬(4:Int)=3;decide),if_pos (show(Nd.mk 4 x (ks.length:Int) (ks++[b])).kind=4 from rfl)]
  show(match (ks++[b]).getLast? with | some b=>_ | none=>_)=_
  rw[List.getLast?_concat]
  show AE (some (A5 wTo)) (AE (Ax x) (AE (some (A5 AD)) (AE (JO (ks++[b])) (AE (some (A5 A9)) (BR F b)))))=_
  unfold JO
  rw[List.dropLast_concat,wa,Fa hx,e]
  rfl
 ·obtain⟨t1,t'⟩:=AK ht
  obtain⟨t2,t'⟩:=AK t'
  obtain⟨t3,t'⟩:=AK t'
  obtain⟨t4,t5⟩:=AK t'
  have t2':AY S s.step.tok (A5 AD):=t2
  have t3':AY S s.step.down.tok la:=t3
  have t4':AY S (s.step.down.past la (AA ks)).tok (A5 A9):=t4
  have t5':AY S (s.step.down.past la (AA ks)).up.tok lb:=t5
  have l1:=AR (S:=S) (s:=s) (s':=s.step.down) (by show s.tok<=s.tok+1+1;omega)
  have l2:=AR (S:=S) (s:=s) (s':=(s.step.down.past la (AA ks)).up) (by show s.tok<=s.tok+1+1+la.length+1;omega)
  unfold Cl
  rw[Dl t1]
  show(A8 S AD s.step).then _=_
  rw[FO t2' (Or.inl rfl) (by show s.deep+1<=20;omega)]
  show Got.then (if A2 S A9 s.step.down=true then Except.ok ([],_)else Bb S f _) _=_
  rw[ra S s.step.down f (by omega) t3' t4']
  show(A8 S A9 (s.step.down.past la (AA ks))).then _=_
  rw[Ga t4' (Or.inl rfl)]
  show(BQ S f (s.step.down.past la (AA ks)).up).then _=_
  rw[Ep (by omega),rb S _ (show s.deep+1-1<=d by omega) t5',hsz]
  refine D0 (st:=((s.step.down.past la (AA ks)).up.past lb (A1 b)).node) ?_ ?_ ?_
  ·show s.tok+1+1+la.length+1+lb.length=_
   simp only[Z1,BN,List.length_singleton];omega
  ·show s.deep+1-1=s.deep
   omega
  ·show s.many+(AA ks:Int)+(A1 b:Int)+1=_
   push_cast;omega
def IE(c:Nd):Prop:=∃x,BV x=true/\c=.mk 3 x 0 []
theorem J0:∀(ks:List Nd),(∀c∈ks,IE c)->∃l,(∀F,Bv (ks.map (Bi F))=some l)/\(∀(S:Src9) (s:PS) (f:Nat),12*S.left s+1<=f->AY S s.tok l->A2 S Ej (s.past l (AA ks))=false->BM S f s=.ok (ks,s.past l (AA ks)))
 | [],_=>by
  refine⟨[],fun F=>rfl,fun S s f hf ht hc=>?_⟩
  obtain⟨g,rfl⟩:∃g,f=g+1:=⟨f-1,by omega⟩
  rw[show s.past [] (AA [])=s from FN s]at hc⊢
  rw[BM,if_neg (by rw[hc];decide)]
 | c::ks,h=>by
  obtain⟨x,hx,rfl⟩:=h c (Z7 ..)
  obtain⟨l2,w2,o2⟩:=J0 ks fun y hy=>h y (Z8 _ hy)
  refine⟨A5 Ej++([(1,x,0)]++(A5 AQ++l2)),fun F=>?_,fun S s f hf ht hc=>?_⟩
  ·show AE (Bi F (.mk 3 x 0 [])) (Bv (ks.map (Bi F)))=_
   rw[w2 F]
   unfold Bi
   rw[if_pos (show(Nd.mk 3 x 0 []).kind=3 from rfl)]
   show AE (C1 (AE (some (A5 Ej)) (Ax x))) _=_
   rw[Fa hx]
   simp[C1,AE]
  ·obtain⟨g,rfl⟩:∃g,f=g+1:=⟨f-1,by omega⟩
   obtain⟨t1,t'⟩:=AK ht
   obtain⟨t2,t'⟩:=AK t'
   obtain⟨t3,t4⟩:=AK t'
   have t2':AY S s.step.tok [(1,x,0)]:=t2
   have t3':AY S s.step.step.tok (A5 AQ):=t3
   have t4':AY S s.step.step.step.node.tok l2:=t4
   have e:s.step.step.step.node.past l2 (AA ks)=s.past (A5 Ej++([(1,x,0)]++(A5 AQ++l2))) (AA (.mk 3 x 0 []::ks)):=by
    rw[B1,GE]
    unfold PS.past PS.step PS.node
    simp only[Z1,BN,List.length_singleton,PS.mk.injEq,true_and]
    exact⟨by omega,by push_cast;omega⟩
   rw[<-e]at hc⊢
   have hl:=AB (S:=S) (s:=s) (s':=s.step.step.step.node) (Ds t1).1 (by show s.tok+1<=s.tok+1+1+1;omega)
   rw[BM,if_pos (Ab t1),Dl t2']
   show(A8 S AQ s.step.step).then _=_
   rw[EA t3' (by decide) (by decide)]
   show(BM S g s.step.step.step.node).then _=_
   rw[o2 S _ g (by omega) t4' hc]
   rfl
theorem Hx{d:Int}:∀(ks:List Nd),(∀c∈ks,LS d c)->∃l,(∀F,2*AA ks<=F->Bv (ks.map (Bi F))=some l)/\(∀(S:Src9) (s:PS) (f:Nat),12*S.left s+1<=f->s.deep<=d->AY S s.tok l->AY S (s.past l (AA ks)).tok (A5 Au)->Ap S f s=.ok (ks,s.past l (AA ks))/\A2 S Ej s=false)
 | [],_=>by
  refine⟨[],fun F _=>rfl,fun S s f hf _ ht hc=>?_⟩
  obtain⟨g,rfl⟩:∃g,f=g+1:=⟨f-1,by omega⟩
  rw[show s.past [] (AA [])=s from FN s]at hc⊢
  refine⟨?_,by rw[AL hc];decide⟩
  rw[Ap,if_neg (by rw[AL hc];decide)]
 | c::ks,h=>by
  obtain⟨_,l,w,o⟩:=h c (Z7 ..)
  obtain⟨l2,w2,o2⟩:=Hx ks fun y hy=>h y (Z8 _ hy)
  refine⟨A5 wTo++(l++l2),fun F hF=>?_,fun S s f hf hs ht hc=>?_⟩
  ·show AE (Bi F c) (Bv (ks.map (Bi F)))=_
   rw[B1]at hF
   rw[w F (by omega),w2 F (by omega)]
   simp[AE]
  ·obtain⟨g,rfl⟩:∃g,f=g+1:=⟨f-1,by omega⟩
   obtain⟨t1,t'⟩:=AK ht
   obtain⟨t2,t3⟩:=AK t'
   have t2':AY S s.step.tok l:=t2
   have t3':AY S (s.step.past l (A1 c)).tok l2:=t3
   have e:(s.step.past l (A1 c)).past l2 (AA ks)=s.past (A5 wTo++(l++l2)) (AA (c::ks)):=by
    rw[B1,FM s wTo,Cg,Cg,Nat.zero_add]
   rw[<-e]at hc⊢
   have hl:=AB (S:=S) (s:=s) (s':=s.step) (Ds t1).1 (Z0 _)
   have hl2:=AB (S:=S) (s:=s) (s':=s.step.past l (A1 c)) (Ds t1).1 (by show s.tok+1<=s.tok+1+l.length;omega)
   obtain⟨r2,_⟩:=o2 S (s.step.past l (A1 c)) g (by omega) hs t3' hc
   refine⟨?_,by rw[AL t1];decide⟩
   rw[Ap,if_pos (Ab t1),o S s.step g (by omega) hs t2']
   show(Ap S g (s.step.past l (A1 c))).then _=_
   rw[r2]
   rfl
theorem Nq{d:Int}{ks ms:List Nd}(hd:d+1<=20)(hk:∀c∈ks,IE c)(hm:∀c∈ms,LS (d+1) c):∃l,(∀F,2*AA ms<=F->B4.bodyW F (ks++ms)=some (A5 Ai++(l++A5 Au)))/\∀(S:Src9) (s:PS) (f:Nat) (x:List Int) (up:List Nd),12*S.left s+1<=f->s.deep<=d->AY S s.tok (A5 Ai++(l++A5 Au)) ->
  ((A8 S Ai s).then fun _ s=>(BM S f s).then fun ks s=>(Ap S f s).then fun ms s=>(A8 S Au s).then fun _ s=>AJ 2 x 0 (up++ks++ms) s)=.ok (.mk 2 x 0 (up++ks++ms),s.past (A5 Ai++(l++A5 Au)) (1+(AA ks+AA ms))):=by
 obtain⟨la,wa,ra⟩:=J0 ks hk
 obtain⟨lb,wb,rb⟩:=Hx ms hm
 refine⟨la++lb,fun F hF=>?_,fun S s f x up hf hs ht=>?_⟩
 ·unfold B4.bodyW
  rw[List.map_append,Mz,wa F,wb F hF]
  rfl
 ·obtain⟨t1,t'⟩:=AK ht
  obtain⟨t',t4⟩:=AK t'
  obtain⟨t2,t3⟩:=AK t'
  have t2':AY S s.down.tok la:=t2
  have t3':AY S (s.down.past la (AA ks)).tok lb:=t3
  have t4':AY S ((s.down.past la (AA ks)).past lb (AA ms)).tok (A5 Au):=by
   rw[Cg];exact t4
  have l1:=AR (S:=S) (s:=s) (s':=s.down) (by show s.tok<=s.tok+1;omega)
  have l2:=AR (S:=S) (s:=s) (s':=s.down.past la (AA ks)) (by show s.tok<=s.tok+1+la.length;omega)
  obtain⟨r2,ns⟩:=rb S (s.down.past la (AA ks)) f (by omega) (show s.deep+1<=d+1 by omega) t3' t4'
  rw[FO t1 (Or.inr rfl) (by omega)]
  show(BM S f s.down).then _=_
  rw[ra S s.down f (by omega) t2' ns]
  show(Ap S f (s.down.past la (AA ks))).then _=_
  rw[r2]
  show(A8 S Au ((s.down.past la (AA ks)).past lb (AA ms))).then _=_
  rw[Ga t4' (Or.inr rfl)]
  refine D0 (st:=((s.down.past la (AA ks)).past lb (AA ms)).up.node) ?_ ?_ ?_
  ·show s.tok+1+la.length+lb.length+1=_
   simp only[Z1,BN];omega
  ·show s.deep+1-1=s.deep
   omega
  ·show s.many+(AA ks:Int)+(AA ms:Int)+1=_
   push_cast;omega
def N0(d:Int)(n:Nd):Prop:=∃l,(∀F,2*A1 n<=F->B4 F n=some (A5 Cz++l))/\∀(S:Src9) (s:PS) (f:Nat),12*S.left s+1<=f->s.deep<=d->AY S s.tok l->DD S f s=.ok (n,s.past l (A1 n))
theorem QI{d:Int}{x:List Int}{up ks ms:List Nd}(hx:BV x=true)(hd:d+1<=20)(hu:up=[]\/∃y,BV y=true/\up=[.mk 31 y 0 []])(hk:∀c∈ks,IE c)(hm:∀c∈ms,LS (d+1) c):N0 d (.mk 2 x 0 (up++ks++ms)):=by
 obtain⟨l,w,r⟩:=Nq hd hk hm
 have hsz:A1 (.mk 2 x 0 (up++ks++ms))=1+(AA up+AA ks+AA ms):=by rw[JZ,Dm,Dm]
 rcases hu with rfl | ⟨y,hy,rfl⟩
 ·refine⟨[(1,x,0)]++(A5 Ai++(l++A5 Au)),fun F hF=>?_,fun S s f hf hs ht=>?_⟩
  ·rw[hsz]at hF
   have e:=w F (by omega)
   unfold B4
   show AE (some (A5 Cz)) (AE (Ax x) (match ks++ms with | u::ks=>_ | []=>_))=_
   have e2:(match ks++ms with | u::ks=>if u.kind=31 then AE (some (A5 DP)) (AE (Ax u.text) (B4.bodyW F ks))else B4.bodyW F (u::ks) | []=>B4.bodyW F [])=B4.bodyW F (ks++ms):=by
    cases hl:ks++ms with
    | nil=>rfl
    | cons u us=>
     have hk31:¬u.kind=31:=by
      have hmem:u∈ks++ms:=by rw[hl];exact Z7 ..
      rcases List.mem_append.1 hmem with h | h
      ·obtain⟨z,_,rfl⟩:=hk u h
       show ¬(3:Int)=31
       decide
      ·rw[(hm u h).1];decide
     show(if u.kind=31 then _ else _)=_
     rw[if_neg hk31]
   rw[e2,e,Fa hx]
   rfl
  ·obtain⟨t1,t2⟩:=AK ht
   have t2':AY S s.step.tok (A5 Ai++(l++A5 Au)):=t2
   have l1:=AR (S:=S) (s:=s) (s':=s.step) (by show s.tok<=s.tok+1;omega)
   unfold DD
   rw[Dl t1]
   show Got.then (if A2 S DP s.step=true then _ else Except.ok ([],s.step)) _=_
   rw[if_neg (by rw[AL (AK t2').1];decide)]
   show Got.then (A8 S Ai s.step) _=_
   rw[r S s.step f x [] (by omega) hs t2',hsz]
   refine D0 ?_ rfl ?_
   ·show s.tok+1+_=_
    simp only[Z1,BN,List.length_singleton];omega
   ·show s.many+((1+(AA ks+AA ms):Nat):Int)=s.many+((1+(0+AA ks+AA ms):Nat):Int)
    push_cast;omega
 ·refine⟨[(1,x,0)]++(A5 DP++([(1,y,0)]++(A5 Ai++(l++A5 Au)))),fun F hF=>?_,fun S s f hf hs ht=>?_⟩
  ·rw[hsz]at hF
   have e:=w F (by omega)
   unfold B4
   show AE (some (A5 Cz)) (AE (Ax x) (if(31:Int)=31 then AE (some (A5 DP)) (AE (Ax y) (B4.bodyW F (ks++ms)))else _))=_
   rw[if_pos rfl,e,Fa hx,Fa hy]
   rfl
  ·obtain⟨t1,t'⟩:=AK ht
   obtain⟨t2,t'⟩:=AK t'
   obtain⟨t3,t4⟩:=AK t'
   have t2':AY S s.step.tok (A5 DP):=t2
   have t3':AY S s.step.step.tok [(1,y,0)]:=t3
   have t4':AY S s.step.step.step.node.tok (A5 Ai++(l++A5 Au)):=t4
   have l1:=AR (S:=S) (s:=s) (s':=s.step.step.step.node) (by show s.tok<=s.tok+1+1+1;omega)
   unfold DD
   rw[Dl t1]
   show Got.then (if A2 S DP s.step=true then Got.then (Ae S s.step.step) _ else _) _=_
   rw[if_pos (Ab t2'),Dl t3']
   show Got.then (A8 S Ai s.step.step.step.node) _=_
   rw[r S s.step.step.step.node f x [.mk 31 y 0 []] (by omega) hs t4',hsz]
   refine D0 ?_ rfl ?_
   ·show s.tok+1+1+1+_=_
    simp only[Z1,BN,List.length_singleton];omega
   ·rw[D1,GE]
    show s.many+1+((1+(AA ks+AA ms):Nat):Int)=_
    push_cast;omega
theorem Hy{d:Int}:∀(ks:List Nd),(∀c∈ks,N0 d c)->∃l,(∀F,2*AA ks<=F->Bv (ks.map (B4 F))=some l)/\(∀(S:Src9) (s:PS) (f:Nat),12*S.left s+1<=f->s.deep<=d->AY S s.tok l->AY S (s.past l (AA ks)).tok (A5 Dy)->B6 S f s=.ok (ks,s.past l (AA ks)))
 | [],_=>by
  refine⟨[],fun F _=>rfl,fun S s f hf _ ht hc=>?_⟩
  obtain⟨g,rfl⟩:∃g,f=g+1:=⟨f-1,by omega⟩
  rw[show s.past [] (AA [])=s from FN s]at hc⊢
  rw[B6,if_neg (by rw[AL hc];decide)]
 | c::ks,h=>by
  obtain⟨l,w,o⟩:=h c (Z7 ..)
  obtain⟨l2,w2,o2⟩:=Hy ks fun y hy=>h y (Z8 _ hy)
  refine⟨A5 Cz++(l++l2),fun F hF=>?_,fun S s f hf hs ht hc=>?_⟩
  ·show AE (B4 F c) (Bv (ks.map (B4 F)))=_
   rw[B1]at hF
   rw[w F (by omega),w2 F (by omega)]
   simp[AE]
  ·obtain⟨g,rfl⟩:∃g,f=g+1:=⟨f-1,by omega⟩
   obtain⟨t1,t'⟩:=AK ht
   obtain⟨t2,t3⟩:=AK t'
   have t2':AY S s.step.tok l:=t2
   have t3':AY S (s.step.past l (A1 c)).tok l2:=t3
   have e:(s.step.past l (A1 c)).past l2 (AA ks)=s.past (A5 Cz++(l++l2)) (AA (c::ks)):=by
    rw[B1,FM s Cz,Cg,Cg,Nat.zero_add]
   rw[<-e]at hc⊢
   have hl:=AB (S:=S) (s:=s) (s':=s.step) (Ds t1).1 (Z0 _)
   have hl2:=AB (S:=S) (s:=s) (s':=s.step.past l (A1 c)) (Ds t1).1 (by show s.tok+1<=s.tok+1+l.length;omega)
   rw[B6,if_pos (Ab t1),o S s.step g (by omega) hs t2']
   show(B6 S g (s.step.past l (A1 c))).then _=_
   rw[o2 S (s.step.past l (A1 c)) g (by omega) hs t3' hc]
   rfl
def PN(n:Nd):Prop:=∃l,(∀F,2*A1 n<=F->Dz F n=some l)/\∀(S:Src9),AY S 0 l->F9 S (Df S) ⟨0,0,0⟩=.ok (n,PS.past ⟨0,0,0⟩ l (A1 n))
theorem Rm{ks:List Nd}{b:Nd}(hk:∀c∈ks,N0 0 c)(hb:ID 0 b):PN (.mk 1 [] 0 (ks++[b])):=by
 obtain⟨la,wa,ra⟩:=Hy ks hk
 obtain⟨lb,wb,rb⟩:=hb
 have hsz:A1 (.mk 1 [] 0 (ks++[b]))=1+(AA ks+A1 b):=by rw[JZ,Dm,D1]
 refine⟨la++(A5 Dy++lb),fun F hF=>?_,fun S ht=>?_⟩
 ·rw[hsz]at hF
  unfold Dz
  show(match (ks++[b]).getLast? with | some b=>_ | none=>_)=_
  rw[List.getLast?_concat]
  show(if(1:Int)=1 then AE (Bv ((ks++[b]).dropLast.map (B4 F))) (AE (some (A5 Dy)) (BR F b))else _)=_
  rw[if_pos rfl,List.dropLast_concat,wa F (by omega),wb F (by omega)]
  rfl
 ·obtain⟨t1,t'⟩:=AK ht
  obtain⟨t2,t3⟩:=AK t'
  have t2':AY S (PS.past ⟨0,0,0⟩ la (AA ks)).tok (A5 Dy):=t2
  have t3':AY S (PS.past ⟨0,0,0⟩ la (AA ks)).step.tok lb:=t3
  have hl:∀s,S.left s<=S.L.length:=fun s=>by unfold Src9.left;omega
  have h1:=hl ⟨0,0,0⟩
  have h2:=hl (PS.past ⟨0,0,0⟩ la (AA ks)).step
  unfold F9
  rw[ra S ⟨0,0,0⟩ (Df S) (by unfold Df;omega) (Int.le_refl _) t1 t2']
  show(A8 S Dy (PS.past ⟨0,0,0⟩ la (AA ks))).then _=_
  rw[EA t2' (by decide) (by decide)]
  show(BQ S (Df S) (PS.past ⟨0,0,0⟩ la (AA ks)).step).then _=_
  rw[Ep (by unfold Df;omega),rb S _ (Int.le_refl _) t3',hsz]
  refine D0 (st:=((PS.past ⟨0,0,0⟩ la (AA ks)).step.past lb (A1 b)).node) ?_ rfl ?_
  ·show 0+la.length+1+lb.length=_
   simp only[Z1,BN];omega
  ·show(0:Int)+(AA ks:Int)+(A1 b:Int)+1=_
   push_cast;omega
theorem KK{S:Src9}(hS:S.good):∀(f:Nat) (s:PS) (ks:List Nd) (s':PS),Bb S f s=.ok (ks,s')->s'.deep=s.deep/\s'.many=s.many+(AA ks:Int)/\∀c∈ks,Iy c
 | 0,s,ks,s',h=>by rw[Bb]at h;exact Ac h
 | f+1,s,ks,s',h=>by
  rw[Bb]at h
  obtain⟨x,s1,hx,h⟩:=A0 h
  obtain⟨nx,rfl⟩:=Cn hS hx
  obtain⟨k,s2,hk,h⟩:=A0 h
  cases hk
  split at h
  ·obtain⟨ls,s3,hl,h⟩:=A0 h
   obtain⟨d1,m1,k1⟩:=KK hS f _ _ _ hl
   cases h
   have e1:s.step.node.step.deep=s.deep:=rfl
   have e2:s.step.node.step.many=s.many+1:=rfl
   rw[e1]at d1
   refine⟨d1,by rw[B1,GE];push_cast;omega,fun c hc=>?_⟩
   rcases List.mem_cons.1 hc with rfl | hc
   ·exact⟨x,nx,rfl⟩
   ·exact k1 c hc
  ·cases h
   refine⟨rfl,rfl,fun c hc=>?_⟩
   rcases List.mem_cons.1 hc with rfl | hc
   ·exact⟨x,nx,rfl⟩
   ·cases hc
theorem QJ{S:Src9}(hS:S.good){f:Nat}{s s':PS}{n:Nd}(h:Cl S f s=.ok (n,s')):RdP LS s n s':=by
 unfold Cl at h
 obtain⟨x,s1,hx,h⟩:=A0 h
 obtain⟨nx,rfl⟩:=Cn hS hx
 obtain⟨u,s2,hu,h⟩:=A0 h
 obtain⟨rfl,hd⟩:=(BZ hu).1 (Or.inl rfl)
 obtain⟨ks,s3,hk,h⟩:=A0 h
 have q:s3.deep=s.deep+1/\s3.many=s.many+(AA ks:Int)/\∀c∈ks,Iy c:=by
  split at hk
  ·cases hk
   exact⟨rfl,by show s.many=s.many+0;omega,fun c hc=>by cases hc⟩
  ·exact KK hS _ _ _ _ hk
 obtain⟨q1,q2,q3⟩:=q
 obtain⟨v,s4,hv,h⟩:=A0 h
 obtain rfl:=(BZ hv).2.1 (Or.inl rfl)
 obtain⟨b,s5,hb,h⟩:=A0 h
 obtain⟨d1,m1,k1⟩:=(PK hS f).block _ _ _ hb
 have e1:s3.up.deep=s.deep:=by show s3.deep-1=s.deep;omega
 have e2:s3.up.many=s3.many:=rfl
 rw[e1]at d1 k1
 exact DC h d1 (by rw[Dm,D1];push_cast;omega) (PM nx hd q3 k1)
theorem KL{S:Src9}(hS:S.good):∀(f:Nat) (s:PS) (ks:List Nd) (s':PS),BM S f s=.ok (ks,s')->s'.deep=s.deep/\s'.many=s.many+(AA ks:Int)/\∀c∈ks,IE c
 | 0,s,ks,s',h=>by rw[BM]at h;exact Ac h
 | f+1,s,ks,s',h=>by
  rw[BM]at h
  split at h
  ·obtain⟨x,s1,hx,h⟩:=A0 h
   obtain⟨nx,rfl⟩:=Cn hS hx
   obtain⟨u,s2,hu,h⟩:=A0 h
   obtain rfl:=(BZ hu).2.2 (by decide) (by decide)
   obtain⟨k,s3,hk,h⟩:=A0 h
   cases hk
   obtain⟨ls,s4,hl,h⟩:=A0 h
   obtain⟨d1,m1,k1⟩:=KL hS f _ _ _ hl
   cases h
   have e1:s.step.step.step.node.deep=s.deep:=rfl
   have e2:s.step.step.step.node.many=s.many+1:=rfl
   rw[e1]at d1
   refine⟨d1,by rw[B1,GE];push_cast;omega,fun c hc=>?_⟩
   rcases List.mem_cons.1 hc with rfl | hc
   ·exact⟨x,nx,rfl⟩
   ·exact k1 c hc
  ·cases h
   exact⟨rfl,by show s.many=s.many+0;omega,fun c hc=>by cases hc⟩
theorem Kh{S:Src9}(hS:S.good):∀(f:Nat) (s:PS) (ks:List Nd) (s':PS),Ap S f s=.ok (ks,s')->s'.deep=s.deep/\s'.many=s.many+(AA ks:Int)/\∀c∈ks,LS s.deep c
 | 0,s,ks,s',h=>by rw[Ap]at h;exact Ac h
 | f+1,s,ks,s',h=>by
  rw[Ap]at h
  split at h
  ·obtain⟨k,s1,hk,h⟩:=A0 h
   obtain⟨d1,m1,k1⟩:=QJ hS hk
   have e1:s.step.deep=s.deep:=rfl
   have e2:s.step.many=s.many:=rfl
   rw[e1]at d1 k1
   obtain⟨ls,s2,hl,h⟩:=A0 h
   obtain⟨d2,m2,k2⟩:=Kh hS f _ _ _ hl
   rw[d1]at d2 k2
   cases h
   refine⟨d2,by rw[B1];push_cast;omega,fun c hc=>?_⟩
   rcases List.mem_cons.1 hc with rfl | hc
   ·exact k1
   ·exact k2 c hc
  ·cases h
   exact⟨rfl,by show s.many=s.many+0;omega,fun c hc=>by cases hc⟩
theorem Rn{S:Src9}(hS:S.good){f:Nat}{s s':PS}{n:Nd}(h:DD S f s=.ok (n,s')):RdP N0 s n s':=by
 unfold DD at h
 obtain⟨x,s1,hx,h⟩:=A0 h
 obtain⟨nx,rfl⟩:=Cn hS hx
 obtain⟨up,s2,hu,h⟩:=A0 h
 have q:s2.deep=s.deep/\s2.many=s.many+(AA up:Int)/\(up=[]\/∃y,BV y=true/\up=[.mk 31 y 0 []]):=by
  split at hu
  ·obtain⟨y,s3,hy,hu⟩:=A0 hu
   obtain⟨ny,rfl⟩:=Cn hS hy
   obtain⟨k,s4,hk,hu⟩:=A0 hu
   cases hk
   cases hu
   exact⟨rfl,rfl,Or.inr ⟨y,ny,rfl⟩⟩
  ·cases hu
   exact⟨rfl,by show s.many=s.many+0;omega,Or.inl rfl⟩
 obtain⟨q1,q2,q3⟩:=q
 obtain⟨v,s3,hv,h⟩:=A0 h
 obtain⟨rfl,hd⟩:=(BZ hv).1 (Or.inr rfl)
 obtain⟨ks,s4,hk,h⟩:=A0 h
 obtain⟨d1,m1,k1⟩:=KL hS _ _ _ _ hk
 obtain⟨ms,s5,hm,h⟩:=A0 h
 obtain⟨d2,m2,k2⟩:=Kh hS _ _ _ _ hm
 obtain⟨w,s6,hw,h⟩:=A0 h
 obtain rfl:=(BZ hw).2.1 (Or.inr rfl)
 have e1:s2.down.deep=s.deep+1:=by show s2.deep+1=_;omega
 have e2:s2.down.many=s2.many:=rfl
 rw[d1,e1]at k2
 exact DC h (by show s5.deep-1=s.deep;omega) (by show s5.many=_;rw[Dm,Dm];push_cast;omega) (QI nx (by omega) q3 k1 k2)
theorem Ki{S:Src9}(hS:S.good):∀(f:Nat) (s:PS) (ks:List Nd) (s':PS),B6 S f s=.ok (ks,s')->s'.deep=s.deep/\s'.many=s.many+(AA ks:Int)/\∀c∈ks,N0 s.deep c
 | 0,s,ks,s',h=>by rw[B6]at h;exact Ac h
 | f+1,s,ks,s',h=>by
  rw[B6]at h
  split at h
  ·obtain⟨k,s1,hk,h⟩:=A0 h
   obtain⟨d1,m1,k1⟩:=Rn hS hk
   have e1:s.step.deep=s.deep:=rfl
   have e2:s.step.many=s.many:=rfl
   rw[e1]at d1 k1
   obtain⟨ls,s2,hl,h⟩:=A0 h
   obtain⟨d2,m2,k2⟩:=Ki hS f _ _ _ hl
   rw[d1]at d2 k2
   cases h
   refine⟨d2,by rw[B1];push_cast;omega,fun c hc=>?_⟩
   rcases List.mem_cons.1 hc with rfl | hc
   ·exact k1
   ·exact k2 c hc
  ·cases h
   exact⟨rfl,by show s.many=s.many+0;omega,fun c hc=>by cases hc⟩
theorem Og{S:Src9}(hS:S.good){f:Nat}{s':PS}{n:Nd}(h:F9 S f ⟨0,0,0⟩=.ok (n,s')):s'.many=(A1 n:Int)/\PN n:=by
 unfold F9 at h
 obtain⟨ks,s1,hk,h⟩:=A0 h
 obtain⟨d1,m1,k1⟩:=Ki hS _ _ _ _ hk
 obtain⟨u,s2,hu,h⟩:=A0 h
 obtain rfl:=(BZ hu).2.2 (by decide) (by decide)
 obtain⟨b,s3,hb,h⟩:=A0 h
 obtain⟨d2,m2,k2⟩:=(PK hS f).block _ _ _ hb
 have e1:s1.step.deep=0:=d1
 have e2:s1.step.many=s1.many:=rfl
 rw[e1]at k2
 cases h
 refine⟨?_,Rm k1 k2⟩
 rw[JZ,Dm,D1]
 show s3.many+1=_
 simp only at m1
 push_cast;omega
theorem N1{S:Src9}(hS:S.good){f:Nat}{n:Nd}(h:Cs S f=.ok n):A1 n<=600/\PN n:=by
 unfold Cs at h
 split at h
 ·cases h
 ·rename_i m s hp
  obtain⟨h1,h2⟩:=Og hS hp
  split at h
  ·cases h
  ·split at h
   ·cases h
   ·cases h
    exact⟨by omega,h2⟩
theorem QK{n:Nd}(h:PN n)(hn:A1 n<=600):∃l,(∀F,2*A1 n<=F->Dz F n=some l)/\∀(S:Src9),AY S 0 l->S.L.length=l.length->Cs S (Df S)=.ok n:=by
 obtain⟨l,w,r⟩:=h
 refine⟨l,w,fun S ht hl=>?_⟩
 unfold Cs
 rw[r S ht]
 show(if 0+l.length<S.L.length then _ else if 600<(0:Int)+(A1 n:Int)then _ else _)=_
 rw[if_neg (by omega),if_neg (by omega)]
mutual
theorem Ls:∀n:Nd,I7 n n=true
 | .mk k t m ks=>by
  unfold I7
  rw[Kj ks]
  simp
theorem Kj:∀ks:List Nd,GQ ks ks=true
 | []=>by unfold GQ;rfl
 | n::ns=>by unfold GQ;rw[Ls n,Kj ns];rfl
end
mutual
theorem Oh:∀n m:Nd,I7 n m=true->n=m
 | .mk k t i ks,.mk k' t' i' ks',h=>by
  unfold I7 at h
  simp only[Bool.and_eq_true,beq_iff_eq]at h
  obtain⟨rfl,rfl,rfl,h⟩:=h
  rw[N2 ks ks' h]
theorem N2:∀ks ms:List Nd,GQ ks ms=true->ks=ms
 | [],[],_=>rfl
 | [],_::_,h=>by unfold GQ at h;cases h
 | _::_,[],h=>by unfold GQ at h;cases h
 | n::ns,m::ms,h=>by
  unfold GQ at h
  simp only[Bool.and_eq_true]at h
  rw[Oh n m h.1,N2 ns ms h.2]
end
theorem QL(l:List Tok)(fin:Nat):AY ⟨l,fin⟩ 0 l:=⟨by show 0+l.length<=l.length;omega,fun j _=>by rw[Nat.zero_add];exact⟨rfl,rfl⟩⟩
def C2(l:List Tok):List Int:=FA (l.map fun t=>t.2.1)++[10]
theorem Jp{S:Src9}(hS:S.good){f:Nat}{n:Nd}(h:Cs S f=.ok n):∃l,GA n=.ok (C2 l)/\Dz (2*A1 n+2) n=some l/\∀(S:Src9),AY S 0 l->S.L.length=l.length->Cs S (Df S)=.ok n:=by
 obtain⟨h1,h2⟩:=N1 hS h
 obtain⟨l,w,r⟩:=QK h2 h1
 have e:=w (2*A1 n+2) (by omega)
 refine⟨l,?_,e,r⟩
 unfold GA
 rw[if_neg (by omega),e]
 show(match Cs ⟨l,0⟩ (Df ⟨l,0⟩)with | .error _=>_ | .ok m=>_)=_
 rw[r ⟨l,0⟩ (QL l 0) rfl]
 show(if I7 n n=true then _ else _)=_
 rw[if_pos (Ls n)]
 rfl
theorem Ro{n:Nd}{t:List Int}(h:GA n=.ok t):∃l,Dz (2*A1 n+2) n=some l/\t=C2 l/\Cs ⟨l,0⟩ (Df ⟨l,0⟩)=.ok n:=by
 unfold GA at h
 split at h
 ·cases h
 ·split at h
  ·cases h
  ·rename_i l hl
   split at h
   ·cases h
   ·rename_i m hm
    split at h
    ·rename_i hs
     cases h
     refine⟨l,hl,rfl,?_⟩
     rw[hm,Oh _ _ hs]
    ·cases h
theorem Kk{p:Int->Bool}{T:List Int}:∀(m i j:Nat),i<=j->j<F0 p T i m->p (wd T j)=true
 | 0,i,j,h1,h2=>by unfold F0 at h2;omega
 | m+1,i,j,h1,h2=>by
  unfold F0 at h2
  split at h2
  ·rename_i hp
   by_cases hj:j=i
   ·rw[hj];exact hp
   ·exact Kk m (i+1) j (by omega) h2
  ·omega
theorem KM{p:Int->Bool}{T:List Int}{i j:Nat}(h1:i<=j)(h2:j<AO p T i):p (wd T j)=true:=Kk _ i j h1 h2
theorem QM{p:Int->Bool}{x:List Int}(h:∀j,j<x.length->p (wd x j)=true):x.all p=true:=by
 rw[List.all_eq_true]
 intro b hb
 obtain⟨j,hj,rfl⟩:=List.mem_iff_getElem.1 hb
 have:=h j hj
 unfold wd at this
 rwa [Z2,List.getElem?_eq_getElem hj]at this
theorem Hz{p:Int->Bool}{x:List Int}(h:x.all p=true){j:Nat}(hj:j<x.length):p (wd x j)=true:=by
 rw[List.all_eq_true]at h
 unfold wd
 rw[Z2,List.getElem?_eq_getElem hj]
 exact h _ (Z6 hj)
theorem G6{T:List Int}{i k:Nat}:∀m,m<=k-i->CF (Am T i k) 0 m=CF T i m
 | 0,_=>rfl
 | m+1,h=>by
  unfold CF
  rw[G6 m (by omega),Nat.zero_add,DO (by omega)]
def Kl(t:Tok):Prop:=(t.1=1->BV t.2.1=true)/\(t.1=2->0<=CG t.2.1/\CG t.2.1<=1073741823)
theorem N3{T:List Int}{i k:Nat}{t:Tok}(hi:i<T.length)(h:Av T i=.tok t k):Kl t:=by
 unfold Av at h
 split at h
 ·cases h
 ·split at h
  ·cases h
  ·split at h
   ·rename_i hl
    cases h
    obtain⟨s1,s2⟩:=Db (p:=Ba) hi (by unfold Ba;rw[hl];rfl)
    refine⟨fun hk=>?_,fun hk=>?_⟩
    ·simp only at hk⊢
     have hw:DJ (Am T i (AO Ba T i))=false:=by
      cases hw:DJ (Am T i (AO Ba T i))with
      | false=>rfl
      | true=>rw[if_pos hw]at hk;exact absurd hk (by decide)
     have hlen:=Bz (T:=T) (i:=i) s2
     have h0:wd (Am T i (AO Ba T i)) 0=wd T i:=by rw[DO (by omega),Nat.add_zero]
     have ha:(Am T i (AO Ba T i)).all Ba=true:=QM fun j hj=>by
      rw[DO (by omega)]
      exact KM (p:=Ba) (T:=T) (i:=i) (by omega) (by omega)
     have hne:(Am T i (AO Ba T i)).isEmpty=false:=by
      cases hp:Am T i (AO Ba T i)with
      | nil=>rw[hp]at hlen;simp at hlen;omega
      | cons a l=>rfl
     unfold BV
     rw[hne,h0,hl,ha,hw]
     rfl
    ·simp only at hk
     split at hk<;>exact absurd hk (by decide)
   ·split at h
    ·rename_i hd
     split at h
     ·cases h
     ·rename_i hb
      cases h
      refine⟨fun hk=>absurd hk (show ¬(2:Int)=1 by decide),fun _=>?_⟩
      obtain⟨s1,s2⟩:=Db (p:=Ah) hi hd
      have hlen:=Bz (T:=T) (i:=i) s2
      have e:CG (Am T i (AO Ah T i))=CF T i (AO Ah T i-i):=by
       unfold CG
       rw[hlen,G6 _ (Z0 _)]
      simp only
      rw[e]
      have hdg:LM T i (AO Ah T i-i):=fun j hj=>KM (p:=Ah) (T:=T) (i:=i) (by omega) (by omega)
      refine⟨KA _ hdg,?_⟩
      unfold EK at hb
      simp only[Bool.or_eq_true,decide_eq_true_eq,not_or]at hb
      omega
    ·split at h
     ·cases h
     ·cases h
      exact⟨fun hk=>absurd hk (show ¬(4:Int)=1 by decide),fun hk=>absurd hk (show ¬(4:Int)=2 by decide)⟩
theorem J1{T:List Int}:∀(m i:Nat) (l:List Tok),Bm T m i=.ok l->∀t∈l,Kl t
 | 0,i,l,h=>by
  unfold Bm at h
  cases h
  intro t ht;cases ht
 | m+1,i,l,h=>by
  unfold Bm at h
  split at h
  ·rename_i hi
   cases hc:Av T i with
   | skip k=>rw[hc]at h;exact J1 m k l h
   | tok t k=>
    rw[hc]at h
    simp only at h
    cases hs:Bm T m k with
    | error e=>rw[hs]at h;cases h
    | ok l'=>
     rw[hs]at h
     cases h
     intro u hu
     rcases List.mem_cons.1 hu with rfl | hu
     ·exact N3 hi hc
     ·exact J1 m k l' hs u hu
   | bad c a=>rw[hc]at h;cases h
  ·cases h
   intro t ht;cases ht
theorem Oi{l:List Tok}{fin:Nat}(h:∀t∈l,Kl t):Src9.good ⟨l,fin⟩:=fun i hi=>by
 have hi':i<l.length:=hi
 have e:Src9.at ⟨l,fin⟩ i=l[i]:=by
  unfold Src9.at
  rw[Z2,List.getElem?_eq_getElem hi']
  rfl
 rw[e]
 exact h _ (Z6 hi')
theorem FP{T:List Int}{l:List Tok}(h:C9 T=.ok l):Src9.good ⟨l,T.length⟩:=by
 unfold C9 at h
 split at h
 ·cases h
 ·exact Oi (J1 _ _ _ h)
def Ja(x:List Int):Bool:=x==[61,61]||(x.length==1&&CB.contains (wd x 0))
def E2(t:Tok):Prop:=(t.1=1/\BV t.2.1=true)\/(t.1=2/\∃m:Int,0<=m/\m<=1073741823/\t.2.1=Bg m)\/(t.1=3/\DJ t.2.1=true)\/(t.1=4/\Ja t.2.1=true)
theorem TU{t:Tok}(h:E2 t):Kl t:=by
 rcases h with⟨h1,h2⟩ | ⟨h1,m,h2,h3,h4⟩ | ⟨h1,h2⟩ | ⟨h1,h2⟩
 ·exact⟨fun _=>h2,fun h=>by rw[h1]at h;exact absurd h (by decide)⟩
 ·exact⟨fun h=>by rw[h1]at h;exact absurd h (by decide),fun _=>by rw[h4,G5 h2 h3];exact⟨h2,h3⟩⟩
 ·exact⟨fun h=>by rw[h1]at h;exact absurd h (by decide),fun h=>by rw[h1]at h;exact absurd h (by decide)⟩
 ·exact⟨fun h=>by rw[h1]at h;exact absurd h (by decide),fun h=>by rw[h1]at h;exact absurd h (by decide)⟩
def C3(o:Option (List Tok)):Prop:=∀l,o=some l->∀t∈l,E2 t
theorem C5:C3 none:=fun l h=>by cases h
theorem QN:C3 (some []):=fun l h=>by cases h;intro t ht;cases ht
theorem As{x:List Int}(h:(DJ x||Ja x)=true):C3 (some (A5 x)):=fun l hl=>by
 cases hl
 intro t ht
 unfold A5 at ht
 rw[List.mem_singleton]at ht
 subst ht
 by_cases hw:DJ x=true
 ·exact Or.inr (Or.inr (Or.inl ⟨if_pos hw,hw⟩))
 ·refine Or.inr (Or.inr (Or.inr ⟨if_neg hw,?_⟩))
  rw[Bool.or_eq_true]at h
  rcases h with h | h
  ·exact absurd h hw
  ·exact h
theorem AZ{a b:Option (List Tok)}(ha:C3 a)(hb:C3 b):C3 (AE a b):=fun l hl=>by
 cases a with
 | none=>cases hl
 | some x=>
  cases b with
  | none=>cases hl
  | some y=>
   cases hl
   intro t ht
   rcases List.mem_append.1 ht with h | h
   ·exact ha x rfl t h
   ·exact hb y rfl t h
theorem EP(x:List Int):C3 (Ax x):=by
 unfold Ax
 split
 ·rename_i h
  intro l hl
  cases hl
  intro t ht
  rw[List.mem_singleton]at ht
  subst ht
  exact Or.inl ⟨rfl,h⟩
 ·exact C5
theorem TV(m:Int):C3 (GM m):=by
 unfold GM
 split
 ·rename_i h
  intro l hl
  cases hl
  intro t ht
  rw[List.mem_singleton]at ht
  subst ht
  exact Or.inr (Or.inl ⟨rfl,m,h.1,h.2,rfl⟩)
 ·exact C5
theorem J2:∀(as:List (Option (List Tok))),(∀a∈as,C3 a)->C3 (CO as)
 | [],_=>QN
 | [a],h=>h a (Z7 ..)
 | a::b::as,h=>AZ (h a (Z7 ..)) (AZ (As (by decide)) (J2 (b::as) fun c hc=>h c (Z8 _ hc)))
theorem Jb:∀(as:List (Option (List Tok))),(∀a∈as,C3 a)->C3 (Bv as)
 | [],_=>QN
 | a::as,h=>AZ (h a (Z7 ..)) (Jb as fun c hc=>h c (Z8 _ hc))
theorem J3{α:Type}{g:α->Option (List Tok)}(h:∀a,C3 (g a))(as:List α):∀a∈as.map g,C3 a:=fun a ha=>by
 obtain⟨b,_,rfl⟩:=List.mem_map.1 ha
 exact h b
theorem Fb{g:Nat->Nd->Option (List Tok)}(h:∀k n,C3 (g k n))(ks:List Nd){x:List Int}(hx:(DJ x||Ja x)=true)(l r:Nat):C3 (AH.betweenW g ks x l r):=by
 unfold AH.betweenW
 split
 ·exact AZ (h _ _) (AZ (As hx) (h _ _))
 ·exact C5
theorem Bq{c:Prop}[Decidable c]{a b:Option (List Tok)}(ha:C3 a)(hb:C3 b):C3 (if c then a else b):=by
 by_cases h:c
 ·rw[if_pos h];exact ha
 ·rw[if_neg h];exact hb
theorem FQ:∀(f k:Nat) (n:Nd),C3 (AH f k n)
 | 0,k,n=>by unfold AH;exact C5
 | f+1,k,.mk kind x num ks=>by
  have I:=FQ f
  unfold AH
  refine Bq (AZ (As (by decide)) (AZ (I _ _) (As (by decide)))) (Bq (Fb I ks (by decide) _ _) (Bq (Fb I ks (by decide) _ _) (Bq (Fb I ks (by decide) _ _) (Bq (Fb I ks (by decide) _ _) (Bq (Fb I ks (by decide) _ _) (Bq ?_ (Bq ?_ (Bq ?_ (Bq (TV _) (Bq (As (by decide)) (Bq (As (by decide)) (Bq (As (by decide)) (Bq (AZ (As (by decide)) (EP _)) (Bq (EP _) C5))))))))))))))
  ·cases ks with
   | nil=>exact C5
   | cons a as=>exact AZ (As (by decide)) (I _ _)
  ·cases ks with
   | nil=>exact C5
   | cons a as=>exact AZ (As (by decide)) (I _ _)
  ·cases ks with
   | nil=>exact C5
   | cons a as=>exact AZ (I _ _) (AZ (As (by decide)) (AZ (EP _) (AZ (As (by decide)) (AZ (J2 _ (J3 (I 0) _)) (As (by decide))))))
theorem Gb(f:Nat)(ks:List Nd):C3 (CZ f ks):=by
 unfold CZ
 split
 ·exact AZ (As (by decide)) (AZ (FQ _ _ _) (As (by decide)))
 ·exact C5
theorem Er{a:Option (List Tok)}(h:C3 a):C3 (C1 a):=AZ h (As (by decide))
theorem KN:∀(f:Nat),(∀n,C3 (BR f n))/\(∀n,C3 (Aa f n))
 | 0=>⟨fun n=>by unfold BR;exact C5,fun n=>by unfold Aa;exact C5⟩
 | f+1=>by
  obtain⟨I,J⟩:=KN f
  refine⟨fun n=>?_,fun n=>?_⟩
  ·obtain⟨k,x,m,ks⟩:=n
   rw[BR]
   split
   ·exact AZ (As (by decide)) (AZ (Jb _ (J3 J _)) (As (by decide)))
   ·exact C5
  ·obtain⟨k,x,m,ks⟩:=n
   cases ks with
   | nil=>rw[Aa];exact C5
   | cons a as=>
    rw[Aa.eq_def]
    show C3 (if k=7 then _ else _)
    refine Bq (Er (AZ (As (by decide)) (AZ (EP _) (AZ (As (by decide)) (FQ _ _ _))))) (Bq (Er (AZ (EP _) (AZ (As (by decide)) (FQ _ _ _)))) (Bq ?_ (Bq ?_ (Bq (Er (AZ (As (by decide)) (FQ _ _ _))) (Bq (Er (AZ (As (by decide)) (Gb _ _))) (Bq (AZ (As (by decide)) (I _)) (Bq (Er (AZ (As (by decide)) (Gb _ _))) (Bq (Er (AZ (As (by decide)) (Gb _ _))) (Bq ?_ (Bq (Er (FQ _ _ _)) C5))))))))))
    ·cases as with
     | nil=>exact C5
     | cons b bs=>
      cases bs with
      | nil=>exact AZ (As (by decide)) (AZ (Gb _ _) (I _))
      | cons c cs=>exact AZ (As (by decide)) (AZ (Gb _ _) (AZ (I _) (AZ (As (by decide)) (I _))))
    ·cases as with
     | nil=>exact C5
     | cons b bs=>exact AZ (As (by decide)) (AZ (Gb _ _) (I _))
    ·cases as with
     | nil=>exact C5
     | cons b bs=>exact Er (AZ (As (by decide)) (AZ (As (by decide)) (AZ (FQ _ _ _) (AZ (As (by decide)) (AZ (FQ _ _ _) (As (by decide)))))))
theorem QO(f:Nat)(n:Nd):C3 (Bi f n):=by
 unfold Bi
 split
 ·exact Er (AZ (As (by decide)) (EP _))
 split
 ·split
  ·exact AZ (As (by decide)) (AZ (EP _) (AZ (As (by decide)) (AZ (J2 _ (J3 (fun a:Nd=>EP a.text) _)) (AZ (As (by decide)) ((KN f).1 _)))))
  ·exact C5
 ·exact C5
theorem LT(f:Nat)(ks:List Nd):C3 (B4.bodyW f ks):=AZ (As (by decide)) (AZ (Jb _ (J3 (QO f) _)) (As (by decide)))
theorem Rp(f:Nat)(n:Nd):C3 (B4 f n):=by
 unfold B4
 refine AZ (As (by decide)) (AZ (EP _) ?_)
 split
 ·split
  ·exact AZ (As (by decide)) (AZ (EP _) (LT _ _))
  ·exact LT _ _
 ·exact LT _ _
theorem Oj(f:Nat)(n:Nd):C3 (Dz f n):=by
 unfold Dz
 split
 ·split
  ·exact AZ (Jb _ (J3 (Rp f) _)) (AZ (As (by decide)) ((KN f).1 _))
  ·exact C5
 ·exact C5
def Jd(t:Tok):Prop:=(t.1=1/\BV t.2.1=true)\/(t.1=2/\0<t.2.1.length/\t.2.1.all Ah=true/\CG t.2.1<=1073741823)\/t.1=3\/t.1=4
theorem QQ{T:List Int}{i k:Nat}{t:Tok}(hi:i<T.length)(h:Av T i=.tok t k):Jd t:=by
 have hf:=N3 hi h
 unfold Av at h
 split at h
 ·cases h
 ·split at h
  ·cases h
  ·split at h
   ·cases h
    by_cases hw:DJ (Am T i (AO Ba T i))=true
    ·exact Or.inr (Or.inr (Or.inl (by show(if _ then _ else _:Int)=3;rw[if_pos hw])))
    ·have e:(if DJ (Am T i (AO Ba T i))=true then(3:Int)else 1)=1:=if_neg hw
     exact Or.inl ⟨e,hf.1 e⟩
   ·split at h
    ·rename_i hd
     split at h
     ·cases h
     ·cases h
      obtain⟨s1,s2⟩:=Db (p:=Ah) hi hd
      have hlen:=Bz (T:=T) (i:=i) s2
      refine Or.inr (Or.inl ⟨rfl,?_,?_,(hf.2 rfl).2⟩)
      ·show 0<(Am T i (AO Ah T i)).length
       omega
      ·exact QM fun j hj=>by
        have hj':j<(Am T i (AO Ah T i)).length:=hj
        show Ah (wd (Am T i (AO Ah T i)) j)=true
        rw[DO (by omega)]
        exact KM (p:=Ah) (T:=T) (i:=i) (by omega) (by omega)
    ·split at h
     ·cases h
     ·cases h
      exact Or.inr (Or.inr (Or.inr rfl))
theorem IF{T:List Int}:∀(m i:Nat) (l:List Tok),Bm T m i=.ok l->∀t∈l,Jd t
 | 0,i,l,h=>by
  unfold Bm at h
  cases h
  intro t ht;cases ht
 | m+1,i,l,h=>by
  unfold Bm at h
  split at h
  ·rename_i hi
   cases hc:Av T i with
   | skip k=>rw[hc]at h;exact IF m k l h
   | tok t k=>
    rw[hc]at h
    simp only at h
    cases hs:Bm T m k with
    | error e=>rw[hs]at h;cases h
    | ok l'=>
     rw[hs]at h
     cases h
     intro u hu
     rcases List.mem_cons.1 hu with rfl | hu
     ·exact QQ hi hc
     ·exact IF m k l' hs u hu
   | bad c a=>rw[hc]at h;cases h
  ·cases h
   intro t ht;cases ht
def AP(S:Src9):Prop:=∀i,i<S.L.length->Jd (S.at i)
theorem Ru{l:List Tok}{fin:Nat}(h:∀t∈l,Jd t):AP ⟨l,fin⟩:=fun i hi=>by
 have hi':i<l.length:=hi
 have e:Src9.at ⟨l,fin⟩ i=l[i]:=by
  unfold Src9.at
  rw[Z2,List.getElem?_eq_getElem hi']
  rfl
 rw[e]
 exact h _ (Z6 hi')
theorem IG{T:List Int}{l:List Tok}(h:C9 T=.ok l):AP ⟨l,T.length⟩:=by
 unfold C9 at h
 split at h
 ·cases h
 ·exact Ru (IF _ _ _ h)
def Src9.text(S:Src9)(s:PS):List Int:=if s.tok<S.L.length then(S.at s.tok).2.1 else[]
def D2(x:List Int):Bool:=!x.isEmpty&&(!BV x&&!(x.all Ah))
theorem Co{S:Src9}(hl:AP S){x:List Int}(hx:D2 x=true)(s:PS):A2 S x s=(S.text s==x):=by
 unfold D2 at hx
 simp only[Bool.and_eq_true,Bool.not_eq_true']at hx
 obtain⟨h0,h1,h2⟩:=hx
 unfold A2 Src9.text
 by_cases ht:s.tok<S.L.length
 ·rw[if_pos ht,decide_eq_true ht,Bool.true_and]
  cases he:(S.at s.tok).2.1==x with
  | false=>rfl
  | true=>
   have e:(S.at s.tok).2.1=x:=by simpa using he
   rcases hl s.tok ht with⟨_,hn⟩ | ⟨_,_,hd,_⟩ | hk | hk
   ·rw[e,h1]at hn;cases hn
   ·rw[e,h2]at hd;cases hd
   ·rw[hk];rfl
   ·rw[hk];rfl
 ·rw[if_neg ht,decide_eq_false ht,Bool.false_and]
  cases x with
  | nil=>cases h0
  | cons a l=>rfl
def Bx(S:Src9)(s:PS):Got (List Int):=
 if S.text s=AD\/S.text s=Ai then(if 20<s.deep+1 then Bu S 13 s else .ok (S.text s,{ s with tok:=s.tok+1,deep:=s.deep+1 }))
 else if S.text s=A9\/S.text s=Au then .ok (S.text s,{ s with tok:=s.tok+1,deep:=s.deep-1 })
 else .ok (S.text s,s.step)
theorem QR{S:Src9}(hl:AP S){x:List Int}(hx:D2 x=true)(s:PS):A8 S x s=if S.text s=x then(Bx S s).then fun _ s=>.ok ((),s)else Bu S 12 s:=by
 unfold A8 Bx
 rw[Co hl hx]
 by_cases he:S.text s=x
 ·rw[if_pos he,if_pos (by rw[he];simp),he]
  split
  ·split<;>rfl
  ·split<;>rfl
 ·rw[if_neg he,if_neg (by simpa using he)]
theorem Lv{S:Src9}(hl:AP S)(s:PS):Ae S s=if isB S 1 s=true then Bx S s else Bu S 12 s:=by
 unfold Ae
 by_cases h:isB S 1 s=true
 ·rw[if_pos h,if_pos h]
  have h':=h
  unfold isB at h'
  simp only[Bool.and_eq_true,decide_eq_true_eq]at h'
  obtain⟨ht,hk⟩:=h'
  have hk1:(S.at s.tok).1=1:=by simpa using hk
  have hn:BV (S.at s.tok).2.1=true:=by
   rcases hl s.tok ht with⟨_,hn⟩ | ⟨hk2,_⟩ | hk2 | hk2
   ·exact hn
   ·rw[hk1]at hk2;exact absurd hk2 (by decide)
   ·rw[hk1]at hk2;exact absurd hk2 (by decide)
   ·rw[hk1]at hk2;exact absurd hk2 (by decide)
  have e:S.text s=(S.at s.tok).2.1:=by unfold Src9.text;rw[if_pos ht]
  unfold Bx
  rw[e]
  rw[if_neg (by rintro(h | h)<;>(rw[h]at hn;exact absurd hn (by decide))),if_neg (by rintro(h | h)<;>(rw[h]at hn;exact absurd hn (by decide)))]
 ·rw[if_neg h,if_neg h]
theorem Ks:∀(m n:Nat),(Cm m n).all Ah=true
 | 0,n=>rfl
 | m+1,n=>by
  unfold Cm
  split
  ·rw[List.all_append,Ks m (n / 10)]
   show(true&&(Ah (48+((n % 10:Nat):Int))&&true))=true
   unfold Ah
   rw[decide_eq_true (by omega)]
   rfl
  ·show(Ah (48+(n:Int))&&true)=true
   unfold Ah
   rw[decide_eq_true (by omega)]
   rfl
theorem QV{x y:List Int}{j:Nat}(h:j<x.length):wd (x++y) j=wd x j:=by
 unfold wd
 rw[Z2,Z2,List.getElem?_append_left h]
theorem Kt(m n:Nat):0<(Cm (m+1) n).length:=by
 unfold Cm
 split
 ·rw[Z1];simp
 ·simp
theorem Ju:∀(m n:Nat),0<n->n<10 ^ (m+1)->wd (Cm (m+1) n) 0≠48
 | 0,n,h0,h=>by
  unfold Cm
  rw[if_neg (by simp at h;omega)]
  show(48+(n:Int))≠48
  omega
 | m+1,n,h0,h=>by
  unfold Cm
  split
  ·rw[QV (Kt m _)]
   exact Ju m (n / 10) (by omega) (by rw[Nat.pow_succ]at h;omega)
  ·show(48+(n:Int))≠48
   omega
theorem FC{m:Int}(h0:0<=m)(h1:m<=1073741823):(Bg m).all Ah=true/\0<(Bg m).length/\(1<(Bg m).length->wd (Bg m) 0≠48):=by
 refine⟨Ks _ _,Kt 19 _,fun hl=>?_⟩
 by_cases hz:m=0
 ·subst hz
  exact absurd hl (by decide)
 ·exact Ju 19 m.toNat (by omega) (by
   have:m.toNat<=1073741823:=by omega
   exact Nat.lt_of_le_of_lt this (by decide))
theorem E3{pre x rest:List Int}{j:Nat}(h:j<x.length):wd (pre++(x++rest)) (pre.length+j)=wd x j:=by
 unfold wd
 rw[Z2,List.getElem?_append_right (by omega),Nat.add_sub_cancel_left,List.getElem?_append_left h,<-Z2]
theorem Je{pre x rest:List Int}{b:Int}:wd (pre++(x++b::rest)) (pre.length+x.length)=b:=by
 unfold wd
 rw[Z2,List.getElem?_append_right (by omega),Nat.add_sub_cancel_left,List.getElem?_append_right (by omega),Nat.sub_self]
 rfl
theorem Eb{pre x rest:List Int}:Am (pre++(x++rest)) pre.length (pre.length+x.length)=x:=by
 unfold Am
 rw[List.drop_append_of_le_length (by omega),List.drop_length,List.nil_append,Nat.add_sub_cancel_left,List.take_append_of_le_length (by omega),List.take_length]
theorem Ol{p:Int->Bool}{pre x rest:List Int}{b:Int}(h:x.all p=true)(hb:p b=false):AO p (pre++(x++b::rest)) pre.length=pre.length+x.length:=by
 refine LL (by simp only[Z1];omega) (by omega) (fun j h1 h2=>?_) (Or.inr (by rw[Je];exact hb))
 obtain⟨d,rfl⟩:∃d,j=pre.length+d:=⟨j-pre.length,by omega⟩
 rw[E3 (by omega)]
 exact Hz h (by omega)
theorem Lz{b:Int}(h:Bk b=true):Ay b=false/\b≠35:=by
 unfold Bk at h
 simp only[Bool.or_eq_true,decide_eq_true_eq,beq_iff_eq]at h
 unfold Ay
 refine⟨?_,by omega⟩
 rw[beq_eq_false_iff_ne.2 (show b≠32 by omega),beq_eq_false_iff_ne.2 (show b≠10 by omega),beq_eq_false_iff_ne.2 (show b≠9 by omega)]
 rfl
theorem M1{b:Int}(h:Ah b=true):Ay b=false/\b≠35:=by
 unfold Ah at h
 simp only[decide_eq_true_eq]at h
 unfold Ay
 refine⟨?_,by omega⟩
 rw[beq_eq_false_iff_ne.2 (show b≠32 by omega),beq_eq_false_iff_ne.2 (show b≠10 by omega),beq_eq_false_iff_ne.2 (show b≠9 by omega)]
 rfl
theorem J7{pre x rest:List Int}{b:Int}(hb:b=32\/b=10)(h0:0<x.length)(h1:Bk (wd x 0)=true)(h2:x.all Ba=true):Av (pre++(x++b::rest)) pre.length=.tok (if DJ x=true then 3 else 1,x,pre.length) (pre.length+x.length):=by
 have e0:wd (pre++(x++b::rest)) pre.length=wd x 0:=E3 (j:=0) h0
 obtain⟨f1,f2⟩:=Lz h1
 rw[Ip (by rw[e0];exact f1) (by rw[e0];exact f2) (by rw[e0];exact h1),Ol h2 (by rcases hb with rfl | rfl<;>decide),Eb]
theorem N7:∀x∈Io,0<x.length/\Bk (wd x 0)=true/\x.all Ba=true:=by decide
theorem T0{pre rest:List Int}{b:Int}{t:Tok}(hb:b=32\/b=10)(h:E2 t):Av (pre++(t.2.1++b::rest)) pre.length=.tok (t.1,t.2.1,pre.length) (pre.length+t.2.1.length)/\0<t.2.1.length:=by
 rcases h with⟨h1,h2⟩ | ⟨h1,m,h2,h3,h4⟩ | ⟨h1,h2⟩ | ⟨h1,h2⟩
 ·unfold BV at h2
  simp only[Bool.and_eq_true,Bool.not_eq_true']at h2
  obtain⟨n1,n2,n3,n4⟩:=h2
  have h0:0<t.2.1.length:=by
   cases hx:t.2.1 with
   | nil=>rw[hx]at n1;cases n1
   | cons a l=>simp
  rw[J7 hb h0 n2 n3,if_neg (by rw[n4];decide),h1]
  exact⟨rfl,h0⟩
 ·obtain⟨d1,d2,d3⟩:=FC h2 h3
  rw[<-h4]at d1 d2 d3
  have e0:wd (pre++(t.2.1++b::rest)) pre.length=wd t.2.1 0:=E3 (j:=0) d2
  have hd0:=Hz d1 d2
  obtain⟨f1,f2⟩:=M1 hd0
  have hst:AO Ah (pre++(t.2.1++b::rest)) pre.length=pre.length+t.2.1.length:=Ol d1 (by rcases hb with rfl | rfl<;>decide)
  have hnum:CF (pre++(t.2.1++b::rest)) pre.length t.2.1.length=m:=by
   have e:=G6 (T:=pre++(t.2.1++b::rest)) (i:=pre.length) (k:=pre.length+t.2.1.length) t.2.1.length (by omega)
   rw[Eb]at e
   rw[<-e]
   show CG t.2.1=m
   rw[h4,G5 h2 h3]
  have hbad:EK (pre++(t.2.1++b::rest)) pre.length (pre.length+t.2.1.length)=false:=by
   unfold EK
   rw[Nat.add_sub_cancel_left,hnum,e0,Je,decide_eq_false (show ¬ 1073741823<m by omega),show Bk b=false by rcases hb with rfl | rfl<;>decide,Bool.and_false,Bool.or_false,Bool.false_or]
   by_cases hl:1<t.2.1.length
   ·rw[beq_eq_false_iff_ne.2 (d3 hl),Bool.and_false]
   ·rw[decide_eq_false hl,Bool.false_and]
  rw[KC (by rw[e0];exact f1) (by rw[e0];exact f2) (by rw[e0];exact hd0) (by rw[hst];exact hbad),hst,Eb,h1]
  exact⟨rfl,d2⟩
 ·obtain⟨w1,w2,w3⟩:=N7 t.2.1 (List.contains_iff_mem.1 h2)
  rw[J7 hb w1 w2 w3,if_pos h2,h1]
  exact⟨rfl,w1⟩
 ·unfold Ja at h2
  simp only[Bool.or_eq_true,Bool.and_eq_true,beq_iff_eq]at h2
  have key:0<t.2.1.length/\Br (pre++(t.2.1++b::rest)) pre.length=t.2.1.length/\Ay (wd t.2.1 0)=false/\wd t.2.1 0≠35/\Bk (wd t.2.1 0)=false/\Ah (wd t.2.1 0)=false:=by
   rcases h2 with h2 | ⟨h2,h3⟩
   ·rw[h2]
    refine⟨by decide,?_,by decide,by decide,by decide,by decide⟩
    unfold Br
    rw[if_pos ⟨by simp only[Z1,List.length_cons];omega,E3 (x:=[61,61]) (j:=0) (by decide),E3 (x:=[61,61]) (j:=1) (by decide)⟩]
    rfl
   ·have e0:wd (pre++(t.2.1++b::rest)) pre.length=wd t.2.1 0:=E3 (j:=0) (by omega)
    have e1:wd (pre++(t.2.1++b::rest)) (pre.length+1)=b:=by rw[<-h2];exact Je
    have hf:∀c∈CB,Ay c=false/\c≠35/\Bk c=false/\Ah c=false:=by decide
    refine⟨by omega,?_,hf _ (List.contains_iff_mem.1 h3)⟩
    unfold Br
    rw[if_neg (by rw[e1];rcases hb with rfl | rfl<;>(intro h;exact absurd h.2.2 (by decide))),e0,if_pos h3,h2]
  obtain⟨k0,k1,k2,k3,k4,k5⟩:=key
  have e0:wd (pre++(t.2.1++b::rest)) pre.length=wd t.2.1 0:=E3 (j:=0) k0
  rw[Iq (by rw[e0];exact k2) (by rw[e0];exact k3) (by rw[e0];exact k4) (by rw[e0];exact k5) (by rw[k1];omega),k1,Eb,h1]
  exact⟨rfl,k0⟩
theorem M2:∀(l:List Tok),(∀t∈l,E2 t)->∀(pre:List Int),∃l',B2 (pre++C2 l) pre.length=.ok l'/\l'.map (fun t=>(t.1,t.2.1))=l.map (fun t=>(t.1,t.2.1))
 | [],_,pre=>by
  refine⟨[],?_,rfl⟩
  have hlen:(pre++C2 []).length=pre.length+1:=by rw[Z1];rfl
  have e0:wd (pre++C2 []) pre.length=10:=E3 (x:=[10]) (rest:=[]) (j:=0) (by decide)
  rw[Dc (by omega),GO (by rw[e0];decide)]
  exact I6 (by omega)
 | t::l,h,pre=>by
  obtain⟨b,rest,hb,ht,hr⟩:∃(b:Int) (rest:List Int),(b=32\/b=10)/\C2 (t::l)=t.2.1++b::rest/\((l=[]/\rest=[])\/rest=C2 l):=by
   cases l with
   | nil=>exact⟨10,[],Or.inr rfl,rfl,Or.inl ⟨rfl,rfl⟩⟩
   | cons u us=>
    refine⟨32,C2 (u::us),Or.inl rfl,?_,Or.inr rfl⟩
    show(t.2.1++[32]++FA ((u::us).map fun t=>t.2.1))++[10]=t.2.1++32::(FA ((u::us).map fun t=>t.2.1)++[10])
    simp[List.append_assoc]
  rw[ht]
  obtain⟨hc,h0⟩:=T0 (pre:=pre) (rest:=rest) hb (h t (Z7 ..))
  have hlen:(pre++(t.2.1++b::rest)).length=pre.length+t.2.1.length+1+rest.length:=by
   simp only[Z1,List.length_cons];omega
  have hskip:B2 (pre++(t.2.1++b::rest)) (pre.length+t.2.1.length)=B2 (pre++(t.2.1++b::rest)) (pre.length+t.2.1.length+1):=by
   rw[Dc (by omega),GO (by rw[Je];rcases hb with rfl | rfl<;>decide)]
  have hin:B2 (pre++(t.2.1++b::rest)) pre.length=(B2 (pre++(t.2.1++b::rest)) (pre.length+t.2.1.length+1)).map ((t.1,t.2.1,pre.length)::·):=by
   rw[Dc (by omega),hc]
   simp only
   rw[hskip]
  rw[hin]
  rcases hr with⟨rfl,rfl⟩ | rfl
  ·rw[I6 (by simp only[Z1,List.length_cons,List.length_nil];omega)]
   exact⟨_,rfl,rfl⟩
  ·obtain⟨l',e1,e2⟩:=M2 l (fun u hu=>h u (Z8 _ hu)) (pre++(t.2.1++[b]))
   have ea:pre++(t.2.1++[b])++C2 l=pre++(t.2.1++b::C2 l):=by simp[List.append_assoc]
   have eb:(pre++(t.2.1++[b])).length=pre.length+t.2.1.length+1:=by simp only[Z1,List.length_singleton];omega
   rw[ea,eb]at e1
   rw[e1]
   refine⟨_,rfl,?_⟩
   rw[List.map_cons,List.map_cons,e2]
theorem QW{l:List Tok}(h:∀t∈l,E2 t)(hl:(C2 l).length<=4000):∃l',C9 (C2 l)=.ok l'/\l'.map (fun t=>(t.1,t.2.1))=l.map (fun t=>(t.1,t.2.1)):=by
 obtain⟨l',e1,e2⟩:=M2 l h []
 refine⟨l',?_,e2⟩
 unfold C9
 rw[if_neg (by omega)]
 exact e1
theorem N8{l l':List Tok}{fin:Nat}(h:l'.map (fun t=>(t.1,t.2.1))=l.map (fun t=>(t.1,t.2.1))):AY ⟨l',fin⟩ 0 l/\l'.length=l.length:=by
 have hl:l'.length=l.length:=by
  have:=congrArg List.length h
  rwa [List.length_map,List.length_map]at this
 refine⟨⟨by show 0+l.length<=l'.length;omega,fun j hj=>?_⟩,hl⟩
 rw[Nat.zero_add]
 have e:=congrArg (fun x=>x[j]?) h
 simp only[List.getElem?_map]at e
 unfold Src9.at
 rw[Z2,Z2]
 rw[List.getElem?_eq_getElem hj,List.getElem?_eq_getElem (show j<l'.length by omega)]at e⊢
 simp only[Option.map_some,Option.some.injEq,Prod.mk.injEq]at e
 exact e
theorem Nt{n:Nd}{t:List Int}(h:GA n=.ok t)(hl:t.length<=4000):CD t=.ok n:=by
 obtain⟨l,h1,rfl,h2⟩:=Ro h
 have ok:=Oj _ n l h1
 obtain⟨_,_,h3,h4⟩:=Jp (Oi fun u hu=>TU (ok u hu)) h2
 rw[h1]at h3
 cases h3
 obtain⟨l',e1,e2⟩:=QW ok hl
 unfold CD
 rw[e1]
 obtain⟨k1,k2⟩:=N8 (fin:=(C2 l).length) e2
 exact h4 ⟨l',(C2 l).length⟩ k1 k2
def NE(r:Nat)(k:Int)(x:List Int)(m:Int)(len:Nat):Prop:=
 if r=0 then
  ((k=18\/k=19\/k=20\/k=21\/k=22)/\x=[]/\m=0/\len=2)\/((k=23\/k=24)/\x=[]/\m=0/\len=1)\/(k=25/\BV x=true/\m=0/\1<=len) \/
  (k=26/\x=[]/\0<=m/\m<=1073741823/\len=0)\/((k=27\/k=28\/k=29)/\x=[]/\m=0/\len=0)\/((k=30\/k=31)/\BV x=true/\m=0/\len=0)
 else if r=1 then
  ((k=7\/k=8)/\BV x=true/\m=0/\len=1)\/(k=9/\x=[]/\m=0/\(len=2\/len=3))\/((k=10\/k=16)/\x=[]/\m=0/\len=2) \/
  ((k=11\/k=12\/k=13\/k=14\/k=15\/k=17)/\x=[]/\m=0/\len=1)
 else k=6/\x=[]/\m=0
def G7(k:Int)(i:Nat):Nat:=if k=6 then 1 else if k=13 then 2 else if(k=9\/k=10)/\i≠0 then 2 else 0
mutual
def WfR(r:Nat):Nd->Prop
 | .mk k x m ks=>NE r k x m ks.length/\WfK k 0 ks
def WfK (k:Int) (i:Nat):List Nd->Prop
 | []=>True
 | n::ns=>WfR (G7 k i) n/\WfK k (i+1) ns
end
theorem DG{r:Nat}{k m:Int}{x:List Int}{ks:List Nd}(h:NE r k x m ks.length)(hk:WfK k 0 ks):WfR r (.mk k x m ks):=by unfold WfR;exact⟨h,hk⟩
theorem E4(k:Int)(i:Nat):WfK k i []:=by unfold WfK;trivial
theorem EF{k:Int}{i:Nat}{n:Nd}{ns:List Nd}(h:WfR (G7 k i) n)(hs:WfK k (i+1) ns):WfK k i (n::ns):=by unfold WfK;exact⟨h,hs⟩
theorem Fz{k:Int}{r:Nat}(hr:∀i,G7 k i=r):∀(ks:List Nd) (i:Nat),(∀c∈ks,WfR r c)->WfK k i ks
 | [],i,_=>E4 k i
 | n::ns,i,h=>EF (by rw[hr];exact h n (Z7 ..)) (Fz hr ns (i+1) fun c hc=>h c (Z8 _ hc))
theorem Gq{k:Int}:∀ {ks:List Nd} {i:Nat},WfK k i ks->∀j (hj:j<ks.length),WfR (G7 k (i+j)) ks[j]
 | [],_,_,j,hj=>by cases hj
 | n::ns,i,h,0,_=>by unfold WfK at h;exact h.1
 | n::ns,i,h,j+1,hj=>by
  unfold WfK at h
  have:=Gq h.2 j (by simp at hj;omega)
  rw[show i+(j+1)=i+1+j by omega]
  exact this
theorem JA{k:Int}{a b:Nd}(hk:k=18\/k=19\/k=20\/k=21\/k=22)(ha:WfR 0 a)(hb:WfR 0 b):WfR 0 (.mk k [] 0 [a,b]):=
 DG (Or.inl ⟨hk,rfl,rfl,rfl⟩) (Fz (r:=0) (fun i=>by unfold G7;rw[if_neg (by omega),if_neg (by omega),if_neg (by omega)]) _ _ fun c hc=>by
  rcases List.mem_cons.1 hc with rfl | hc
  ·exact ha
  ·rw[List.mem_singleton.1 hc];exact hb)
theorem Qd{k:Int}{a:Nd}(hk:k=23\/k=24)(ha:WfR 0 a):WfR 0 (.mk k [] 0 [a]):=
 DG (Or.inr (Or.inl ⟨hk,rfl,rfl,rfl⟩)) (Fz (r:=0) (fun i=>by unfold G7;rw[if_neg (by omega),if_neg (by omega),if_neg (by omega)]) _ _ fun c hc=>by rw[List.mem_singleton.1 hc];exact ha)
theorem T6{x:List Int}{a:Nd}{ks:List Nd}(hx:BV x=true)(ha:WfR 0 a)(hk:∀c∈ks,WfR 0 c):WfR 0 (.mk 25 x 0 (a::ks)):=
 DG (Or.inr (Or.inr (Or.inl ⟨rfl,hx,rfl,by simp⟩))) (Fz (r:=0) (fun i=>by unfold G7;rw[if_neg (by decide),if_neg (by decide),if_neg (by omega)]) _ _ fun c hc=>by
  rcases List.mem_cons.1 hc with rfl | hc
  ·exact ha
  ·exact hk c hc)
structure Tv(S:Src9)(f:Nat):Prop where
 expr:∀s n s',Bn S f s=.ok (n,s')->WfR 0 n
 sum:∀s n s',D9 S f s=.ok (n,s')->WfR 0 n
 sumL:∀n s m s',WfR 0 n->sumL S f n s=.ok (m,s')->WfR 0 m
 term:∀s n s',CQ S f s=.ok (n,s')->WfR 0 n
 termL:∀n s m s',WfR 0 n->termL S f n s=.ok (m,s')->WfR 0 m
 unary:∀s n s',Bp S f s=.ok (n,s')->WfR 0 n
 call:∀s n s',Cb S f s=.ok (n,s')->WfR 0 n
 callL:∀n s m s',WfR 0 n->callL S f n s=.ok (m,s')->WfR 0 m
 args:∀s ks s',CH S f s=.ok (ks,s')->∀c∈ks,WfR 0 c
 prim:∀s n s',Cc S f s=.ok (n,s')->WfR 0 n
theorem Bj{kind num:Int}{x:List Int}{ks:List Nd}{s1 s':PS}{n:Nd}{r:Nat}(h:AJ kind x num ks s1=.ok (n,s'))(hw:WfR r (.mk kind x num ks)):WfR r n:=by
 cases h
 exact hw
theorem Hb{S:Src9}(hS:S.good):∀f,Tv S f
 | 0=>by
  constructor
  ·intro s n s' h;rw[Bn]at h;exact Ac h
  ·intro s n s' h;rw[D9]at h;exact Ac h
  ·intro n s m s' _ h;rw[sumL]at h;exact Ac h
  ·intro s n s' h;rw[CQ]at h;exact Ac h
  ·intro n s m s' _ h;rw[termL]at h;exact Ac h
  ·intro s n s' h;rw[Bp]at h;exact Ac h
  ·intro s n s' h;rw[Cb]at h;exact Ac h
  ·intro n s m s' _ h;rw[callL]at h;exact Ac h
  ·intro s n s' h;rw[CH]at h;exact Ac h
  ·intro s n s' h;rw[Cc]at h;exact Ac h
 | f+1=>by
  have I:=Hb hS f
  constructor
  ·intro s n s' h
   rw[Bn]at h
   obtain⟨a,s1,ha,h⟩:=A0 h
   split at h
   ·obtain⟨b,s2,hb,h⟩:=A0 h
    exact Bj h (JA (by decide) (I.sum _ _ _ ha) (I.sum _ _ _ hb))
   ·split at h
    ·obtain⟨b,s2,hb,h⟩:=A0 h
     exact Bj h (JA (by decide) (I.sum _ _ _ ha) (I.sum _ _ _ hb))
    ·cases h
     exact I.sum _ _ _ ha
  ·intro s n s' h
   rw[D9]at h
   obtain⟨a,s1,ha,h⟩:=A0 h
   exact I.sumL _ _ _ _ (I.term _ _ _ ha) h
  ·intro n s m s' hn h
   rw[sumL]at h
   split at h
   ·obtain⟨b,s2,hb,h⟩:=A0 h
    obtain⟨c,s3,hc,h⟩:=A0 h
    exact I.sumL _ _ _ _ (Bj hc (JA (by decide) hn (I.term _ _ _ hb))) h
   ·split at h
    ·obtain⟨b,s2,hb,h⟩:=A0 h
     obtain⟨c,s3,hc,h⟩:=A0 h
     exact I.sumL _ _ _ _ (Bj hc (JA (by decide) hn (I.term _ _ _ hb))) h
    ·cases h
     exact hn
  ·intro s n s' h
   rw[CQ]at h
   obtain⟨a,s1,ha,h⟩:=A0 h
   exact I.termL _ _ _ _ (I.unary _ _ _ ha) h
  ·intro n s m s' hn h
   rw[termL]at h
   split at h
   ·obtain⟨b,s2,hb,h⟩:=A0 h
    obtain⟨c,s3,hc,h⟩:=A0 h
    exact I.termL _ _ _ _ (Bj hc (JA (by decide) hn (I.unary _ _ _ hb))) h
   ·cases h
    exact hn
  ·intro s n s' h
   rw[Bp]at h
   split at h
   ·obtain⟨b,s2,hb,h⟩:=A0 h
    exact Bj h (Qd (by decide) (I.unary _ _ _ hb))
   ·split at h
    ·obtain⟨b,s2,hb,h⟩:=A0 h
     exact Bj h (Qd (by decide) (I.unary _ _ _ hb))
    ·exact I.call _ _ _ h
  ·intro s n s' h
   rw[Cb]at h
   obtain⟨a,s1,ha,h⟩:=A0 h
   exact I.callL _ _ _ _ (I.prim _ _ _ ha) h
  ·intro n s m s' hn h
   rw[callL]at h
   split at h
   ·obtain⟨x,s1,hx,h⟩:=A0 h
    obtain⟨nx,rfl⟩:=Cn hS hx
    obtain⟨u,s2,hu,h⟩:=A0 h
    obtain⟨ks,s3,hk,h⟩:=A0 h
    obtain⟨v,s4,hv,h⟩:=A0 h
    have q:∀c∈ks,WfR 0 c:=by
     split at hk
     ·cases hk
      intro c hc;cases hc
     ·exact I.args _ _ _ hk
    obtain⟨c,s5,hc,h⟩:=A0 h
    exact I.callL _ _ _ _ (Bj hc (T6 nx hn q)) h
   ·cases h
    exact hn
  ·intro s ks s' h
   rw[CH]at h
   obtain⟨a,s1,ha,h⟩:=A0 h
   split at h
   ·obtain⟨b,s2,hb,h⟩:=A0 h
    cases h
    intro c hc
    rcases List.mem_cons.1 hc with rfl | hc
    ·exact I.expr _ _ _ ha
    ·exact I.args _ _ _ hb c hc
   ·cases h
    intro c hc
    rw[List.mem_singleton.1 hc]
    exact I.expr _ _ _ ha
  ·intro s n s' h
   rw[Cc]at h
   split at h
   ·rename_i hi
    obtain⟨h1,h2⟩:=Ft hi
    obtain⟨h3,h4⟩:=(hS _ h1).2 h2
    exact Bj h (DG (Or.inr (Or.inr (Or.inr (Or.inl ⟨rfl,rfl,h3,h4,rfl⟩)))) (E4 _ _))
   split at h
   ·obtain⟨x,s1,hx,h⟩:=A0 h
    obtain⟨nx,rfl⟩:=Cn hS hx
    exact Bj h (DG (Or.inr (Or.inr (Or.inr (Or.inr (Or.inr ⟨Or.inr rfl,nx,rfl,rfl⟩))))) (E4 _ _))
   split at h
   ·exact Bj h (DG (Or.inr (Or.inr (Or.inr (Or.inr (Or.inl ⟨Or.inl rfl,rfl,rfl,rfl⟩))))) (E4 _ _))
   split at h
   ·exact Bj h (DG (Or.inr (Or.inr (Or.inr (Or.inr (Or.inl ⟨Or.inr (Or.inl rfl),rfl,rfl,rfl⟩))))) (E4 _ _))
   split at h
   ·exact Bj h (DG (Or.inr (Or.inr (Or.inr (Or.inr (Or.inl ⟨Or.inr (Or.inr rfl),rfl,rfl,rfl⟩))))) (E4 _ _))
   split at h
   ·obtain⟨x,s1,hx,h⟩:=A0 h
    obtain⟨nx,rfl⟩:=Cn hS hx
    exact Bj h (DG (Or.inr (Or.inr (Or.inr (Or.inr (Or.inr ⟨Or.inl rfl,nx,rfl,rfl⟩))))) (E4 _ _))
   ·obtain⟨u,s1,hu,h⟩:=A0 h
    obtain⟨a,s2,ha,h⟩:=A0 h
    obtain⟨v,s3,hv,h⟩:=A0 h
    cases h
    exact I.expr _ _ _ ha
theorem Sj{k:Int}(h6:k≠6)(h9:k≠9)(h10:k≠10)(h13:k≠13)(i:Nat):G7 k i=0:=by
 unfold G7
 rw[if_neg h6,if_neg h13,if_neg (by omega)]
theorem Jf{k:Int}{x:List Int}{a:Nd}(hk:((k=7\/k=8)/\BV x=true)\/((k=11\/k=12\/k=14\/k=15\/k=17)/\x=[]))(ha:WfR 0 a):WfR 1 (.mk k x 0 [a]):=by
 refine DG ?_ (Fz (r:=0) (Sj (by omega) (by omega) (by omega) (by omega)) _ _ fun c hc=>by rw[List.mem_singleton.1 hc];exact ha)
 rcases hk with⟨h1,h2⟩ | ⟨h1,h2⟩
 ·exact Or.inl ⟨h1,h2,rfl,rfl⟩
 ·exact Or.inr (Or.inr (Or.inr ⟨by omega,h2,rfl,rfl⟩))
theorem Rz{a b:Nd}(ha:WfR 0 a)(hb:WfR 0 b):WfR 1 (.mk 16 [] 0 [a,b]):=
 DG (Or.inr (Or.inr (Or.inl ⟨Or.inr rfl,rfl,rfl,rfl⟩))) (Fz (r:=0) (Sj (by decide) (by decide) (by decide) (by decide)) _ _ fun c hc=>by
  rcases List.mem_cons.1 hc with rfl | hc
  ·exact ha
  ·rw[List.mem_singleton.1 hc];exact hb)
theorem S0{b:Nd}(hb:WfR 2 b):WfR 1 (.mk 13 [] 0 [b]):=
 DG (Or.inr (Or.inr (Or.inr ⟨Or.inr (Or.inr (Or.inl rfl)),rfl,rfl,rfl⟩))) (EF hb (E4 _ _))
theorem Qe{a b:Nd}(ha:WfR 0 a)(hb:WfR 2 b):WfR 1 (.mk 10 [] 0 [a,b]):=
 DG (Or.inr (Or.inr (Or.inl ⟨Or.inl rfl,rfl,rfl,rfl⟩))) (EF ha (EF hb (E4 _ _)))
theorem TY{a b:Nd}(ha:WfR 0 a)(hb:WfR 2 b):WfR 1 (.mk 9 [] 0 [a,b]):=
 DG (Or.inr (Or.inl ⟨rfl,rfl,rfl,Or.inl rfl⟩)) (EF ha (EF hb (E4 _ _)))
theorem S1{a b c:Nd}(ha:WfR 0 a)(hb:WfR 2 b)(hc:WfR 2 c):WfR 1 (.mk 9 [] 0 [a,b,c]):=
 DG (Or.inr (Or.inl ⟨rfl,rfl,rfl,Or.inr rfl⟩)) (EF ha (EF hb (EF hc (E4 _ _))))
theorem S2{ks:List Nd}(h:∀c∈ks,WfR 1 c):WfR 2 (.mk 6 [] 0 ks):=
 DG ⟨rfl,rfl,rfl⟩ (Fz (r:=1) (fun _=>rfl) _ _ h)
theorem Oq{S:Src9}(hS:S.good){f:Nat}{kind:Int}{s s':PS}{n:Nd}(h:ES S f kind s=.ok (n,s'))(hk:kind=7\/kind=8):WfR 1 n:=by
 unfold ES at h
 obtain⟨x,s1,hx,h⟩:=A0 h
 obtain⟨nx,rfl⟩:=Cn hS hx
 obtain⟨u,s2,hu,h⟩:=A0 h
 obtain⟨a,s3,ha,h⟩:=A0 h
 obtain⟨v,s4,hv,h⟩:=A0 h
 exact Bj h (Jf (Or.inl ⟨hk,nx⟩) ((Hb hS f).expr _ _ _ ha))
theorem La{S:Src9}(hS:S.good){f:Nat}{s s':PS}{n:Nd}(h:ET S f s=.ok (n,s')):WfR 0 n:=by
 unfold ET at h
 obtain⟨u,s1,hu,h⟩:=A0 h
 obtain⟨a,s2,ha,h⟩:=A0 h
 obtain⟨v,s3,hv,h⟩:=A0 h
 cases h
 exact(Hb hS f).expr _ _ _ ha
theorem NF{S:Src9}(hS:S.good){f:Nat}{kind:Int}{s s':PS}{n:Nd}(h:FE S f kind s=.ok (n,s'))(hk:kind=12\/kind=14\/kind=15):WfR 1 n:=by
 unfold FE at h
 obtain⟨u,s1,hu,h⟩:=A0 h
 obtain⟨a,s2,ha,h⟩:=A0 h
 obtain⟨v,s3,hv,h⟩:=A0 h
 obtain⟨t,s4,ht,h⟩:=A0 h
 exact Bj h (Jf (Or.inr ⟨by omega,rfl⟩) ((Hb hS f).expr _ _ _ ha))
theorem TZ{S:Src9}(hS:S.good){f:Nat}{s s':PS}{n:Nd}(h:Fr S f 16 s=.ok (n,s')):WfR 1 n:=by
 unfold Fr at h
 obtain⟨u,s1,hu,h⟩:=A0 h
 obtain⟨a,s2,ha,h⟩:=A0 h
 obtain⟨w,s3,hw,h⟩:=A0 h
 obtain⟨b,s4,hb,h⟩:=A0 h
 obtain⟨v,s5,hv,h⟩:=A0 h
 obtain⟨t,s6,ht,h⟩:=A0 h
 exact Bj h (Rz ((Hb hS f).expr _ _ _ ha) ((Hb hS f).expr _ _ _ hb))
structure Ta(S:Src9)(f:Nat):Prop where
 block:∀s n s',BQ S f s=.ok (n,s')->WfR 2 n
 stmts:∀s ks s',C7 S f s=.ok (ks,s')->∀c∈ks,WfR 1 c
 stmt:∀s n s',Cd S f s=.ok (n,s')->WfR 1 n
theorem NG{S:Src9}(hS:S.good):∀f,Ta S f
 | 0=>by
  constructor
  ·intro s n s' h;rw[BQ]at h;exact Ac h
  ·intro s n s' h;rw[C7]at h;exact Ac h
  ·intro s n s' h;rw[Cd]at h;exact Ac h
 | f+1=>by
  have I:=NG hS f
  constructor
  ·intro s n s' h
   rw[BQ]at h
   obtain⟨u,s1,hu,h⟩:=A0 h
   obtain⟨ks,s2,hk,h⟩:=A0 h
   obtain⟨v,s3,hv,h⟩:=A0 h
   exact Bj h (S2 (I.stmts _ _ _ hk))
  ·intro s ks s' h
   rw[C7]at h
   split at h
   ·cases h
    intro c hc;cases hc
   ·obtain⟨k,s1,hk,h⟩:=A0 h
    obtain⟨ls,s2,hl,h⟩:=A0 h
    cases h
    intro c hc
    rcases List.mem_cons.1 hc with rfl | hc
    ·exact I.stmt _ _ _ hk
    ·exact I.stmts _ _ _ hl c hc
  ·intro s n s' h
   rw[Cd]at h
   split at h
   ·exact Oq hS h (Or.inl rfl)
   split at h
   ·obtain⟨a,s1,ha,h⟩:=A0 h
    obtain⟨b,s2,hb,h⟩:=A0 h
    split at h
    ·obtain⟨c,s3,hc,h⟩:=A0 h
     exact Bj h (S1 (La hS ha) (I.block _ _ _ hb) (I.block _ _ _ hc))
    ·exact Bj h (TY (La hS ha) (I.block _ _ _ hb))
   split at h
   ·obtain⟨a,s1,ha,h⟩:=A0 h
    obtain⟨b,s2,hb,h⟩:=A0 h
    exact Bj h (Qe (La hS ha) (I.block _ _ _ hb))
   split at h
   ·obtain⟨a,s1,ha,h⟩:=A0 h
    obtain⟨v,s2,hv,h⟩:=A0 h
    exact Bj h (Jf (Or.inr ⟨by decide,rfl⟩) ((Hb hS f).expr _ _ _ ha))
   split at h
   ·exact NF hS h (by decide)
   split at h
   ·obtain⟨b,s2,hb,h⟩:=A0 h
    exact Bj h (S0 (I.block _ _ _ hb))
   split at h
   ·exact NF hS h (by decide)
   split at h
   ·exact NF hS h (by decide)
   split at h
   ·exact TZ hS h
   split at h
   ·exact Oq hS h (Or.inr rfl)
   ·obtain⟨a,s1,ha,h⟩:=A0 h
    obtain⟨v,s2,hv,h⟩:=A0 h
    exact Bj h (Jf (Or.inr ⟨by decide,rfl⟩) ((Hb hS f).expr _ _ _ ha))
def WfM(n:Nd):Prop:=∃x ks b,n=.mk 4 x ((ks:List Nd).length:Int) (ks++[b])/\BV x=true/\(∀c∈ks,Iy c)/\WfR 2 b
def WfC(n:Nd):Prop:=∃x up ks ms,n=.mk 2 x 0 (up++ks++ms)/\BV x=true/\(up=[]\/∃y,BV y=true/\up=[.mk 31 y 0 []])/\(∀c∈ks,IE c)/\(∀c∈ms,WfM c)
def WfP(n:Nd):Prop:=∃ks b,n=.mk 1 [] 0 (ks++[b])/\(∀c∈ks,WfC c)/\WfR 2 b
theorem Qf{S:Src9}(hS:S.good){f:Nat}{s s':PS}{n:Nd}(h:Cl S f s=.ok (n,s')):WfM n:=by
 unfold Cl at h
 obtain⟨x,s1,hx,h⟩:=A0 h
 obtain⟨nx,rfl⟩:=Cn hS hx
 obtain⟨u,s2,hu,h⟩:=A0 h
 obtain⟨ks,s3,hk,h⟩:=A0 h
 have q:∀c∈ks,Iy c:=by
  split at hk
  ·cases hk
   intro c hc;cases hc
  ·exact(KK hS _ _ _ _ hk).2.2
 obtain⟨v,s4,hv,h⟩:=A0 h
 obtain⟨b,s5,hb,h⟩:=A0 h
 cases h
 exact⟨x,ks,b,rfl,nx,q,(NG hS f).block _ _ _ hb⟩
theorem Kx{S:Src9}(hS:S.good):∀(f:Nat) (s:PS) (ks:List Nd) (s':PS),Ap S f s=.ok (ks,s')->∀c∈ks,WfM c
 | 0,s,ks,s',h=>by rw[Ap]at h;exact Ac h
 | f+1,s,ks,s',h=>by
  rw[Ap]at h
  split at h
  ·obtain⟨k,s1,hk,h⟩:=A0 h
   obtain⟨ls,s2,hl,h⟩:=A0 h
   cases h
   intro c hc
   rcases List.mem_cons.1 hc with rfl | hc
   ·exact Qf hS hk
   ·exact Kx hS f _ _ _ hl c hc
  ·cases h
   intro c hc;cases hc
theorem S3{S:Src9}(hS:S.good){f:Nat}{s s':PS}{n:Nd}(h:DD S f s=.ok (n,s')):WfC n:=by
 unfold DD at h
 obtain⟨x,s1,hx,h⟩:=A0 h
 obtain⟨nx,rfl⟩:=Cn hS hx
 obtain⟨up,s2,hu,h⟩:=A0 h
 have q:up=[]\/∃y,BV y=true/\up=[.mk 31 y 0 []]:=by
  split at hu
  ·obtain⟨y,s3,hy,hu⟩:=A0 hu
   obtain⟨ny,rfl⟩:=Cn hS hy
   obtain⟨k,s4,hk,hu⟩:=A0 hu
   cases hk
   cases hu
   exact Or.inr ⟨y,ny,rfl⟩
  ·cases hu
   exact Or.inl rfl
 obtain⟨v,s3,hv,h⟩:=A0 h
 obtain⟨ks,s4,hk,h⟩:=A0 h
 obtain⟨ms,s5,hm,h⟩:=A0 h
 obtain⟨w,s6,hw,h⟩:=A0 h
 cases h
 exact⟨x,up,ks,ms,rfl,nx,q,(KL hS _ _ _ _ hk).2.2,Kx hS _ _ _ _ hm⟩
theorem Ky{S:Src9}(hS:S.good):∀(f:Nat) (s:PS) (ks:List Nd) (s':PS),B6 S f s=.ok (ks,s')->∀c∈ks,WfC c
 | 0,s,ks,s',h=>by rw[B6]at h;exact Ac h
 | f+1,s,ks,s',h=>by
  rw[B6]at h
  split at h
  ·obtain⟨k,s1,hk,h⟩:=A0 h
   obtain⟨ls,s2,hl,h⟩:=A0 h
   cases h
   intro c hc
   rcases List.mem_cons.1 hc with rfl | hc
   ·exact S3 hS hk
   ·exact Ky hS f _ _ _ hl c hc
  ·cases h
   intro c hc;cases hc
theorem S4{S:Src9}(hS:S.good){f:Nat}{n:Nd}(h:Cs S f=.ok n):WfP n:=by
 unfold Cs at h
 split at h
 ·cases h
 ·rename_i m s hp
  have hm:WfP m:=by
   unfold F9 at hp
   obtain⟨ks,s1,hk,hp⟩:=A0 hp
   obtain⟨u,s2,hu,hp⟩:=A0 hp
   obtain⟨b,s3,hb,hp⟩:=A0 hp
   cases hp
   exact⟨ks,b,rfl,Ky hS _ _ _ _ hk,(NG hS f).block _ _ _ hb⟩
  split at h
  ·cases h
  ·split at h
   ·cases h
   ·cases h
    exact hm
theorem NH{T:List Int}{n:Nd}(h:CD T=.ok n):WfP n/\A1 n<=600:=by
 unfold CD at h
 split at h
 ·cases h
 ·rename_i l hl
  exact⟨S4 (FP hl) h,(N1 (FP hl) h).1⟩
def Bad{α:Type}(g:Got α):Prop:=∀e,g=.error e->e.1≠0
theorem BD{α:Type}(y:α×PS):Bad (.ok y:Got α):=fun e h=>by cases h
theorem Al{α:Type}:Bad (DQ:Got α):=fun e h=>by unfold DQ at h;cases h;decide
theorem B3{α:Type}{c:Int}(S:Src9)(s:PS)(hc:c≠0):Bad (Bu S c s:Got α):=fun e h=>by unfold Bu at h;cases h;exact hc
theorem BH{α β:Type}{g:Got α}{f:α->PS->Got β}(h:Bad g)(h':∀a s,Bad (f a s)):Bad (g.then f):=fun e he=>by
 cases g with
 | error e'=>exact h e (by unfold Got.then at he;exact congrArg _ (by injection he))
 | ok y=>exact h' y.1 y.2 e he
theorem BE{α:Type}{p:Prop}[Decidable p]{a b:Got α}(ha:Bad a)(hb:Bad b):Bad (if p then a else b):=by
 by_cases h:p
 ·rw[if_pos h];exact ha
 ·rw[if_neg h];exact hb
theorem BI(S:Src9)(x:List Int)(s:PS):Bad (A8 S x s):=by
 unfold A8
 exact BE (BE (BE (B3 _ _ (by decide)) (BD _)) (BE (BD _) (BD _))) (B3 _ _ (by decide))
theorem BJ(S:Src9)(s:PS):Bad (Ae S s):=BE (BD _) (B3 _ _ (by decide))
theorem BK(k:Int)(x:List Int)(m:Int)(ks:List Nd)(s:PS):Bad (AJ k x m ks s):=BD _
structure U6(S:Src9)(f:Nat):Prop where
 expr:∀s,Bad (Bn S f s)
 sum:∀s,Bad (D9 S f s)
 sumL:∀n s,Bad (sumL S f n s)
 term:∀s,Bad (CQ S f s)
 termL:∀n s,Bad (termL S f n s)
 unary:∀s,Bad (Bp S f s)
 call:∀s,Bad (Cb S f s)
 callL:∀n s,Bad (callL S f n s)
 args:∀s,Bad (CH S f s)
 prim:∀s,Bad (Cc S f s)
theorem JM(S:Src9):∀f,U6 S f
 | 0=>⟨fun _=>by rw[Bn];exact Al,fun _=>by rw[D9];exact Al,fun _ _=>by rw[sumL];exact Al,fun _=>by rw[CQ];exact Al,fun _ _=>by rw[termL];exact Al,fun _=>by rw[Bp];exact Al,fun _=>by rw[Cb];exact Al,fun _ _=>by rw[callL];exact Al,fun _=>by rw[CH];exact Al,fun _=>by rw[Cc];exact Al⟩
 | f+1=>by
  have ih:=JM S f
  refine⟨fun s=>?_,fun s=>?_,fun n s=>?_,fun s=>?_,fun n s=>?_,fun s=>?_,fun s=>?_,fun n s=>?_,fun s=>?_,fun s=>?_⟩
  ·rw[Bn];(repeat (first | exact ih.expr _ | exact ih.sum _ | exact ih.sumL _ _ | exact ih.term _ | exact ih.termL _ _ | exact ih.unary _ | exact ih.call _ | exact ih.callL _ _ | exact ih.args _ | exact ih.prim _ | exact BD _ | exact Al | exact BI _ _ _ | exact BJ _ _ | exact BK _ _ _ _ _ | exact B3 _ _ (by decide) | refine BH ?_ (fun _ _=>?_) | refine BE ?_ ?_))
  ·rw[D9];(repeat (first | exact ih.expr _ | exact ih.sum _ | exact ih.sumL _ _ | exact ih.term _ | exact ih.termL _ _ | exact ih.unary _ | exact ih.call _ | exact ih.callL _ _ | exact ih.args _ | exact ih.prim _ | exact BD _ | exact Al | exact BI _ _ _ | exact BJ _ _ | exact BK _ _ _ _ _ | exact B3 _ _ (by decide) | refine BH ?_ (fun _ _=>?_) | refine BE ?_ ?_))
  ·rw[sumL];(repeat (first | exact ih.expr _ | exact ih.sum _ | exact ih.sumL _ _ | exact ih.term _ | exact ih.termL _ _ | exact ih.unary _ | exact ih.call _ | exact ih.callL _ _ | exact ih.args _ | exact ih.prim _ | exact BD _ | exact Al | exact BI _ _ _ | exact BJ _ _ | exact BK _ _ _ _ _ | exact B3 _ _ (by decide) | refine BH ?_ (fun _ _=>?_) | refine BE ?_ ?_))
  ·rw[CQ];(repeat (first | exact ih.expr _ | exact ih.sum _ | exact ih.sumL _ _ | exact ih.term _ | exact ih.termL _ _ | exact ih.unary _ | exact ih.call _ | exact ih.callL _ _ | exact ih.args _ | exact ih.prim _ | exact BD _ | exact Al | exact BI _ _ _ | exact BJ _ _ | exact BK _ _ _ _ _ | exact B3 _ _ (by decide) | refine BH ?_ (fun _ _=>?_) | refine BE ?_ ?_))
  ·rw[termL];(repeat (first | exact ih.expr _ | exact ih.sum _ | exact ih.sumL _ _ | exact ih.term _ | exact ih.termL _ _ | exact ih.unary _ | exact ih.call _ | exact ih.callL _ _ | exact ih.args _ | exact ih.prim _ | exact BD _ | exact Al | exact BI _ _ _ | exact BJ _ _ | exact BK _ _ _ _ _ | exact B3 _ _ (by decide) | refine BH ?_ (fun _ _=>?_) | refine BE ?_ ?_))
  ·rw[Bp];(repeat (first | exact ih.expr _ | exact ih.sum _ | exact ih.sumL _ _ | exact ih.term _ | exact ih.termL _ _ | exact ih.unary _ | exact ih.call _ | exact ih.callL _ _ | exact ih.args _ | exact ih.prim _ | exact BD _ | exact Al | exact BI _ _ _ | exact BJ _ _ | exact BK _ _ _ _ _ | exact B3 _ _ (by decide) | refine BH ?_ (fun _ _=>?_) | refine BE ?_ ?_))
  ·rw[Cb];(repeat (first | exact ih.expr _ | exact ih.sum _ | exact ih.sumL _ _ | exact ih.term _ | exact ih.termL _ _ | exact ih.unary _ | exact ih.call _ | exact ih.callL _ _ | exact ih.args _ | exact ih.prim _ | exact BD _ | exact Al | exact BI _ _ _ | exact BJ _ _ | exact BK _ _ _ _ _ | exact B3 _ _ (by decide) | refine BH ?_ (fun _ _=>?_) | refine BE ?_ ?_))
  ·rw[callL];(repeat (first | exact ih.expr _ | exact ih.sum _ | exact ih.sumL _ _ | exact ih.term _ | exact ih.termL _ _ | exact ih.unary _ | exact ih.call _ | exact ih.callL _ _ | exact ih.args _ | exact ih.prim _ | exact BD _ | exact Al | exact BI _ _ _ | exact BJ _ _ | exact BK _ _ _ _ _ | exact B3 _ _ (by decide) | refine BH ?_ (fun _ _=>?_) | refine BE ?_ ?_))
  ·rw[CH];(repeat (first | exact ih.expr _ | exact ih.sum _ | exact ih.sumL _ _ | exact ih.term _ | exact ih.termL _ _ | exact ih.unary _ | exact ih.call _ | exact ih.callL _ _ | exact ih.args _ | exact ih.prim _ | exact BD _ | exact Al | exact BI _ _ _ | exact BJ _ _ | exact BK _ _ _ _ _ | exact B3 _ _ (by decide) | refine BH ?_ (fun _ _=>?_) | refine BE ?_ ?_))
  ·rw[Cc];(repeat (first | exact ih.expr _ | exact ih.sum _ | exact ih.sumL _ _ | exact ih.term _ | exact ih.termL _ _ | exact ih.unary _ | exact ih.call _ | exact ih.callL _ _ | exact ih.args _ | exact ih.prim _ | exact BD _ | exact Al | exact BI _ _ _ | exact BJ _ _ | exact BK _ _ _ _ _ | exact B3 _ _ (by decide) | refine BH ?_ (fun _ _=>?_) | refine BE ?_ ?_))
theorem KY(S:Src9)(f:Nat)(k:Int)(s:PS):Bad (ES S f k s):=by
 have ih:=JM S f
 unfold ES;(repeat (first | exact ih.expr _ | exact BD _ | exact Al | exact BI _ _ _ | exact BJ _ _ | exact BK _ _ _ _ _ | exact B3 _ _ (by decide) | refine BH ?_ (fun _ _=>?_) | refine BE ?_ ?_))
theorem Li(S:Src9)(f:Nat)(k:Int)(s:PS):Bad (FE S f k s):=by
 have ih:=JM S f
 unfold FE;(repeat (first | exact ih.expr _ | exact BD _ | exact Al | exact BI _ _ _ | exact BJ _ _ | exact BK _ _ _ _ _ | exact B3 _ _ (by decide) | refine BH ?_ (fun _ _=>?_) | refine BE ?_ ?_))
theorem Lj(S:Src9)(f:Nat)(k:Int)(s:PS):Bad (Fr S f k s):=by
 have ih:=JM S f
 unfold Fr;(repeat (first | exact ih.expr _ | exact BD _ | exact Al | exact BI _ _ _ | exact BJ _ _ | exact BK _ _ _ _ _ | exact B3 _ _ (by decide) | refine BH ?_ (fun _ _=>?_) | refine BE ?_ ?_))
theorem KZ(S:Src9)(f:Nat)(s:PS):Bad (ET S f s):=by
 have ih:=JM S f
 unfold ET;(repeat (first | exact ih.expr _ | exact BD _ | exact Al | exact BI _ _ _ | exact BJ _ _ | exact BK _ _ _ _ _ | exact B3 _ _ (by decide) | refine BH ?_ (fun _ _=>?_) | refine BE ?_ ?_))
structure U7(S:Src9)(f:Nat):Prop where
 block:∀s,Bad (BQ S f s)
 stmts:∀s,Bad (C7 S f s)
 stmt:∀s,Bad (Cd S f s)
theorem SW(S:Src9):∀f,U7 S f
 | 0=>⟨fun _=>by rw[BQ];exact Al,fun _=>by rw[C7];exact Al,fun _=>by rw[Cd];exact Al⟩
 | f+1=>by
  have ih:=SW S f
  refine⟨fun s=>?_,fun s=>?_,fun s=>?_⟩
  ·rw[BQ];(repeat (first | exact ih.block _ | exact ih.stmts _ | exact ih.stmt _ | exact(JM S f).expr _ | exact KY _ _ _ _ | exact Li _ _ _ _ | exact Lj _ _ _ _ | exact KZ _ _ _ | exact BD _ | exact Al | exact BI _ _ _ | exact BJ _ _ | exact BK _ _ _ _ _ | exact B3 _ _ (by decide) | refine BH ?_ (fun _ _=>?_) | refine BE ?_ ?_))
  ·rw[C7];(repeat (first | exact ih.block _ | exact ih.stmts _ | exact ih.stmt _ | exact(JM S f).expr _ | exact KY _ _ _ _ | exact Li _ _ _ _ | exact Lj _ _ _ _ | exact KZ _ _ _ | exact BD _ | exact Al | exact BI _ _ _ | exact BJ _ _ | exact BK _ _ _ _ _ | exact B3 _ _ (by decide) | refine BH ?_ (fun _ _=>?_) | refine BE ?_ ?_))
  ·rw[Cd];(repeat (first | exact ih.block _ | exact ih.stmts _ | exact ih.stmt _ | exact(JM S f).expr _ | exact KY _ _ _ _ | exact Li _ _ _ _ | exact Lj _ _ _ _ | exact KZ _ _ _ | exact BD _ | exact Al | exact BI _ _ _ | exact BJ _ _ | exact BK _ _ _ _ _ | exact B3 _ _ (by decide) | refine BH ?_ (fun _ _=>?_) | refine BE ?_ ?_))
theorem MR(S:Src9):∀f s,Bad (Bb S f s)
 | 0,_=>by rw[Bb];exact Al
 | f+1,s=>by
  have ih:=MR S f
  rw[Bb];(repeat (first | exact ih _ | exact BD _ | exact Al | exact BI _ _ _ | exact BJ _ _ | exact BK _ _ _ _ _ | exact B3 _ _ (by decide) | refine BH ?_ (fun _ _=>?_) | refine BE ?_ ?_))
theorem Pv(S:Src9)(f:Nat)(s:PS):Bad (Cl S f s):=by
 unfold Cl;(repeat (first | exact MR _ _ _ | exact(SW S f).block _ | exact BD _ | exact Al | exact BI _ _ _ | exact BJ _ _ | exact BK _ _ _ _ _ | exact B3 _ _ (by decide) | refine BH ?_ (fun _ _=>?_) | refine BE ?_ ?_))
theorem MS(S:Src9):∀f s,Bad (BM S f s)
 | 0,_=>by rw[BM];exact Al
 | f+1,s=>by
  have ih:=MS S f
  rw[BM];(repeat (first | exact ih _ | exact BD _ | exact Al | exact BI _ _ _ | exact BJ _ _ | exact BK _ _ _ _ _ | exact B3 _ _ (by decide) | refine BH ?_ (fun _ _=>?_) | refine BE ?_ ?_))
theorem K7(S:Src9):∀f s,Bad (Ap S f s)
 | 0,_=>by rw[Ap];exact Al
 | f+1,s=>by
  have ih:=K7 S f
  rw[Ap];(repeat (first | exact ih _ | exact Pv _ _ _ | exact BD _ | exact Al | exact BI _ _ _ | exact BJ _ _ | exact BK _ _ _ _ _ | exact B3 _ _ (by decide) | refine BH ?_ (fun _ _=>?_) | refine BE ?_ ?_))
theorem RE(S:Src9)(f:Nat)(s:PS):Bad (DD S f s):=by
 unfold DD;(repeat (first | exact MS _ _ _ | exact K7 _ _ _ | exact BD _ | exact Al | exact BI _ _ _ | exact BJ _ _ | exact BK _ _ _ _ _ | exact B3 _ _ (by decide) | refine BH ?_ (fun _ _=>?_) | refine BE ?_ ?_))
theorem K8(S:Src9):∀f s,Bad (B6 S f s)
 | 0,_=>by rw[B6];exact Al
 | f+1,s=>by
  have ih:=K8 S f
  rw[B6];(repeat (first | exact ih _ | exact RE _ _ _ | exact BD _ | exact Al | exact BI _ _ _ | exact BJ _ _ | exact BK _ _ _ _ _ | exact B3 _ _ (by decide) | refine BH ?_ (fun _ _=>?_) | refine BE ?_ ?_))
theorem SX(S:Src9)(f:Nat)(s:PS):Bad (F9 S f s):=by
 unfold F9;(repeat (first | exact K8 _ _ _ | exact(SW S f).block _ | exact BD _ | exact Al | exact BI _ _ _ | exact BJ _ _ | exact BK _ _ _ _ _ | exact B3 _ _ (by decide) | refine BH ?_ (fun _ _=>?_) | refine BE ?_ ?_))
end Go.Proofs.YtbglpanjpadldaaGreatDoor
