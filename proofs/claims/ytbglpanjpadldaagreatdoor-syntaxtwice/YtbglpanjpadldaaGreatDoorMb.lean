/- Texts in one. -/
import Derived.Test.YtbglpanjpadldaaGreatDoorMa
namespace Go.Proofs.YtbglpanjpadldaaGreatDoor
def AY(S:Src9)(i:Nat)(l:List Tok):Prop:=i+l.length<=S.L.length/\∀j,j<l.length->(S.at (i+j)).1=(l.getD j (0,[],0)).1/\(S.at (i+j)).2.1=(l.getD j (0,[],0)).2.1
theorem AK{S:Src9}{i:Nat}{a b:List Tok}(h:AY S i (a++b)):AY S i a/\AY S (i+a.length) b:=by
 obtain⟨h1,h2⟩:=h
 rw[Z1]at h1
 refine⟨⟨by omega,fun j hj=>?_⟩,⟨by omega,fun j hj=>?_⟩⟩
 ·have:=h2 j (by rw[Z1];omega)
  rwa [Z2,List.getElem?_append_left hj,<-Z2]at this
 ·have:=h2 (a.length+j) (by rw[Z1];omega)
  rw[Z2,List.getElem?_append_right (by omega),Nat.add_sub_cancel_left,<-Z2,<-Nat.add_assoc]at this
  exact this
theorem KG{S:Src9}{i:Nat}{t:Tok}(h:AY S i [t]):i<S.L.length/\(S.at i).1=t.1/\(S.at i).2.1=t.2.1:=by
 obtain⟨h1,h2⟩:=h
 have:=h2 0 (by simp)
 simp at this h1
 exact⟨by omega,this⟩
theorem BN(x:List Int):(A5 x).length=1:=rfl
theorem Ds{S:Src9}{s:PS}{x:List Int}(h:AY S s.tok (A5 x)):s.tok<S.L.length/\((S.at s.tok).1=3\/(S.at s.tok).1=4)/\(S.at s.tok).2.1=x:=by
 obtain⟨h1,h2,h3⟩:=KG h
 refine⟨h1,?_,h3⟩
 simp only at h2
 rw[h2]
 split
 ·exact Or.inl rfl
 ·exact Or.inr rfl
theorem AL{S:Src9}{s:PS}{x:List Int}(h:AY S s.tok (A5 x))(y:List Int):A2 S y s=(x==y):=by
 obtain⟨h1,h2,h3⟩:=Ds h
 unfold A2
 rw[h3,decide_eq_true h1]
 rcases h2 with h2 | h2<;>rw[h2]<;>simp
theorem Mu{S:Src9}{s:PS}{x:List Int}(h:AY S s.tok (A5 x)):isB S 1 s=false/\isB S 2 s=false:=by
 obtain⟨h1,h2,h3⟩:=Ds h
 unfold isB
 rcases h2 with h2 | h2<;>rw[h2]<;>simp
theorem EY{S:Src9}{s:PS}{k:Int}{x:List Int}(h:AY S s.tok [(k,x,0)])(hk:k=1\/k=2)(y:List Int):A2 S y s=false:=by
 obtain⟨h1,h2,h3⟩:=KG h
 unfold A2
 simp only at h2
 rw[h2]
 rcases hk with rfl | rfl<;>simp
theorem GZ{S:Src9}{s:PS}{k:Int}{x:List Int}(h:AY S s.tok [(k,x,0)])(j:Int):isB S j s=(k==j)/\(S.at s.tok).2.1=x/\s.tok<S.L.length:=by
 obtain⟨h1,h2,h3⟩:=KG h
 unfold isB
 simp only at h2 h3
 rw[h2,decide_eq_true h1]
 exact⟨by simp,h3,h1⟩
def PS.past(s:PS)(l:List Tok)(m:Nat):PS:=⟨s.tok+l.length,s.deep,s.many+(m:Int)⟩
theorem Cg(s:PS)(a b:List Tok)(m k:Nat):(s.past a m).past b k=s.past (a++b) (m+k):=by
 unfold PS.past
 simp only[Z1,PS.mk.injEq]
 exact⟨by omega,trivial,by push_cast;omega⟩
theorem FM(s:PS)(x:List Int):s.step=s.past (A5 x) 0:=by
 unfold PS.step PS.past
 simp[A5]
theorem Lq(s:PS)(l:List Tok)(m:Nat):(s.past l m).node=s.past l (m+1):=by
 unfold PS.node PS.past
 simp only[PS.mk.injEq,true_and]
 push_cast;omega
theorem FN(s:PS):s.past [] 0=s:=by unfold PS.past;simp
def Stop(k:Nat)(S:Src9)(s:PS):Prop:=(k<=4->A2 S FW s=false)/\(k<=2->A2 S FX s=false)/\(k<=1->A2 S GP s=false/\A2 S CC s=false)/\(k<=0->A2 S Gx s=false/\A2 S Gy s=false)
theorem Stop.mono{k k':Nat}{S:Src9}{s:PS}(h:Stop k S s)(hk:k<=k'):Stop k' S s:=⟨fun x=>h.1 (by omega),fun x=>h.2.1 (by omega),fun x=>h.2.2.1 (by omega),fun x=>h.2.2.2 (by omega)⟩
theorem FF{S:Src9}{s:PS}{x:List Int}{k:Nat}(h:AY S s.tok (A5 x))(h1:k<=4->x≠FW)(h2:k<=2->x≠FX)(h3:k<=1->x≠GP/\x≠CC)(h4:k<=0->x≠Gx/\x≠Gy):Stop k S s:=
 ⟨fun hk=>by rw[AL h];exact beq_eq_false_iff_ne.2 (h1 hk),fun hk=>by rw[AL h];exact beq_eq_false_iff_ne.2 (h2 hk),fun hk=>⟨by rw[AL h];exact beq_eq_false_iff_ne.2 (h3 hk).1,by rw[AL h];exact beq_eq_false_iff_ne.2 (h3 hk).2⟩,fun hk=>⟨by rw[AL h];exact beq_eq_false_iff_ne.2 (h4 hk).1,by rw[AL h];exact beq_eq_false_iff_ne.2 (h4 hk).2⟩⟩
def QA(k:Nat)(S:Src9)(s:PS):Got Nd:=match k with
 | 0=>Ao S s
 | 1=>Ce S s
 | 2=>CR S s
 | 3=>BS S s
 | 4=>Eo S s
 | _=>Di S s
def Tn(k:Nat)(S:Src9)(n:Nd)(s:PS):Got Nd:=match k with
 | 1=>E9 S n s
 | 2=>Dh S n s
 | _=>DF S n s
def C8(k:Nat)(d:Int)(n:Nd)(l:List Tok):Prop:=∀(S:Src9) (s:PS),s.deep<=d->AY S s.tok l->Stop k S (s.past l (A1 n))->QA k S s=.ok (n,s.past l (A1 n))
def Dj(k:Nat)(d:Int)(n:Nd)(l:List Tok):Prop:=∀(S:Src9) (s:PS),s.deep<=d->AY S s.tok l->Stop (k+1) S (s.past l (A1 n))->QA k S s=Tn k S n (s.past l (A1 n))
theorem IC{k:Nat}{d d':Int}{n:Nd}{l:List Tok}(h:C8 k d n l)(hd:d'<=d):C8 k d' n l:=fun S s hs=>h S s (by omega)
theorem Iu{k:Nat}{d d':Int}{n:Nd}{l:List Tok}(h:Dj k d n l)(hd:d'<=d):Dj k d' n l:=fun S s hs=>h S s (by omega)
def Iv(l:List Tok):Prop:=∀(S:Src9) (s:PS),AY S s.tok l->A2 S CC s=false/\A2 S Fq s=false
theorem Dt{d:Int}{n:Nd}{l:List Tok}(h:Dj 1 d n l):C8 1 d n l:=fun S s hs ht hp=>by
 rw[h S s hs ht (hp.mono (by omega))]
 show E9 S n _=_
 rw[JW,if_neg (by rw[(hp.2.2.1 (by omega)).1];decide),if_neg (by rw[(hp.2.2.1 (by omega)).2];decide)]
theorem F2{d:Int}{n:Nd}{l:List Tok}(h:Dj 2 d n l):C8 2 d n l:=fun S s hs ht hp=>by
 rw[h S s hs ht (hp.mono (by omega))]
 show Dh S n _=_
 rw[IA,if_neg (by rw[hp.2.1 (by omega)];decide)]
theorem Jn{d:Int}{n:Nd}{l:List Tok}(h:Dj 4 d n l):C8 4 d n l:=fun S s hs ht hp=>by
 rw[h S s hs ht (hp.mono (by omega))]
 show DF S n _=_
 rw[IB,if_neg (by rw[hp.1 (by omega)];decide)]
theorem Nm{d:Int}{n:Nd}{l:List Tok}(h:C8 5 d n l):Dj 4 d n l:=fun S s hs ht hp=>by
 show Eo S s=_
 have e:Di S s=.ok (n,s.past l (A1 n)):=h S s hs ht hp
 rw[JY,e];rfl
theorem Hn{d:Int}{n:Nd}{l:List Tok}(h:C8 3 d n l):Dj 2 d n l:=fun S s hs ht hp=>by
 show CR S s=_
 have e:BS S s=.ok (n,s.past l (A1 n)):=h S s hs ht hp
 rw[JX,e];rfl
theorem G4{d:Int}{n:Nd}{l:List Tok}(h:C8 2 d n l):Dj 1 d n l:=fun S s hs ht hp=>by
 show Ce S s=_
 have e:CR S s=.ok (n,s.past l (A1 n)):=h S s hs ht hp
 rw[Kc,e];rfl
theorem Lr{d:Int}{n:Nd}{l:List Tok}(h:C8 4 d n l)(hp:Iv l):C8 3 d n l:=fun S s hs ht hst=>by
 show BS S s=_
 obtain⟨p1,p2⟩:=hp S s ht
 rw[Gl,if_neg (by rw[p1];decide),if_neg (by rw[p2];decide)]
 exact h S s hs ht (hst.mono (by omega))
theorem GD{d:Int}{n:Nd}{l:List Tok}(h:C8 1 d n l):C8 0 d n l:=fun S s hs ht hp=>by
 show Ao S s=_
 have e:Ce S s=.ok (n,s.past l (A1 n)):=h S s hs ht (hp.mono (by omega))
 rw[Hu,e]
 show(if _ then _ else _)=_
 rw[if_neg (by rw[(hp.2.2.2 (by omega)).1];decide),if_neg (by rw[(hp.2.2.2 (by omega)).2];decide)]
structure Own9(d:Int)(n:Nd)(t:Nat)(l:List Tok):Prop where
 r5:5<=t->C8 5 d n l
 g4:4<=t->Dj 4 d n l/\Iv l
 r3:3<=t->C8 3 d n l
 g2:2<=t->Dj 2 d n l
 g1:1<=t->Dj 1 d n l
 r0:C8 0 d n l
theorem Kd{d:Int}{n:Nd}{l:List Tok}(h:C8 5 d n l)(hp:Iv l):Own9 d n 5 l:=
 have g4:=Nm h
 have r3:=Lr (Jn g4) hp
 have g2:=Hn r3
 have g1:=G4 (F2 g2)
 ⟨fun _=>h,fun _=>⟨g4,hp⟩,fun _=>r3,fun _=>g2,fun _=>g1,GD (Dt g1)⟩
theorem To{d:Int}{n:Nd}{l:List Tok}(g4:Dj 4 d n l)(hp:Iv l):Own9 d n 4 l:=
 have r3:=Lr (Jn g4) hp
 have g2:=Hn r3
 have g1:=G4 (F2 g2)
 ⟨fun h=>(by omega),fun _=>⟨g4,hp⟩,fun _=>r3,fun _=>g2,fun _=>g1,GD (Dt g1)⟩
theorem Tp{d:Int}{n:Nd}{l:List Tok}(r3:C8 3 d n l):Own9 d n 3 l:=
 have g2:=Hn r3
 have g1:=G4 (F2 g2)
 ⟨fun h=>(by omega),fun h=>(by omega),fun _=>r3,fun _=>g2,fun _=>g1,GD (Dt g1)⟩
theorem Tq{d:Int}{n:Nd}{l:List Tok}(g2:Dj 2 d n l):Own9 d n 2 l:=
 have g1:=G4 (F2 g2)
 ⟨fun h=>(by omega),fun h=>(by omega),fun h=>(by omega),fun _=>g2,fun _=>g1,GD (Dt g1)⟩
theorem Tr{d:Int}{n:Nd}{l:List Tok}(g1:Dj 1 d n l):Own9 d n 1 l:=
 ⟨fun h=>(by omega),fun h=>(by omega),fun h=>(by omega),fun h=>(by omega),fun _=>g1,GD (Dt g1)⟩
theorem Ts{d:Int}{n:Nd}{l:List Tok}(r0:C8 0 d n l):Own9 d n 0 l:=
 ⟨fun h=>(by omega),fun h=>(by omega),fun h=>(by omega),fun h=>(by omega),fun h=>(by omega),r0⟩
theorem Own9.deep{d d':Int}{n:Nd}{t:Nat}{l:List Tok}(h:Own9 d n t l)(hd:d'<=d):Own9 d' n t l:=
 ⟨fun x=>IC (h.r5 x) hd,fun x=>⟨Iu (h.g4 x).1 hd,(h.g4 x).2⟩,fun x=>IC (h.r3 x) hd,fun x=>Iu (h.g2 x) hd,fun x=>Iu (h.g1 x) hd,IC h.r0 hd⟩
def Nat9(d:Int)(n:Nd):Prop:=∃l,(∀F,2*A1 n<=F->AH (F+1) 0 n=some l)/\Own9 d n (Bc n.kind) l
def May9(k:Nat)(d:Int)(n:Nd):Prop:=(k<=Bc n.kind/\Nat9 d n)\/(d+1<=20/\Nat9 (d+1) n)
theorem Nat9.deep{d d':Int}{n:Nd}(h:Nat9 d n)(hd:d'<=d):Nat9 d' n:=let ⟨l,h1,h2⟩:=h;⟨l,h1,h2.deep hd⟩
theorem Nn{F k:Nat}{n:Nd}(h:k<=Bc n.kind):AH (F+1) k n=AH (F+1) 0 n:=by
 cases n with
 | mk kind x num ks=>
  have h':k<=Bc kind:=h
  clear h
  conv=>lhs;unfold AH;rw[if_neg (show ¬Bc kind<k by omega)]
  conv=>rhs;unfold AH;rw[if_neg (show ¬Bc kind<0 by omega)]
theorem Re{F k:Nat}{n:Nd}(h:Bc n.kind<k):AH (F+1) k n=AE (some (A5 AD)) (AE (AH F 0 n) (some (A5 A9))):=by
 cases n with
 | mk kind x num ks=>
  have h':Bc kind<k:=h
  conv=>lhs;unfold AH
  rw[if_pos h']
theorem TP{d:Int}{n:Nd}{l:List Tok}(hd:d+1<=20)(h:C8 0 (d+1) n l):C8 5 d n (A5 AD++(l++A5 A9))/\Iv (A5 AD++(l++A5 A9)):=by
 refine⟨fun S s hs ht _=>?_,fun S s ht=>?_⟩
 ·obtain⟨t1,t2⟩:=AK ht
  obtain⟨t3,t4⟩:=AK t2
  show Di S s=_
  obtain⟨i1,i2⟩:=Mu t1
  have q:=AL t1
  rw[FL,if_neg (by rw[i2];decide),if_neg (by rw[i1];decide),if_neg (by rw[q];decide),if_neg (by rw[q];decide),if_neg (by rw[q];decide),if_neg (by rw[q];decide)]
  have w1:A8 S AD s=.ok ((),⟨s.tok+1,s.deep+1,s.many⟩):=by
   unfold A8
   rw[if_pos (by rw[q];decide),if_pos (Or.inl rfl),if_neg (by omega)]
  rw[w1]
  show(Ao S ⟨s.tok+1,s.deep+1,s.many⟩).then _=_
  have t4':AY S (PS.past ⟨s.tok+1,s.deep+1,s.many⟩ l (A1 n)).tok (A5 A9):=by
   show AY S (s.tok+1+l.length) _
   have e:s.tok+(A5 AD).length+l.length=s.tok+1+l.length:=rfl
   rw[<-e];exact t4
  have e1:Ao S ⟨s.tok+1,s.deep+1,s.many⟩=.ok (n,PS.past ⟨s.tok+1,s.deep+1,s.many⟩ l (A1 n)):=
   h S ⟨s.tok+1,s.deep+1,s.many⟩ (by show s.deep+1<=d+1;omega) t3 (FF t4' (fun _=>by decide) (fun _=>by decide) (fun _=>⟨by decide,by decide⟩) (fun _=>⟨by decide,by decide⟩))
  rw[e1]
  show(A8 S A9 _).then _=_
  have w2:A8 S A9 (PS.past ⟨s.tok+1,s.deep+1,s.many⟩ l (A1 n))=.ok ((),⟨s.tok+1+l.length+1,s.deep,s.many+(A1 n:Int)⟩):=by
   unfold A8
   rw[if_pos (by rw[AL t4'];decide),if_neg (by decide),if_pos (Or.inl rfl)]
   show Except.ok ((),PS.mk (s.tok+1+l.length+1) (s.deep+1-1) _)=_
   rw[show s.deep+1-1=s.deep by omega]
   rfl
  rw[w2]
  show Except.ok (n,_)=Except.ok (n,_)
  congr 2
  unfold PS.past
  simp only[Z1,BN,PS.mk.injEq,and_true]
  omega
 ·obtain⟨t1,_⟩:=AK ht
  exact⟨by rw[AL t1];decide,by rw[AL t1];decide⟩
theorem Dk{k:Nat}{d:Int}{n:Nd}(h:May9 k d n)(hk:k<=5):∃l t,(∀F,2*A1 n+1<=F->AH (F+1) k n=some l)/\k<=t/\Own9 d n t l:=by
 by_cases ht:k<=Bc n.kind
 ·have hn:Nat9 d n:=by
   rcases h with⟨_,h⟩ | ⟨_,h⟩
   ·exact h
   ·exact h.deep (by omega)
  obtain⟨l,h1,h2⟩:=hn
  exact⟨l,_,fun F hF=>by rw[Nn ht];exact h1 F (by omega),ht,h2⟩
 ·rcases h with⟨h,_⟩ | ⟨hd,h⟩
  ·exact absurd h ht
  ·obtain⟨l,h1,h2⟩:=h
   obtain⟨r5,hp⟩:=TP hd h2.r0
   refine⟨_,5,fun F hF=>?_,hk,Kd r5 hp⟩
   obtain⟨G,rfl⟩:∃G,F=G+1:=⟨F-1,by omega⟩
   rw[Re (by omega),h1 G (by omega)]
   rfl
theorem Mv{x y:List Int}:∀m,m<=x.length->CF (x++y) 0 m=CF x 0 m
 | 0,_=>rfl
 | m+1,h=>by
  unfold CF
  rw[Mv m (by omega)]
  have:wd (x++y) (0+m)=wd x (0+m):=by
   unfold wd
   rw[Z2,Z2,List.getElem?_append_left (by omega)]
  rw[this]
theorem QB(x:List Int)(b:Int):CG (x++[b])=10*CG x+(b-48):=by
 unfold CG
 rw[Z1]
 show 10*CF (x++[b]) 0 x.length+(wd (x++[b]) (0+x.length)-48)=_
 rw[Mv _ (Z0 _)]
 have:wd (x++[b]) (0+x.length)=b:=by
  unfold wd
  rw[Z2,List.getElem?_append_right (by omega)]
  simp
 rw[this]
theorem Ke:∀(m n:Nat),n<10 ^ m->0<m->CG (Cm m n)=(n:Int)
 | 0,n,_,h=>by omega
 | m+1,n,h,_=>by
  unfold Cm
  split
  ·rename_i h9
   have hm:0<m:=by
    cases m with
    | zero=>omega
    | succ m=>omega
   rw[QB,Ke m (n / 10) (by rw[Nat.pow_succ]at h;omega) hm]
   omega
  ·show 10*(0:Int)+((48+(n:Int))-48)=_
   omega
theorem G5{n:Int}(h0:0<=n)(h1:n<=1073741823):CG (Bg n)=n:=by
 unfold Bg
 rw[Ke 20 n.toNat (Nat.lt_of_le_of_lt (show n.toNat<=1073741823 by omega) (by decide)) (by decide)]
 omega
theorem Ab{S:Src9}{s:PS}{x:List Int}(h:AY S s.tok (A5 x)):A2 S x s=true:=by rw[AL h];exact beq_self_eq_true _
theorem DB(k:Int)(x:List Int)(m:Int)(a b:Nd):A1 (.mk k x m [a,b])=1+(A1 a+A1 b):=rfl
theorem Cw(k:Int)(x:List Int)(m:Int)(a:Nd):A1 (.mk k x m [a])=1+A1 a:=rfl
theorem GE(k:Int)(x:List Int)(m:Int):A1 (.mk k x m [])=1:=rfl
theorem KH{S:Src9}{s:PS}{la lb:List Tok}{x:List Int}(a b:Nat)(h:AY S s.tok (la++(A5 x++lb))) :
  AY S s.tok la/\AY S (s.past la a).tok (A5 x)/\AY S (s.past la a).step.tok lb/\(((s.past la a).step).past lb b).node=s.past (la++(A5 x++lb)) (1+(a+b)):=by
 obtain⟨h1,h2⟩:=AK h
 obtain⟨h3,h4⟩:=AK h2
 refine⟨h1,h3,h4,?_⟩
 unfold PS.past PS.step PS.node
 simp only[Z1,BN,PS.mk.injEq,true_and]
 exact⟨by omega,by push_cast;omega⟩
theorem H9{k:Nat}{S:Src9}{s:PS}(h:Stop k S s.node):Stop k S s:=h
theorem Oc{d:Int}{a b:Nd}{k:Int}{x:List Int}(hk:(k=18/\x=Gx)\/(k=19/\x=Gy))(ha:May9 1 d a)(hb:May9 1 d b):Nat9 d (.mk k [] 0 [a,b]):=by
 obtain⟨la,ta,wa,hta,oa⟩:=Dk ha (by omega)
 obtain⟨lb,tb,wb,htb,ob⟩:=Dk hb (by omega)
 refine⟨la++(A5 x++lb),fun F hF=>?_,?_⟩
 ·rw[DB]at hF
  obtain⟨G,rfl⟩:∃G,F=G+1:=⟨F-1,by omega⟩
  have e1:=wa G (by omega)
  have e2:=wb G (by omega)
  rcases hk with⟨rfl,rfl⟩ | ⟨rfl,rfl⟩
  ·conv=>lhs;unfold AH
   rw[if_neg (by decide),if_pos rfl]
   show AE (AH (G+1) 1 a) (AE _ (AH (G+1) 1 b))=_
   rw[e1,e2];rfl
  ·conv=>lhs;unfold AH
   rw[if_neg (by decide),if_neg (by decide),if_pos rfl]
   show AE (AH (G+1) 1 a) (AE _ (AH (G+1) 1 b))=_
   rw[e1,e2];rfl
 ·have ht:Bc (Nd.mk k [] 0 [a,b]).kind=0:=by rcases hk with⟨rfl,rfl⟩ | ⟨rfl,rfl⟩<;>rfl
  rw[ht]
  refine Ts fun S s hs htk hst=>?_
  obtain⟨t1,t2,t3,e⟩:=KH (A1 a) (A1 b) htk
  rw[DB]at hst⊢
  rw[<-e]at hst⊢
  show Ao S s=_
  have r1:Ce S s=.ok (a,s.past la (A1 a)):=Dt (oa.g1 hta) S s hs t1 (by rcases hk with⟨_,rfl⟩ | ⟨_,rfl⟩<;>exact FF t2 (fun _=>by decide) (fun _=>by decide) (fun _=>⟨by decide,by decide⟩) (fun h=>absurd h (by decide)))
  have r2:Ce S (s.past la (A1 a)).step=.ok (b,(s.past la (A1 a)).step.past lb (A1 b)):=Dt (ob.g1 htb) S (s.past la (A1 a)).step hs t3 ((H9 hst).mono (by omega))
  rw[Hu,r1]
  show(if _ then _ else _)=_
  rcases hk with⟨rfl,rfl⟩ | ⟨rfl,rfl⟩
  ·rw[if_pos (Ab t2),r2];rfl
  ·rw[if_neg (by rw[AL t2];decide),if_pos (Ab t2),r2];rfl
theorem Od{d:Int}{a b:Nd}{k:Int}{x:List Int}(hk:(k=20/\x=GP)\/(k=21/\x=CC))(ha:May9 1 d a)(hb:May9 2 d b):Nat9 d (.mk k [] 0 [a,b]):=by
 obtain⟨la,ta,wa,hta,oa⟩:=Dk ha (by omega)
 obtain⟨lb,tb,wb,htb,ob⟩:=Dk hb (by omega)
 refine⟨la++(A5 x++lb),fun F hF=>?_,?_⟩
 ·rw[DB]at hF
  obtain⟨G,rfl⟩:∃G,F=G+1:=⟨F-1,by omega⟩
  have e1:=wa G (by omega)
  have e2:=wb G (by omega)
  rcases hk with⟨rfl,rfl⟩ | ⟨rfl,rfl⟩
  ·conv=>lhs;unfold AH
   rw[if_neg (by decide),if_neg (by decide),if_neg (by decide),if_pos rfl]
   show AE (AH (G+1) 1 a) (AE _ (AH (G+1) 2 b))=_
   rw[e1,e2];rfl
  ·conv=>lhs;unfold AH
   rw[if_neg (by decide),if_neg (by decide),if_neg (by decide),if_neg (by decide),if_pos rfl]
   show AE (AH (G+1) 1 a) (AE _ (AH (G+1) 2 b))=_
   rw[e1,e2];rfl
 ·have ht:Bc (Nd.mk k [] 0 [a,b]).kind=1:=by rcases hk with⟨rfl,rfl⟩ | ⟨rfl,rfl⟩<;>rfl
  rw[ht]
  refine Tr fun S s hs htk hst=>?_
  obtain⟨t1,t2,t3,e⟩:=KH (A1 a) (A1 b) htk
  rw[DB]at hst⊢
  rw[<-e]at hst⊢
  show Ce S s=E9 S _ _
  have r1:Ce S s=E9 S a (s.past la (A1 a)):=oa.g1 hta S s hs t1 (by rcases hk with⟨_,rfl⟩ | ⟨_,rfl⟩<;>exact FF t2 (fun _=>by decide) (fun _=>by decide) (fun h=>absurd h (by decide)) (fun h=>absurd h (by decide)))
  have r2:CR S (s.past la (A1 a)).step=.ok (b,(s.past la (A1 a)).step.past lb (A1 b)):=F2 (ob.g2 htb) S (s.past la (A1 a)).step hs t3 (H9 hst)
  rw[r1,JW]
  rcases hk with⟨rfl,rfl⟩ | ⟨rfl,rfl⟩
  ·rw[if_pos (Ab t2),r2];rfl
  ·rw[if_neg (by rw[AL t2];decide),if_pos (Ab t2),r2];rfl
theorem So{d:Int}{a b:Nd}(ha:May9 2 d a)(hb:May9 3 d b):Nat9 d (.mk 22 [] 0 [a,b]):=by
 obtain⟨la,ta,wa,hta,oa⟩:=Dk ha (by omega)
 obtain⟨lb,tb,wb,htb,ob⟩:=Dk hb (by omega)
 refine⟨la++(A5 FX++lb),fun F hF=>?_,?_⟩
 ·rw[DB]at hF
  obtain⟨G,rfl⟩:∃G,F=G+1:=⟨F-1,by omega⟩
  have e1:=wa G (by omega)
  have e2:=wb G (by omega)
  conv=>lhs;unfold AH
  rw[if_neg (by decide),if_neg (by decide),if_neg (by decide),if_neg (by decide),if_neg (by decide),if_pos rfl]
  show AE (AH (G+1) 2 a) (AE _ (AH (G+1) 3 b))=_
  rw[e1,e2];rfl
 ·show Own9 d _ 2 _
  refine Tq fun S s hs htk hst=>?_
  obtain⟨t1,t2,t3,e⟩:=KH (A1 a) (A1 b) htk
  rw[DB]at hst⊢
  rw[<-e]at hst⊢
  show CR S s=Dh S _ _
  have r1:CR S s=Dh S a (s.past la (A1 a)):=oa.g2 hta S s hs t1 (FF t2 (fun _=>by decide) (fun h=>absurd h (by decide)) (fun h=>absurd h (by decide)) (fun h=>absurd h (by decide)))
  have r2:BS S (s.past la (A1 a)).step=.ok (b,(s.past la (A1 a)).step.past lb (A1 b)):=ob.r3 htb S (s.past la (A1 a)).step hs t3 (H9 hst)
  rw[r1,IA,if_pos (Ab t2),r2];rfl
theorem QC{d:Int}{a:Nd}{k:Int}{x:List Int}(hk:(k=23/\x=CC)\/(k=24/\x=Fq))(ha:May9 3 d a):Nat9 d (.mk k [] 0 [a]):=by
 obtain⟨la,ta,wa,hta,oa⟩:=Dk ha (by omega)
 refine⟨A5 x++la,fun F hF=>?_,?_⟩
 ·rw[Cw]at hF
  obtain⟨G,rfl⟩:∃G,F=G+1:=⟨F-1,by omega⟩
  have e1:=wa G (by omega)
  rcases hk with⟨rfl,rfl⟩ | ⟨rfl,rfl⟩
  ·conv=>lhs;unfold AH
   rw[if_neg (by decide),if_neg (by decide),if_neg (by decide),if_neg (by decide),if_neg (by decide),if_neg (by decide),if_pos rfl]
   show AE _ (AH (G+1) 3 a)=_
   rw[e1];rfl
  ·conv=>lhs;unfold AH
   rw[if_neg (by decide),if_neg (by decide),if_neg (by decide),if_neg (by decide),if_neg (by decide),if_neg (by decide),if_neg (by decide),if_pos rfl]
   show AE _ (AH (G+1) 3 a)=_
   rw[e1];rfl
 ·have ht:Bc (Nd.mk k [] 0 [a]).kind=3:=by rcases hk with⟨rfl,rfl⟩ | ⟨rfl,rfl⟩<;>rfl
  rw[ht]
  refine Tp fun S s hs htk hst=>?_
  obtain⟨t1,t2⟩:=AK htk
  have e:(s.step.past la (A1 a)).node=s.past (A5 x++la) (1+A1 a):=by
   unfold PS.past PS.step PS.node
   simp only[Z1,BN,PS.mk.injEq,true_and]
   exact⟨by omega,by push_cast;omega⟩
  rw[Cw]at hst⊢
  rw[<-e]at hst⊢
  show BS S s=_
  have r2:BS S s.step=.ok (a,s.step.past la (A1 a)):=oa.r3 hta S s.step hs t2 (H9 hst)
  rw[Gl]
  rcases hk with⟨rfl,rfl⟩ | ⟨rfl,rfl⟩
  ·rw[if_pos (Ab t1),r2];rfl
  ·rw[if_neg (by rw[AL t1];decide),if_pos (Ab t1),r2];rfl
theorem Sp{d m:Int}(h0:0<=m)(h1:m<=1073741823):Nat9 d (.mk 26 [] m []):=by
 refine⟨[(2,Bg m,0)],fun F hF=>?_,?_⟩
 ·conv=>lhs;unfold AH
  rw[if_neg (by decide),if_neg (by decide),if_neg (by decide),if_neg (by decide),if_neg (by decide),if_neg (by decide),if_neg (by decide),if_neg (by decide),if_neg (by decide),if_pos rfl]
  unfold GM
  rw[if_pos ⟨h0,h1⟩]
 ·refine Kd (fun S s hs ht _=>?_) (fun S s ht=>⟨EY ht (Or.inr rfl) _,EY ht (Or.inr rfl) _⟩)
  show Di S s=_
  obtain⟨k1,k2,_⟩:=GZ ht 2
  rw[FL,if_pos (by rw[k1];rfl),k2,G5 h0 h1]
  rfl
theorem Rf{d:Int}{x:List Int}(h:BV x=true):Nat9 d (.mk 31 x 0 []):=by
 refine⟨[(1,x,0)],fun F hF=>?_,?_⟩
 ·conv=>lhs;unfold AH
  rw[if_neg (by decide),if_neg (by decide),if_neg (by decide),if_neg (by decide),if_neg (by decide),if_neg (by decide),if_neg (by decide),if_neg (by decide),if_neg (by decide),if_neg (by decide),if_neg (by decide),if_neg (by decide),if_neg (by decide),if_neg (by decide),if_pos rfl]
  unfold Ax
  rw[if_pos h]
 ·refine Kd (fun S s hs ht _=>?_) (fun S s ht=>⟨EY ht (Or.inl rfl) _,EY ht (Or.inl rfl) _⟩)
  show Di S s=_
  obtain⟨k1,k2,_⟩:=GZ ht 1
  rw[FL,if_neg (by rw[(GZ ht 2).1];decide),if_pos (by rw[k1];rfl)]
  unfold Ae
  rw[if_pos (by rw[k1];rfl),k2]
  rfl
theorem KI{d:Int}{k:Int}{x:List Int}(hk:(k=27/\x=Dq)\/(k=28/\x=DK)\/(k=29/\x=De)):Nat9 d (.mk k [] 0 []):=by
 refine⟨A5 x,fun F hF=>?_,?_⟩
 ·rcases hk with⟨rfl,rfl⟩ | ⟨rfl,rfl⟩ | ⟨rfl,rfl⟩
  ·conv=>lhs;unfold AH
   rw[if_neg (by decide),if_neg (by decide),if_neg (by decide),if_neg (by decide),if_neg (by decide),if_neg (by decide),if_neg (by decide),if_neg (by decide),if_neg (by decide),if_neg (by decide),if_pos rfl]
  ·conv=>lhs;unfold AH
   rw[if_neg (by decide),if_neg (by decide),if_neg (by decide),if_neg (by decide),if_neg (by decide),if_neg (by decide),if_neg (by decide),if_neg (by decide),if_neg (by decide),if_neg (by decide),if_neg (by decide),if_pos rfl]
  ·conv=>lhs;unfold AH
   rw[if_neg (by decide),if_neg (by decide),if_neg (by decide),if_neg (by decide),if_neg (by decide),if_neg (by decide),if_neg (by decide),if_neg (by decide),if_neg (by decide),if_neg (by decide),if_neg (by decide),if_neg (by decide),if_pos rfl]
 ·have ht:Bc (Nd.mk k [] 0 []).kind=5:=by rcases hk with⟨rfl,rfl⟩ | ⟨rfl,rfl⟩ | ⟨rfl,rfl⟩<;>rfl
  rw[ht]
  refine Kd (fun S s hs ht _=>?_) (fun S s ht=>?_)
  ·show Di S s=_
   obtain⟨i1,i2⟩:=Mu ht
   rw[FL,if_neg (by rw[i2];decide),if_neg (by rw[i1];decide)]
   rcases hk with⟨rfl,rfl⟩ | ⟨rfl,rfl⟩ | ⟨rfl,rfl⟩
   ·rw[if_pos (Ab ht)];rfl
   ·rw[if_neg (by rw[AL ht];decide),if_pos (Ab ht)];rfl
   ·rw[if_neg (by rw[AL ht];decide),if_neg (by rw[AL ht];decide),if_pos (Ab ht)];rfl
  ·rw[AL ht,AL ht]
   rcases hk with⟨rfl,rfl⟩ | ⟨rfl,rfl⟩ | ⟨rfl,rfl⟩<;>exact⟨by decide,by decide⟩
theorem Sq{d:Int}{x:List Int}(h:BV x=true):Nat9 d (.mk 30 x 0 []):=by
 refine⟨A5 EW++[(1,x,0)],fun F hF=>?_,?_⟩
 ·conv=>lhs;unfold AH
  rw[if_neg (by decide),if_neg (by decide),if_neg (by decide),if_neg (by decide),if_neg (by decide),if_neg (by decide),if_neg (by decide),if_neg (by decide),if_neg (by decide),if_neg (by decide),if_neg (by decide),if_neg (by decide),if_neg (by decide),if_pos rfl]
  unfold Ax
  rw[if_pos h]
  rfl
 ·refine Kd (fun S s hs ht _=>?_) (fun S s ht=>?_)
  ·show Di S s=_
   obtain⟨t1,t2⟩:=AK ht
   obtain⟨i1,i2⟩:=Mu t1
   obtain⟨k1,k2,_⟩:=GZ (s:=s.step) t2 1
   rw[FL,if_neg (by rw[i2];decide),if_neg (by rw[i1];decide),if_neg (by rw[AL t1];decide),if_neg (by rw[AL t1];decide),if_neg (by rw[AL t1];decide),if_pos (Ab t1)]
   unfold Ae
   rw[if_pos (by rw[k1];rfl),k2]
   rfl
  ·obtain⟨t1,t2⟩:=AK ht
   exact⟨by rw[AL t1];decide,by rw[AL t1];decide⟩
theorem Iw{S:Src9}{s:PS}{x:List Int}(h:A2 S x s=true):(∀y,A2 S y s=(x==y))/\isB S 1 s=false/\isB S 2 s=false:=by
 unfold A2 at h
 simp only[Bool.and_eq_true,Bool.or_eq_true,beq_iff_eq,decide_eq_true_eq]at h
 obtain⟨h1,h2,h3⟩:=h
 refine⟨fun y=>?_,?_,?_⟩
 ·unfold A2
  rw[h2,decide_eq_true h1]
  rcases h3 with h3 | h3<;>rw[h3]<;>simp
 ·unfold isB
  rcases h3 with h3 | h3<;>rw[h3]<;>simp
 ·unfold isB
  rcases h3 with h3 | h3<;>rw[h3]<;>simp
theorem Mw{S:Src9}{s:PS}{x:List Int}(h:A2 S x s=true)(hx:x≠CC/\x≠Fq/\x≠Dq/\x≠DK/\x≠De/\x≠EW/\x≠AD):Ao S s=Bu S 12 s:=by
 obtain⟨h1,h2,h3⟩:=Iw h
 have n:∀y,x≠y->¬A2 S y s=true:=fun y hy=>by rw[h1,beq_eq_false_iff_ne.2 hy];decide
 obtain⟨x1,x2,x3,x4,x5,x6,x7⟩:=hx
 have e:Di S s=Bu S 12 s:=by
  rw[FL,if_neg (by rw[h3];decide),if_neg (by rw[h2];decide),if_neg (n _ x3),if_neg (n _ x4),if_neg (n _ x5),if_neg (n _ x6)]
  unfold A8
  rw[if_neg (n _ x7)]
  rfl
 have e2:Eo S s=Bu S 12 s:=by rw[JY,e];rfl
 have e3:BS S s=Bu S 12 s:=by rw[Gl,if_neg (n _ x1),if_neg (n _ x2),e2]
 have e4:CR S s=Bu S 12 s:=by rw[JX,e3];rfl
 have e5:Ce S s=Bu S 12 s:=by rw[Kc,e4];rfl
 rw[Hu,e5];rfl
theorem KJ{S:Src9}{s:PS}{x:List Int}{n:Nd}{s1:PS}(he:Ao S s=.ok (n,s1))(hx:x≠CC/\x≠Fq/\x≠Dq/\x≠DK/\x≠De/\x≠EW/\x≠AD):A2 S x s=false:=by
 cases h:A2 S x s with
 | false=>rfl
 | true=>rw[Mw h hx]at he;cases he
theorem EA{S:Src9}{s:PS}{x:List Int}(h:AY S s.tok (A5 x))(h1:¬(x=AD\/x=Ai))(h2:¬(x=A9\/x=Au)):A8 S x s=.ok ((),s.step):=by
 unfold A8
 rw[if_pos (Ab h),if_neg h1,if_neg h2]
def PS.down(s:PS):PS:=⟨s.tok+1,s.deep+1,s.many⟩
def PS.up(s:PS):PS:=⟨s.tok+1,s.deep-1,s.many⟩
theorem FO{S:Src9}{s:PS}{x:List Int}(h:AY S s.tok (A5 x))(h1:x=AD\/x=Ai)(hd:s.deep+1<=20):A8 S x s=.ok ((),s.down):=by
 unfold A8
 rw[if_pos (Ab h),if_pos h1,if_neg (by omega)]
 rfl
theorem Ga{S:Src9}{s:PS}{x:List Int}(h:AY S s.tok (A5 x))(h1:x=A9\/x=Au):A8 S x s=.ok ((),s.up):=by
 unfold A8
 rw[if_pos (Ab h),if_neg (by rcases h1 with rfl | rfl<;>decide),if_pos h1]
 rfl
theorem Dl{S:Src9}{s:PS}{x:List Int}(h:AY S s.tok [(1,x,0)]):Ae S s=.ok (x,s.step):=by
 obtain⟨k1,k2,_⟩:=GZ h 1
 unfold Ae
 rw[if_pos (by rw[k1];rfl),k2]
theorem B1(a:Nd)(ks:List Nd):AA (a::ks)=A1 a+AA ks:=rfl
theorem Jo{e:Int}:∀(ks:List Nd) (b:Nd),(∀c∈b::ks,Nat9 e c)->∃l,(∀F,2*AA (b::ks)<=F->CO ((b::ks).map (AH (F+1) 0))=some l)/\(∀(S:Src9) (s:PS),s.deep<=e->AY S s.tok l->AY S (s.past l (AA (b::ks))).tok (A5 A9)->FB S s=.ok (b::ks,s.past l (AA (b::ks)))/\A2 S A9 s=false)
 | [],b,h=>by
  obtain⟨l,w,o⟩:=h b (Z7 ..)
  refine⟨l,fun F hF=>?_,fun S s hs ht hc=>?_⟩
  ·show AH (F+1) 0 b=_
   rw[B1]at hF
   exact w F (by omega)
  ·have es:AA [b]=A1 b:=by rw[B1];rfl
   rw[es]at hc⊢
   have r:Ao S s=.ok (b,s.past l (A1 b)):=o.r0 S s hs ht (FF hc (fun _=>by decide) (fun _=>by decide) (fun _=>⟨by decide,by decide⟩) (fun _=>⟨by decide,by decide⟩))
   refine⟨?_,KJ r (by decide)⟩
   rw[LR,r]
   show(if _ then _ else _)=_
   rw[if_neg (by rw[AL hc];decide)]
 | c::ks,b,h=>by
  obtain⟨l,w,o⟩:=h b (Z7 ..)
  obtain⟨l2,w2,o2⟩:=Jo ks c fun x hx=>h x (Z8 _ hx)
  refine⟨l++(A5 An++l2),fun F hF=>?_,fun S s hs ht hc=>?_⟩
  ·show AE (AH (F+1) 0 b) (AE (some (A5 An)) (CO ((c::ks).map (AH (F+1) 0))))=_
   rw[B1]at hF
   rw[w F (by omega),w2 F (by omega)]
   rfl
  ·rw[B1]at hc⊢
   obtain⟨t1,t2⟩:=AK ht
   obtain⟨t3,t4⟩:=AK t2
   have hc':AY S (s.past l (A1 b)).tok (A5 An):=t3
   have r:Ao S s=.ok (b,s.past l (A1 b)):=o.r0 S s hs t1 (FF hc' (fun _=>by decide) (fun _=>by decide) (fun _=>⟨by decide,by decide⟩) (fun _=>⟨by decide,by decide⟩))
   have e:(s.past l (A1 b)).step.past l2 (AA (c::ks))=s.past (l++(A5 An++l2)) (A1 b+AA (c::ks)):=by rw[FM _ An,Cg,Cg,Nat.zero_add]
   rw[<-e]at hc
   obtain⟨r2,_⟩:=o2 S (s.past l (A1 b)).step hs t4 hc
   refine⟨?_,KJ r (by decide)⟩
   rw[LR,r]
   show(if _ then _ else _)=_
   rw[if_pos (Ab hc'),r2,e]
   rfl
theorem Rg{e:Int}(ks:List Nd)(h:∀c∈ks,Nat9 e c):∃l,(∀F,2*AA ks<=F->CO (ks.map (AH (F+1) 0))=some l)/\(∀(S:Src9) (s:PS),s.deep<=e->AY S s.tok l->AY S (s.past l (AA ks)).tok (A5 A9)->(if A2 S A9 s=true then Except.ok ([],s)else FB S s)=.ok (ks,s.past l (AA ks))):=by
 cases ks with
 | nil=>
  refine⟨[],fun F _=>rfl,fun S s _ _ hc=>?_⟩
  rw[show s.past [] (AA [])=s from FN s]at hc⊢
  rw[if_pos (Ab hc)]
 | cons b ks=>
  obtain⟨l,w,o⟩:=Jo ks b h
  refine⟨l,w,fun S s hs ht hc=>?_⟩
  obtain⟨o1,o2⟩:=o S s hs ht hc
  rw[if_neg (by rw[o2];decide),o1]
theorem Rh{d:Int}{a:Nd}{x:List Int}{ks:List Nd}(hx:BV x=true)(hd:d+1<=20)(ha:May9 4 d a)(hk:∀c∈ks,Nat9 (d+1) c):Nat9 d (.mk 25 x 0 (a::ks)):=by
 obtain⟨la,ta,wa,hta,oa⟩:=Dk ha (by omega)
 obtain⟨lk,wk,ok⟩:=Rg ks hk
 obtain⟨ga,pa⟩:=oa.g4 hta
 have hsz:A1 (.mk 25 x 0 (a::ks))=1+(A1 a+AA ks):=rfl
 refine⟨la++(A5 FW++([(1,x,0)]++(A5 AD++(lk++A5 A9)))),fun F hF=>?_,?_⟩
 ·rw[hsz]at hF
  obtain⟨G,rfl⟩:∃G,F=G+1:=⟨F-1,by omega⟩
  have e1:=wa G (by omega)
  have e2:=wk G (by omega)
  conv=>lhs;unfold AH
  rw[if_neg (by decide),if_neg (by decide),if_neg (by decide),if_neg (by decide),if_neg (by decide),if_neg (by decide),if_neg (by decide),if_neg (by decide),if_pos rfl]
  show AE (AH (G+1) 4 a) (AE _ (AE (Ax x) (AE _ (AE (CO (ks.map (AH (G+1) 0))) _))))=_
  rw[e1,e2]
  unfold Ax
  rw[if_pos hx]
  rfl
 ·show Own9 d _ 4 _
  refine To (fun S s hs htk hst=>?_) fun S s ht=>pa S s (AK ht).1
  obtain⟨t1,t'⟩:=AK htk
  obtain⟨t2,t'⟩:=AK t'
  obtain⟨t3,t'⟩:=AK t'
  obtain⟨t4,t'⟩:=AK t'
  obtain⟨t5,t6⟩:=AK t'
  show Eo S s=DF S _ _
  have r1:Eo S s=DF S a (s.past la (A1 a)):=ga S s hs t1 ⟨fun h=>absurd h (by decide),fun h=>absurd h (by decide),fun h=>absurd h (by decide),fun h=>absurd h (by decide)⟩
  have t2':AY S (s.past la (A1 a)).tok (A5 FW):=t2
  have t3':AY S (s.past la (A1 a)).step.tok [(1,x,0)]:=t3
  have t4':AY S (s.past la (A1 a)).step.step.tok (A5 AD):=t4
  have t5':AY S (s.past la (A1 a)).step.step.down.tok lk:=t5
  have t6':AY S ((s.past la (A1 a)).step.step.down.past lk (AA ks)).tok (A5 A9):=t6
  have hdeep:(s.past la (A1 a)).step.step.deep=s.deep:=rfl
  rw[r1,IB,if_pos (Ab t2'),Dl t3']
  show((A8 S AD (s.past la (A1 a)).step.step).then _)=_
  rw[FO t4' (Or.inl rfl) (by rw[hdeep];omega)]
  show Got.then (if A2 S A9 (s.past la (A1 a)).step.step.down=true then Except.ok ([],_)else FB S _) _=_
  rw[ok S _ (show s.deep+1<=d+1 by omega) t5' t6']
  show((A8 S A9 ((s.past la (A1 a)).step.step.down.past lk (AA ks))).then _)=_
  rw[Ga t6' (Or.inl rfl)]
  show DF S (.mk 25 x 0 (a::ks)) _=_
  congr 1
  rw[hsz]
  unfold PS.up PS.down PS.past PS.step PS.node
  simp only[Z1,BN,List.length_singleton,PS.mk.injEq]
  exact⟨by omega,by omega,by push_cast;omega⟩
def Src9.good(S:Src9):Prop:=∀i,i<S.L.length->((S.at i).1=1->BV (S.at i).2.1=true)/\((S.at i).1=2->0<=CG (S.at i).2.1/\CG (S.at i).2.1<=1073741823)
theorem A0{α β:Type}{g:Got α}{F:α->PS->Got β}{b:β}{s':PS}(h:g.then F=.ok (b,s')):∃a s1,g=.ok (a,s1)/\F a s1=.ok (b,s'):=by
 cases g with
 | error e=>exact absurd h (by intro h;cases h)
 | ok p=>obtain⟨a,s1⟩:=p;exact⟨a,s1,rfl,h⟩
theorem Ft{S:Src9}{k:Int}{s:PS}(h:isB S k s=true):s.tok<S.L.length/\(S.at s.tok).1=k:=by
 unfold isB at h
 simp only[Bool.and_eq_true,beq_iff_eq,decide_eq_true_eq]at h
 exact h
theorem Cn{S:Src9}(hS:S.good){s s1:PS}{x:List Int}(h:Ae S s=.ok (x,s1)):BV x=true/\s1=s.step:=by
 unfold Ae at h
 split at h
 ·rename_i hi
  obtain⟨h1,h2⟩:=Ft hi
  cases h
  exact⟨(hS _ h1).1 h2,rfl⟩
 ·cases h
theorem BZ{S:Src9}{s s1:PS}{x:List Int}{u:Unit}(h:A8 S x s=.ok (u,s1)):((x=AD\/x=Ai)->s1=s.down/\s.deep+1<=20)/\((x=A9\/x=Au)->s1=s.up)/\(¬(x=AD\/x=Ai)->¬(x=A9\/x=Au)->s1=s.step):=by
 unfold A8 at h
 split at h
 ·split at h
  ·rename_i ho
   split at h
   ·cases h
   ·cases h
    exact⟨fun _=>⟨rfl,by omega⟩,fun hc=>absurd hc (by rcases ho with rfl | rfl<;>decide),fun hn=>absurd ho hn⟩
  ·rename_i ho
   split at h
   ·rename_i hc
    cases h
    exact⟨fun h=>absurd h ho,fun _=>rfl,fun _ hn=>absurd hc hn⟩
   ·rename_i hc
    cases h
    exact⟨fun h=>absurd h ho,fun h=>absurd h hc,fun _ _=>rfl⟩
 ·cases h
theorem Sr{k:Nat}{d:Int}{n:Nd}(h:Nat9 d n)(hk:k<=Bc n.kind):May9 k d n:=Or.inl ⟨hk,h⟩
theorem May9.less{k k':Nat}{d:Int}{n:Nd}(h:May9 k d n)(hk:k'<=k):May9 k' d n:=by
 rcases h with⟨h1,h2⟩ | h
 ·exact Or.inl ⟨by omega,h2⟩
 ·exact Or.inr h
theorem May9.nat{k:Nat}{d:Int}{n:Nd}(h:May9 k d n):Nat9 d n:=by
 rcases h with⟨_,h⟩ | ⟨_,h⟩
 ·exact h
 ·exact h.deep (by omega)
def Rd9(k:Nat)(s:PS)(n:Nd)(s':PS):Prop:=s'.deep=s.deep/\s'.many=s.many+(A1 n:Int)/\May9 k s.deep n
def Lp(k:Nat)(s:PS)(n:Nd)(m:Nd)(s':PS):Prop:=s'.deep=s.deep/\s'.many+(A1 n:Int)=s.many+(A1 m:Int)/\May9 k s.deep m
theorem Rd9.less{k k':Nat}{s s':PS}{n:Nd}(h:Rd9 k s n s')(hk:k'<=k):Rd9 k' s n s':=⟨h.1,h.2.1,h.2.2.less hk⟩
theorem Lp.rd{k:Nat}{s s1 s':PS}{n m:Nd}(h1:s1.deep=s.deep)(h2:s1.many=s.many+(A1 n:Int))(h:Lp k s1 n m s'):Rd9 k s m s':=by
 obtain⟨a,b,c⟩:=h
 rw[h1]at a c
 exact⟨a,by omega,c⟩
theorem D7{k:Nat}{s s1 s':PS}{kind num:Int}{x:List Int}{ks:List Nd}{n:Nd}(h:AJ kind x num ks s1=.ok (n,s'))(h1:s1.deep=s.deep)(h2:s1.many=s.many+(AA ks:Int))(h3:Nat9 s.deep (.mk kind x num ks))(hk:k<=Bc kind):Rd9 k s n s':=by
 cases h
 refine⟨h1,?_,Sr h3 hk⟩
 have e:A1 (.mk kind x num ks)=1+AA ks:=by conv=>lhs;unfold A1
 rw[e]
 show s1.many+1=_
 push_cast;omega
structure U1(S:Src9)(f:Nat):Prop where
 expr:∀s n s',Bn S f s=.ok (n,s')->Rd9 0 s n s'
 sum:∀s n s',D9 S f s=.ok (n,s')->Rd9 1 s n s'
 sumL:∀n s m s',May9 1 s.deep n->sumL S f n s=.ok (m,s')->Lp 1 s n m s'
 term:∀s n s',CQ S f s=.ok (n,s')->Rd9 2 s n s'
 termL:∀n s m s',May9 2 s.deep n->termL S f n s=.ok (m,s')->Lp 2 s n m s'
 unary:∀s n s',Bp S f s=.ok (n,s')->Rd9 3 s n s'
 call:∀s n s',Cb S f s=.ok (n,s')->Rd9 4 s n s'
 callL:∀n s m s',May9 4 s.deep n->callL S f n s=.ok (m,s')->Lp 4 s n m s'
 args:∀s ks s',CH S f s=.ok (ks,s')->s'.deep=s.deep/\s'.many=s.many+(AA ks:Int)/\∀c∈ks,Nat9 s.deep c
 prim:∀s n s',Cc S f s=.ok (n,s')->Rd9 5 s n s'
theorem Ac{α:Type}{p:α×PS}{P:Prop}(h:(DQ:Got α)=.ok p):P:=by cases h
theorem kept{S:Src9}(hS:S.good):∀f,U1 S f
 | 0=>by
  constructor
  ·intro s n s' h;rw[Bn]at h;exact Ac h
  ·intro s n s' h;rw[D9]at h;exact Ac h
  ·intro n s m s' _ h;rw[sumL]at h;exact Ac h
  ·intro s n s' h;rw[CQ]at h;exact Ac h
  ·intro n s m s' _ h;rw[termL]at h;exact Ac h
  ·intro s n s' h;rw[Bp]at h;exact Ac h
  ·intro s n s' h;rw[Cb]at h;exact Ac h
  ·intro n s m s' _ h;rw[callL]at h;exact Ac h
  ·intro s n s' h;rw[CH]at h;exact Ac h
  ·intro s n s' h;rw[Cc]at h;exact Ac h
 | f+1=>by
  have I:=kept hS f
  constructor
  ·intro s n s' h
   rw[Bn]at h
   obtain⟨a,s1,ha,h⟩:=A0 h
   obtain⟨d1,m1,k1⟩:=I.sum _ _ _ ha
   split at h
   ·obtain⟨b,s2,hb,h⟩:=A0 h
    obtain⟨d2,m2,k2⟩:=I.sum _ _ _ hb
    have e1:s1.step.deep=s.deep:=d1
    have e2:s1.step.many=s1.many:=rfl
    rw[e1]at d2 k2
    exact D7 h d2 (by simp only[AA];push_cast;omega) (Oc (Or.inl ⟨rfl,rfl⟩) k1 k2) (by decide)
   ·split at h
    ·obtain⟨b,s2,hb,h⟩:=A0 h
     obtain⟨d2,m2,k2⟩:=I.sum _ _ _ hb
     have e1:s1.step.deep=s.deep:=d1
     have e2:s1.step.many=s1.many:=rfl
     rw[e1]at d2 k2
     exact D7 h d2 (by simp only[AA];push_cast;omega) (Oc (Or.inr ⟨rfl,rfl⟩) k1 k2) (by decide)
    ·cases h
     exact⟨d1,m1,k1.less (by omega)⟩
  ·intro s n s' h
   rw[D9]at h
   obtain⟨a,s1,ha,h⟩:=A0 h
   obtain⟨d1,m1,k1⟩:=I.term _ _ _ ha
   exact Lp.rd d1 m1 (I.sumL _ _ _ _ (by rw[d1];exact k1.less (by omega)) h)
  ·intro n s m s' hn h
   rw[sumL]at h
   split at h
   ·obtain⟨b,s2,hb,h⟩:=A0 h
    obtain⟨d2,m2,k2⟩:=I.term _ _ _ hb
    have e1:s.step.deep=s.deep:=rfl
    have e2:s.step.many=s.many:=rfl
    rw[e1]at d2 k2
    obtain⟨c,s3,hc,h⟩:=A0 h
    obtain⟨d3,m3,k3⟩:=D7 (k:=1) (s:=⟨s.tok,s.deep,s.many-(A1 n:Int)⟩) hc d2 (by simp only[AA];push_cast;omega) (Od (Or.inl ⟨rfl,rfl⟩) hn k2) (by decide)
    obtain⟨d4,m4,k4⟩:=I.sumL _ _ _ _ (by rw[d3];exact k3) h
    simp only at d3 m3
    rw[d3]at d4 k4
    exact⟨d4,by omega,k4⟩
   ·split at h
    ·obtain⟨b,s2,hb,h⟩:=A0 h
     obtain⟨d2,m2,k2⟩:=I.term _ _ _ hb
     have e1:s.step.deep=s.deep:=rfl
     have e2:s.step.many=s.many:=rfl
     rw[e1]at d2 k2
     obtain⟨c,s3,hc,h⟩:=A0 h
     obtain⟨d3,m3,k3⟩:=D7 (k:=1) (s:=⟨s.tok,s.deep,s.many-(A1 n:Int)⟩) hc d2 (by simp only[AA];push_cast;omega) (Od (Or.inr ⟨rfl,rfl⟩) hn k2) (by decide)
     obtain⟨d4,m4,k4⟩:=I.sumL _ _ _ _ (by rw[d3];exact k3) h
     simp only at d3 m3
     rw[d3]at d4 k4
     exact⟨d4,by omega,k4⟩
    ·cases h
     exact⟨rfl,rfl,hn⟩
  ·intro s n s' h
   rw[CQ]at h
   obtain⟨a,s1,ha,h⟩:=A0 h
   obtain⟨d1,m1,k1⟩:=I.unary _ _ _ ha
   exact Lp.rd d1 m1 (I.termL _ _ _ _ (by rw[d1];exact k1.less (by omega)) h)
  ·intro n s m s' hn h
   rw[termL]at h
   split at h
   ·obtain⟨b,s2,hb,h⟩:=A0 h
    obtain⟨d2,m2,k2⟩:=I.unary _ _ _ hb
    have e1:s.step.deep=s.deep:=rfl
    have e2:s.step.many=s.many:=rfl
    rw[e1]at d2 k2
    obtain⟨c,s3,hc,h⟩:=A0 h
    obtain⟨d3,m3,k3⟩:=D7 (k:=2) (s:=⟨s.tok,s.deep,s.many-(A1 n:Int)⟩) hc d2 (by simp only[AA];push_cast;omega) (So hn k2) (by decide)
    obtain⟨d4,m4,k4⟩:=I.termL _ _ _ _ (by rw[d3];exact k3) h
    simp only at d3 m3
    rw[d3]at d4 k4
    exact⟨d4,by omega,k4⟩
   ·cases h
    exact⟨rfl,rfl,hn⟩
  ·intro s n s' h
   rw[Bp]at h
   split at h
   ·obtain⟨b,s2,hb,h⟩:=A0 h
    obtain⟨d2,m2,k2⟩:=I.unary _ _ _ hb
    have e2:s.step.many=s.many:=rfl
    exact D7 (s:=s) h d2 (by simp only[AA];push_cast;omega) (QC (Or.inl ⟨rfl,rfl⟩) k2) (by decide)
   ·split at h
    ·obtain⟨b,s2,hb,h⟩:=A0 h
     obtain⟨d2,m2,k2⟩:=I.unary _ _ _ hb
     have e2:s.step.many=s.many:=rfl
     exact D7 (s:=s) h d2 (by simp only[AA];push_cast;omega) (QC (Or.inr ⟨rfl,rfl⟩) k2) (by decide)
    ·exact(I.call _ _ _ h).less (by omega)
  ·intro s n s' h
   rw[Cb]at h
   obtain⟨a,s1,ha,h⟩:=A0 h
   obtain⟨d1,m1,k1⟩:=I.prim _ _ _ ha
   exact Lp.rd d1 m1 (I.callL _ _ _ _ (by rw[d1];exact k1.less (by omega)) h)
  ·intro n s m s' hn h
   rw[callL]at h
   split at h
   ·obtain⟨x,s1,hx,h⟩:=A0 h
    obtain⟨nx,rfl⟩:=Cn hS hx
    obtain⟨u,s2,hu,h⟩:=A0 h
    obtain⟨rfl,hd⟩:=(BZ hu).1 (Or.inl rfl)
    obtain⟨ks,s3,hk,h⟩:=A0 h
    obtain⟨v,s4,hv,h⟩:=A0 h
    obtain rfl:=(BZ hv).2.1 (Or.inl rfl)
    have q:s3.deep=s.deep+1/\s3.many=s.many+(AA ks:Int)/\∀c∈ks,Nat9 (s.deep+1) c:=by
     split at hk
     ·cases hk
      exact⟨rfl,by show s.many=s.many+0;omega,fun c hc=>by cases hc⟩
     ·exact I.args _ _ _ hk
    obtain⟨q1,q2,q3⟩:=q
    obtain⟨c,s5,hc,h⟩:=A0 h
    obtain⟨d3,m3,k3⟩:=D7 (k:=4) (s:=⟨s.tok,s.deep,s.many-(A1 n:Int)⟩) hc (by show s3.deep-1=s.deep;omega) (by show s3.many=_;simp only[AA];push_cast;omega) (Rh nx hd hn q3) (by decide)
    have d3':s5.deep=s.deep:=d3
    obtain⟨d4,m4,k4⟩:=I.callL _ _ _ _ (by rw[d3];exact k3) h
    simp only at m3
    rw[d3']at d4 k4
    exact⟨d4,by omega,k4⟩
   ·cases h
    exact⟨rfl,rfl,hn⟩
  ·intro s ks s' h
   rw[CH]at h
   obtain⟨a,s1,ha,h⟩:=A0 h
   obtain⟨d1,m1,k1⟩:=I.expr _ _ _ ha
   split at h
   ·obtain⟨b,s2,hb,h⟩:=A0 h
    obtain⟨d2,m2,k2⟩:=I.args _ _ _ hb
    have e1:s1.step.deep=s.deep:=d1
    have e2:s1.step.many=s1.many:=rfl
    rw[e1]at d2 k2
    cases h
    refine⟨d2,by rw[B1];push_cast;omega,fun c hc=>?_⟩
    rcases List.mem_cons.1 hc with rfl | hc
    ·exact k1.nat
    ·exact k2 c hc
   ·cases h
    refine⟨d1,by rw[B1];simp only[AA];push_cast;omega,fun c hc=>?_⟩
    rcases List.mem_cons.1 hc with rfl | hc
    ·exact k1.nat
    ·cases hc
  ·intro s n s' h
   rw[Cc]at h
   split at h
   ·rename_i hi
    obtain⟨h1,h2⟩:=Ft hi
    obtain⟨h3,h4⟩:=(hS _ h1).2 h2
    exact D7 (s:=s) h rfl (by show s.many=s.many+0;omega) (Sp h3 h4) (by decide)
   ·split at h
    ·obtain⟨x,s1,hx,h⟩:=A0 h
     obtain⟨nx,rfl⟩:=Cn hS hx
     exact D7 (s:=s) h rfl (by show s.many=s.many+0;omega) (Rf nx) (by decide)
    ·split at h
     ·exact D7 (s:=s) h rfl (by show s.many=s.many+0;omega) (KI (Or.inl ⟨rfl,rfl⟩)) (by decide)
     ·split at h
      ·exact D7 (s:=s) h rfl (by show s.many=s.many+0;omega) (KI (Or.inr (Or.inl ⟨rfl,rfl⟩))) (by decide)
      ·split at h
       ·exact D7 (s:=s) h rfl (by show s.many=s.many+0;omega) (KI (Or.inr (Or.inr ⟨rfl,rfl⟩))) (by decide)
       ·split at h
        ·obtain⟨x,s1,hx,h⟩:=A0 h
         obtain⟨nx,rfl⟩:=Cn hS hx
         exact D7 (s:=s) h rfl (by show s.many=s.many+0;omega) (Sq nx) (by decide)
        ·obtain⟨u,s1,hu,h⟩:=A0 h
         obtain⟨rfl,hd⟩:=(BZ hu).1 (Or.inl rfl)
         obtain⟨a,s2,ha,h⟩:=A0 h
         obtain⟨d2,m2,k2⟩:=I.expr _ _ _ ha
         obtain⟨v,s3,hv,h⟩:=A0 h
         obtain rfl:=(BZ hv).2.1 (Or.inl rfl)
         cases h
         have e1:s.down.deep=s.deep+1:=rfl
         have e2:s.down.many=s.many:=rfl
         rw[e1]at d2 k2
         refine⟨by show s2.deep-1=s.deep;omega,by show s2.many=_;omega,Or.inr ⟨hd,k2.nat⟩⟩
end Go.Proofs.YtbglpanjpadldaaGreatDoor
