/- Texts in one. -/
import Derived.Test.YtibeadcfgcfdbaaGreatDoorMa
namespace Go.Proofs.YtibeadcfgcfdbaaGreatDoor
def Ar(S:Src9)(i:Nat)(l:List Tok):Prop:=i+l.length<=S.L.length/\∀j,j<l.length->(S.at (i+j)).1=(l.getD j (0,[],0)).1/\(S.at (i+j)).2.1=(l.getD j (0,[],0)).2.1
theorem AU{S:Src9}{i:Nat}{a b:List Tok}(h:Ar S i (a++b)):Ar S i a/\Ar S (i+a.length) b:=by
 obtain⟨h1,h2⟩:=h
 rw[Z1]at h1
 refine⟨⟨by omega,fun j hj=>?_⟩,⟨by omega,fun j hj=>?_⟩⟩
 ·have:=h2 j (by rw[Z1];omega)
  rwa [Z2,List.getElem?_append_left hj,<-Z2]at this
 ·have:=h2 (a.length+j) (by rw[Z1];omega)
  rw[Z2,List.getElem?_append_right (by omega),Nat.add_sub_cancel_left,<-Z2,<-Nat.add_assoc]at this
  exact this
theorem LZ{S:Src9}{i:Nat}{t:Tok}(h:Ar S i [t]):i<S.L.length/\(S.at i).1=t.1/\(S.at i).2.1=t.2.1:=by
 obtain⟨h1,h2⟩:=h
 have:=h2 0 (by simp)
 simp at this h1
 exact⟨by omega,this⟩
theorem Bp(x:List Int):(AB x).length=1:=rfl
theorem Et{S:Src9}{s:PS}{x:List Int}(h:Ar S s.tok (AB x)):s.tok<S.L.length/\((S.at s.tok).1=3\/(S.at s.tok).1=4)/\(S.at s.tok).2.1=x:=by
 obtain⟨h1,h2,h3⟩:=LZ h
 refine⟨h1,?_,h3⟩
 simp only at h2
 rw[h2]
 split
 ·exact Or.inl rfl
 ·exact Or.inr rfl
theorem AV{S:Src9}{s:PS}{x:List Int}(h:Ar S s.tok (AB x))(y:List Int):A1 S y s=(x==y):=by
 obtain⟨h1,h2,h3⟩:=Et h
 unfold A1
 rw[h3,decide_eq_true h1]
 rcases h2 with h2 | h2<;>rw[h2]<;>simp
theorem OZ{S:Src9}{s:PS}{x:List Int}(h:Ar S s.tok (AB x)):isB S 1 s=false/\isB S 2 s=false:=by
 obtain⟨h1,h2,h3⟩:=Et h
 unfold isB
 rcases h2 with h2 | h2<;>rw[h2]<;>simp
theorem Fc{S:Src9}{s:PS}{k:Int}{x:List Int}(h:Ar S s.tok [(k,x,0)])(hk:k=1\/k=2)(y:List Int):A1 S y s=false:=by
 obtain⟨h1,h2,h3⟩:=LZ h
 unfold A1
 simp only at h2
 rw[h2]
 rcases hk with rfl | rfl<;>simp
theorem IL{S:Src9}{s:PS}{k:Int}{x:List Int}(h:Ar S s.tok [(k,x,0)])(j:Int):isB S j s=(k==j)/\(S.at s.tok).2.1=x/\s.tok<S.L.length:=by
 obtain⟨h1,h2,h3⟩:=LZ h
 unfold isB
 simp only at h2 h3
 rw[h2,decide_eq_true h1]
 exact⟨by simp,h3,h1⟩
def PS.past(s:PS)(l:List Tok)(m:Nat):PS:=⟨s.tok+l.length,s.deep,s.many+(m:Int)⟩
theorem DW(s:PS)(a b:List Tok)(m k:Nat):(s.past a m).past b k=s.past (a++b) (m+k):=by
 unfold PS.past
 simp only[Z1,PS.mk.injEq]
 exact⟨by omega,trivial,by push_cast;omega⟩
theorem GQ(s:PS)(x:List Int):s.step=s.past (AB x) 0:=by
 unfold PS.step PS.past
 simp[AB]
theorem NQ(s:PS)(l:List Tok)(m:Nat):(s.past l m).node=s.past l (m+1):=by
 unfold PS.node PS.past
 simp only[PS.mk.injEq,true_and]
 push_cast;omega
theorem GR(s:PS):s.past [] 0=s:=by unfold PS.past;simp
def Stop(k:Nat)(S:Src9)(s:PS):Prop:=(k<=4->A1 S FP s=false)/\(k<=2->A1 S EQ s=false)/\(k<=1->A1 S Ez s=false/\A1 S B7 s=false)/\(k<=0->A1 S EX s=false/\A1 S EY s=false)
theorem Stop.mono{k k':Nat}{S:Src9}{s:PS}(h:Stop k S s)(hk:k<=k'):Stop k' S s:=⟨fun x=>h.1 (by omega),fun x=>h.2.1 (by omega),fun x=>h.2.2.1 (by omega),fun x=>h.2.2.2 (by omega)⟩
theorem GI{S:Src9}{s:PS}{x:List Int}{k:Nat}(h:Ar S s.tok (AB x))(h1:k<=4->x≠FP)(h2:k<=2->x≠EQ)(h3:k<=1->x≠Ez/\x≠B7)(h4:k<=0->x≠EX/\x≠EY):Stop k S s:=
 ⟨fun hk=>by rw[AV h];exact beq_eq_false_iff_ne.2 (h1 hk),fun hk=>by rw[AV h];exact beq_eq_false_iff_ne.2 (h2 hk),fun hk=>⟨by rw[AV h];exact beq_eq_false_iff_ne.2 (h3 hk).1,by rw[AV h];exact beq_eq_false_iff_ne.2 (h3 hk).2⟩,fun hk=>⟨by rw[AV h];exact beq_eq_false_iff_ne.2 (h4 hk).1,by rw[AV h];exact beq_eq_false_iff_ne.2 (h4 hk).2⟩⟩
def SJ(k:Nat)(S:Src9)(s:PS):Got Nd:=match k with
 | 0=>AR S s
 | 1=>Br S s
 | 2=>BT S s
 | 3=>Aw S s
 | 4=>E4 S s
 | _=>DB S s
def WP(k:Nat)(S:Src9)(n:Nd)(s:PS):Got Nd:=match k with
 | 1=>Dj S n s
 | 2=>DK S n s
 | _=>Cp S n s
def Cs(k:Nat)(d:Int)(n:Nd)(l:List Tok):Prop:=∀(S:Src9) (s:PS),s.deep<=d->Ar S s.tok l->Stop k S (s.past l (A4 n))->SJ k S s=.ok (n,s.past l (A4 n))
def Ef(k:Nat)(d:Int)(n:Nd)(l:List Tok):Prop:=∀(S:Src9) (s:PS),s.deep<=d->Ar S s.tok l->Stop (k+1) S (s.past l (A4 n))->SJ k S s=WP k S n (s.past l (A4 n))
theorem JZ{k:Nat}{d d':Int}{n:Nd}{l:List Tok}(h:Cs k d n l)(hd:d'<=d):Cs k d' n l:=fun S s hs=>h S s (by omega)
theorem K9{k:Nat}{d d':Int}{n:Nd}{l:List Tok}(h:Ef k d n l)(hd:d'<=d):Ef k d' n l:=fun S s hs=>h S s (by omega)
def KA(l:List Tok):Prop:=∀(S:Src9) (s:PS),Ar S s.tok l->A1 S B7 s=false/\A1 S Es s=false
theorem Eu{d:Int}{n:Nd}{l:List Tok}(h:Ef 1 d n l):Cs 1 d n l:=fun S s hs ht hp=>by
 rw[h S s hs ht (hp.mono (by omega))]
 show Dj S n _=_
 rw[Gw,if_neg (by rw[(hp.2.2.1 (by omega)).1];decide),if_neg (by rw[(hp.2.2.1 (by omega)).2];decide)]
theorem G6{d:Int}{n:Nd}{l:List Tok}(h:Ef 2 d n l):Cs 2 d n l:=fun S s hs ht hp=>by
 rw[h S s hs ht (hp.mono (by omega))]
 show DK S n _=_
 rw[Gx,if_neg (by rw[hp.2.1 (by omega)];decide)]
theorem L8{d:Int}{n:Nd}{l:List Tok}(h:Ef 4 d n l):Cs 4 d n l:=fun S s hs ht hp=>by
 rw[h S s hs ht (hp.mono (by omega))]
 show Cp S n _=_
 rw[Gy,if_neg (by rw[hp.1 (by omega)];decide)]
theorem Pp{d:Int}{n:Nd}{l:List Tok}(h:Cs 5 d n l):Ef 4 d n l:=fun S s hs ht hp=>by
 show E4 S s=_
 have e:DB S s=.ok (n,s.past l (A4 n)):=h S s hs ht hp
 rw[JK,e];rfl
theorem J5{d:Int}{n:Nd}{l:List Tok}(h:Cs 3 d n l):Ef 2 d n l:=fun S s hs ht hp=>by
 show BT S s=_
 have e:Aw S s=.ok (n,s.past l (A4 n)):=h S s hs ht hp
 rw[JJ,e];rfl
theorem Hd{d:Int}{n:Nd}{l:List Tok}(h:Cs 2 d n l):Ef 1 d n l:=fun S s hs ht hp=>by
 show Br S s=_
 have e:BT S s=.ok (n,s.past l (A4 n)):=h S s hs ht hp
 rw[K7,e];rfl
theorem NR{d:Int}{n:Nd}{l:List Tok}(h:Cs 4 d n l)(hp:KA l):Cs 3 d n l:=fun S s hs ht hst=>by
 show Aw S s=_
 obtain⟨p1,p2⟩:=hp S s ht
 rw[Fb,if_neg (by rw[p1];decide),if_neg (by rw[p2];decide)]
 exact h S s hs ht (hst.mono (by omega))
theorem Hm{d:Int}{n:Nd}{l:List Tok}(h:Cs 1 d n l):Cs 0 d n l:=fun S s hs ht hp=>by
 show AR S s=_
 have e:Br S s=.ok (n,s.past l (A4 n)):=h S s hs ht (hp.mono (by omega))
 rw[IK,e]
 show(if _ then _ else _)=_
 rw[if_neg (by rw[(hp.2.2.2 (by omega)).1];decide),if_neg (by rw[(hp.2.2.2 (by omega)).2];decide)]
structure Own9(d:Int)(n:Nd)(t:Nat)(l:List Tok):Prop where
 r5:5<=t->Cs 5 d n l
 g4:4<=t->Ef 4 d n l/\KA l
 r3:3<=t->Cs 3 d n l
 g2:2<=t->Ef 2 d n l
 g1:1<=t->Ef 1 d n l
 r0:Cs 0 d n l
theorem M3{d:Int}{n:Nd}{l:List Tok}(h:Cs 5 d n l)(hp:KA l):Own9 d n 5 l:=
 have g4:=Pp h
 have r3:=NR (L8 g4) hp
 have g2:=J5 r3
 have g1:=Hd (G6 g2)
 ⟨fun _=>h,fun _=>⟨g4,hp⟩,fun _=>r3,fun _=>g2,fun _=>g1,Hm (Eu g1)⟩
theorem WQ{d:Int}{n:Nd}{l:List Tok}(g4:Ef 4 d n l)(hp:KA l):Own9 d n 4 l:=
 have r3:=NR (L8 g4) hp
 have g2:=J5 r3
 have g1:=Hd (G6 g2)
 ⟨fun h=>(by omega),fun _=>⟨g4,hp⟩,fun _=>r3,fun _=>g2,fun _=>g1,Hm (Eu g1)⟩
theorem WR{d:Int}{n:Nd}{l:List Tok}(r3:Cs 3 d n l):Own9 d n 3 l:=
 have g2:=J5 r3
 have g1:=Hd (G6 g2)
 ⟨fun h=>(by omega),fun h=>(by omega),fun _=>r3,fun _=>g2,fun _=>g1,Hm (Eu g1)⟩
theorem WS{d:Int}{n:Nd}{l:List Tok}(g2:Ef 2 d n l):Own9 d n 2 l:=
 have g1:=Hd (G6 g2)
 ⟨fun h=>(by omega),fun h=>(by omega),fun h=>(by omega),fun _=>g2,fun _=>g1,Hm (Eu g1)⟩
theorem WT{d:Int}{n:Nd}{l:List Tok}(g1:Ef 1 d n l):Own9 d n 1 l:=
 ⟨fun h=>(by omega),fun h=>(by omega),fun h=>(by omega),fun h=>(by omega),fun _=>g1,Hm (Eu g1)⟩
theorem WU{d:Int}{n:Nd}{l:List Tok}(r0:Cs 0 d n l):Own9 d n 0 l:=
 ⟨fun h=>(by omega),fun h=>(by omega),fun h=>(by omega),fun h=>(by omega),fun h=>(by omega),r0⟩
theorem Own9.deep{d d':Int}{n:Nd}{t:Nat}{l:List Tok}(h:Own9 d n t l)(hd:d'<=d):Own9 d' n t l:=
 ⟨fun x=>JZ (h.r5 x) hd,fun x=>⟨K9 (h.g4 x).1 hd,(h.g4 x).2⟩,fun x=>JZ (h.r3 x) hd,fun x=>K9 (h.g2 x) hd,fun x=>K9 (h.g1 x) hd,JZ h.r0 hd⟩
def Nat9(d:Int)(n:Nd):Prop:=∃l,(∀F,2*A4 n<=F->Ax (F+1) 0 n=some l)/\Own9 d n (EC n.kind) l
def May9(k:Nat)(d:Int)(n:Nd):Prop:=(k<=EC n.kind/\Nat9 d n)\/(d+1<=20/\Nat9 (d+1) n)
theorem Nat9.deep{d d':Int}{n:Nd}(h:Nat9 d n)(hd:d'<=d):Nat9 d' n:=let ⟨l,h1,h2⟩:=h;⟨l,h1,h2.deep hd⟩
theorem Pq{F k:Nat}{n:Nd}(h:k<=EC n.kind):Ax (F+1) k n=Ax (F+1) 0 n:=by
 cases n with
 | mk kind x num ks=>
  have h':k<=EC kind:=h
  clear h
  conv=>lhs;unfold Ax;rw[if_neg (show ¬EC kind<k by omega)]
  conv=>rhs;unfold Ax;rw[if_neg (show ¬EC kind<0 by omega)]
theorem Ts{F k:Nat}{n:Nd}(h:EC n.kind<k):Ax (F+1) k n=Ad (some (AB AE)) (Ad (Ax F 0 n) (some (AB AC))):=by
 cases n with
 | mk kind x num ks=>
  have h':EC kind<k:=h
  conv=>lhs;unfold Ax
  rw[if_pos h']
theorem Vy{d:Int}{n:Nd}{l:List Tok}(hd:d+1<=20)(h:Cs 0 (d+1) n l):Cs 5 d n (AB AE++(l++AB AC))/\KA (AB AE++(l++AB AC)):=by
 refine⟨fun S s hs ht _=>?_,fun S s ht=>?_⟩
 ·obtain⟨t1,t2⟩:=AU ht
  obtain⟨t3,t4⟩:=AU t2
  show DB S s=_
  obtain⟨i1,i2⟩:=OZ t1
  have q:=AV t1
  rw[Ft,if_neg (by rw[i2];decide),if_neg (by rw[i1];decide),if_neg (by rw[q];decide),if_neg (by rw[q];decide),if_neg (by rw[q];decide),if_neg (by rw[q];decide)]
  have w1:A3 S AE s=.ok ((),⟨s.tok+1,s.deep+1,s.many⟩):=by
   unfold A3
   rw[if_pos (by rw[q];decide),if_pos (Or.inl rfl),if_neg (by omega)]
  rw[w1]
  show(AR S ⟨s.tok+1,s.deep+1,s.many⟩).then _=_
  have t4':Ar S (PS.past ⟨s.tok+1,s.deep+1,s.many⟩ l (A4 n)).tok (AB AC):=by
   show Ar S (s.tok+1+l.length) _
   have e:s.tok+(AB AE).length+l.length=s.tok+1+l.length:=rfl
   rw[<-e];exact t4
  have e1:AR S ⟨s.tok+1,s.deep+1,s.many⟩=.ok (n,PS.past ⟨s.tok+1,s.deep+1,s.many⟩ l (A4 n)):=
   h S ⟨s.tok+1,s.deep+1,s.many⟩ (by show s.deep+1<=d+1;omega) t3 (GI t4' (fun _=>by decide) (fun _=>by decide) (fun _=>⟨by decide,by decide⟩) (fun _=>⟨by decide,by decide⟩))
  rw[e1]
  show(A3 S AC _).then _=_
  have w2:A3 S AC (PS.past ⟨s.tok+1,s.deep+1,s.many⟩ l (A4 n))=.ok ((),⟨s.tok+1+l.length+1,s.deep,s.many+(A4 n:Int)⟩):=by
   unfold A3
   rw[if_pos (by rw[AV t4'];decide),if_neg (by decide),if_pos (Or.inl rfl)]
   show Except.ok ((),PS.mk (s.tok+1+l.length+1) (s.deep+1-1) _)=_
   rw[show s.deep+1-1=s.deep by omega]
   rfl
  rw[w2]
  show Except.ok (n,_)=Except.ok (n,_)
  congr 2
  unfold PS.past
  simp only[Z1,Bp,PS.mk.injEq,and_true]
  omega
 ·obtain⟨t1,_⟩:=AU ht
  exact⟨by rw[AV t1];decide,by rw[AV t1];decide⟩
theorem Eg{k:Nat}{d:Int}{n:Nd}(h:May9 k d n)(hk:k<=5):∃l t,(∀F,2*A4 n+1<=F->Ax (F+1) k n=some l)/\k<=t/\Own9 d n t l:=by
 by_cases ht:k<=EC n.kind
 ·have hn:Nat9 d n:=by
   rcases h with⟨_,h⟩ | ⟨_,h⟩
   ·exact h
   ·exact h.deep (by omega)
  obtain⟨l,h1,h2⟩:=hn
  exact⟨l,_,fun F hF=>by rw[Pq ht];exact h1 F (by omega),ht,h2⟩
 ·rcases h with⟨h,_⟩ | ⟨hd,h⟩
  ·exact absurd h ht
  ·obtain⟨l,h1,h2⟩:=h
   obtain⟨r5,hp⟩:=Vy hd h2.r0
   refine⟨_,5,fun F hF=>?_,hk,M3 r5 hp⟩
   obtain⟨G,rfl⟩:∃G,F=G+1:=⟨F-1,by omega⟩
   rw[Ts (by omega),h1 G (by omega)]
   rfl
theorem Oa{x y:List Int}:∀m,m<=x.length->Be (x++y) 0 m=Be x 0 m
 | 0,_=>rfl
 | m+1,h=>by
  unfold Be
  rw[Oa m (by omega)]
  have:wd (x++y) (0+m)=wd x (0+m):=by
   unfold wd
   rw[Z2,Z2,List.getElem?_append_left (by omega)]
  rw[this]
theorem SK(x:List Int)(b:Int):Dn (x++[b])=10*Dn x+(b-48):=by
 unfold Dn
 rw[Z1]
 show 10*Be (x++[b]) 0 x.length+(wd (x++[b]) (0+x.length)-48)=_
 rw[Oa _ (Z0 _)]
 have:wd (x++[b]) (0+x.length)=b:=by
  unfold wd
  rw[Z2,List.getElem?_append_right (by omega)]
  simp
 rw[this]
theorem M4:∀(m n:Nat),n<10 ^ m->0<m->Dn (Km m n)=(n:Int)
 | 0,n,_,h=>by omega
 | m+1,n,h,_=>by
  unfold Km
  split
  ·rename_i h9
   have hm:0<m:=by
    cases m with
    | zero=>omega
    | succ m=>omega
   rw[SK,M4 m (n / 10) (by rw[Nat.pow_succ]at h;omega) hm]
   omega
  ·show 10*(0:Int)+((48+(n:Int))-48)=_
   omega
theorem Pr{n:Int}(h0:0<=n)(h1:n<=1073741823):Dn (JV n)=n:=by
 unfold JV
 rw[M4 20 n.toNat (Nat.lt_of_le_of_lt (show n.toNat<=1073741823 by omega) (by decide)) (by decide)]
 omega
theorem As{S:Src9}{s:PS}{x:List Int}(h:Ar S s.tok (AB x)):A1 S x s=true:=by rw[AV h];exact beq_self_eq_true _
theorem E9(k:Int)(x:List Int)(m:Int)(a b:Nd):A4 (.mk k x m [a,b])=1+(A4 a+A4 b):=rfl
theorem Dq(k:Int)(x:List Int)(m:Int)(a:Nd):A4 (.mk k x m [a])=1+A4 a:=rfl
theorem Hn(k:Int)(x:List Int)(m:Int):A4 (.mk k x m [])=1:=rfl
theorem La{S:Src9}{s:PS}{la lb:List Tok}{x:List Int}(a b:Nat)(h:Ar S s.tok (la++(AB x++lb))) :
  Ar S s.tok la/\Ar S (s.past la a).tok (AB x)/\Ar S (s.past la a).step.tok lb/\(((s.past la a).step).past lb b).node=s.past (la++(AB x++lb)) (1+(a+b)):=by
 obtain⟨h1,h2⟩:=AU h
 obtain⟨h3,h4⟩:=AU h2
 refine⟨h1,h3,h4,?_⟩
 unfold PS.past PS.step PS.node
 simp only[Z1,Bp,PS.mk.injEq,true_and]
 exact⟨by omega,by push_cast;omega⟩
theorem Ii{k:Nat}{S:Src9}{s:PS}(h:Stop k S s.node):Stop k S s:=h
theorem Qb{d:Int}{a b:Nd}{k:Int}{x:List Int}(hk:(k=18/\x=EX)\/(k=19/\x=EY))(ha:May9 1 d a)(hb:May9 1 d b):Nat9 d (.mk k [] 0 [a,b]):=by
 obtain⟨la,ta,wa,hta,oa⟩:=Eg ha (by omega)
 obtain⟨lb,tb,wb,htb,ob⟩:=Eg hb (by omega)
 refine⟨la++(AB x++lb),fun F hF=>?_,?_⟩
 ·rw[E9]at hF
  obtain⟨G,rfl⟩:∃G,F=G+1:=⟨F-1,by omega⟩
  have e1:=wa G (by omega)
  have e2:=wb G (by omega)
  rcases hk with⟨rfl,rfl⟩ | ⟨rfl,rfl⟩
  ·conv=>lhs;unfold Ax
   rw[if_neg (by decide),if_pos rfl]
   show Ad (Ax (G+1) 1 a) (Ad _ (Ax (G+1) 1 b))=_
   rw[e1,e2];rfl
  ·conv=>lhs;unfold Ax
   rw[if_neg (by decide),if_neg (by decide),if_pos rfl]
   show Ad (Ax (G+1) 1 a) (Ad _ (Ax (G+1) 1 b))=_
   rw[e1,e2];rfl
 ·have ht:EC (Nd.mk k [] 0 [a,b]).kind=0:=by rcases hk with⟨rfl,rfl⟩ | ⟨rfl,rfl⟩<;>rfl
  rw[ht]
  refine WU fun S s hs htk hst=>?_
  obtain⟨t1,t2,t3,e⟩:=La (A4 a) (A4 b) htk
  rw[E9]at hst⊢
  rw[<-e]at hst⊢
  show AR S s=_
  have r1:Br S s=.ok (a,s.past la (A4 a)):=Eu (oa.g1 hta) S s hs t1 (by rcases hk with⟨_,rfl⟩ | ⟨_,rfl⟩<;>exact GI t2 (fun _=>by decide) (fun _=>by decide) (fun _=>⟨by decide,by decide⟩) (fun h=>absurd h (by decide)))
  have r2:Br S (s.past la (A4 a)).step=.ok (b,(s.past la (A4 a)).step.past lb (A4 b)):=Eu (ob.g1 htb) S (s.past la (A4 a)).step hs t3 ((Ii hst).mono (by omega))
  rw[IK,r1]
  show(if _ then _ else _)=_
  rcases hk with⟨rfl,rfl⟩ | ⟨rfl,rfl⟩
  ·rw[if_pos (As t2),r2];rfl
  ·rw[if_neg (by rw[AV t2];decide),if_pos (As t2),r2];rfl
theorem Qc{d:Int}{a b:Nd}{k:Int}{x:List Int}(hk:(k=20/\x=Ez)\/(k=21/\x=B7))(ha:May9 1 d a)(hb:May9 2 d b):Nat9 d (.mk k [] 0 [a,b]):=by
 obtain⟨la,ta,wa,hta,oa⟩:=Eg ha (by omega)
 obtain⟨lb,tb,wb,htb,ob⟩:=Eg hb (by omega)
 refine⟨la++(AB x++lb),fun F hF=>?_,?_⟩
 ·rw[E9]at hF
  obtain⟨G,rfl⟩:∃G,F=G+1:=⟨F-1,by omega⟩
  have e1:=wa G (by omega)
  have e2:=wb G (by omega)
  rcases hk with⟨rfl,rfl⟩ | ⟨rfl,rfl⟩
  ·conv=>lhs;unfold Ax
   rw[if_neg (by decide),if_neg (by decide),if_neg (by decide),if_pos rfl]
   show Ad (Ax (G+1) 1 a) (Ad _ (Ax (G+1) 2 b))=_
   rw[e1,e2];rfl
  ·conv=>lhs;unfold Ax
   rw[if_neg (by decide),if_neg (by decide),if_neg (by decide),if_neg (by decide),if_pos rfl]
   show Ad (Ax (G+1) 1 a) (Ad _ (Ax (G+1) 2 b))=_
   rw[e1,e2];rfl
 ·have ht:EC (Nd.mk k [] 0 [a,b]).kind=1:=by rcases hk with⟨rfl,rfl⟩ | ⟨rfl,rfl⟩<;>rfl
  rw[ht]
  refine WT fun S s hs htk hst=>?_
  obtain⟨t1,t2,t3,e⟩:=La (A4 a) (A4 b) htk
  rw[E9]at hst⊢
  rw[<-e]at hst⊢
  show Br S s=Dj S _ _
  have r1:Br S s=Dj S a (s.past la (A4 a)):=oa.g1 hta S s hs t1 (by rcases hk with⟨_,rfl⟩ | ⟨_,rfl⟩<;>exact GI t2 (fun _=>by decide) (fun _=>by decide) (fun h=>absurd h (by decide)) (fun h=>absurd h (by decide)))
  have r2:BT S (s.past la (A4 a)).step=.ok (b,(s.past la (A4 a)).step.past lb (A4 b)):=G6 (ob.g2 htb) S (s.past la (A4 a)).step hs t3 (Ii hst)
  rw[r1,Gw]
  rcases hk with⟨rfl,rfl⟩ | ⟨rfl,rfl⟩
  ·rw[if_pos (As t2),r2];rfl
  ·rw[if_neg (by rw[AV t2];decide),if_pos (As t2),r2];rfl
theorem VQ{d:Int}{a b:Nd}(ha:May9 2 d a)(hb:May9 3 d b):Nat9 d (.mk 22 [] 0 [a,b]):=by
 obtain⟨la,ta,wa,hta,oa⟩:=Eg ha (by omega)
 obtain⟨lb,tb,wb,htb,ob⟩:=Eg hb (by omega)
 refine⟨la++(AB EQ++lb),fun F hF=>?_,?_⟩
 ·rw[E9]at hF
  obtain⟨G,rfl⟩:∃G,F=G+1:=⟨F-1,by omega⟩
  have e1:=wa G (by omega)
  have e2:=wb G (by omega)
  conv=>lhs;unfold Ax
  rw[if_neg (by decide),if_neg (by decide),if_neg (by decide),if_neg (by decide),if_neg (by decide),if_pos rfl]
  show Ad (Ax (G+1) 2 a) (Ad _ (Ax (G+1) 3 b))=_
  rw[e1,e2];rfl
 ·show Own9 d _ 2 _
  refine WS fun S s hs htk hst=>?_
  obtain⟨t1,t2,t3,e⟩:=La (A4 a) (A4 b) htk
  rw[E9]at hst⊢
  rw[<-e]at hst⊢
  show BT S s=DK S _ _
  have r1:BT S s=DK S a (s.past la (A4 a)):=oa.g2 hta S s hs t1 (GI t2 (fun _=>by decide) (fun h=>absurd h (by decide)) (fun h=>absurd h (by decide)) (fun h=>absurd h (by decide)))
  have r2:Aw S (s.past la (A4 a)).step=.ok (b,(s.past la (A4 a)).step.past lb (A4 b)):=ob.r3 htb S (s.past la (A4 a)).step hs t3 (Ii hst)
  rw[r1,Gx,if_pos (As t2),r2];rfl
theorem SL{d:Int}{a:Nd}{k:Int}{x:List Int}(hk:(k=23/\x=B7)\/(k=24/\x=Es))(ha:May9 3 d a):Nat9 d (.mk k [] 0 [a]):=by
 obtain⟨la,ta,wa,hta,oa⟩:=Eg ha (by omega)
 refine⟨AB x++la,fun F hF=>?_,?_⟩
 ·rw[Dq]at hF
  obtain⟨G,rfl⟩:∃G,F=G+1:=⟨F-1,by omega⟩
  have e1:=wa G (by omega)
  rcases hk with⟨rfl,rfl⟩ | ⟨rfl,rfl⟩
  ·conv=>lhs;unfold Ax
   rw[if_neg (by decide),if_neg (by decide),if_neg (by decide),if_neg (by decide),if_neg (by decide),if_neg (by decide),if_pos rfl]
   show Ad _ (Ax (G+1) 3 a)=_
   rw[e1];rfl
  ·conv=>lhs;unfold Ax
   rw[if_neg (by decide),if_neg (by decide),if_neg (by decide),if_neg (by decide),if_neg (by decide),if_neg (by decide),if_neg (by decide),if_pos rfl]
   show Ad _ (Ax (G+1) 3 a)=_
   rw[e1];rfl
 ·have ht:EC (Nd.mk k [] 0 [a]).kind=3:=by rcases hk with⟨rfl,rfl⟩ | ⟨rfl,rfl⟩<;>rfl
  rw[ht]
  refine WR fun S s hs htk hst=>?_
  obtain⟨t1,t2⟩:=AU htk
  have e:(s.step.past la (A4 a)).node=s.past (AB x++la) (1+A4 a):=by
   unfold PS.past PS.step PS.node
   simp only[Z1,Bp,PS.mk.injEq,true_and]
   exact⟨by omega,by push_cast;omega⟩
  rw[Dq]at hst⊢
  rw[<-e]at hst⊢
  show Aw S s=_
  have r2:Aw S s.step=.ok (a,s.step.past la (A4 a)):=oa.r3 hta S s.step hs t2 (Ii hst)
  rw[Fb]
  rcases hk with⟨rfl,rfl⟩ | ⟨rfl,rfl⟩
  ·rw[if_pos (As t1),r2];rfl
  ·rw[if_neg (by rw[AV t1];decide),if_pos (As t1),r2];rfl
theorem VR{d m:Int}(h0:0<=m)(h1:m<=1073741823):Nat9 d (.mk 26 [] m []):=by
 refine⟨[(2,JV m,0)],fun F hF=>?_,?_⟩
 ·conv=>lhs;unfold Ax
  rw[if_neg (by decide),if_neg (by decide),if_neg (by decide),if_neg (by decide),if_neg (by decide),if_neg (by decide),if_neg (by decide),if_neg (by decide),if_neg (by decide),if_pos rfl]
  unfold Vu
  rw[if_pos ⟨h0,h1⟩]
 ·refine M3 (fun S s hs ht _=>?_) (fun S s ht=>⟨Fc ht (Or.inr rfl) _,Fc ht (Or.inr rfl) _⟩)
  show DB S s=_
  obtain⟨k1,k2,_⟩:=IL ht 2
  rw[Ft,if_pos (by rw[k1];rfl),k2,Pr h0 h1]
  rfl
theorem Tt{d:Int}{x:List Int}(h:C8 x=true):Nat9 d (.mk 31 x 0 []):=by
 refine⟨[(1,x,0)],fun F hF=>?_,?_⟩
 ·conv=>lhs;unfold Ax
  rw[if_neg (by decide),if_neg (by decide),if_neg (by decide),if_neg (by decide),if_neg (by decide),if_neg (by decide),if_neg (by decide),if_neg (by decide),if_neg (by decide),if_neg (by decide),if_neg (by decide),if_neg (by decide),if_neg (by decide),if_neg (by decide),if_pos rfl]
  unfold D1
  rw[if_pos h]
 ·refine M3 (fun S s hs ht _=>?_) (fun S s ht=>⟨Fc ht (Or.inl rfl) _,Fc ht (Or.inl rfl) _⟩)
  show DB S s=_
  obtain⟨k1,k2,_⟩:=IL ht 1
  rw[Ft,if_neg (by rw[(IL ht 2).1];decide),if_pos (by rw[k1];rfl)]
  unfold AW
  rw[if_pos (by rw[k1];rfl),k2]
  rfl
theorem Lb{d:Int}{k:Int}{x:List Int}(hk:(k=27/\x=D8)\/(k=28/\x=Cu)\/(k=29/\x=DQ)):Nat9 d (.mk k [] 0 []):=by
 refine⟨AB x,fun F hF=>?_,?_⟩
 ·rcases hk with⟨rfl,rfl⟩ | ⟨rfl,rfl⟩ | ⟨rfl,rfl⟩
  ·conv=>lhs;unfold Ax
   rw[if_neg (by decide),if_neg (by decide),if_neg (by decide),if_neg (by decide),if_neg (by decide),if_neg (by decide),if_neg (by decide),if_neg (by decide),if_neg (by decide),if_neg (by decide),if_pos rfl]
  ·conv=>lhs;unfold Ax
   rw[if_neg (by decide),if_neg (by decide),if_neg (by decide),if_neg (by decide),if_neg (by decide),if_neg (by decide),if_neg (by decide),if_neg (by decide),if_neg (by decide),if_neg (by decide),if_neg (by decide),if_pos rfl]
  ·conv=>lhs;unfold Ax
   rw[if_neg (by decide),if_neg (by decide),if_neg (by decide),if_neg (by decide),if_neg (by decide),if_neg (by decide),if_neg (by decide),if_neg (by decide),if_neg (by decide),if_neg (by decide),if_neg (by decide),if_neg (by decide),if_pos rfl]
 ·have ht:EC (Nd.mk k [] 0 []).kind=5:=by rcases hk with⟨rfl,rfl⟩ | ⟨rfl,rfl⟩ | ⟨rfl,rfl⟩<;>rfl
  rw[ht]
  refine M3 (fun S s hs ht _=>?_) (fun S s ht=>?_)
  ·show DB S s=_
   obtain⟨i1,i2⟩:=OZ ht
   rw[Ft,if_neg (by rw[i2];decide),if_neg (by rw[i1];decide)]
   rcases hk with⟨rfl,rfl⟩ | ⟨rfl,rfl⟩ | ⟨rfl,rfl⟩
   ·rw[if_pos (As ht)];rfl
   ·rw[if_neg (by rw[AV ht];decide),if_pos (As ht)];rfl
   ·rw[if_neg (by rw[AV ht];decide),if_neg (by rw[AV ht];decide),if_pos (As ht)];rfl
  ·rw[AV ht,AV ht]
   rcases hk with⟨rfl,rfl⟩ | ⟨rfl,rfl⟩ | ⟨rfl,rfl⟩<;>exact⟨by decide,by decide⟩
theorem VS{d:Int}{x:List Int}(h:C8 x=true):Nat9 d (.mk 30 x 0 []):=by
 refine⟨AB F2++[(1,x,0)],fun F hF=>?_,?_⟩
 ·conv=>lhs;unfold Ax
  rw[if_neg (by decide),if_neg (by decide),if_neg (by decide),if_neg (by decide),if_neg (by decide),if_neg (by decide),if_neg (by decide),if_neg (by decide),if_neg (by decide),if_neg (by decide),if_neg (by decide),if_neg (by decide),if_neg (by decide),if_pos rfl]
  unfold D1
  rw[if_pos h]
  rfl
 ·refine M3 (fun S s hs ht _=>?_) (fun S s ht=>?_)
  ·show DB S s=_
   obtain⟨t1,t2⟩:=AU ht
   obtain⟨i1,i2⟩:=OZ t1
   obtain⟨k1,k2,_⟩:=IL (s:=s.step) t2 1
   rw[Ft,if_neg (by rw[i2];decide),if_neg (by rw[i1];decide),if_neg (by rw[AV t1];decide),if_neg (by rw[AV t1];decide),if_neg (by rw[AV t1];decide),if_pos (As t1)]
   unfold AW
   rw[if_pos (by rw[k1];rfl),k2]
   rfl
  ·obtain⟨t1,t2⟩:=AU ht
   exact⟨by rw[AV t1];decide,by rw[AV t1];decide⟩
theorem KB{S:Src9}{s:PS}{x:List Int}(h:A1 S x s=true):(∀y,A1 S y s=(x==y))/\isB S 1 s=false/\isB S 2 s=false:=by
 unfold A1 at h
 simp only[Bool.and_eq_true,Bool.or_eq_true,beq_iff_eq,decide_eq_true_eq]at h
 obtain⟨h1,h2,h3⟩:=h
 refine⟨fun y=>?_,?_,?_⟩
 ·unfold A1
  rw[h2,decide_eq_true h1]
  rcases h3 with h3 | h3<;>rw[h3]<;>simp
 ·unfold isB
  rcases h3 with h3 | h3<;>rw[h3]<;>simp
 ·unfold isB
  rcases h3 with h3 | h3<;>rw[h3]<;>simp
theorem Ob{S:Src9}{s:PS}{x:List Int}(h:A1 S x s=true)(hx:x≠B7/\x≠Es/\x≠D8/\x≠Cu/\x≠DQ/\x≠F2/\x≠AE):AR S s=C7 S 12 s:=by
 obtain⟨h1,h2,h3⟩:=KB h
 have n:∀y,x≠y->¬A1 S y s=true:=fun y hy=>by rw[h1,beq_eq_false_iff_ne.2 hy];decide
 obtain⟨x1,x2,x3,x4,x5,x6,x7⟩:=hx
 have e:DB S s=C7 S 12 s:=by
  rw[Ft,if_neg (by rw[h3];decide),if_neg (by rw[h2];decide),if_neg (n _ x3),if_neg (n _ x4),if_neg (n _ x5),if_neg (n _ x6)]
  unfold A3
  rw[if_neg (n _ x7)]
  rfl
 have e2:E4 S s=C7 S 12 s:=by rw[JK,e];rfl
 have e3:Aw S s=C7 S 12 s:=by rw[Fb,if_neg (n _ x1),if_neg (n _ x2),e2]
 have e4:BT S s=C7 S 12 s:=by rw[JJ,e3];rfl
 have e5:Br S s=C7 S 12 s:=by rw[K7,e4];rfl
 rw[IK,e5];rfl
theorem Lc{S:Src9}{s:PS}{x:List Int}{n:Nd}{s1:PS}(he:AR S s=.ok (n,s1))(hx:x≠B7/\x≠Es/\x≠D8/\x≠Cu/\x≠DQ/\x≠F2/\x≠AE):A1 S x s=false:=by
 cases h:A1 S x s with
 | false=>rfl
 | true=>rw[Ob h hx]at he;cases he
theorem FG{S:Src9}{s:PS}{x:List Int}(h:Ar S s.tok (AB x))(h1:¬(x=AE\/x=Ao))(h2:¬(x=AC\/x=Av)):A3 S x s=.ok ((),s.step):=by
 unfold A3
 rw[if_pos (As h),if_neg h1,if_neg h2]
def PS.down(s:PS):PS:=⟨s.tok+1,s.deep+1,s.many⟩
def PS.up(s:PS):PS:=⟨s.tok+1,s.deep-1,s.many⟩
theorem GT{S:Src9}{s:PS}{x:List Int}(h:Ar S s.tok (AB x))(h1:x=AE\/x=Ao)(hd:s.deep+1<=20):A3 S x s=.ok ((),s.down):=by
 unfold A3
 rw[if_pos (As h),if_pos h1,if_neg (by omega)]
 rfl
theorem IM{S:Src9}{s:PS}{x:List Int}(h:Ar S s.tok (AB x))(h1:x=AC\/x=Av):A3 S x s=.ok ((),s.up):=by
 unfold A3
 rw[if_pos (As h),if_neg (by rcases h1 with rfl | rfl<;>decide),if_pos h1]
 rfl
theorem Eh{S:Src9}{s:PS}{x:List Int}(h:Ar S s.tok [(1,x,0)]):AW S s=.ok (x,s.step):=by
 obtain⟨k1,k2,_⟩:=IL h 1
 unfold AW
 rw[if_pos (by rw[k1];rfl),k2]
theorem BG(a:Nd)(ks:List Nd):A5 (a::ks)=A4 a+A5 ks:=rfl
theorem L9{e:Int}:∀(ks:List Nd) (b:Nd),(∀c∈b::ks,Nat9 e c)->∃l,(∀F,2*A5 (b::ks)<=F->G5 ((b::ks).map (Ax (F+1) 0))=some l)/\(∀(S:Src9) (s:PS),s.deep<=e->Ar S s.tok l->Ar S (s.past l (A5 (b::ks))).tok (AB AC)->E5 S s=.ok (b::ks,s.past l (A5 (b::ks)))/\A1 S AC s=false)
 | [],b,h=>by
  obtain⟨l,w,o⟩:=h b (Z7 ..)
  refine⟨l,fun F hF=>?_,fun S s hs ht hc=>?_⟩
  ·show Ax (F+1) 0 b=_
   rw[BG]at hF
   exact w F (by omega)
  ·have es:A5 [b]=A4 b:=by rw[BG];rfl
   rw[es]at hc⊢
   have r:AR S s=.ok (b,s.past l (A4 b)):=o.r0 S s hs ht (GI hc (fun _=>by decide) (fun _=>by decide) (fun _=>⟨by decide,by decide⟩) (fun _=>⟨by decide,by decide⟩))
   refine⟨?_,Lc r (by decide)⟩
   rw[Kn,r]
   show(if _ then _ else _)=_
   rw[if_neg (by rw[AV hc];decide)]
 | c::ks,b,h=>by
  obtain⟨l,w,o⟩:=h b (Z7 ..)
  obtain⟨l2,w2,o2⟩:=L9 ks c fun x hx=>h x (Z8 _ hx)
  refine⟨l++(AB Al++l2),fun F hF=>?_,fun S s hs ht hc=>?_⟩
  ·show Ad (Ax (F+1) 0 b) (Ad (some (AB Al)) (G5 ((c::ks).map (Ax (F+1) 0))))=_
   rw[BG]at hF
   rw[w F (by omega),w2 F (by omega)]
   rfl
  ·rw[BG]at hc⊢
   obtain⟨t1,t2⟩:=AU ht
   obtain⟨t3,t4⟩:=AU t2
   have hc':Ar S (s.past l (A4 b)).tok (AB Al):=t3
   have r:AR S s=.ok (b,s.past l (A4 b)):=o.r0 S s hs t1 (GI hc' (fun _=>by decide) (fun _=>by decide) (fun _=>⟨by decide,by decide⟩) (fun _=>⟨by decide,by decide⟩))
   have e:(s.past l (A4 b)).step.past l2 (A5 (c::ks))=s.past (l++(AB Al++l2)) (A4 b+A5 (c::ks)):=by rw[GQ _ Al,DW,DW,Nat.zero_add]
   rw[<-e]at hc
   obtain⟨r2,_⟩:=o2 S (s.past l (A4 b)).step hs t4 hc
   refine⟨?_,Lc r (by decide)⟩
   rw[Kn,r]
   show(if _ then _ else _)=_
   rw[if_pos (As hc'),r2,e]
   rfl
theorem Tu{e:Int}(ks:List Nd)(h:∀c∈ks,Nat9 e c):∃l,(∀F,2*A5 ks<=F->G5 (ks.map (Ax (F+1) 0))=some l)/\(∀(S:Src9) (s:PS),s.deep<=e->Ar S s.tok l->Ar S (s.past l (A5 ks)).tok (AB AC)->(if A1 S AC s=true then Except.ok ([],s)else E5 S s)=.ok (ks,s.past l (A5 ks))):=by
 cases ks with
 | nil=>
  refine⟨[],fun F _=>rfl,fun S s _ _ hc=>?_⟩
  rw[show s.past [] (A5 [])=s from GR s]at hc⊢
  rw[if_pos (As hc)]
 | cons b ks=>
  obtain⟨l,w,o⟩:=L9 ks b h
  refine⟨l,w,fun S s hs ht hc=>?_⟩
  obtain⟨o1,o2⟩:=o S s hs ht hc
  rw[if_neg (by rw[o2];decide),o1]
theorem Tv{d:Int}{a:Nd}{x:List Int}{ks:List Nd}(hx:C8 x=true)(hd:d+1<=20)(ha:May9 4 d a)(hk:∀c∈ks,Nat9 (d+1) c):Nat9 d (.mk 25 x 0 (a::ks)):=by
 obtain⟨la,ta,wa,hta,oa⟩:=Eg ha (by omega)
 obtain⟨lk,wk,ok⟩:=Tu ks hk
 obtain⟨ga,pa⟩:=oa.g4 hta
 have hsz:A4 (.mk 25 x 0 (a::ks))=1+(A4 a+A5 ks):=rfl
 refine⟨la++(AB FP++([(1,x,0)]++(AB AE++(lk++AB AC)))),fun F hF=>?_,?_⟩
 ·rw[hsz]at hF
  obtain⟨G,rfl⟩:∃G,F=G+1:=⟨F-1,by omega⟩
  have e1:=wa G (by omega)
  have e2:=wk G (by omega)
  conv=>lhs;unfold Ax
  rw[if_neg (by decide),if_neg (by decide),if_neg (by decide),if_neg (by decide),if_neg (by decide),if_neg (by decide),if_neg (by decide),if_neg (by decide),if_pos rfl]
  show Ad (Ax (G+1) 4 a) (Ad _ (Ad (D1 x) (Ad _ (Ad (G5 (ks.map (Ax (G+1) 0))) _))))=_
  rw[e1,e2]
  unfold D1
  rw[if_pos hx]
  rfl
 ·show Own9 d _ 4 _
  refine WQ (fun S s hs htk hst=>?_) fun S s ht=>pa S s (AU ht).1
  obtain⟨t1,t'⟩:=AU htk
  obtain⟨t2,t'⟩:=AU t'
  obtain⟨t3,t'⟩:=AU t'
  obtain⟨t4,t'⟩:=AU t'
  obtain⟨t5,t6⟩:=AU t'
  show E4 S s=Cp S _ _
  have r1:E4 S s=Cp S a (s.past la (A4 a)):=ga S s hs t1 ⟨fun h=>absurd h (by decide),fun h=>absurd h (by decide),fun h=>absurd h (by decide),fun h=>absurd h (by decide)⟩
  have t2':Ar S (s.past la (A4 a)).tok (AB FP):=t2
  have t3':Ar S (s.past la (A4 a)).step.tok [(1,x,0)]:=t3
  have t4':Ar S (s.past la (A4 a)).step.step.tok (AB AE):=t4
  have t5':Ar S (s.past la (A4 a)).step.step.down.tok lk:=t5
  have t6':Ar S ((s.past la (A4 a)).step.step.down.past lk (A5 ks)).tok (AB AC):=t6
  have hdeep:(s.past la (A4 a)).step.step.deep=s.deep:=rfl
  rw[r1,Gy,if_pos (As t2'),Eh t3']
  show((A3 S AE (s.past la (A4 a)).step.step).then _)=_
  rw[GT t4' (Or.inl rfl) (by rw[hdeep];omega)]
  show Got.then (if A1 S AC (s.past la (A4 a)).step.step.down=true then Except.ok ([],_)else E5 S _) _=_
  rw[ok S _ (show s.deep+1<=d+1 by omega) t5' t6']
  show((A3 S AC ((s.past la (A4 a)).step.step.down.past lk (A5 ks))).then _)=_
  rw[IM t6' (Or.inl rfl)]
  show Cp S (.mk 25 x 0 (a::ks)) _=_
  congr 1
  rw[hsz]
  unfold PS.up PS.down PS.past PS.step PS.node
  simp only[Z1,Bp,List.length_singleton,PS.mk.injEq]
  exact⟨by omega,by omega,by push_cast;omega⟩
def Src9.good(S:Src9):Prop:=∀i,i<S.L.length->((S.at i).1=1->C8 (S.at i).2.1=true)/\((S.at i).1=2->0<=Dn (S.at i).2.1/\Dn (S.at i).2.1<=1073741823)
theorem A6{α β:Type}{g:Got α}{F:α->PS->Got β}{b:β}{s':PS}(h:g.then F=.ok (b,s')):∃a s1,g=.ok (a,s1)/\F a s1=.ok (b,s'):=by
 cases g with
 | error e=>exact absurd h (by intro h;cases h)
 | ok p=>obtain⟨a,s1⟩:=p;exact⟨a,s1,rfl,h⟩
theorem JN{S:Src9}{k:Int}{s:PS}(h:isB S k s=true):s.tok<S.L.length/\(S.at s.tok).1=k:=by
 unfold isB at h
 simp only[Bool.and_eq_true,beq_iff_eq,decide_eq_true_eq]at h
 exact h
theorem Dc{S:Src9}(hS:S.good){s s1:PS}{x:List Int}(h:AW S s=.ok (x,s1)):C8 x=true/\s1=s.step:=by
 unfold AW at h
 split at h
 ·rename_i hi
  obtain⟨h1,h2⟩:=JN hi
  cases h
  exact⟨(hS _ h1).1 h2,rfl⟩
 ·cases h
theorem Bx{S:Src9}{s s1:PS}{x:List Int}{u:Unit}(h:A3 S x s=.ok (u,s1)):((x=AE\/x=Ao)->s1=s.down/\s.deep+1<=20)/\((x=AC\/x=Av)->s1=s.up)/\(¬(x=AE\/x=Ao)->¬(x=AC\/x=Av)->s1=s.step):=by
 unfold A3 at h
 split at h
 ·split at h
  ·rename_i ho
   split at h
   ·cases h
   ·cases h
    exact⟨fun _=>⟨rfl,by omega⟩,fun hc=>absurd hc (by rcases ho with rfl | rfl<;>decide),fun hn=>absurd ho hn⟩
  ·rename_i ho
   split at h
   ·rename_i hc
    cases h
    exact⟨fun h=>absurd h ho,fun _=>rfl,fun _ hn=>absurd hc hn⟩
   ·rename_i hc
    cases h
    exact⟨fun h=>absurd h ho,fun h=>absurd h hc,fun _ _=>rfl⟩
 ·cases h
theorem VT{k:Nat}{d:Int}{n:Nd}(h:Nat9 d n)(hk:k<=EC n.kind):May9 k d n:=Or.inl ⟨hk,h⟩
theorem May9.less{k k':Nat}{d:Int}{n:Nd}(h:May9 k d n)(hk:k'<=k):May9 k' d n:=by
 rcases h with⟨h1,h2⟩ | h
 ·exact Or.inl ⟨by omega,h2⟩
 ·exact Or.inr h
theorem May9.nat{k:Nat}{d:Int}{n:Nd}(h:May9 k d n):Nat9 d n:=by
 rcases h with⟨_,h⟩ | ⟨_,h⟩
 ·exact h
 ·exact h.deep (by omega)
def Rd9(k:Nat)(s:PS)(n:Nd)(s':PS):Prop:=s'.deep=s.deep/\s'.many=s.many+(A4 n:Int)/\May9 k s.deep n
def Lp(k:Nat)(s:PS)(n:Nd)(m:Nd)(s':PS):Prop:=s'.deep=s.deep/\s'.many+(A4 n:Int)=s.many+(A4 m:Int)/\May9 k s.deep m
theorem Rd9.less{k k':Nat}{s s':PS}{n:Nd}(h:Rd9 k s n s')(hk:k'<=k):Rd9 k' s n s':=⟨h.1,h.2.1,h.2.2.less hk⟩
theorem Lp.rd{k:Nat}{s s1 s':PS}{n m:Nd}(h1:s1.deep=s.deep)(h2:s1.many=s.many+(A4 n:Int))(h:Lp k s1 n m s'):Rd9 k s m s':=by
 obtain⟨a,b,c⟩:=h
 rw[h1]at a c
 exact⟨a,by omega,c⟩
theorem E6{k:Nat}{s s1 s':PS}{kind num:Int}{x:List Int}{ks:List Nd}{n:Nd}(h:AD kind x num ks s1=.ok (n,s'))(h1:s1.deep=s.deep)(h2:s1.many=s.many+(A5 ks:Int))(h3:Nat9 s.deep (.mk kind x num ks))(hk:k<=EC kind):Rd9 k s n s':=by
 cases h
 refine⟨h1,?_,VT h3 hk⟩
 have e:A4 (.mk kind x num ks)=1+A5 ks:=by conv=>lhs;unfold A4
 rw[e]
 show s1.many+1=_
 push_cast;omega
structure Wh(S:Src9)(f:Nat):Prop where
 expr:∀s n s',CV S f s=.ok (n,s')->Rd9 0 s n s'
 sum:∀s n s',EJ S f s=.ok (n,s')->Rd9 1 s n s'
 sumL:∀n s m s',May9 1 s.deep n->sumL S f n s=.ok (m,s')->Lp 1 s n m s'
 term:∀s n s',DR S f s=.ok (n,s')->Rd9 2 s n s'
 termL:∀n s m s',May9 2 s.deep n->termL S f n s=.ok (m,s')->Lp 2 s n m s'
 unary:∀s n s',Ca S f s=.ok (n,s')->Rd9 3 s n s'
 call:∀s n s',Dg S f s=.ok (n,s')->Rd9 4 s n s'
 callL:∀n s m s',May9 4 s.deep n->callL S f n s=.ok (m,s')->Lp 4 s n m s'
 args:∀s ks s',DV S f s=.ok (ks,s')->s'.deep=s.deep/\s'.many=s.many+(A5 ks:Int)/\∀c∈ks,Nat9 s.deep c
 prim:∀s n s',Dh S f s=.ok (n,s')->Rd9 5 s n s'
theorem Bl{α:Type}{p:α×PS}{P:Prop}(h:(ES:Got α)=.ok p):P:=by cases h
theorem kept{S:Src9}(hS:S.good):∀f,Wh S f
 | 0=>by
  constructor
  ·intro s n s' h;rw[CV]at h;exact Bl h
  ·intro s n s' h;rw[EJ]at h;exact Bl h
  ·intro n s m s' _ h;rw[sumL]at h;exact Bl h
  ·intro s n s' h;rw[DR]at h;exact Bl h
  ·intro n s m s' _ h;rw[termL]at h;exact Bl h
  ·intro s n s' h;rw[Ca]at h;exact Bl h
  ·intro s n s' h;rw[Dg]at h;exact Bl h
  ·intro n s m s' _ h;rw[callL]at h;exact Bl h
  ·intro s n s' h;rw[DV]at h;exact Bl h
  ·intro s n s' h;rw[Dh]at h;exact Bl h
 | f+1=>by
  have I:=kept hS f
  constructor
  ·intro s n s' h
   rw[CV]at h
   obtain⟨a,s1,ha,h⟩:=A6 h
   obtain⟨d1,m1,k1⟩:=I.sum _ _ _ ha
   split at h
   ·obtain⟨b,s2,hb,h⟩:=A6 h
    obtain⟨d2,m2,k2⟩:=I.sum _ _ _ hb
    have e1:s1.step.deep=s.deep:=d1
    have e2:s1.step.many=s1.many:=rfl
    rw[e1]at d2 k2
    exact E6 h d2 (by simp only[A5];push_cast;omega) (Qb (Or.inl ⟨rfl,rfl⟩) k1 k2) (by decide)
   ·split at h
    ·obtain⟨b,s2,hb,h⟩:=A6 h
     obtain⟨d2,m2,k2⟩:=I.sum _ _ _ hb
     have e1:s1.step.deep=s.deep:=d1
     have e2:s1.step.many=s1.many:=rfl
     rw[e1]at d2 k2
     exact E6 h d2 (by simp only[A5];push_cast;omega) (Qb (Or.inr ⟨rfl,rfl⟩) k1 k2) (by decide)
    ·cases h
     exact⟨d1,m1,k1.less (by omega)⟩
  ·intro s n s' h
   rw[EJ]at h
   obtain⟨a,s1,ha,h⟩:=A6 h
   obtain⟨d1,m1,k1⟩:=I.term _ _ _ ha
   exact Lp.rd d1 m1 (I.sumL _ _ _ _ (by rw[d1];exact k1.less (by omega)) h)
  ·intro n s m s' hn h
   rw[sumL]at h
   split at h
   ·obtain⟨b,s2,hb,h⟩:=A6 h
    obtain⟨d2,m2,k2⟩:=I.term _ _ _ hb
    have e1:s.step.deep=s.deep:=rfl
    have e2:s.step.many=s.many:=rfl
    rw[e1]at d2 k2
    obtain⟨c,s3,hc,h⟩:=A6 h
    obtain⟨d3,m3,k3⟩:=E6 (k:=1) (s:=⟨s.tok,s.deep,s.many-(A4 n:Int)⟩) hc d2 (by simp only[A5];push_cast;omega) (Qc (Or.inl ⟨rfl,rfl⟩) hn k2) (by decide)
    obtain⟨d4,m4,k4⟩:=I.sumL _ _ _ _ (by rw[d3];exact k3) h
    simp only at d3 m3
    rw[d3]at d4 k4
    exact⟨d4,by omega,k4⟩
   ·split at h
    ·obtain⟨b,s2,hb,h⟩:=A6 h
     obtain⟨d2,m2,k2⟩:=I.term _ _ _ hb
     have e1:s.step.deep=s.deep:=rfl
     have e2:s.step.many=s.many:=rfl
     rw[e1]at d2 k2
     obtain⟨c,s3,hc,h⟩:=A6 h
     obtain⟨d3,m3,k3⟩:=E6 (k:=1) (s:=⟨s.tok,s.deep,s.many-(A4 n:Int)⟩) hc d2 (by simp only[A5];push_cast;omega) (Qc (Or.inr ⟨rfl,rfl⟩) hn k2) (by decide)
     obtain⟨d4,m4,k4⟩:=I.sumL _ _ _ _ (by rw[d3];exact k3) h
     simp only at d3 m3
     rw[d3]at d4 k4
     exact⟨d4,by omega,k4⟩
    ·cases h
     exact⟨rfl,rfl,hn⟩
  ·intro s n s' h
   rw[DR]at h
   obtain⟨a,s1,ha,h⟩:=A6 h
   obtain⟨d1,m1,k1⟩:=I.unary _ _ _ ha
   exact Lp.rd d1 m1 (I.termL _ _ _ _ (by rw[d1];exact k1.less (by omega)) h)
  ·intro n s m s' hn h
   rw[termL]at h
   split at h
   ·obtain⟨b,s2,hb,h⟩:=A6 h
    obtain⟨d2,m2,k2⟩:=I.unary _ _ _ hb
    have e1:s.step.deep=s.deep:=rfl
    have e2:s.step.many=s.many:=rfl
    rw[e1]at d2 k2
    obtain⟨c,s3,hc,h⟩:=A6 h
    obtain⟨d3,m3,k3⟩:=E6 (k:=2) (s:=⟨s.tok,s.deep,s.many-(A4 n:Int)⟩) hc d2 (by simp only[A5];push_cast;omega) (VQ hn k2) (by decide)
    obtain⟨d4,m4,k4⟩:=I.termL _ _ _ _ (by rw[d3];exact k3) h
    simp only at d3 m3
    rw[d3]at d4 k4
    exact⟨d4,by omega,k4⟩
   ·cases h
    exact⟨rfl,rfl,hn⟩
  ·intro s n s' h
   rw[Ca]at h
   split at h
   ·obtain⟨b,s2,hb,h⟩:=A6 h
    obtain⟨d2,m2,k2⟩:=I.unary _ _ _ hb
    have e2:s.step.many=s.many:=rfl
    exact E6 (s:=s) h d2 (by simp only[A5];push_cast;omega) (SL (Or.inl ⟨rfl,rfl⟩) k2) (by decide)
   ·split at h
    ·obtain⟨b,s2,hb,h⟩:=A6 h
     obtain⟨d2,m2,k2⟩:=I.unary _ _ _ hb
     have e2:s.step.many=s.many:=rfl
     exact E6 (s:=s) h d2 (by simp only[A5];push_cast;omega) (SL (Or.inr ⟨rfl,rfl⟩) k2) (by decide)
    ·exact(I.call _ _ _ h).less (by omega)
  ·intro s n s' h
   rw[Dg]at h
   obtain⟨a,s1,ha,h⟩:=A6 h
   obtain⟨d1,m1,k1⟩:=I.prim _ _ _ ha
   exact Lp.rd d1 m1 (I.callL _ _ _ _ (by rw[d1];exact k1.less (by omega)) h)
  ·intro n s m s' hn h
   rw[callL]at h
   split at h
   ·obtain⟨x,s1,hx,h⟩:=A6 h
    obtain⟨nx,rfl⟩:=Dc hS hx
    obtain⟨u,s2,hu,h⟩:=A6 h
    obtain⟨rfl,hd⟩:=(Bx hu).1 (Or.inl rfl)
    obtain⟨ks,s3,hk,h⟩:=A6 h
    obtain⟨v,s4,hv,h⟩:=A6 h
    obtain rfl:=(Bx hv).2.1 (Or.inl rfl)
    have q:s3.deep=s.deep+1/\s3.many=s.many+(A5 ks:Int)/\∀c∈ks,Nat9 (s.deep+1) c:=by
     split at hk
     ·cases hk
      exact⟨rfl,by show s.many=s.many+0;omega,fun c hc=>by cases hc⟩
     ·exact I.args _ _ _ hk
    obtain⟨q1,q2,q3⟩:=q
    obtain⟨c,s5,hc,h⟩:=A6 h
    obtain⟨d3,m3,k3⟩:=E6 (k:=4) (s:=⟨s.tok,s.deep,s.many-(A4 n:Int)⟩) hc (by show s3.deep-1=s.deep;omega) (by show s3.many=_;simp only[A5];push_cast;omega) (Tv nx hd hn q3) (by decide)
    have d3':s5.deep=s.deep:=d3
    obtain⟨d4,m4,k4⟩:=I.callL _ _ _ _ (by rw[d3];exact k3) h
    simp only at m3
    rw[d3']at d4 k4
    exact⟨d4,by omega,k4⟩
   ·cases h
    exact⟨rfl,rfl,hn⟩
  ·intro s ks s' h
   rw[DV]at h
   obtain⟨a,s1,ha,h⟩:=A6 h
   obtain⟨d1,m1,k1⟩:=I.expr _ _ _ ha
   split at h
   ·obtain⟨b,s2,hb,h⟩:=A6 h
    obtain⟨d2,m2,k2⟩:=I.args _ _ _ hb
    have e1:s1.step.deep=s.deep:=d1
    have e2:s1.step.many=s1.many:=rfl
    rw[e1]at d2 k2
    cases h
    refine⟨d2,by rw[BG];push_cast;omega,fun c hc=>?_⟩
    rcases List.mem_cons.1 hc with rfl | hc
    ·exact k1.nat
    ·exact k2 c hc
   ·cases h
    refine⟨d1,by rw[BG];simp only[A5];push_cast;omega,fun c hc=>?_⟩
    rcases List.mem_cons.1 hc with rfl | hc
    ·exact k1.nat
    ·cases hc
  ·intro s n s' h
   rw[Dh]at h
   split at h
   ·rename_i hi
    obtain⟨h1,h2⟩:=JN hi
    obtain⟨h3,h4⟩:=(hS _ h1).2 h2
    exact E6 (s:=s) h rfl (by show s.many=s.many+0;omega) (VR h3 h4) (by decide)
   ·split at h
    ·obtain⟨x,s1,hx,h⟩:=A6 h
     obtain⟨nx,rfl⟩:=Dc hS hx
     exact E6 (s:=s) h rfl (by show s.many=s.many+0;omega) (Tt nx) (by decide)
    ·split at h
     ·exact E6 (s:=s) h rfl (by show s.many=s.many+0;omega) (Lb (Or.inl ⟨rfl,rfl⟩)) (by decide)
     ·split at h
      ·exact E6 (s:=s) h rfl (by show s.many=s.many+0;omega) (Lb (Or.inr (Or.inl ⟨rfl,rfl⟩))) (by decide)
      ·split at h
       ·exact E6 (s:=s) h rfl (by show s.many=s.many+0;omega) (Lb (Or.inr (Or.inr ⟨rfl,rfl⟩))) (by decide)
       ·split at h
        ·obtain⟨x,s1,hx,h⟩:=A6 h
         obtain⟨nx,rfl⟩:=Dc hS hx
         exact E6 (s:=s) h rfl (by show s.many=s.many+0;omega) (VS nx) (by decide)
        ·obtain⟨u,s1,hu,h⟩:=A6 h
         obtain⟨rfl,hd⟩:=(Bx hu).1 (Or.inl rfl)
         obtain⟨a,s2,ha,h⟩:=A6 h
         obtain⟨d2,m2,k2⟩:=I.expr _ _ _ ha
         obtain⟨v,s3,hv,h⟩:=A6 h
         obtain rfl:=(Bx hv).2.1 (Or.inl rfl)
         cases h
         have e1:s.down.deep=s.deep+1:=rfl
         have e2:s.down.many=s.many:=rfl
         rw[e1]at d2 k2
         refine⟨by show s2.deep-1=s.deep;omega,by show s2.many=_;omega,Or.inr ⟨hd,k2.nat⟩⟩
end Go.Proofs.YtibeadcfgcfdbaaGreatDoor
