/- Texts in one. -/
import Derived.Test.YtibeadcfgcfdbaaGreatDoorMz
import Derived.Test.YtibeadcfgcfdbaaGreatDoorMc
namespace Go.Proofs.YtibeadcfgcfdbaaGreatDoor
structure BI where
 names:List ByteArray
 slots:List ByteArray
 inside:Bool
 returns:Bool
abbrev Chk (α:Type):Type:=Except (Int×Int) α
def Chk.then{α β:Type}(g:Chk α)(f:α->Chk β):Chk β:=match g with
 | .ok a=>f a
 | .error e=>.error e
@[simp] theorem chk_ok {α β:Type} (a:α) (f:α->Chk β):Chk.then (.ok a:Chk α) f=f a:=rfl
@[simp] theorem chk_err {α β:Type} (e:Int×Int) (f:α->Chk β):Chk.then (.error e:Chk α) f=.error e:=rfl
def Nd.str(n:Nd):ByteArray:=strOfNums n.text
def BE(l:List ByteArray)(x:ByteArray):Bool:=l.any fun y=>decide (y=x)
def FE(own:Nat)(x:ByteArray)(at':Nat)(L:List ByteArray):Chk (List ByteArray):=
 if BE (L.drop own) x=true then .error (5,(at':Int))else if L.length=30 then .error (1,(at':Int))else .ok (L++[x])
def CE(E:BI)(L:List ByteArray)(k:Int)(x:ByteArray)(at':Nat):Chk Unit:=
 if(k=8\/k=31)/\BE L x=false/\BE E.slots x=false then .error (14,(at':Int))
 else if k=30/\BE E.names x=false then .error (14,(at':Int))
 else if k=28/\E.inside=false then .error (3,(at':Int))
 else if k=11/\E.returns=false then .error (3,(at':Int))
 else .ok ()
abbrev StZ:Type:=Nat×List ByteArray
mutual
def EK(E:BI)(own:Nat):Nd->StZ->Chk StZ
 | .mk k x _ ks,s=>(CE E s.2 k (strOfNums x) s.1).then fun _=>
  if k=6 then(BU E s.2.length ks (s.1+1,s.2)).then fun y=>.ok (y.1,s.2)
  else if k=13 then(BU { E with returns:=false } own ks (s.1+1,s.2)).then fun y=>.ok (y.1,s.2)
  else(BU E own ks (s.1+1,s.2)).then fun y=>if k=7 then(FE own (strOfNums x) s.1 y.2).then fun L=>.ok (y.1,L)else .ok y
def BU (E:BI) (own:Nat):List Nd->StZ->Chk StZ
 | [],s=>.ok s
 | n::ns,s=>(EK E own n s).then fun s=>BU E own ns s
end
def E3:List Nd->StZ->Chk StZ
 | [],s=>.ok s
 | a::as',s=>(FE 0 a.str s.1 s.2).then fun L=>E3 as' (s.1+1,L)
def Db(names slots:List ByteArray)(m:Nd)(nx:Nat):Chk Nat:=
 (E3 (m.kids.take m.num.toNat) (nx,[])).then fun y=>match m.kids[m.num.toNat]? with
  | some b=>(BU ⟨names,slots,true,true⟩ 0 b.kids (y.1+1,y.2)).then fun z=>.ok z.1
  | none=>.ok y.1
def Ed(names:List ByteArray)(many:Nat)(x:ByteArray):Option Nat:=(names.findIdx? fun y=>decide (y=x)).bind fun i=>if i<many then some i else none
structure ClZ where
 next:Nat
 slots:List ByteArray
 sigs:List (ByteArray×Int)
def Cr(names:List ByteArray)(past:List (List ByteArray))(n:Nd)(c:ClZ):Chk ClZ:=
 if n.kind=31 then(match Ed names past.length n.str with
  | some i=>.ok { c with next:=c.next+1,slots:=past.getD i [] }
  | none=>.error (14,(c.next:Int)))
 else if n.kind=3 then(if BE c.slots n.str=true then .error (5,(c.next:Int))else if c.slots.length=59 then .error (1,(c.next:Int))else .ok { c with next:=c.next+1,slots:=c.slots++[n.str] })
 else if n.kind=4 then(if c.sigs.any (fun y=>decide (y.1=n.str)&&y.2==n.num)=true then .error (5,(c.next:Int))else
  (Db names c.slots n (c.next+1)).then fun nx=>.ok { c with next:=nx,sigs:=c.sigs++[(n.str,n.num)] })
 else .ok { c with next:=c.next+1 }
def Ay(names:List ByteArray)(past:List (List ByteArray)):List Nd->ClZ->Chk ClZ
 | [],c=>.ok c
 | n::ns,c=>(Cr names past n c).then fun c=>Ay names past ns c
def FN(names:List ByteArray)(past:List (List ByteArray))(n:Nd)(nx:Nat):Chk (Nat×List ByteArray):=
 if(Ed names past.length n.str).isSome=true then .error (5,(nx:Int))else(Ay names past n.kids ⟨nx+1,[],[]⟩).then fun c=>.ok (c.next,c.slots)
def DE(names:List ByteArray):List Nd->List (List ByteArray)->Nat->Chk (List (List ByteArray)×Nat)
 | [],past,nx=>.ok (past,nx)
 | n::ns,past,nx=>(FN names past n nx).then fun y=>DE names ns (past++[y.2]) y.1
def FR(n:Nd):Chk Unit:=
 (DE (n.kids.dropLast.map Nd.str) n.kids.dropLast [] 1).then fun y=>match n.kids.getLast? with
  | some b=>(EK ⟨n.kids.dropLast.map Nd.str,[],false,false⟩ 0 b (y.2,[])).then fun _=>.ok ()
  | none=>.ok ()
def JH(T:List Int):Except (Int×Int) Nd:=match Cc T with
 | .error e=>.error e
 | .ok n=>match FR n with
  | .error e=>.error e
  | .ok _=>.ok n
def FJ{α:Type}(g:Chk α):Prop:=∀f,g=.error f->f.1≠0
theorem E7{α:Type}{a:α}:FJ (.ok a:Chk α):=fun f e=>by cases e
theorem Ff{α:Type}{c a:Int}(h:c≠0):FJ (.error (c,a):Chk α):=fun f e=>by cases e;exact h
theorem Dd{α β:Type}{g:Chk α}{f:α->Chk β}(h:FJ g)(hf:∀a,FJ (f a)):FJ (g.then f):=by
 unfold Chk.then
 cases g with
 | error e=>exact fun x hx=>by cases hx;exact h e rfl
 | ok a=>exact hf a
theorem Ox(own:Nat)(x:ByteArray)(at':Nat)(L:List ByteArray):FJ (FE own x at' L):=by
 unfold FE
 split
 ·exact Ff (by decide)
 ·split
  ·exact Ff (by decide)
  ·exact E7
theorem NZ(E:BI)(L:List ByteArray)(k:Int)(x:ByteArray)(at':Nat):FJ (CE E L k x at'):=by
 unfold CE
 split
 ·exact Ff (by decide)
 ·split
  ·exact Ff (by decide)
  ·split
   ·exact Ff (by decide)
   ·split
    ·exact Ff (by decide)
    ·exact E7
mutual
theorem KO:∀(n:Nd) (E:BI) (own:Nat) (s:StZ),FJ (EK E own n s)
 | .mk k x m ks,E,own,s=>by
  unfold EK
  refine Dd (NZ _ _ _ _ _) fun _=>?_
  split
  ·exact Dd (GW ks _ _ _) fun _=>E7
  ·split
   ·exact Dd (GW ks _ _ _) fun _=>E7
   ·refine Dd (GW ks _ _ _) fun y=>?_
    split
    ·exact Dd (Ox _ _ _ _) fun _=>E7
    ·exact E7
theorem GW:∀(ks:List Nd) (E:BI) (own:Nat) (s:StZ),FJ (BU E own ks s)
 | [],E,own,s=>by unfold BU;exact E7
 | n::ns,E,own,s=>by
  unfold BU
  exact Dd (KO n E own s) fun y=>GW ns E own y
end
theorem KP:∀(l:List Nd) (s:StZ),FJ (E3 l s)
 | [],s=>by unfold E3;exact E7
 | a::l,s=>by
  unfold E3
  exact Dd (Ox _ _ _ _) fun L=>KP l _
theorem LD(names slots:List ByteArray)(m:Nd)(nx:Nat):FJ (Db names slots m nx):=by
 unfold Db
 refine Dd (KP _ _) fun y=>?_
 split
 ·exact Dd (GW _ _ _ _) fun _=>E7
 ·exact E7
theorem Py(names:List ByteArray)(past:List (List ByteArray))(n:Nd)(c:ClZ):FJ (Cr names past n c):=by
 unfold Cr
 split
 ·split
  ·exact E7
  ·exact Ff (by decide)
 ·split
  ·split
   ·exact Ff (by decide)
   ·split
    ·exact Ff (by decide)
    ·exact E7
  ·split
   ·split
    ·exact Ff (by decide)
    ·exact Dd (LD _ _ _ _) fun _=>E7
   ·exact E7
theorem Fg(names:List ByteArray)(past:List (List ByteArray)):∀(ks:List Nd) (c:ClZ),FJ (Ay names past ks c)
 | [],c=>by unfold Ay;exact E7
 | n::ns,c=>by
  unfold Ay
  exact Dd (Py _ _ _ _) fun c=>Fg names past ns c
theorem KQ(names:List ByteArray):∀(ks:List Nd) (past:List (List ByteArray)) (nx:Nat),FJ (DE names ks past nx)
 | [],past,nx=>by unfold DE;exact E7
 | n::ns,past,nx=>by
  unfold DE
  refine Dd ?_ fun y=>KQ names ns _ _
  unfold FN
  split
  ·exact Ff (by decide)
  ·exact Dd (Fg _ _ _ _) fun _=>E7
theorem Na(n:Nd):FJ (FR n):=by
 unfold FR
 refine Dd (KQ _ _ _ _) fun y=>?_
 split
 ·exact Dd (KO _ _ _ _) fun _=>E7
 ·exact E7
structure StR where
 next:Nat
 inn:List ByteArray
 bad:Int×Int
def Bg(b:Int×Int)(c:Int)(a:Nat):Int×Int:=if b.1=0 then(c,(a:Int))else b
def Ji(O:List (List ByteArray))(x:ByteArray):Bool:=O.any fun l=>BE l x
def Fy(E:BI)(k:Int)(a:Nat)(b:Int×Int):Int×Int:=if(k=28/\E.inside=false)\/(k=11/\E.returns=false)then Bg b 3 a else b
def Hg(E:BI)(k:Int)(L:List (List ByteArray))(x:ByteArray)(a:Nat)(b:Int×Int):Int×Int:=if(k=31\/k=8)/\BE E.slots x=false/\Ji L x=false then Bg b 14 a else b
def J9(E:BI)(k:Int)(x:ByteArray)(a:Nat)(b:Int×Int):Int×Int:=if k=30/\BE E.names x=false then Bg b 14 a else b
def Ek(E:BI)(k:Int):BI:=if k=13 then{ E with returns:=false } else E
def RC(O:List (List ByteArray))(x:ByteArray)(a:Nat)(s:StR):StR:=⟨s.next,s.inn++[x],if BE s.inn x=true then Bg s.bad 5 a else if 30<=O.flatten.length+s.inn.length then Bg s.bad 1 a else s.bad⟩
def I1(O:List (List ByteArray))(k:Int)(x:ByteArray)(a:Nat)(s:StR):StR:=if k=7/\s.bad.1=0 then RC O x a s else s
mutual
def Dl(E:BI)(O:List (List ByteArray)):Nd->StR->StR
 | .mk k x _ ks,s=>
  if k=6 then⟨(BM E (O++[s.inn]) ks ⟨s.next+1,[],s.bad⟩).next,s.inn,(BM E (O++[s.inn]) ks ⟨s.next+1,[],s.bad⟩).bad⟩
  else I1 O k (strOfNums x) s.next (BM (Ek E k) O ks ⟨s.next+1,s.inn,J9 E k (strOfNums x) s.next (Hg E k (O++[s.inn]) (strOfNums x) s.next (Fy (Ek E k) k s.next s.bad))⟩)
def BM (E:BI) (O:List (List ByteArray)):List Nd->StR->StR
 | [],s=>s
 | n::ns,s=>BM E O ns (Dl E O n s)
end
theorem Nb(O:List (List ByteArray))(k:Int)(x:ByteArray)(a:Nat)(s:StR):(I1 O k x a s).next=s.next:=by
 unfold I1
 split
 ·rfl
 ·rfl
mutual
theorem Jj:∀(n:Nd) (E:BI) (O:List (List ByteArray)) (s:StR),(Dl E O n s).next=s.next+A4 n
 | .mk k x m ks,E,O,s=>by
  have e:A4 (.mk k x m ks)=1+A5 ks:=by conv=>lhs;unfold A4
  rw[e]
  unfold Dl
  split
  ·show(BM _ _ _ _).next=_
   rw[Fz ks]
   show s.next+1+_=_
   omega
  ·rw[Nb,Fz ks]
   show s.next+1+_=_
   omega
theorem Fz:∀(ks:List Nd) (E:BI) (O:List (List ByteArray)) (s:StR),(BM E O ks s).next=s.next+A5 ks
 | [],E,O,s=>by
  unfold BM A5
  rfl
 | n::ns,E,O,s=>by
  have e:A5 (n::ns)=A4 n+A5 ns:=by conv=>lhs;unfold A5
  rw[e]
  unfold BM
  rw[Fz ns,Jj n]
  omega
end
def Dr(d:Nat)(O:List (List ByteArray))(s:StR):Prop:=O.length+O.flatten.length+s.inn.length+d<=s.next
mutual
theorem KT:∀(n:Nd) (E:BI) (O:List (List ByteArray)) (d:Nat) (s:StR),Dr d O s->Dr d O (Dl E O n s)
 | .mk k x m ks,E,O,d,s,h=>by
  unfold Dl
  split
  ·unfold Dr at h⊢
   dsimp only
   rw[Fz ks]
   dsimp only
   omega
  ·have h1:=Nc ks (Ek E k) O (d+1) ⟨s.next+1,s.inn,J9 E k (strOfNums x) s.next (Hg E k (O++[s.inn]) (strOfNums x) s.next (Fy (Ek E k) k s.next s.bad))⟩ (by unfold Dr at h⊢;dsimp only;omega)
   unfold Dr at h1⊢
   rw[Nb]
   unfold I1
   split
   ·unfold RC
    dsimp only
    rw[Z1]
    show _+(_+1)+d<=_
    omega
   ·omega
theorem Nc:∀(ks:List Nd) (E:BI) (O:List (List ByteArray)) (d:Nat) (s:StR),Dr d O s->Dr d O (BM E O ks s)
 | [],E,O,d,s,h=>by
  unfold BM
  exact h
 | n::ns,E,O,d,s,h=>by
  unfold BM
  exact Nc ns E O d _ (KT n E O d s h)
end
theorem Ew{b:Int×Int}(h:b.1≠0)(c:Int)(a:Nat):Bg b c a=b:=if_neg h
theorem Sh{b:Int×Int}(h:b.1≠0)(E:BI)(k:Int)(a:Nat):Fy E k a b=b:=by
 unfold Fy
 rw[Ew h,ite_self]
theorem Si{b:Int×Int}(h:b.1≠0)(E:BI)(k:Int)(L:List (List ByteArray))(x:ByteArray)(a:Nat):Hg E k L x a b=b:=by
 unfold Hg
 rw[Ew h,ite_self]
theorem UN{b:Int×Int}(h:b.1≠0)(E:BI)(k:Int)(x:ByteArray)(a:Nat):J9 E k x a b=b:=by
 unfold J9
 rw[Ew h,ite_self]
theorem Lm{s:StR}(h:s.bad.1≠0)(O:List (List ByteArray))(k:Int)(x:ByteArray)(a:Nat):I1 O k x a s=s:=if_neg fun e=>h e.2
mutual
theorem Sj:∀(n:Nd) (E:BI) (O:List (List ByteArray)) (s:StR),s.bad.1≠0->(Dl E O n s).bad=s.bad
 | .mk k x m ks,E,O,s,h=>by
  unfold Dl
  split
  ·exact Fh ks _ _ _ h
  ·have e:J9 E k (strOfNums x) s.next (Hg E k (O++[s.inn]) (strOfNums x) s.next (Fy (Ek E k) k s.next s.bad))=s.bad:=by rw[Sh h,Si h,UN h]
   rw[e]
   have h1:=Fh ks (Ek E k) O ⟨s.next+1,s.inn,s.bad⟩ h
   rw[Lm (by rw[h1];exact h),h1]
theorem Fh:∀(ks:List Nd) (E:BI) (O:List (List ByteArray)) (s:StR),s.bad.1≠0->(BM E O ks s).bad=s.bad
 | [],E,O,s,h=>by
  unfold BM
  rfl
 | n::ns,E,O,s,h=>by
  unfold BM
  have h1:=Sj n E O s h
  rw[Fh ns _ _ _ (by rw[h1];exact h),h1]
end
theorem Sk(O:List (List ByteArray))(x:ByteArray):Ji O x=BE O.flatten x:=by
 unfold Ji BE
 rw[List.any_flatten]
theorem F9(O:List (List ByteArray))(l:List ByteArray):(O++[l]).flatten=O.flatten++l:=by simp
def IsR(O:List (List ByteArray))(g:Chk StZ)(y:StR):Prop:=match g with
 | .ok z=>y.bad=(0,0)/\y.next=z.1/\z.2=O.flatten++y.inn/\z.2.length<=30
 | .error e=>y.bad=e
theorem Vc(E:BI)(O:List (List ByteArray))(inn:List ByteArray)(k:Int)(x:ByteArray)(a:Nat) :
  J9 E k x a (Hg E k (O++[inn]) x a (Fy (Ek E k) k a (0,0)))=match CE E (O.flatten++inn) k x a with
   | .ok _=>(0,0)
   | .error e=>e:=by
 have hs:Fy (Ek E k) k a (0,0)=Fy E k a (0,0):=by
  unfold Fy Ek
  by_cases h:k=13
  ·rw[if_pos h,if_neg (by omega),if_neg (by omega)]
  ·rw[if_neg h]
 rw[hs]
 unfold J9 Hg Fy CE Bg
 rw[Sk,F9]
 by_cases h1:(k=8\/k=31)/\BE (O.flatten++inn) x=false/\BE E.slots x=false
 ·rw[if_pos h1,if_neg (fun e=>by omega),if_neg (c:=(k=28/\E.inside=false)\/(k=11/\E.returns=false)) (fun e=>by omega),if_pos ⟨by omega,h1.2.2,h1.2.1⟩,if_pos rfl]
 ·rw[if_neg h1]
  by_cases h2:k=30/\BE E.names x=false
  ·rw[if_pos h2,if_pos h2,if_neg (c:=(k=28/\E.inside=false)\/(k=11/\E.returns=false)) (fun e=>by omega),if_neg (c:=(k=31\/k=8)/\BE E.slots x=false/\BE (O.flatten++inn) x=false) (fun e=>by omega)]
   rfl
  ·rw[if_neg h2,if_neg h2,if_neg (fun e=>h1 ⟨by omega,e.2.2,e.2.1⟩)]
   by_cases h3:k=28/\E.inside=false
   ·rw[if_pos h3,if_pos (Or.inl h3)]
    rfl
   ·rw[if_neg h3]
    by_cases h4:k=11/\E.returns=false
    ·rw[if_pos h4,if_pos (Or.inr h4)]
     rfl
    ·rw[if_neg h4,if_neg (fun e=>e.elim h3 h4)]
theorem P1{n:Nd}(h:WfR 2 n):n.kind=6:=by
 cases n with
 | mk k x m ks=>
  unfold WfR Oy at h
  have h1:=h.1
  rw[if_neg (by decide),if_neg (by decide)]at h1
  exact h1.1
theorem Pz{E:BI}{own:Nat}{n:Nd}{s y:StZ}(hk:n.kind=6)(h:EK E own n s=.ok y):y.2=s.2:=by
 cases n with
 | mk k x m ks=>
  have hk':k=6:=hk
  subst hk'
  unfold EK at h
  cases hl:CE E s.2 6 (strOfNums x) s.1 with
  | error f=>rw[hl]at h;cases h
  | ok _=>
   rw[hl,chk_ok,if_pos rfl]at h
   cases hz:BU E s.2.length ks (s.1+1,s.2)with
   | error f=>rw[hz]at h;cases h
   | ok z=>rw[hz,chk_ok]at h;cases h;rfl
theorem LE{E:BI}{own:Nat}:∀ {ks:List Nd} {s y:StZ},(∀c∈ks,c.kind=6)->BU E own ks s=.ok y->y.2=s.2
 | [],s,y,_,h=>by unfold BU at h;cases h;rfl
 | n::ns,s,y,hk,h=>by
  unfold BU at h
  cases hn:EK E own n s with
  | error f=>rw[hn]at h;cases h
  | ok z=>
   rw[hn,chk_ok]at h
   rw[LE (fun c hc=>hk c (Z8 _ hc)) h,Pz (hk n (Z7 ..)) hn]
theorem Kw{k:Int}:∀ {ks:List Nd} {i:Nat},WfK k i ks->∀c∈ks,∃r,WfR r c
 | [],_,_,c,hc=>by cases hc
 | n::ns,i,h,c,hc=>by
  unfold WfK at h
  rcases List.mem_cons.1 hc with rfl | hc
  ·exact⟨_,h.1⟩
  ·exact Kw h.2 c hc
theorem Nf:∀ {ks:List Nd} {i:Nat},WfK 13 i ks->∀c∈ks,WfR 2 c
 | [],_,_,c,hc=>by cases hc
 | n::ns,i,h,c,hc=>by
  unfold WfK at h
  rcases List.mem_cons.1 hc with rfl | hc
  ·exact h.1
  ·exact Nf h.2 c hc
theorem H8{O:List (List ByteArray)}{g:Chk StZ}{y:StR}(h:IsR O g y):(∃z,g=.ok z/\y.bad=(0,0)/\y.next=z.1/\z.2=O.flatten++y.inn/\z.2.length<=30)\/∃e,g=.error e/\y.bad=e:=by
 cases g with
 | ok z=>exact Or.inl ⟨z,rfl,h⟩
 | error e=>exact Or.inr ⟨e,rfl,h⟩
mutual
theorem UO:∀(n:Nd) (r:Nat) (E:BI) (O:List (List ByteArray)) (s:StR),WfR r n->s.bad=(0,0)->O.flatten.length+s.inn.length<=30->IsR O (EK E O.flatten.length n (s.next,O.flatten++s.inn)) (Dl E O n s)
 | .mk k x m ks,r,E,O,s,hw,hb,hl=>by
  unfold WfR at hw
  have hks:=Kw hw.2
  unfold Dl EK
  dsimp only
  have hlk:=Vc E O s.inn k (strOfNums x) s.next
  rw[hb]
  by_cases h6:k=6
  ·subst h6
   have e6:CE E (O.flatten++s.inn) 6 (strOfNums x) s.next=.ok ():=by
    unfold CE
    rw[if_neg (fun e=>by omega),if_neg (fun e=>by omega),if_neg (fun e=>by omega),if_neg (fun e=>by omega)]
   rw[e6,chk_ok,if_pos rfl,if_pos rfl]
   have hi:=Ic ks E (O++[s.inn]) ⟨s.next+1,[],(0,0)⟩ hks rfl (by rw[F9,Z1];exact hl)
   rw[F9,List.append_nil]at hi
   rcases H8 hi with⟨z,hz,h1,h2,h3,h4⟩ | ⟨e,hz,h1⟩
   ·rw[hz,chk_ok]
    exact⟨h1,h2,rfl,by rw[Z1];exact hl⟩
   ·rw[hz,chk_err]
    exact h1
  ·rw[if_neg h6,if_neg h6,hlk]
   cases hz:CE E (O.flatten++s.inn) k (strOfNums x) s.next with
   | error e=>
    rw[chk_err]
    have he:e.1≠0:=NZ _ _ _ _ _ e hz
    have h1:=Fh ks (Ek E k) O ⟨s.next+1,s.inn,e⟩ he
    show(I1 _ _ _ _ _).bad=e
    rw[Lm (by rw[h1];exact he),h1]
   | ok _=>
    rw[chk_ok]
    have hi:=Ic ks (Ek E k) O ⟨s.next+1,s.inn,(0,0)⟩ hks rfl hl
    by_cases h13:k=13
    ·subst h13
     have ef:Ek E 13={ E with returns:=false }:=if_pos rfl
     rw[if_pos rfl]
     have ev:∀y,I1 O 13 (strOfNums x) s.next y=y:=fun y=>if_neg (fun e=>by omega)
     rw[ev]
     rw[ef]at hi⊢
     rcases H8 hi with⟨z,hz2,h1,h2,h3,h4⟩ | ⟨e,hz2,h1⟩
     ·rw[hz2,chk_ok]
      have hk:=LE (fun c hc=>P1 (Nf hw.2 c hc)) hz2
      have hk':z.2=O.flatten++s.inn:=hk
      refine⟨h1,h2,?_,by rw[Z1];exact hl⟩
      show O.flatten++s.inn=_
      rw[<-hk',h3]
     ·rw[hz2,chk_err]
      exact h1
    ·rw[if_neg h13]
     have ef:Ek E k=E:=if_neg h13
     rw[ef]at hi⊢
     rcases H8 hi with⟨z,hz2,h1,h2,h3,h4⟩ | ⟨e,hz2,h1⟩
     ·rw[hz2,chk_ok]
      generalize BM E O ks ⟨s.next+1,s.inn,(0,0)⟩=y at *
      by_cases h7:k=7
      ·rw[if_pos h7]
       unfold I1
       rw[if_pos ⟨h7,by rw[h1]⟩]
       unfold RC FE
       rw[h3,List.drop_left,h1]
       rw[h3,Z1]at h4
       by_cases hh:BE y.inn (strOfNums x)=true
       ·rw[if_pos hh,if_pos hh,chk_err]
        show Bg (0,0) 5 s.next=_
        exact if_pos rfl
       ·rw[if_neg hh,if_neg hh]
        by_cases h30:(O.flatten++y.inn).length=30
        ·rw[if_pos h30]
         rw[Z1]at h30
         rw[if_pos (by omega),chk_err]
         show Bg (0,0) 1 s.next=_
         exact if_pos rfl
        ·rw[if_neg h30]
         rw[Z1]at h30
         rw[if_neg (by omega),chk_ok]
         refine⟨rfl,h2,?_,?_⟩
         ·show O.flatten++y.inn++_=_
          rw[List.append_assoc]
         ·show(O.flatten++y.inn++[strOfNums x]).length<=30
          rw[Z1,Z1]
          show _+1<=30
          omega
      ·rw[if_neg h7]
       have ev:I1 O k (strOfNums x) s.next y=y:=if_neg (fun e=>h7 e.1)
       rw[ev]
       exact⟨h1,h2,h3,h4⟩
     ·rw[hz2,chk_err]
      have he:e.1≠0:=GW ks _ _ _ e hz2
      show(I1 _ _ _ _ _).bad=e
      rw[Lm (by rw[h1];exact he),h1]
theorem Ic:∀(ks:List Nd) (E:BI) (O:List (List ByteArray)) (s:StR),(∀c∈ks,∃r,WfR r c)->s.bad=(0,0)->O.flatten.length+s.inn.length<=30->IsR O (BU E O.flatten.length ks (s.next,O.flatten++s.inn)) (BM E O ks s)
 | [],E,O,s,_,hb,hl=>by
  unfold BU BM
  exact⟨hb,rfl,rfl,by rw[Z1];exact hl⟩
 | n::ns,E,O,s,hw,hb,hl=>by
  unfold BU BM
  obtain⟨r,hr⟩:=hw n (Z7 ..)
  rcases H8 (UO n r E O s hr hb hl)with⟨z,hz,h1,h2,h3,h4⟩ | ⟨e,hz,h1⟩
  ·rw[hz,chk_ok]
   obtain⟨z1,z2⟩:=z
   dsimp only at h2 h3 h4
   subst h3
   rw[<-h2]
   exact Ic ns E O _ (fun c hc=>hw c (Z8 _ hc)) h1 (by rw[Z1]at h4;exact h4)
  ·rw[hz,chk_err]
   have he:e.1≠0:=KO n _ _ _ e hz
   show(BM _ _ _ _).bad=e
   rw[Fh ns _ _ _ (by rw[h1];exact he),h1]
end
def CD(l:List ByteArray)(x:ByteArray):Int:=match l.findIdx? (fun y=>decide (y=x))with
 | some i=>(i:Int)
 | none=>-1
theorem Du{l:List ByteArray}{x:ByteArray}:CD l x<0↔BE l x=false:=by
 unfold CD BE
 cases h:l.findIdx? (fun y=>decide (y=x))with
 | none=>
  rw[List.findIdx?_eq_none_iff]at h
  refine⟨fun _=>?_,fun _=>by dsimp only;omega⟩
  rw[List.any_eq_false]
  intro y hy
  rw[h y hy]
  decide
 | some i=>
  rw[List.findIdx?_eq_some_iff_getElem]at h
  obtain⟨hi,hx,_⟩:=h
  refine⟨fun e=>by dsimp only at e;omega,fun e=>?_⟩
  rw[List.any_eq_false]at e
  exact absurd hx (e _ (Z6 hi))
structure CsR where
 next:Nat
 slots:List ByteArray
 bad:Int×Int
def E8(many:Nat)(l:List ByteArray)(x:ByteArray)(a:Nat)(b:Int×Int):Int×Int:=
 if many<=l.length then Bg (if BE l x=true then Bg b 5 a else b) 1 a else(if BE l x=true then Bg b 5 a else b)
def OO(n:Nd)(c:CsR):CsR:=⟨c.next+1,c.slots++[n.str],E8 59 c.slots n.str c.next c.bad⟩
def DX:List Nd->CsR->CsR
 | [],c=>c
 | n::ns,c=>DX ns (OO n c)
def P4(n:Nd)(s:StR):StR:=⟨s.next+1,s.inn++[n.str],E8 30 s.inn n.str s.next s.bad⟩
def EM:List Nd->StR->StR
 | [],s=>s
 | n::ns,s=>EM ns (P4 n s)
def F6(ahead:List Nd)(m:Nd):Bool:=ahead.any fun y=>decide (y.str=m.str)&&y.num==m.num
def Hi(names slots:List ByteArray)(b:Nd)(s:StR):Nat×(Int×Int):=
 ((BM ⟨names,slots,true,true⟩ [] b.kids ⟨s.next+1,s.inn,s.bad⟩).next,(BM ⟨names,slots,true,true⟩ [] b.kids ⟨s.next+1,s.inn,s.bad⟩).bad)
def Ct(names slots:List ByteArray)(ahead:List Nd)(m:Nd)(nx:Nat)(b:Int×Int):Nat×(Int×Int):=
 Hi names slots (m.kids.getD m.num.toNat (.mk 0 [] 0 [])) (EM (m.kids.take m.num.toNat) ⟨nx+1,[],if F6 ahead m=true then Bg b 5 nx else b⟩)
def Cj(names slots:List ByteArray):List Nd->List Nd->Nat->Int×Int->Nat×(Int×Int)
 | _,[],nx,b=>(nx,b)
 | ahead,m::ms,nx,b=>Cj names slots (ahead++[m]) ms (Ct names slots ahead m nx b).1 (Ct names slots ahead m nx b).2
def upR(names:List ByteArray)(past:List (List ByteArray))(up:List Nd)(c:CsR):CsR:=match up with
 | []=>c
 | u::_=>⟨c.next+1,(if CD (names.take past.length) u.str<0 then c.slots else past.getD (CD (names.take past.length) u.str).toNat []),if CD (names.take past.length) u.str<0 then Bg c.bad 14 c.next else c.bad⟩
def D5(names:List ByteArray)(past:List (List ByteArray))(x:ByteArray)(up ks:List Nd)(nx:Nat)(b:Int×Int):CsR:=
 DX ks (upR names past up ⟨nx+1,[],if CD names x<(past.length:Int)then Bg b 5 nx else b⟩)
def EG(names:List ByteArray)(past:List (List ByteArray))(x:ByteArray)(up ks ms:List Nd)(nx:Nat)(b:Int×Int):CsR:=
 ⟨(Cj names (D5 names past x up ks nx b).slots [] ms (D5 names past x up ks nx b).next (D5 names past x up ks nx b).bad).1,(D5 names past x up ks nx b).slots,
  (Cj names (D5 names past x up ks nx b).slots [] ms (D5 names past x up ks nx b).next (D5 names past x up ks nx b).bad).2⟩
theorem Ni{b:Int×Int}(h:b.1≠0)(many:Nat)(l:List ByteArray)(x:ByteArray)(a:Nat):E8 many l x a b=b:=by
 unfold E8
 rw[Ew h,ite_self,Ew h,ite_self]
theorem Hq:∀(l:List Nd) (s:StR),s.bad.1≠0->(EM l s).bad=s.bad
 | [],s,_=>rfl
 | n::ns,s,h=>by
  unfold EM
  have e:(P4 n s).bad=s.bad:=Ni h _ _ _ _
  rw[Hq ns _ (by rw[e];exact h),e]
theorem G0:∀(l:List Nd) (s:CsR),s.bad.1≠0->(DX l s).bad=s.bad
 | [],s,_=>rfl
 | n::ns,s,h=>by
  unfold DX
  have e:(OO n s).bad=s.bad:=Ni h _ _ _ _
  rw[G0 ns _ (by rw[e];exact h),e]
theorem ML:∀(l:List Nd) (s:StR),(EM l s).next=s.next+l.length
 | [],s=>rfl
 | n::ns,s=>by
  unfold EM
  rw[ML ns,List.length_cons]
  show s.next+1+_=_
  omega
theorem JA:∀(l:List Nd) (s:CsR),(DX l s).next=s.next+l.length
 | [],s=>rfl
 | n::ns,s=>by
  unfold DX
  rw[JA ns,List.length_cons]
  show s.next+1+_=_
  omega
theorem MM:∀(l:List Nd) (s:CsR),(DX l s).slots.length=s.slots.length+l.length
 | [],s=>rfl
 | n::ns,s=>by
  unfold DX
  rw[MM ns,List.length_cons]
  show(s.slots++[n.str]).length+_=_
  rw[Z1]
  show _+1+_=_
  omega
theorem KU(names slots:List ByteArray)(b:Nd)(s:StR)(h:s.bad.1≠0):(Hi names slots b s).2=s.bad:=Fh _ _ _ _ h
theorem Q0(names slots:List ByteArray)(ahead:List Nd)(m:Nd)(nx:Nat)(b:Int×Int)(h:b.1≠0):(Ct names slots ahead m nx b).2=b:=by
 unfold Ct
 have e:(EM (m.kids.take m.num.toNat) ⟨nx+1,[],if F6 ahead m=true then Bg b 5 nx else b⟩).bad=b:=by
  rw[Ew h,ite_self]
  exact Hq _ ⟨_,_,b⟩ h
 rw[KU _ _ _ _ (by rw[e];exact h),e]
theorem EW(names slots:List ByteArray):∀(ms ahead:List Nd) (nx:Nat) (b:Int×Int),b.1≠0->(Cj names slots ahead ms nx b).2=b
 | [],_,_,_,_=>rfl
 | m::ms,ahead,nx,b,h=>by
  unfold Cj
  have e:=Q0 names slots ahead m nx b h
  rw[EW names slots ms _ _ _ (by rw[e];exact h),e]
theorem Ql(names:List ByteArray)(past:List (List ByteArray))(up:List Nd)(c:CsR)(h:c.bad.1≠0):(upR names past up c).bad=c.bad:=by
 unfold upR
 cases up with
 | nil=>rfl
 | cons u us=>
  show ite _ _ _=_
  rw[Ew h,ite_self]
theorem RD(names:List ByteArray)(past:List (List ByteArray))(x:ByteArray)(up ks ms:List Nd)(nx:Nat)(b:Int×Int)(h:b.1≠0):(EG names past x up ks ms nx b).bad=b:=by
 unfold EG
 dsimp only
 have e:(D5 names past x up ks nx b).bad=b:=by
  unfold D5
  rw[Ew h,ite_self]
  have e1:=Ql names past up ⟨nx+1,[],b⟩ h
  rw[G0 _ _ (by rw[e1];exact h),e1]
 rw[EW _ _ _ _ _ _ (by rw[e];exact h),e]
theorem Qm:∀(l:List Nd) (s:StR),s.bad=(0,0)->s.inn.length<=30->IsR [] (E3 l (s.next,s.inn)) (EM l s)
 | [],s,hb,hl=>⟨hb,rfl,rfl,hl⟩
 | n::ns,s,hb,hl=>by
  unfold E3 EM FE
  rw[List.drop_zero]
  have e:P4 n s=⟨s.next+1,s.inn++[n.str],E8 30 s.inn n.str s.next (0,0)⟩:=by unfold P4;rw[hb]
  rw[e]
  dsimp only
  by_cases hh:BE s.inn n.str=true
  ·have e2:E8 30 s.inn n.str s.next (0,0)=(5,(s.next:Int)):=by
    unfold E8
    rw[if_pos hh]
    show(if _ then Bg (5,_) 1 _ else(5,_))=_
    rw[Ew (by show(5:Int)≠0;decide),ite_self]
   rw[if_pos hh,chk_err,e2]
   exact Hq ns ⟨_,_,(5,(s.next:Int))⟩ (by show(5:Int)≠0;decide)
  ·rw[if_neg hh]
   by_cases h30:s.inn.length=30
   ·have e2:E8 30 s.inn n.str s.next (0,0)=(1,(s.next:Int)):=by
     unfold E8
     rw[if_neg hh,if_pos (by omega)]
     rfl
    rw[if_pos h30,chk_err,e2]
    exact Hq ns ⟨_,_,(1,(s.next:Int))⟩ (by show(1:Int)≠0;decide)
   ·have e2:E8 30 s.inn n.str s.next (0,0)=(0,0):=by
     unfold E8
     rw[if_neg hh,if_neg (by omega)]
    rw[if_neg h30,chk_ok,e2]
    exact Qm ns ⟨s.next+1,s.inn++[n.str],(0,0)⟩ rfl (by show(s.inn++[n.str]).length<=30;rw[Z1];show _+1<=30;omega)
def IsN(g:Chk Nat)(y:Nat×(Int×Int)):Prop:=match g with
 | .ok z=>y=(z,(0,0))
 | .error e=>y.2=e
theorem Sl(names slots:List ByteArray)(ahead:List Nd)(m:Nd)(nx:Nat)(hm:WfM m)(hs:F6 ahead m=false):IsN (Db names slots m (nx+1)) (Ct names slots ahead m nx (0,0)):=by
 obtain⟨x,ks,b,rfl,-,hk,hb⟩:=hm
 unfold Db Ct
 rw[hs,if_neg (by decide)]
 have en:(Nd.mk 4 x (ks.length:Int) (ks++[b])).num.toNat=ks.length:=Int.toNat_natCast _
 have ek:(Nd.mk 4 x (ks.length:Int) (ks++[b])).kids=ks++[b]:=rfl
 rw[en,ek]
 have e1:(ks++[b])[ks.length]?=some b:=by rw[List.getElem?_append_right (Z0 _),Nat.sub_self];rfl
 have e2:(ks++[b]).getD ks.length (.mk 0 [] 0 [])=b:=by rw[Z2,e1];rfl
 rw[e1,e2]
 rcases H8 (Qm ((ks++[b]).take ks.length) ⟨nx+1,[],(0,0)⟩ rfl (by show 0<=30;decide))with⟨z,hz,h1,h2,h3,h4⟩ | ⟨e,hz,h1⟩
 ·have hz':E3 ((ks++[b]).take ks.length) (nx+1,[])=.ok z:=hz
  rw[hz',chk_ok]
  generalize EM ((ks++[b]).take ks.length) ⟨nx+1,[],(0,0)⟩=y at *
  dsimp only
  have hw:∀c∈b.kids,∃r,WfR r c:=by
   cases b with
   | mk k x m ks=>unfold WfR at hb;exact Kw hb.2
  have h3':z.2=y.inn:=h3
  have hi:=Ic b.kids ⟨names,slots,true,true⟩ [] ⟨y.next+1,y.inn,(0,0)⟩ hw rfl (by rw[<-h3'];show 0+_<=30;omega)
  have hi':IsR [] (BU ⟨names,slots,true,true⟩ 0 b.kids (y.next+1,y.inn)) _:=hi
  rw[h2]at hi'
  unfold Hi
  rw[h1,h2,<-h3']
  rw[<-h3']at hi'
  rcases H8 hi' with⟨z2,hz2,g1,g2,g3,g4⟩ | ⟨e,hz2,g1⟩
  ·rw[hz2,chk_ok]
   exact Prod.ext g2 g1
  ·rw[hz2,chk_err]
   exact g1
 ·have hz':E3 ((ks++[b]).take ks.length) (nx+1,[])=.error e:=hz
  rw[hz',chk_err]
  have he:e.1≠0:=KP _ _ e hz'
  show(Hi _ _ _ _).2=e
  rw[KU _ _ _ _ (by rw[h1];exact he),h1]
theorem KV(names:List ByteArray)(past:List (List ByteArray))(c:ClZ):Ay names past [] c=.ok c:=by unfold Ay;rfl
theorem I2(names:List ByteArray)(past:List (List ByteArray))(n:Nd)(ns:List Nd)(c:ClZ):Ay names past (n::ns) c=(Cr names past n c).then fun c=>Ay names past ns c:=by conv=>lhs;unfold Ay
theorem H9(names:List ByteArray)(past:List (List ByteArray)):∀(a b:List Nd) (c:ClZ),Ay names past (a++b) c=(Ay names past a c).then fun c=>Ay names past b c
 | [],b,c=>by rw[List.nil_append,KV,chk_ok]
 | n::a,b,c=>by
  rw[List.cons_append,I2,I2]
  cases Cr names past n c with
  | error e=>rfl
  | ok c2=>exact H9 names past a b c2
theorem MN(names:List ByteArray)(past:List (List ByteArray)):∀(ms ahead:List Nd) (c:ClZ),(∀m∈ms,WfM m)->c.sigs=ahead.map (fun y=>(y.str,y.num)) ->
  match Ay names past ms c with
  | .ok z=>Cj names c.slots ahead ms c.next (0,0)=(z.next,(0,0))/\z.slots=c.slots
  | .error e=>(Cj names c.slots ahead ms c.next (0,0)).2=e
 | [],ahead,c,_,_=>by
  unfold Ay Cj
  exact⟨rfl,rfl⟩
 | m::ms,ahead,c,hw,hs=>by
  have hm:=hw m (Z7 ..)
  have h4:m.kind=4:=by obtain⟨x,ks,b,rfl,_⟩:=hm;rfl
  unfold Ay Cj
  have em:Cr names past m c=if F6 ahead m=true then .error (5,(c.next:Int))else(Db names c.slots m (c.next+1)).then fun nx=>.ok { c with next:=nx,sigs:=c.sigs++[(m.str,m.num)] }:=by
   unfold Cr
   rw[if_neg (by omega),if_neg (by omega),if_pos h4,hs]
   have e:((ahead.map (fun y=>(y.str,y.num))).any fun y=>decide (y.1=m.str)&&y.2==m.num)=F6 ahead m:=by
    unfold F6
    rw[List.any_map]
    rfl
   rw[e]
  rw[em]
  by_cases hh:F6 ahead m=true
  ·rw[if_pos hh,chk_err]
   dsimp only
   have e:(Ct names c.slots ahead m c.next (0,0)).2=(5,(c.next:Int)):=by
    unfold Ct
    rw[if_pos hh]
    show(Hi _ _ _ (EM _ ⟨_,_,(5,(c.next:Int))⟩)).2=_
    have e1:=Hq (m.kids.take m.num.toNat) ⟨c.next+1,[],(5,(c.next:Int))⟩ (by show(5:Int)≠0;decide)
    rw[KU _ _ _ _ (by rw[e1];show(5:Int)≠0;decide),e1]
   rw[e,EW _ _ _ _ _ _ (by show(5:Int)≠0;decide)]
  ·rw[if_neg hh]
   have hh':F6 ahead m=false:=by simpa using hh
   have hi:=Sl names c.slots ahead m c.next hm hh'
   cases hz:Db names c.slots m (c.next+1)with
   | error e=>
    rw[hz]at hi
    rw[chk_err,chk_err]
    dsimp only
    have hi':(Ct names c.slots ahead m c.next (0,0)).2=e:=hi
    rw[hi',EW _ _ _ _ _ _ (LD _ _ _ _ e hz)]
   | ok nx=>
    rw[hz]at hi
    have hi':Ct names c.slots ahead m c.next (0,0)=(nx,(0,0)):=hi
    rw[chk_ok,chk_ok,hi']
    exact MN names past ms (ahead++[m]) { c with next:=nx,sigs:=c.sigs++[(m.str,m.num)] } (fun y hy=>hw y (Z8 _ hy)) (by rw[List.map_append];show c.sigs++_=_;rw[hs];rfl)
def IsC(g:Chk ClZ)(y:CsR)(sg:List (ByteArray×Int)):Prop:=match g with
 | .ok z=>y=⟨z.next,z.slots,(0,0)⟩/\z.sigs=sg/\z.slots.length<=59
 | .error e=>y.bad=e
theorem Nj(names:List ByteArray)(past:List (List ByteArray))(sg:List (ByteArray×Int)):∀(ks:List Nd) (c:ClZ),(∀n∈ks,n.kind=3)->c.slots.length<=59->c.sigs=sg->IsC (Ay names past ks c) (DX ks ⟨c.next,c.slots,(0,0)⟩) sg
 | [],c,_,hl,hg=>by
  unfold Ay DX
  exact⟨rfl,hg,hl⟩
 | n::ns,c,hk,hl,hg=>by
  have h3:=hk n (Z7 ..)
  unfold Ay DX Cr
  rw[if_neg (by omega),if_pos h3]
  have e:OO n ⟨c.next,c.slots,(0,0)⟩=⟨c.next+1,c.slots++[n.str],E8 59 c.slots n.str c.next (0,0)⟩:=rfl
  rw[e]
  by_cases hh:BE c.slots n.str=true
  ·have e2:E8 59 c.slots n.str c.next (0,0)=(5,(c.next:Int)):=by
    unfold E8
    rw[if_pos hh]
    show(if _ then Bg (5,_) 1 _ else(5,_))=_
    rw[Ew (by show(5:Int)≠0;decide),ite_self]
   rw[if_pos hh,chk_err,e2]
   exact G0 ns ⟨_,_,(5,(c.next:Int))⟩ (by show(5:Int)≠0;decide)
  ·rw[if_neg hh]
   by_cases h30:c.slots.length=59
   ·have e2:E8 59 c.slots n.str c.next (0,0)=(1,(c.next:Int)):=by
     unfold E8
     rw[if_neg hh,if_pos (by omega)]
     rfl
    rw[if_pos h30,chk_err,e2]
    exact G0 ns ⟨_,_,(1,(c.next:Int))⟩ (by show(1:Int)≠0;decide)
   ·have e2:E8 59 c.slots n.str c.next (0,0)=(0,0):=by
     unfold E8
     rw[if_neg hh,if_neg (by omega)]
    rw[if_neg h30,chk_ok,e2]
    exact Nj names past sg ns { c with next:=c.next+1,slots:=c.slots++[n.str] } (fun y hy=>hk y (Z8 _ hy)) (by show(c.slots++[n.str]).length<=59;rw[Z1];show _+1<=59;omega) hg
theorem Sm{l:List ByteArray}{x:ByteArray}{k:Nat}:(l.take k).findIdx? (fun y=>decide (y=x))=Ed l k x:=by
 unfold Ed
 cases h:l.findIdx? (fun y=>decide (y=x))with
 | none=>
  rw[List.findIdx?_eq_none_iff]at h
  show _=none
  rw[List.findIdx?_eq_none_iff]
  exact fun y hy=>h y (List.mem_of_mem_take hy)
 | some i=>
  rw[List.findIdx?_eq_some_iff_getElem]at h
  obtain⟨hi,hx,hj⟩:=h
  show _=if i<k then some i else none
  by_cases hik:i<k
  ·rw[if_pos hik,List.findIdx?_eq_some_iff_getElem]
   refine⟨by rw[List.length_take];omega,by rw[List.getElem_take];exact hx,fun j hj'=>by rw[List.getElem_take];exact hj j hj'⟩
  ·rw[if_neg hik,List.findIdx?_eq_none_iff]
   intro y hy
   obtain⟨j,hj1,rfl⟩:=List.getElem_of_mem hy
   rw[List.length_take]at hj1
   rw[List.getElem_take]
   have:=hj j (by omega)
   simpa using this
theorem WZ(names:List ByteArray)(past:List (List ByteArray))(hp:∀l∈past,l.length<=59)(up:List Nd)(nx:Nat)(hu:up=[]\/∃y,C8 y=true/\up=[.mk 31 y 0 []]):IsC (Ay names past up ⟨nx,[],[]⟩) (upR names past up ⟨nx,[],(0,0)⟩) []:=by
 rcases hu with rfl | ⟨y,-,rfl⟩
 ·unfold Ay upR
  exact⟨rfl,rfl,Z3 _⟩
 ·rw[I2]
  unfold upR Cr
  rw[if_pos (show(Nd.mk 31 y 0 []).kind=31 from rfl)]
  have e:(Nd.mk 31 y 0 []).str=strOfNums y:=rfl
  dsimp only
  rw[e]
  have ep:CD (names.take past.length) (strOfNums y)=match Ed names past.length (strOfNums y)with
   | some i=>(i:Int)
   | none=>-1:=by unfold CD;rw[Sm]
  rw[ep]
  cases hz:Ed names past.length (strOfNums y)with
  | none=>
   rw[chk_err]
   rfl
  | some i=>
   rw[chk_ok]
   dsimp only
   rw[if_neg (Int.not_lt.2 (Int.natCast_nonneg i)),if_neg (Int.not_lt.2 (Int.natCast_nonneg i)),Int.toNat_natCast]
   rw[KV]
   refine⟨rfl,rfl,?_⟩
   show(past.getD i []).length<=59
   rw[Z2]
   cases hi:past[i]? with
   | none=>exact Z3 _
   | some l=>exact hp l (List.mem_of_getElem? hi)
theorem Sn(names:List ByteArray)(past:List (List ByteArray))(hp:∀l∈past,l.length<=59)(x:List Int)(up ks ms:List Nd)(nx:Nat)(hu:up=[]\/∃y,C8 y=true/\up=[.mk 31 y 0 []])(hk:∀n∈ks,n.kind=3)(hm:∀m∈ms,WfM m)(hn:names[past.length]?=some (strOfNums x)) :
  match FN names past (.mk 2 x 0 (up++ks++ms)) nx with
  | .ok y=>EG names past (strOfNums x) up ks ms nx (0,0)=⟨y.1,y.2,(0,0)⟩/\y.2.length<=59
  | .error e=>(EG names past (strOfNums x) up ks ms nx (0,0)).bad=e:=by
 unfold FN
 have ex:(Nd.mk 2 x 0 (up++ks++ms)).str=strOfNums x:=rfl
 have ek:(Nd.mk 2 x 0 (up++ks++ms)).kids=up++ks++ms:=rfl
 rw[ex,ek]
 have eP:(CD names (strOfNums x)<(past.length:Int))↔(Ed names past.length (strOfNums x)).isSome=true:=by
  unfold CD Ed
  cases h:names.findIdx? (fun y=>decide (y=strOfNums x))with
  | none=>
   rw[List.findIdx?_eq_none_iff]at h
   have:=h _ (List.mem_of_getElem? hn)
   simp at this
  | some i=>
   show((i:Int)<_)↔(if i<past.length then some i else none).isSome=true
   by_cases hi:i<past.length
   ·rw[if_pos hi]
    exact⟨fun _=>rfl,fun _=>by omega⟩
   ·rw[if_neg hi]
    exact⟨fun e=>by omega,fun e=>by cases e⟩
 by_cases hP:CD names (strOfNums x)<(past.length:Int)
 ·rw[if_pos (eP.1 hP)]
  dsimp only
  unfold EG D5
  rw[if_pos hP]
  have e5:(Bg (0,0) 5 nx).1≠0:=by show(5:Int)≠0;decide
  dsimp only
  have e1:=Ql names past up ⟨nx+1,[],Bg (0,0) 5 nx⟩ e5
  have e2:(DX ks (upR names past up ⟨nx+1,[],Bg (0,0) 5 nx⟩)).bad=Bg (0,0) 5 nx:=by rw[G0 _ _ (by rw[e1];exact e5),e1]
  rw[EW _ _ _ _ _ _ (by rw[e2];exact e5),e2]
  rfl
 ·rw[if_neg (fun e=>hP (eP.2 e))]
  have eh:D5 names past (strOfNums x) up ks nx (0,0)=DX ks (upR names past up ⟨nx+1,[],(0,0)⟩):=by unfold D5;rw[if_neg hP]
  unfold EG
  rw[eh,List.append_assoc,H9]
  have hI:=WZ names past hp up (nx+1) hu
  cases hz:Ay names past up ⟨nx+1,[],[]⟩with
  | error e=>
   rw[hz]at hI
   have hI':(upR names past up ⟨nx+1,[],(0,0)⟩).bad=e:=hI
   have he:e.1≠0:=Fg _ _ _ _ e hz
   rw[chk_err,chk_err]
   dsimp only
   have e2:(DX ks (upR names past up ⟨nx+1,[],(0,0)⟩)).bad=e:=by rw[G0 _ _ (by rw[hI'];exact he),hI']
   rw[EW _ _ _ _ _ _ (by rw[e2];exact he),e2]
  | ok c1=>
   rw[hz]at hI
   obtain⟨hI1,hI2,hI3⟩:=hI
   rw[chk_ok,H9,hI1]
   have hS:=Nj names past [] ks c1 hk hI3 hI2
   cases hz2:Ay names past ks c1 with
   | error e=>
    rw[hz2]at hS
    have hS':(DX ks ⟨c1.next,c1.slots,(0,0)⟩).bad=e:=hS
    have he:e.1≠0:=Fg _ _ _ _ e hz2
    rw[chk_err,chk_err]
    dsimp only
    rw[EW _ _ _ _ _ _ (by rw[hS'];exact he),hS']
   | ok c2=>
    rw[hz2]at hS
    obtain⟨hS1,hS2,hS3⟩:=hS
    rw[chk_ok,hS1]
    dsimp only
    have hM:=MN names past ms [] c2 hm hS2
    cases hz3:Ay names past ms c2 with
    | error e=>
     rw[hz3]at hM
     rw[chk_err]
     exact hM
    | ok c3=>
     rw[hz3]at hM
     obtain⟨hM1,hM2⟩:=hM
     rw[chk_ok]
     dsimp only
     rw[hM1,hM2]
     exact⟨rfl,hS3⟩
def WB(l:List Nd):List Nd:=l.takeWhile fun n=>n.kind==31
def P6(l:List Nd):List Nd:=(l.dropWhile fun n=>n.kind==31).takeWhile fun n=>n.kind==3
def Qn(l:List Nd):List Nd:=(l.dropWhile fun n=>n.kind==31).dropWhile fun n=>n.kind==3
theorem JB{p:Nd->Bool}:∀ {a b:List Nd},(∀n∈a,p n=true)->(∀n∈b,p n=false)->(a++b).takeWhile p=a/\(a++b).dropWhile p=b
 | [],b,_,hb=>by
  cases b with
  | nil=>exact⟨rfl,rfl⟩
  | cons n ns=>
   have h:=hb n (Z7 ..)
   rw[List.nil_append]
   exact⟨by rw[List.takeWhile_cons,h];rfl,by rw[List.dropWhile_cons,h];rfl⟩
 | n::a,b,ha,hb=>by
  have h:=ha n (Z7 ..)
  have ih:=JB (a:=a) (b:=b) (fun y hy=>ha y (Z8 _ hy)) hb
  rw[List.cons_append]
  exact⟨by rw[List.takeWhile_cons,h,ih.1];rfl,by rw[List.dropWhile_cons,h,ih.2];rfl⟩
structure JQ(n:Nd)(x:List Int)(up ks ms:List Nd):Prop where
 is:n=.mk 2 x 0 (up++ks++ms)
 over:up=[]\/∃y,C8 y=true/\up=[.mk 31 y 0 []]
 slots:∀c∈ks,c.kind=3
 meths:∀c∈ms,WfM c
 pUp:WB n.kids=up
 pSlots:P6 n.kids=ks
 pMeths:Qn n.kids=ms
theorem WfM.four{n:Nd}(h:WfM n):n.kind=4:=by obtain⟨x,ks,b,rfl,_⟩:=h;rfl
theorem SlotN.three{n:Nd}(h:SlotN n):n.kind=3:=by obtain⟨x,_,rfl⟩:=h;rfl
theorem WfC.parts{n:Nd}(h:WfC n):∃x up ks ms,JQ n x up ks ms:=by
 obtain⟨x,up,ks,ms,rfl,-,hu,hk,hm⟩:=h
 have h3:∀c∈ks,c.kind=3:=fun c hc=>(hk c hc).three
 have h4:∀c∈ms,c.kind=4:=fun c hc=>(hm c hc).four
 have hup:∀n∈up,(n.kind==31)=true:=by
  rcases hu with rfl | ⟨y,-,rfl⟩
  ·exact fun n hn=>by cases hn
  ·exact fun n hn=>by rw[List.mem_singleton.1 hn];rfl
 have hrest:∀n∈ks++ms,(n.kind==31)=false:=fun n hn=>by
  rcases List.mem_append.1 hn with h | h
  ·rw[h3 n h];rfl
  ·rw[h4 n h];rfl
 have e1:=JB hup hrest
 have e2:=JB (p:=fun n=>n.kind==3) (a:=ks) (b:=ms) (fun n hn=>by rw[h3 n hn];rfl) (fun n hn=>by rw[h4 n hn];rfl)
 refine⟨x,up,ks,ms,rfl,hu,h3,hm,?_,?_,?_⟩
 ·show(up++ks++ms).takeWhile _=up
  rw[List.append_assoc]
  exact e1.1
 ·show((up++ks++ms).dropWhile _).takeWhile _=ks
  rw[List.append_assoc,e1.2]
  exact e2.1
 ·show((up++ks++ms).dropWhile _).dropWhile _=ms
  rw[List.append_assoc,e1.2]
  exact e2.2
def Cq(names:List ByteArray)(past:List (List ByteArray))(n:Nd)(nx:Nat)(b:Int×Int):CsR:=EG names past n.str (WB n.kids) (P6 n.kids) (Qn n.kids) nx b
structure PrR where
 past:List (List ByteArray)
 next:Nat
 bad:Int×Int
def DY(names:List ByteArray):List Nd->PrR->PrR
 | [],s=>s
 | n::ns,s=>DY names ns ⟨s.past++[(Cq names s.past n s.next s.bad).slots],(Cq names s.past n s.next s.bad).next,(Cq names s.past n s.next s.bad).bad⟩
theorem KX(names:List ByteArray):∀(ns:List Nd) (s:PrR),s.bad.1≠0->(DY names ns s).bad=s.bad
 | [],_,_=>rfl
 | n::ns,s,h=>by
  unfold DY
  have e:(Cq names s.past n s.next s.bad).bad=s.bad:=RD _ _ _ _ _ _ _ _ h
  rw[KX names ns _ (by show(Cq names s.past n s.next s.bad).bad.1≠0;rw[e];exact h)]
  exact e
def VH(names:List ByteArray)(b:Nd)(s:PrR):Int×Int:=(BM ⟨names,[],false,false⟩ [] b.kids ⟨s.next+1,[],s.bad⟩).bad
def Hj(ks:List Nd)(b:Nd):Int×Int:=VH (ks.map Nd.str) b (DY (ks.map Nd.str) ks ⟨[],1,(0,0)⟩)
theorem MQ(names:List ByteArray):∀(ns:List Nd) (past:List (List ByteArray)) (nx:Nat),(∀l∈past,l.length<=59)->(∀n∈ns,WfC n)->names.drop past.length=ns.map Nd.str ->
  match DE names ns past nx with
  | .ok y=>DY names ns ⟨past,nx,(0,0)⟩=⟨y.1,y.2,(0,0)⟩
  | .error e=>(DY names ns ⟨past,nx,(0,0)⟩).bad=e/\e.1≠0
 | [],past,nx,_,_,_=>by
  unfold DE DY
  rfl
 | n::ns,past,nx,hp,hw,hd=>by
  unfold DE DY
  dsimp only
  obtain⟨x,up,ks,ms,P⟩:=(hw n (Z7 ..)).parts
  have hx:n.str=strOfNums x:=by rw[P.is];rfl
  have hn:names[past.length]?=some (strOfNums x):=by
   have e:=congrArg List.head? hd
   rw[List.head?_drop]at e
   rw[e,List.map_cons,hx]
   rfl
  have eN:Cq names past n nx (0,0)=EG names past (strOfNums x) up ks ms nx (0,0):=by unfold Cq;rw[P.pUp,P.pSlots,P.pMeths,hx]
  have hI:=Sn names past hp x up ks ms nx P.over P.slots P.meths hn
  rw[<-P.is,<-eN]at hI
  cases hz:FN names past n nx with
  | error e=>
   rw[hz]at hI
   rw[chk_err]
   have hI':(Cq names past n nx (0,0)).bad=e:=hI
   have he:e.1≠0:=by
    unfold FN at hz
    split at hz
    ·cases hz;show(5:Int)≠0;decide
    ·exact Dd (Fg _ _ _ _) (fun _=>E7) e hz
   refine⟨?_,he⟩
   rw[KX names ns _ (by show(Cq names past n nx (0,0)).bad.1≠0;rw[hI'];exact he)]
   exact hI'
  | ok y=>
   rw[hz]at hI
   obtain⟨h1,h2⟩:=hI
   rw[chk_ok,h1]
   refine MQ names ns (past++[y.2]) y.1 (fun l hl=>?_) (fun m hm=>hw m (Z8 _ hm)) ?_
   ·rcases List.mem_append.1 hl with h | h
    ·exact hp l h
    ·rw[List.mem_singleton.1 h];exact h2
   ·rw[Z1,<-List.drop_drop,hd]
    rfl
theorem Vd{n:Nd}(h:WfP n):∃ks b,n=.mk 1 [] 0 (ks++[b])/\(∀c∈ks,WfC c)/\WfR 2 b/\Hj ks b=match FR n with
  | .ok _=>(0,0)
  | .error e=>e:=by
 obtain⟨ks,b,rfl,hk,hb⟩:=h
 refine⟨ks,b,rfl,hk,hb,?_⟩
 unfold FR Hj VH
 have ek:(Nd.mk 1 [] 0 (ks++[b])).kids=ks++[b]:=rfl
 rw[ek,List.dropLast_concat,List.getLast?_concat]
 have hI:=MQ (ks.map Nd.str) ks [] 1 (fun l hl=>by cases hl) hk rfl
 have hw:∀c∈b.kids,∃r,WfR r c:=by
  cases b with
  | mk k x m ks=>unfold WfR at hb;exact Kw hb.2
 cases hz:DE (ks.map Nd.str) ks [] 1 with
 | error e=>
  rw[hz]at hI
  rw[chk_err]
  rw[Fh _ _ _ _ (by show(DY _ _ _).bad.1≠0;rw[hI.1];exact hI.2)]
  exact hI.1
 | ok y=>
  rw[hz]at hI
  have hI':DY (ks.map Nd.str) ks ⟨[],1,(0,0)⟩=⟨y.1,y.2,(0,0)⟩:=hI
  rw[chk_ok,hI']
  dsimp only
  have h6:=P1 hb
  cases b with
  | mk k x m kb=>
   have h6':k=6:=h6
   subst h6'
   have eL:CE ⟨ks.map Nd.str,[],false,false⟩ [] 6 (strOfNums x) y.2=.ok ():=by
    unfold CE
    rw[if_neg (fun e=>by omega),if_neg (fun e=>by omega),if_neg (fun e=>by omega),if_neg (fun e=>by omega)]
   unfold EK
   dsimp only
   rw[eL,chk_ok,if_pos rfl]
   have hK:=Ic kb ⟨ks.map Nd.str,[],false,false⟩ [] ⟨y.2+1,[],(0,0)⟩ hw rfl (by show 0+0<=30;decide)
   have hK':IsR [] (BU ⟨ks.map Nd.str,[],false,false⟩ 0 kb (y.2+1,[])) (BM ⟨ks.map Nd.str,[],false,false⟩ [] kb ⟨y.2+1,[],(0,0)⟩):=hK
   rcases H8 hK' with⟨z,hz2,g1,-⟩ | ⟨e,hz2,g1⟩
   ·rw[List.length_nil]
    rw[hz2,chk_ok,chk_ok]
    exact g1
   ·rw[List.length_nil]
    rw[hz2,chk_err,chk_err]
    exact g1
def Mt(n:Nd):Prop:=n.kind=4->∃na:Nat,n.num=(na:Int)/\n.kids.length=na+1
def Pj(n:Nd):Prop:=∀c∈n.kids,Mt c
def Hb{α:Type}(P:α->Prop)(g:Got α):Prop:=∀a s,g=.ok (a,s)->P a
theorem Fm{α:Type}{P:α->Prop}{a:α}{s:PS}(h:P a):Hb P (.ok (a,s):Got α):=fun b s' e=>by cases e;exact h
theorem L5{α:Type}{P:α->Prop}{e:Int×Int}:Hb P (.error e:Got α):=fun b s' e=>by cases e
theorem EP{α:Type}{g:Got α}:Hb (fun _=>True) g:=fun _ _ _=>trivial
theorem Bv{α β:Type}{P:α->Prop}{Q:β->Prop}{g:Got α}{f:α->PS->Got β}(h:Hb P g)(hf:∀a s,P a->Hb Q (f a s)):Hb Q (g.then f):=by
 unfold Got.then
 cases g with
 | error e=>exact L5
 | ok p=>
  obtain⟨a,s⟩:=p
  exact hf a s (h a s rfl)
theorem Pk(S:Src9)(f:Nat)(s:PS):Hb Mt (DI S f s):=by
 unfold DI
 exact Bv EP fun x s1 _=>Bv EP fun _ s2 _=>Bv EP fun ks s3 _=>Bv EP fun _ s4 _=>Bv EP fun b s5 _=>Fm (fun _=>⟨ks.length,rfl,Z1⟩)
theorem LQ(S:Src9):∀(f:Nat) (s:PS),Hb (fun ks=>∀c∈ks,Mt c) (Bo S f s)
 | 0,_=>L5
 | f+1,s=>by
  rw[Bo]
  split
  ·refine Bv EP fun x s1 _=>Bv EP fun _ s2 _=>?_
   show Hb _ ((Bo S f s2.node).then _)
   refine Bv (LQ S f s2.node) fun ks s3 h3=>Fm fun c hc=>?_
   rcases List.mem_cons.1 hc with rfl | hc
   ·exact fun e=>absurd e (by show ¬(3:Int)=4;decide)
   ·exact h3 c hc
  ·exact Fm fun c hc=>by cases hc
theorem K2(S:Src9):∀(f:Nat) (s:PS),Hb (fun ks=>∀c∈ks,Mt c) (B6 S f s)
 | 0,_=>L5
 | f+1,s=>by
  rw[B6]
  split
  ·refine Bv (Pk S f s.step) fun k s1 h1=>Bv (K2 S f s1) fun ks s2 h2=>Fm fun c hc=>?_
   rcases List.mem_cons.1 hc with rfl | hc
   ·exact h1
   ·exact h2 c hc
  ·exact Fm fun c hc=>by cases hc
theorem QS(S:Src9)(f:Nat)(s:PS):Hb Pj (Dm S f s):=by
 unfold Dm
 refine Bv EP fun x s1 _=>Bv (P:=fun ks=>∀c∈ks,Mt c) ?_ fun up s2 hu=>Bv EP fun _ s3 _=>Bv (LQ S f s3) fun ks s4 hk=>Bv (K2 S f s4) fun ms s5 hm=>Bv EP fun _ s6 _=>Fm fun c hc=>?_
 ·split
  ·refine Bv EP fun y s2 _=>?_
   refine Fm fun c hc=>?_
   have e:c=.mk 31 y 0 []:=by simpa using hc
   subst e
   exact fun e=>absurd e (by show ¬(31:Int)=4;decide)
  ·exact Fm fun c hc=>by cases hc
 ·have hc':c∈up++ks++ms:=hc
  rcases List.mem_append.1 hc' with h | h
  ·rcases List.mem_append.1 h with h | h
   ·exact hu c h
   ·exact hk c h
  ·exact hm c h
theorem K3(S:Src9):∀(f:Nat) (s:PS),Hb (fun ks=>∀c∈ks,Pj c) (B9 S f s)
 | 0,_=>L5
 | f+1,s=>by
  rw[B9]
  split
  ·refine Bv (QS S f s.step) fun k s1 h1=>Bv (K3 S f s1) fun ks s2 h2=>Fm fun c hc=>?_
   rcases List.mem_cons.1 hc with rfl | hc
   ·exact h1
   ·exact h2 c hc
  ·exact Fm fun c hc=>by cases hc
def VL(n:Nd):Prop:=∃ks b,n=.mk 1 [] 0 (ks++[b])/\∀c∈ks,Pj c
theorem S7(S:Src9)(f:Nat)(s:PS):Hb VL (Ec S f s):=by
 unfold Ec
 exact Bv (K3 S f s) fun ks s1 hk=>Bv EP fun _ s2 _=>Bv EP fun b s3 _=>Fm ⟨ks,b,rfl,hk⟩
theorem QT{T:List Int}{n:Nd}(h:Cc T=.ok n):VL n:=by
 unfold Cc at h
 cases hq:Cf T with
 | error e=>rw[hq]at h;cases h
 | ok l=>
  rw[hq]at h
  have h':Cn ⟨l,T.length⟩ (Co ⟨l,T.length⟩)=.ok n:=h
  unfold Cn at h'
  cases hp:Ec ⟨l,T.length⟩ (Co ⟨l,T.length⟩) ⟨0,0,0⟩with
  | error e=>rw[hp]at h';cases h'
  | ok y=>
   obtain⟨m,s⟩:=y
   rw[hp]at h'
   dsimp only at h'
   split at h'
   ·cases h'
   ·split at h'
    ·cases h'
    ·cases h'
     exact S7 _ _ _ n s hp
end Go.Proofs.YtibeadcfgcfdbaaGreatDoor
