/- Texts in one. -/
import Derived.Test.YtpfdgbalchmmfaaGreatDoorMz
import Derived.Test.YtpfdgbalchmmfaaGreatDoorMc
import Derived.KernelRfl
namespace Go.Proofs.YtpfdgbalchmmfaaGreatDoor
structure CN where
 names:List ByteArray
 slots:List ByteArray
 inside:Bool
 returns:Bool
abbrev Chk (α:Type):Type:=Except (Int×Int) α
def Chk.then{α β:Type}(g:Chk α)(f:α->Chk β):Chk β:=match g with
 | .ok a=>f a
 | .error e=>.error e
@[simp] theorem chk_ok {α β:Type} (a:α) (f:α->Chk β):Chk.then (.ok a:Chk α) f=f a:=rfl
@[simp] theorem chk_err {α β:Type} (e:Int×Int) (f:α->Chk β):Chk.then (.error e:Chk α) f=.error e:=rfl
def Nd.str(n:Nd):ByteArray:=strOfNums n.text
def BQ(l:List ByteArray)(x:ByteArray):Bool:=l.any fun y=>decide (y=x)
def Ds(own:Nat)(x:ByteArray)(at':Nat)(L:List ByteArray):Chk (List ByteArray):=
 if BQ (L.drop own) x=true then .error (5,(at':Int))else if L.length=30 then .error (1,(at':Int))else .ok (L++[x])
def C9(E:CN)(L:List ByteArray)(k:Int)(x:ByteArray)(at':Nat):Chk Unit:=
 if(k=8\/k=31)/\BQ L x=false/\BQ E.slots x=false then .error (14,(at':Int))
 else if k=30/\BQ E.names x=false then .error (14,(at':Int))
 else if k=28/\E.inside=false then .error (3,(at':Int))
 else if k=11/\E.returns=false then .error (3,(at':Int))
 else .ok ()
abbrev StZ:Type:=Nat×List ByteArray
mutual
def DW(E:CN)(own:Nat):Nd->StZ->Chk StZ
 | .mk k x _ ks,s=>(C9 E s.2 k (strOfNums x) s.1).then fun _=>
  if k=6 then(At E s.2.length ks (s.1+1,s.2)).then fun y=>.ok (y.1,s.2)
  else if k=13 then(At { E with returns:=false } own ks (s.1+1,s.2)).then fun y=>.ok (y.1,s.2)
  else(At E own ks (s.1+1,s.2)).then fun y=>if k=7 then(Ds own (strOfNums x) s.1 y.2).then fun L=>.ok (y.1,L)else .ok y
def At (E:CN) (own:Nat):List Nd->StZ->Chk StZ
 | [],s=>.ok s
 | n::ns,s=>(DW E own n s).then fun s=>At E own ns s
end
def DG:List Nd->StZ->Chk StZ
 | [],s=>.ok s
 | a::as',s=>(Ds 0 a.str s.1 s.2).then fun L=>DG as' (s.1+1,L)
def CI(names slots:List ByteArray)(m:Nd)(nx:Nat):Chk Nat:=
 (DG (m.kids.take m.num.toNat) (nx,[])).then fun y=>match m.kids[m.num.toNat]? with
  | some b=>(At ⟨names,slots,true,true⟩ 0 b.kids (y.1+1,y.2)).then fun z=>.ok z.1
  | none=>.ok y.1
def Eu(names:List ByteArray)(many:Nat)(x:ByteArray):Option Nat:=(names.findIdx? fun y=>decide (y=x)).bind fun i=>if i<many then some i else none
structure ClZ where
 next:Nat
 slots:List ByteArray
 sigs:List (ByteArray×Int)
def C3(names:List ByteArray)(past:List (List ByteArray))(n:Nd)(c:ClZ):Chk ClZ:=
 if n.kind=31 then(match Eu names past.length n.str with
  | some i=>.ok { c with next:=c.next+1,slots:=past.getD i [] }
  | none=>.error (14,(c.next:Int)))
 else if n.kind=3 then(if BQ c.slots n.str=true then .error (5,(c.next:Int))else if c.slots.length=59 then .error (1,(c.next:Int))else .ok { c with next:=c.next+1,slots:=c.slots++[n.str] })
 else if n.kind=4 then(if c.sigs.any (fun y=>decide (y.1=n.str)&&y.2==n.num)=true then .error (5,(c.next:Int))else
  (CI names c.slots n (c.next+1)).then fun nx=>.ok { c with next:=nx,sigs:=c.sigs++[(n.str,n.num)] })
 else .ok { c with next:=c.next+1 }
def Ap(names:List ByteArray)(past:List (List ByteArray)):List Nd->ClZ->Chk ClZ
 | [],c=>.ok c
 | n::ns,c=>(C3 names past n c).then fun c=>Ap names past ns c
def EO(names:List ByteArray)(past:List (List ByteArray))(n:Nd)(nx:Nat):Chk (Nat×List ByteArray):=
 if(Eu names past.length n.str).isSome=true then .error (5,(nx:Int))else(Ap names past n.kids ⟨nx+1,[],[]⟩).then fun c=>.ok (c.next,c.slots)
def CO(names:List ByteArray):List Nd->List (List ByteArray)->Nat->Chk (List (List ByteArray)×Nat)
 | [],past,nx=>.ok (past,nx)
 | n::ns,past,nx=>(EO names past n nx).then fun y=>CO names ns (past++[y.2]) y.1
def DX(n:Nd):Chk Unit:=
 (CO (n.kids.dropLast.map Nd.str) n.kids.dropLast [] 1).then fun y=>match n.kids.getLast? with
  | some b=>(DW ⟨n.kids.dropLast.map Nd.str,[],false,false⟩ 0 b (y.2,[])).then fun _=>.ok ()
  | none=>.ok ()
def Ee(T:List Int):Except (Int×Int) Nd:=match CD T with
 | .error e=>.error e
 | .ok n=>match DX n with
  | .error e=>.error e
  | .ok _=>.ok n
abbrev Ord:Type:=Int×Int×Int
structure MW where
 lists:List (List Ord)
 counts:List Nat
 names:List ByteArray
 locals:List ByteArray
def MW.put(s:MW)(at':Nat)(o:Ord):MW:={ s with lists:=s.lists.modify at' (·++[o]) }
def MW.list(s:MW)(k:Nat):List Ord:=s.lists.getD k []
def MW.count(s:MW)(k:Nat):Nat:=s.counts.getD k 0
def MW.here(s:MW)(at':Nat):Nat:=(s.list at').length
def MW.patch(s:MW)(at' i:Nat)(a:Int):MW:={ s with lists:=s.lists.modify at' fun l=>l.modify i fun o=>(o.1,a,o.2.2) }
def MW.local(s:MW)(at':Nat)(x:ByteArray):MW:={ s with locals:=s.locals++[x],counts:=s.counts.modify at' fun n=>max n (s.locals.length+1) }
def MW.begin(s:MW)(k:Nat):MW:={ s with lists:=s.lists++[[]],counts:=s.counts++[k] }
def MW.back(s:MW)(l:List ByteArray):MW:={ s with locals:=l }
def AX(l:List ByteArray)(x:ByteArray):Int:=match l.findIdx? fun y=>decide (y=x)with
 | some i=>(i:Int)
 | none=>-1
def DC(l:List ByteArray)(x:ByteArray):Nat->Option Nat
 | 0=>none
 | k+1=>if l[k]?=some x then some k else DC l x k
def FK(slots:List ByteArray)(s:MW)(x:ByteArray)(loc slot:Int):Ord:=match DC s.locals x s.locals.length with
 | some i=>(loc,(i:Int),0)
 | none=>(slot,AX slots x,0)
def MW.known(s:MW)(x:ByteArray):MW:=if 0<=AX s.names x then s else{ s with names:=s.names++[x] }
def MW.nameNo(s:MW)(x:ByteArray):Int:=if 0<=AX s.names x then AX s.names x else(s.names.length:Int)
def opP(k:Int):Int:=
 if k=27 then 2 else if k=28 then 3 else if k=29 then 4 else if k=20 then 12 else if k=21 then 13 else if k=22 then 14 else if k=18 then 15 else if k=19 then 16
 else if k=23 then 17 else if k=24 then 18 else if k=12 then 19 else if k=14 then 20 else if k=15 then 21 else if k=16 then 22 else if k=11 then 11 else if k=17 then 27 else 0
def Ai(cls slots:List ByteArray)(at':Nat)(k:Int)(x:ByteArray)(m:Int)(many:Nat)(s:MW):MW×Ord:=
 if k=26 then(s,(1,m,0))
 else if k=30 then(s,(5,AX cls x,0))
 else if k=25 then(s.known x,(10,s.nameNo x,(many:Int)-1))
 else if k=31 then(s,FK slots s x 6 8)
 else if k=8 then(s,FK slots s x 7 9)
 else if k=7 then(s.local at' x,(7,(s.locals.length:Int),0))
 else(s,(opP k,0,0))
mutual
def AB(cls slots:List ByteArray)(at':Nat):Nd->MW->MW
 | .mk k x m ks,s=>
  if k=6 then(B0 cls slots at' ks s).back s.locals
  else if k=13 then(match ks with
   | []=>s
   | b::_=>(AB cls slots s.lists.length b ((s.begin s.locals.length).put at' (23,(s.lists.length:Int),0))).back s.locals)
  else if k=10 then(match ks with
   | c::b::_=>
    let s1:=AB cls slots at' c (s.put at' (26,0,0))
    let s2:=AB cls slots at' b (s1.put at' (25,0,0))
    let s3:=s2.put at' (24,(s.here at':Int),0)
    s3.patch at' (s1.here at') (s3.here at':Int)
   | _=>s)
  else if k=9 then(match ks with
   | [c,b]=>
    let s1:=AB cls slots at' c s
    let s2:=AB cls slots at' b (s1.put at' (25,0,0))
    s2.patch at' (s1.here at') (s2.here at':Int)
   | c::b::e::_=>
    let s1:=AB cls slots at' c s
    let s2:=AB cls slots at' b (s1.put at' (25,0,0))
    let s3:=s2.put at' (24,0,0)
    let s4:=AB cls slots at' e (s3.patch at' (s1.here at') (s3.here at':Int))
    s4.patch at' (s2.here at') (s4.here at':Int)
   | _=>s)
  else(Ai cls slots at' k (strOfNums x) m ks.length (B0 cls slots at' ks s)).1.put at' (Ai cls slots at' k (strOfNums x) m ks.length (B0 cls slots at' ks s)).2
def B0 (cls slots:List ByteArray) (at':Nat):List Nd->MW->MW
 | [],s=>s
 | n::ns,s=>B0 cls slots at' ns (AB cls slots at' n s)
end
def C2(at':Nat):List Nd->MW->MW
 | [],s=>s
 | a::l,s=>C2 at' l (s.local at' a.str)
structure ClW where
 name:ByteArray
 over:Int
 slots:List ByteArray
 meths:List (ByteArray×Int×Nat)
def Bg(past:List ClW)(n:Nd)(y:ClW×Nat):ClW×Nat:=
 if n.kind=31 then({ y.1 with over:=AX (past.map (·.name)) n.str,slots:=((past[(AX (past.map (·.name)) n.str).toNat]?).map (·.slots)).getD [] },y.2)
 else if n.kind=3 then({ y.1 with slots:=y.1.slots++[n.str] },y.2)
 else if n.kind=4 then({ y.1 with meths:=y.1.meths++[(n.str,n.num,y.2)] },y.2+1)
 else y
def An(past:List ClW):List Nd->ClW×Nat->ClW×Nat
 | [],y=>y
 | n::ns,y=>An past ns (Bg past n y)
def B7(past:List ClW)(n:Nd)(nl:Nat):ClW×Nat:=An past n.kids (⟨n.str,-1,[],[]⟩,nl)
def B6:List Nd->List ClW->Nat->List ClW×Nat
 | [],past,nl=>(past,nl)
 | n::ns,past,nl=>B6 ns (past++[(B7 past n nl).1]) (B7 past n nl).2
def Cc(cls slots:List ByteArray)(at':Nat)(m:Nd)(s:MW):MW:=
 ((AB cls slots at' ((m.kids[m.num.toNat]?).getD (.mk 6 [] 0 [])) (C2 at' (m.kids.take m.num.toNat) (s.back []))).put at' (2,0,0)).put at' (11,0,0)
def BO(cls slots:List ByteArray):List (ByteArray×Int×Nat)->List Nd->MW->MW
 | h::hs,m::ms,s=>BO cls slots hs ms (Cc cls slots h.2.2 m s)
 | _,_,s=>s
def DR(cls:List ByteArray):List ClW->List Nd->MW->MW
 | c::cs,n::ns,s=>DR cls cs ns (BO cls c.slots c.meths (n.kids.drop (n.kids.length-c.meths.length)) s)
 | _,_,s=>s
def As(nl:Nat):MW:=⟨List.replicate nl [],List.replicate nl 0,[],[]⟩
def Bk(ks:List Nd)(b:Nd):List ClW×MW:=
 ((B6 ks [] 1).1,DR ((B6 ks [] 1).1.map (·.name)) (B6 ks [] 1).1 ks (AB ((B6 ks [] 1).1.map (·.name)) [] 0 b (As (B6 ks [] 1).2)))
theorem Jv(nl:Nat):(As nl).begin 0=As (nl+1):=by
 unfold As MW.begin
 rw[List.replicate_succ',List.replicate_succ']
def OrdOkO(C nl nn len cnt:Nat)(o:Ord):Prop:=
 0<=o.2.1/\1<=o.1/\o.1<=27/\(¬(o.1=24\/o.1=25\/o.1=6\/o.1=7\/o.1=23\/o.1=5\/o.1=10\/o.1=8\/o.1=9)->o.2.1<=1073741823)/\(o.1=24\/o.1=25->o.2.1<=(len:Int))/\(o.1=6\/o.1=7->o.2.1<(cnt:Int))/\(o.1=23->o.2.1<(nl:Int))/\(o.1=5->o.2.1<(C:Int))/\(o.1=10->o.2.1<(nn:Int))/\(o.1=8\/o.1=9->o.2.1<60)
theorem OrdOkO.mono{C nl nn len cnt nl' nn' len' cnt':Nat}{o:Ord}(h:OrdOkO C nl nn len cnt o)(h1:nl<=nl')(h2:nn<=nn')(h3:len<=len')(h4:cnt<=cnt'):OrdOkO C nl' nn' len' cnt' o:=by
 obtain⟨a,b,c,d,e,f,g,i,j,k⟩:=h
 exact⟨a,b,c,d,fun x=>by have:=e x;omega,fun x=>by have:=f x;omega,fun x=>by have:=g x;omega,i,fun x=>by have:=j x;omega,k⟩
def CX(C:Nat)(s:MW):Prop:=s.counts.length=s.lists.length/\∀k o,o∈s.list k->OrdOkO C s.lists.length s.names.length (s.list k).length (s.count k) o
structure GrowsO(s s':MW):Prop where
 lists:s.lists.length<=s'.lists.length
 names:s.names.length<=s'.names.length
 len:∀k,(s.list k).length<=(s'.list k).length
 count:∀k,s.count k<=s'.count k
 ops:∀k i,i<(s.list k).length->(s'.list k)[i]?.map (·.1)=(s.list k)[i]?.map (·.1)
theorem GrowsO.refl(s:MW):GrowsO s s:=⟨Z0 _,Z0 _,fun _=>Z0 _,fun _=>Z0 _,fun _ _ _=>rfl⟩
theorem GrowsO.trans{s s' s'':MW}(h:GrowsO s s')(h':GrowsO s' s''):GrowsO s s'':=
 ⟨Za h.lists h'.lists,Za h.names h'.names,fun k=>Za (h.len k) (h'.len k),fun k=>Za (h.count k) (h'.count k),fun k i hi=>(h'.ops k i (by have:=h.len k;omega)).trans (h.ops k i hi)⟩
theorem ME(s:MW)(at' k:Nat)(o:Ord)(h:at'<s.lists.length):(s.put at' o).list k=if k=at' then s.list k++[o]else s.list k:=by
 unfold MW.list MW.put
 simp only[Z2,List.getElem?_modify]
 by_cases hk:k=at'
 ·subst hk
  rw[if_pos rfl,List.getElem?_eq_getElem h]
  simp
 ·rw[if_neg hk]
  have:¬at'=k:=fun e=>hk e.symm
  simp[this]
theorem IU(s:MW)(at':Nat)(o:Ord):(s.put at' o).lists.length=s.lists.length:=by unfold MW.put;simp
theorem Hh{C:Nat}{s:MW}{at':Nat}{o:Ord}(h:CX C s)(hat:at'<s.lists.length)(ho:OrdOkO C s.lists.length s.names.length ((s.list at').length+1) (s.count at') o):CX C (s.put at' o)/\GrowsO s (s.put at' o)/\((s.put at' o).list at').length=(s.list at').length+1/\((s.put at' o).list at')[(s.list at').length]?=some o:=by
 have hl:∀k,((s.put at' o).list k)=if k=at' then s.list k++[o]else s.list k:=fun k=>ME s at' k o hat
 have hat':((s.put at' o).list at').length=(s.list at').length+1:=by rw[hl,if_pos rfl];simp
 refine⟨⟨by rw[IU];exact h.1,fun k x hx=>?_⟩,⟨by rw[IU];exact Z0 _,Z0 _,fun k=>?_,fun k=>Z0 _,fun k i hi=>?_⟩,hat',by rw[hl,if_pos rfl];simp⟩
 ·rw[IU]
  show OrdOkO C s.lists.length s.names.length ((s.put at' o).list k).length (s.count k) x
  by_cases hk:k=at'
  ·subst hk
   rw[hat']
   rw[hl,if_pos rfl]at hx
   rcases List.mem_append.1 hx with hx | hx
   ·exact(h.2 k x hx).mono (Z0 _) (Z0 _) (by omega) (Z0 _)
   ·rw[List.mem_singleton.1 hx];exact ho
  ·rw[hl,if_neg hk]at hx⊢
   exact h.2 k x hx
 ·rw[hl]
  split
  ·simp
  ·exact Z0 _
 ·rw[hl]
  split
  ·rw[List.getElem?_append_left hi]
  ·rfl
theorem OU(s:MW)(at' i k:Nat)(a:Int):(s.patch at' i a).list k=if k=at' then(s.list k).modify i (fun o=>(o.1,a,o.2.2))else s.list k:=by
 unfold MW.list MW.patch
 simp only[Z2,List.getElem?_modify]
 by_cases hk:k=at'
 ·subst hk
  rw[if_pos rfl]
  cases s.lists[k]? with
  | none=>simp
  | some l=>simp
 ·rw[if_neg hk]
  have:¬at'=k:=fun e=>hk e.symm
  simp[this]
theorem Gt(s:MW)(at' i:Nat)(a:Int):(s.patch at' i a).lists.length=s.lists.length:=by unfold MW.patch;simp
theorem OV{C:Nat}{s:MW}{at' i:Nat}{a:Int}(h:CX C s)(hop:(s.list at')[i]?.map (·.1)=some 24\/(s.list at')[i]?.map (·.1)=some 25)(h0:0<=a)(h1:a<=((s.list at').length:Int)):CX C (s.patch at' i a)/\GrowsO s (s.patch at' i a)/\((s.patch at' i a).list at').length=(s.list at').length:=by
 have hl:∀k,(s.patch at' i a).list k=if k=at' then(s.list k).modify i (fun o=>(o.1,a,o.2.2))else s.list k:=fun k=>OU s at' i k a
 have hlen:∀k,((s.patch at' i a).list k).length=(s.list k).length:=fun k=>by rw[hl];split<;>simp
 refine⟨⟨by rw[Gt];exact h.1,fun k x hx=>?_⟩,⟨by rw[Gt];exact Z0 _,Z0 _,fun k=>by rw[hlen];exact Z0 _,fun k=>Z0 _,fun k j hj=>?_⟩,hlen at'⟩
 ·rw[Gt,hlen]
  show OrdOkO C s.lists.length s.names.length (s.list k).length (s.count k) x
  by_cases hk:k=at'
  ·subst hk
   rw[hl,if_pos rfl]at hx
   obtain⟨j,hj,rfl⟩:=List.mem_iff_getElem.1 hx
   rw[List.getElem_modify]
   rw[List.length_modify]at hj
   by_cases hij:i=j
   ·subst hij
    rw[if_pos rfl]
    rw[List.getElem?_eq_getElem hj]at hop
    simp only[Option.map_some,Option.some.injEq]at hop
    obtain⟨_,b,c,_⟩:=h.2 k _ (Z6 hj)
    exact⟨h0,b,c,fun h=>by simp only at h;omega,fun _=>h1,fun h=>by simp only at h;omega,fun h=>by simp only at h;omega,fun h=>by simp only at h;omega,fun h=>by simp only at h;omega,fun h=>by simp only at h;omega⟩
   ·rw[if_neg hij]
    exact h.2 k _ (Z6 hj)
  ·rw[hl,if_neg hk]at hx
   exact h.2 k x hx
 ·rw[hl]
  split
  ·rw[List.getElem?_modify]
   by_cases hij:i=j
   ·subst hij
    simp only[if_true]
    cases(s.list k)[i]?<;>rfl
   ·simp[hij]
  ·rfl
theorem Fe{C nl nn len cnt:Nat}{op a b:Int}(h1:1<=op)(h2:op<=27)(h3:¬(op=24\/op=25\/op=6\/op=7\/op=23\/op=5\/op=10\/op=8\/op=9))(h4:0<=a)(h5:a<=1073741823):OrdOkO C nl nn len cnt (op,a,b):=
 ⟨h4,h1,h2,fun _=>h5,fun h=>by simp only at h;omega,fun h=>by simp only at h;omega,fun h=>by simp only at h;omega,fun h=>by simp only at h;omega,fun h=>by simp only at h;omega,fun h=>by simp only at h;omega⟩
theorem Fz{C nl nn len cnt:Nat}{op a b:Int}(h0:0<=a)(h:((op=24\/op=25)/\a<=(len:Int))\/((op=6\/op=7)/\a<(cnt:Int))\/(op=23/\a<(nl:Int))\/(op=5/\a<(C:Int))\/(op=10/\a<(nn:Int))\/((op=8\/op=9)/\a<60)):OrdOkO C nl nn len cnt (op,a,b):=
 ⟨h0,by show 1<=op;omega,by show op<=27;omega,fun x=>by simp only at x;omega,fun x=>by simp only at x⊢;omega,fun x=>by simp only at x⊢;omega,fun x=>by simp only at x⊢;omega,fun x=>by simp only at x⊢;omega,fun x=>by simp only at x⊢;omega,fun x=>by simp only at x⊢;omega⟩
theorem RA{l:List ByteArray}{x:ByteArray}(h:BQ l x=true):∃i,l.findIdx? (fun y=>decide (y=x))=some i/\i<l.length:=by
 unfold BQ at h
 rw[List.any_eq_true]at h
 obtain⟨y,hy,e⟩:=h
 cases hf:l.findIdx? (fun y=>decide (y=x))with
 | none=>
  have:=List.findIdx?_eq_none_iff.1 hf y hy
  rw[e]at this
  cases this
 | some i=>exact⟨i,rfl,(List.findIdx?_eq_some_iff_findIdx_eq.1 hf).1⟩
theorem MF{l:List ByteArray}{x:ByteArray}(h:BQ l x=true):0<=AX l x/\AX l x<(l.length:Int):=by
 obtain⟨i,e,hi⟩:=RA h
 unfold AX
 rw[e]
 exact⟨by show(0:Int)<=(i:Int);omega,by show(i:Int)<_;omega⟩
theorem J9(l:List ByteArray)(x:ByteArray):AX l x<(l.length:Int)/\-1<=AX l x:=by
 unfold AX
 cases hf:l.findIdx? (fun y=>decide (y=x))with
 | none=>exact⟨by show(-1:Int)<_;omega,by decide⟩
 | some i=>
  have:=(List.findIdx?_eq_some_iff_findIdx_eq.1 hf).1
  exact⟨by show(i:Int)<_;omega,by show(-1:Int)<=(i:Int);omega⟩
theorem NM{l:List ByteArray}{x:ByteArray}:∀ {k i:Nat},DC l x k=some i->i<k
 | 0,i,h=>by cases h
 | k+1,i,h=>by
  unfold DC at h
  split at h
  ·injection h with h;omega
  ·have:=NM h;omega
theorem L5{l:List ByteArray}{x:ByteArray}:∀ {k:Nat},DC l x k=none->∀i,i<k->l[i]?≠some x
 | 0,_,i,hi=>by omega
 | k+1,h,i,hi=>by
  unfold DC at h
  split at h
  ·cases h
  ·rename_i hk
   by_cases e:i=k
   ·rw[e];exact hk
   ·exact L5 h i (by omega)
theorem RB{l:List ByteArray}{x:ByteArray}(h:DC l x l.length=none):BQ l x=false:=by
 cases hh:BQ l x with
 | false=>rfl
 | true=>
  unfold BQ at hh
  rw[List.any_eq_true]at hh
  obtain⟨y,hy,e⟩:=hh
  obtain⟨i,hi,ei⟩:=List.mem_iff_getElem.1 hy
  exfalso
  refine L5 h i hi ?_
  rw[List.getElem?_eq_getElem hi,ei]
  rw[of_decide_eq_true e]
theorem Jw{C:Nat}{s:MW}{at':Nat}{x:ByteArray}(h:CX C s)(hat:at'<s.lists.length):CX C (s.local at' x)/\GrowsO s (s.local at' x)/\s.locals.length+1<=(s.local at' x).count at':=by
 have hc:∀k,(s.local at' x).count k=if k=at' then max (s.count k) (s.locals.length+1)else s.count k:=fun k=>by
  unfold MW.count MW.local
  simp only[Z2,List.getElem?_modify]
  by_cases hk:k=at'
  ·subst hk
   rw[if_pos rfl,List.getElem?_eq_getElem (by rw[h.1];exact hat)]
   simp
  ·rw[if_neg hk]
   have:¬at'=k:=fun e=>hk e.symm
   simp[this]
 have hge:∀k,s.count k<=(s.local at' x).count k:=fun k=>by rw[hc];split<;>omega
 refine⟨⟨by unfold MW.local;simp[h.1],fun k o ho=>(h.2 k o ho).mono (Z0 _) (Z0 _) (Z0 _) (hge k)⟩,⟨Z0 _,Z0 _,fun _=>Z0 _,hge,fun _ _ _=>rfl⟩,by rw[hc,if_pos rfl];omega⟩
theorem Ah{α β:Type}{g:Chk α}{F:α->Chk β}{b:β}(h:g.then F=.ok b):∃a,g=.ok a/\F a=.ok b:=by
 cases g with
 | error e=>cases h
 | ok a=>exact⟨a,rfl,h⟩
theorem BU{α:Type}{a b:α}(h:(Except.ok a:Chk α)=.ok b):a=b:=by injection h
structure MeetsO(C:Nat)(E:CN)(slots classes L:List ByteArray)(at':Nat)(s:MW):Prop where
 enames:E.names=classes
 many:classes.length=C
 eslots:E.slots=slots
 few:slots.length<=59
 land:CX C s
 there:at'<s.lists.length
 room:s.locals.length<=s.count at'
 same:L=s.locals
theorem MeetsO.to{C:Nat}{E:CN}{slots classes L:List ByteArray}{at':Nat}{s s':MW}(h:MeetsO C E slots classes L at' s)(hl:CX C s')(hg:GrowsO s s')(hs':s'.locals=s.locals):MeetsO C E slots classes L at' s':=
 ⟨h.enames,h.many,h.eslots,h.few,hl,by have:=h.there;have:=hg.lists;omega,by rw[hs'];have:=h.room;have:=hg.count at';omega,by rw[hs'];exact h.same⟩
theorem MeetsO.put{C:Nat}{E:CN}{slots classes L:List ByteArray}{at':Nat}{s:MW}(h:MeetsO C E slots classes L at' s){o:Ord}(ho:OrdOkO C s.lists.length s.names.length ((s.list at').length+1) (s.count at') o):MeetsO C E slots classes L at' (s.put at' o)/\GrowsO s (s.put at' o)/\((s.put at' o).list at').length=(s.list at').length+1/\((s.put at' o).list at')[(s.list at').length]?=some o:=by
 obtain⟨a,b,c,d⟩:=Hh h.land h.there ho
 exact⟨h.to a b rfl,b,c,d⟩
theorem L6{C:Nat}{E:CN}{slots classes L:List ByteArray}{at' n:Nat}{s:MW}{x:ByteArray}{loc slot:Int}(h:MeetsO C E slots classes L at' s)(hk:BQ L x=true\/BQ E.slots x=true)(hl:loc=6\/loc=7)(hs:slot=8\/slot=9):OrdOkO C s.lists.length s.names.length n (s.count at') (FK slots s x loc slot):=by
 unfold FK
 cases hf:DC s.locals x s.locals.length with
 | some i=>
  have hi:=NM hf
  have:=h.room
  exact Fz (by omega) (Or.inr (Or.inl ⟨hl,by omega⟩))
 | none=>
  have hn:=RB hf
  have hc:BQ slots x=true:=by
   rcases hk with hk | hk
   ·rw[h.same,hn]at hk;cases hk
   ·rw[<-h.eslots];exact hk
  obtain⟨p0,p1⟩:=MF hc
  have:=h.few
  exact Fz p0 (Or.inr (Or.inr (Or.inr (Or.inr (Or.inr ⟨hs,by omega⟩)))))
theorem UN{k:Int}(h:k=18\/k=19\/k=20\/k=21\/k=22\/k=23\/k=24\/k=27\/k=28\/k=29\/k=11\/k=12\/k=14\/k=15\/k=16\/k=17):1<=opP k/\opP k<=27/\¬(opP k=24\/opP k=25\/opP k=6\/opP k=7\/opP k=23\/opP k=5\/opP k=10\/opP k=8\/opP k=9):=by
 rcases h with rfl | rfl | rfl | rfl | rfl | rfl | rfl | rfl | rfl | rfl | rfl | rfl | rfl | rfl | rfl | rfl<;>decide
theorem NN{C:Nat}{s:MW}(x:ByteArray)(h:CX C s):CX C (s.known x)/\GrowsO s (s.known x)/\0<=s.nameNo x/\s.nameNo x<((s.known x).names.length:Int):=by
 unfold MW.known MW.nameNo
 split
 ·rename_i hp
  have:=(J9 s.names x).1
  exact⟨h,GrowsO.refl s,hp,this⟩
 ·have e:(s.names++[x]).length=s.names.length+1:=by simp
  exact⟨⟨h.1,fun j o ho=>(h.2 j o ho).mono (Z0 _) (by show s.names.length<=(s.names++[x]).length;omega) (Z0 _) (Z0 _)⟩,⟨Z0 _,by show s.names.length<=(s.names++[x]).length;omega,fun _=>Z0 _,fun _=>Z0 _,fun _ _ _=>rfl⟩,by omega,by show(s.names.length:Int)<((s.names++[x]).length:Int);omega⟩
theorem NO{C:Nat}{E:CN}{slots classes L L':List ByteArray}{at' own a:Nat}{s:MW}{k m:Int}{x:ByteArray}{len:Nat}(hsh:(k=26/\0<=m/\m<=1073741823)\/k=30\/k=31\/k=8\/k=7\/k=25\/(k=18\/k=19\/k=20\/k=21\/k=22\/k=23\/k=24\/k=27\/k=28\/k=29\/k=11\/k=12\/k=14\/k=15\/k=16\/k=17))(h:MeetsO C E slots classes L at' s)(hkn:k=8\/k=31->BQ L x=true\/BQ E.slots x=true)(hnew:k=30->BQ E.names x=true)(hv:(if k=7 then Ds own x a L else .ok L)=.ok L'):MeetsO C E slots classes L' at' ((Ai classes slots at' k x m len s).1.put at' (Ai classes slots at' k x m len s).2)/\GrowsO s ((Ai classes slots at' k x m len s).1.put at' (Ai classes slots at' k x m len s).2):=by
 unfold Ai
 by_cases h7:k=7
 ·subst h7
  rw[if_pos rfl]at hv
  rw[if_neg (by decide),if_neg (by decide),if_neg (by decide),if_neg (by decide),if_neg (by decide),if_pos rfl]
  unfold Ds at hv
  split at hv
  ·cases hv
  ·split at hv
   ·cases hv
   ·have e:=BU hv
    subst e
    obtain⟨l1,l2,l3⟩:=Jw (x:=x) h.land h.there
    have hm:MeetsO C E slots classes (L++[x]) at' (s.local at' x):=⟨h.enames,h.many,h.eslots,h.few,l1,h.there,by show(s.locals++[x]).length<=_;rw[Z1];exact l3,by rw[h.same];rfl⟩
    obtain⟨p1,p2,_⟩:=hm.put (o:=(7,(s.locals.length:Int),0)) (Fz (by omega) (Or.inr (Or.inl ⟨Or.inr rfl,by omega⟩)))
    exact⟨p1,l2.trans p2⟩
 ·rw[if_neg h7]at hv
  have e:=BU hv
  subst e
  by_cases h26:k=26
  ·rw[if_pos h26]
   obtain⟨p1,p2,_⟩:=h.put (o:=(1,m,0)) (Fe (by decide) (by decide) (by decide) (by omega) (by omega))
   exact⟨p1,p2⟩
  rw[if_neg h26]
  by_cases h30:k=30
  ·rw[if_pos h30]
   obtain⟨q1,q2⟩:=MF (l:=classes) (x:=x) (by rw[<-h.enames];exact hnew h30)
   have:=h.many
   obtain⟨p1,p2,_⟩:=h.put (o:=(5,AX classes x,0)) (Fz q1 (Or.inr (Or.inr (Or.inr (Or.inl ⟨rfl,by omega⟩)))))
   exact⟨p1,p2⟩
  rw[if_neg h30]
  by_cases h25:k=25
  ·rw[if_pos h25]
   obtain⟨n1,n2,n3,n4⟩:=NN x h.land
   have hl:(s.known x).locals=s.locals:=by unfold MW.known;split<;>rfl
   obtain⟨p1,p2,_⟩:=(h.to n1 n2 hl).put (o:=(10,s.nameNo x,(len:Int)-1)) (Fz n3 (Or.inr (Or.inr (Or.inr (Or.inr (Or.inl ⟨rfl,n4⟩))))))
   exact⟨p1,n2.trans p2⟩
  rw[if_neg h25]
  by_cases h31:k=31
  ·rw[if_pos h31]
   obtain⟨p1,p2,_⟩:=h.put (o:=FK slots s x 6 8) (L6 h (hkn (Or.inr h31)) (Or.inl rfl) (Or.inl rfl))
   exact⟨p1,p2⟩
  rw[if_neg h31]
  by_cases h8:k=8
  ·rw[if_pos h8]
   obtain⟨p1,p2,_⟩:=h.put (o:=FK slots s x 7 9) (L6 h (hkn (Or.inl h8)) (Or.inr rfl) (Or.inr rfl))
   exact⟨p1,p2⟩
  rw[if_neg h8,if_neg h7]
  obtain⟨o1,o2,o3⟩:=UN (k:=k) (by omega)
  obtain⟨p1,p2,_⟩:=h.put (o:=(opP k,0,0)) (Fe o1 o2 o3 (Int.le_refl _) (by decide))
  exact⟨p1,p2⟩
theorem NP{C:Nat}{s:MW}(k:Nat)(h:CX C s):CX C (s.begin k)/\GrowsO s (s.begin k)/\(s.begin k).count s.lists.length=k:=by
 have hl:∀j,(s.begin k).list j=s.list j:=fun j=>by
  unfold MW.list MW.begin
  simp only[Z2]
  by_cases hj:j<s.lists.length
  ·rw[List.getElem?_append_left hj]
  ·rw[List.getElem?_append_right (by omega),List.getElem?_eq_none (l:=s.lists) (by omega)]
   cases hjj:j-s.lists.length with
   | zero=>rfl
   | succ i=>rfl
 have hc:∀j,s.count j<=(s.begin k).count j:=fun j=>by
  unfold MW.count MW.begin
  simp only[Z2]
  by_cases hj:j<s.counts.length
  ·rw[List.getElem?_append_left hj];exact Z0 _
  ·rw[List.getElem?_eq_none (l:=s.counts) (by omega)];exact Z3 _
 have hn:(s.begin k).lists.length=s.lists.length+1:=by unfold MW.begin;simp
 refine⟨⟨by unfold MW.begin;simp[h.1],fun j o ho=>?_⟩,⟨by omega,Z0 _,fun j=>by rw[hl];exact Z0 _,hc,fun j i _=>by rw[hl]⟩,?_⟩
 ·rw[hl]at ho
  rw[hl]
  exact(h.2 j o ho).mono (by omega) (Z0 _) (Z0 _) (hc j)
 ·unfold MW.count MW.begin
  simp only[Z2]
  rw[<-h.1,List.getElem?_append_right (Z0 _),Nat.sub_self]
  rfl
theorem G9{C:Nat}{s:MW}(l:List ByteArray)(h:CX C s):CX C (s.back l):=⟨h.1,h.2⟩
theorem GrowsO.back{s s':MW}(h:GrowsO s s')(l:List ByteArray):GrowsO s (s'.back l):=⟨h.lists,h.names,h.len,h.count,h.ops⟩
theorem Si{E:CN}{L:List ByteArray}{k:Int}{x:ByteArray}{a:Nat}{u:Unit}(h:C9 E L k x a=.ok u):(k=8\/k=31->BQ L x=true\/BQ E.slots x=true)/\(k=30->BQ E.names x=true):=by
 unfold C9 at h
 split at h
 ·cases h
 rename_i h1
 split at h
 ·cases h
 rename_i h2
 refine⟨fun hk=>?_,fun hk=>?_⟩
 ·cases h3:BQ L x with
  | true=>exact Or.inl rfl
  | false=>
   cases h4:BQ E.slots x with
   | true=>exact Or.inr rfl
   | false=>exact absurd ⟨hk,h3,h4⟩ h1
 ·cases h3:BQ E.names x with
  | true=>rfl
  | false=>exact absurd ⟨hk,h3⟩ h2
mutual
theorem RC:∀(n:Nd) (E:CN) (own:Nat) (s y:StZ),DW E own n s=.ok y->s.2 <+: y.2
 | .mk k x m ks,E,own,s,y,h=>by
  unfold DW at h
  obtain⟨u,-,h⟩:=Ah h
  split at h
  ·obtain⟨y1,-,hc⟩:=Ah h
   have e:=BU hc
   subst e
   exact List.prefix_refl _
  ·split at h
   ·obtain⟨y1,-,hc⟩:=Ah h
    have e:=BU hc
    subst e
    exact List.prefix_refl _
   ·obtain⟨y1,hk,hc⟩:=Ah h
    have hp:=JA ks _ _ _ _ hk
    split at hc
    ·obtain⟨L,hL,hc⟩:=Ah hc
     have e:=BU hc
     subst e
     unfold Ds at hL
     split at hL
     ·cases hL
     ·split at hL
      ·cases hL
      ·have e:=BU hL
       subst e
       exact hp.trans (List.prefix_append _ _)
    ·have e:=BU hc
     subst e
     exact hp
theorem JA:∀(ks:List Nd) (E:CN) (own:Nat) (s y:StZ),At E own ks s=.ok y->s.2 <+: y.2
 | [],E,own,s,y,h=>by
  unfold At at h
  have e:=BU h
  subst e
  exact List.prefix_refl _
 | n::ns,E,own,s,y,h=>by
  unfold At at h
  obtain⟨z,hz,h⟩:=Ah h
  exact(RC n _ _ _ _ hz).trans (JA ns _ _ _ _ h)
end
theorem Sj{l l':List ByteArray}{x:ByteArray}(h:l <+: l')(hx:BQ l x=true):BQ l' x=true:=by
 obtain⟨t,rfl⟩:=h
 unfold BQ at hx⊢
 rw[List.any_append,hx,Bool.true_or]
theorem Gu{C nl nn len cnt:Nat}{op:Int}(h:op=24\/op=25){a:Nat}(ha:a<=len):OrdOkO C nl nn len cnt (op,(a:Int),0):=Fz (by omega) (Or.inl ⟨h,by omega⟩)
theorem MeetsO.patch{C:Nat}{E:CN}{slots classes L:List ByteArray}{at' i:Nat}{s1 s:MW}{op:Int}(hop:op=24\/op=25)(h:MeetsO C E slots classes L at' s)(hg:GrowsO s1 s)(hi:i<(s1.list at').length)(ho:((s1.list at')[i]?).map (·.1)=some op):MeetsO C E slots classes L at' (s.patch at' i (s.here at':Int))/\GrowsO s (s.patch at' i (s.here at':Int)):=by
 have e:=(hg.ops at' i hi).trans ho
 obtain⟨p1,p2,_⟩:=OV (a:=(s.here at':Int)) h.land (by rcases hop with rfl | rfl;exact Or.inl e;exact Or.inr e) (by omega) (Int.le_refl _)
 exact⟨h.to p1 p2 rfl,p2⟩
mutual
theorem Cs{C:Nat}{slots classes:List ByteArray}:∀(n:Nd) (r:Nat) (E:CN) (own nx:Nat) (L:List ByteArray) (y:StZ) (at':Nat) (s:MW),WfR r n->MeetsO C E slots classes L at' s->DW E own n (nx,L)=.ok y->MeetsO C E slots classes y.2 at' (AB classes slots at' n s)/\GrowsO s (AB classes slots at' n s)
 | .mk k x m ks,r,E,own,nx,L,y,at',s,hw,h,hk=>by
  unfold WfR at hw
  obtain⟨hsh,hks⟩:=hw
  unfold DW at hk
  obtain⟨u,hlook,hk⟩:=Ah hk
  obtain⟨hkn,hnew⟩:=Si hlook
  clear hlook
  dsimp only at hk hkn hnew
  unfold AB
  by_cases h6:k=6
  ·rw[if_pos h6]at hk⊢
   obtain⟨y1,hk',hc⟩:=Ah hk
   have e:=BU hc
   subst e
   obtain⟨w1,w2⟩:=Ga ks k 0 E L.length (nx+1) L y1 at' s hks h hk'
   exact⟨⟨h.enames,h.many,h.eslots,h.few,G9 _ w1.land,w1.there,Za h.room (w2.count at'),h.same⟩,w2.back _⟩
  rw[if_neg h6]at hk⊢
  have hr:(r=0\/r=1)/\((k=13/\ks.length=1)\/(k=10/\ks.length=2)\/(k=9/\(ks.length=2\/ks.length=3))\/(k≠13/\k≠10/\k≠9/\((k=26/\0<=m/\m<=1073741823)\/k=30\/k=31\/k=8\/k=7\/k=25\/(k=18\/k=19\/k=20\/k=21\/k=22\/k=23\/k=24\/k=27\/k=28\/k=29\/k=11\/k=12\/k=14\/k=15\/k=16\/k=17)))):=by
   unfold Kz at hsh
   by_cases h0:r=0
   ·rw[if_pos h0]at hsh;exact⟨Or.inl h0,by omega⟩
   ·rw[if_neg h0]at hsh
    by_cases h1:r=1
    ·rw[if_pos h1]at hsh;exact⟨Or.inr h1,by omega⟩
    ·rw[if_neg h1]at hsh
     exact absurd hsh.1 h6
  by_cases h13:k=13
  ·rw[if_pos h13]at hk⊢
   obtain⟨y1,hk',hc⟩:=Ah hk
   have e:=BU hc
   subst e
   have hlen:ks.length=1:=by omega
   match ks,hlen,hks,hk' with
   | [b],_,hks,hk'=>
    unfold WfK at hks
    have hb:WfR 2 b:=by
     have:=hks.1
     rw[h13]at this
     exact this
    obtain⟨f1,f2,f3⟩:=NP s.locals.length h.land
    have hn:(s.begin s.locals.length).lists.length=s.lists.length+1:=by unfold MW.begin;simp
    have hat:=h.there
    obtain⟨g1,g2,_,_⟩:=Hh (at':=at') (o:=(23,(s.lists.length:Int),0)) f1 (by omega) (Fz (by omega) (Or.inr (Or.inr (Or.inl ⟨rfl,by omega⟩))))
    have hin:MeetsO C { E with returns:=false } slots classes L s.lists.length ((s.begin s.locals.length).put at' (23,(s.lists.length:Int),0)):=
     ⟨h.enames,h.many,h.eslots,h.few,g1,by have:=g2.lists;omega,by have:=g2.count s.lists.length;rw[f3]at this;exact this,h.same⟩
    unfold At at hk'
    obtain⟨y2,hb2,-⟩:=Ah hk'
    obtain⟨w1,w2⟩:=Cs b 2 { E with returns:=false } own (nx+1) L y2 s.lists.length _ hb hin hb2
    have hg:=(f2.trans g2).trans w2
    exact⟨⟨h.enames,h.many,h.eslots,h.few,G9 _ w1.land,Z5 hat hg.lists,Za h.room (hg.count at'),h.same⟩,hg.back _⟩
  rw[if_neg h13]at hk⊢
  obtain⟨y1,hk',hv⟩:=Ah hk
  clear hk
  by_cases h10:k=10
  ·rw[if_pos h10]
   rw[if_neg (by omega)]at hv
   have e:=BU hv
   subst e
   have hlen:ks.length=2:=by omega
   match ks,hlen,hks,hk' with
   | [c,b],_,hks,hk'=>
    unfold WfK WfK at hks
    have hc:=hks.1
    have hb:=hks.2.1
    rw[h10]at hc hb
    unfold At at hk'
    obtain⟨y2,hc2,hk'⟩:=Ah hk'
    unfold At at hk'
    obtain⟨y3,hb2,hk'⟩:=Ah hk'
    unfold At at hk'
    have e:=BU hk'
    subst e
    obtain⟨a1,a2,a3,_⟩:=h.put (o:=(26,0,0)) (Fe (by decide) (by decide) (by decide) (by decide) (by decide))
    obtain⟨b1,b2⟩:=Cs c _ E own (nx+1) L y2 at' _ hc a1 hc2
    obtain⟨c1,c2,c3,c4⟩:=b1.put (o:=(25,((0:Nat):Int),0)) (Gu (Or.inr rfl) (Z3 _))
    obtain⟨d1,d2⟩:=Cs b _ E own y2.1 y2.2 y3 at' _ hb c1 hb2
    have hs:=(a2.trans (b2.trans (c2.trans d2))).len at'
    obtain⟨e1,e2,_,_⟩:=d1.put (o:=(24,(s.here at':Int),0)) (Gu (Or.inl rfl) (by unfold MW.here;omega))
    obtain⟨f1,f2⟩:=e1.patch (Or.inr rfl) (d2.trans e2) (i:=(AB classes slots at' c (s.put at' (26,0,0))).here at') (by rw[c3];unfold MW.here;omega) (by unfold MW.here;rw[c4];rfl)
    exact⟨f1,a2.trans (b2.trans (c2.trans (d2.trans (e2.trans f2))))⟩
  rw[if_neg h10]
  by_cases h9:k=9
  ·rw[if_pos h9]
   rw[if_neg (by omega)]at hv
   have e:=BU hv
   subst e
   have hlen:ks.length=2\/ks.length=3:=by omega
   match ks,hlen,hks,hk' with
   | [c,b],_,hks,hk'=>
    unfold WfK WfK at hks
    have hc:=hks.1
    have hb:=hks.2.1
    rw[h9]at hc hb
    unfold At at hk'
    obtain⟨y2,hc2,hk'⟩:=Ah hk'
    unfold At at hk'
    obtain⟨y3,hb2,hk'⟩:=Ah hk'
    unfold At at hk'
    have e:=BU hk'
    subst e
    obtain⟨b1,b2⟩:=Cs c _ E own (nx+1) L y2 at' _ hc h hc2
    obtain⟨c1,c2,c3,c4⟩:=b1.put (o:=(25,((0:Nat):Int),0)) (Gu (Or.inr rfl) (Z3 _))
    obtain⟨d1,d2⟩:=Cs b _ E own y2.1 y2.2 y3 at' _ hb c1 hb2
    obtain⟨f1,f2⟩:=d1.patch (Or.inr rfl) d2 (i:=(AB classes slots at' c s).here at') (by rw[c3];unfold MW.here;omega) (by unfold MW.here;rw[c4];rfl)
    exact⟨f1,b2.trans (c2.trans (d2.trans f2))⟩
   | [c,b,d],_,hks,hk'=>
    unfold WfK WfK WfK at hks
    have hc:=hks.1
    have hb:=hks.2.1
    have hd:=hks.2.2.1
    rw[h9]at hc hb hd
    unfold At at hk'
    obtain⟨y2,hc2,hk'⟩:=Ah hk'
    unfold At at hk'
    obtain⟨y3,hb2,hk'⟩:=Ah hk'
    unfold At at hk'
    obtain⟨y4,hd2,hk'⟩:=Ah hk'
    unfold At at hk'
    have e:=BU hk'
    subst e
    obtain⟨b1,b2⟩:=Cs c _ E own (nx+1) L y2 at' _ hc h hc2
    obtain⟨c1,c2,c3,c4⟩:=b1.put (o:=(25,((0:Nat):Int),0)) (Gu (Or.inr rfl) (Z3 _))
    obtain⟨d1,d2⟩:=Cs b _ E own y2.1 y2.2 y3 at' _ hb c1 hb2
    obtain⟨e1,e2,e3,e4⟩:=d1.put (o:=(24,((0:Nat):Int),0)) (Gu (Or.inl rfl) (Z3 _))
    obtain⟨f1,f2⟩:=e1.patch (Or.inr rfl) (d2.trans e2) (i:=(AB classes slots at' c s).here at') (by rw[c3];unfold MW.here;omega) (by unfold MW.here;rw[c4];rfl)
    obtain⟨g1,g2⟩:=Cs d _ E own y3.1 y3.2 y4 at' _ hd f1 hd2
    obtain⟨i1,i2⟩:=g1.patch (Or.inl rfl) (f2.trans g2) (i:=(AB classes slots at' b ((AB classes slots at' c s).put at' (25,((0:Nat):Int),0))).here at') (by rw[e3];unfold MW.here;omega) (by unfold MW.here;rw[e4];rfl)
    exact⟨i1,b2.trans (c2.trans (d2.trans (e2.trans (f2.trans (g2.trans i2)))))⟩
  rw[if_neg h9]
  obtain⟨w1,w2⟩:=Ga ks k 0 E own (nx+1) L y1 at' s hks h hk'
  have hp:=JA _ _ _ _ _ hk'
  obtain⟨o1,o2⟩:=NO (own:=own) (a:=nx) (L':=y.2) (m:=m) (k:=k) (x:=strOfNums x) (len:=ks.length) (by omega) w1 (fun e=>(hkn e).imp (Sj hp) id) hnew (by
   split at hv
   ·rename_i h7
    rw[if_pos h7]
    obtain⟨L',hL,hc⟩:=Ah hv
    have e:=BU hc
    subst e
    exact hL
   ·rename_i h7
    rw[if_neg h7]
    have e:=BU hv
    subst e
    rfl)
  exact⟨o1,w2.trans o2⟩
theorem Ga {C:Nat} {slots classes:List ByteArray}:∀(ks:List Nd) (k:Int) (i:Nat) (E:CN) (own nx:Nat) (L:List ByteArray) (y:StZ) (at':Nat) (s:MW),WfK k i ks->MeetsO C E slots classes L at' s->At E own ks (nx,L)=.ok y->MeetsO C E slots classes y.2 at' (B0 classes slots at' ks s)/\GrowsO s (B0 classes slots at' ks s)
 | [],k,i,E,own,nx,L,y,at',s,_,h,hk=>by
  unfold At at hk
  have e:=BU hk
  subst e
  unfold B0
  exact⟨h,GrowsO.refl s⟩
 | n::ns,k,i,E,own,nx,L,y,at',s,hw,h,hk=>by
  unfold WfK at hw
  unfold At at hk
  obtain⟨z,hz,hk⟩:=Ah hk
  unfold B0
  obtain⟨a1,a2⟩:=Cs n _ E own nx L z at' s hw.1 h hz
  obtain⟨b1,b2⟩:=Ga ns k (i+1) E own z.1 z.2 y at' _ hw.2 a1 hk
  exact⟨b1,a2.trans b2⟩
end
theorem L7{C:Nat}{E:CN}{slots classes:List ByteArray}{at':Nat}:∀(l:List Nd) (nx:Nat) (L:List ByteArray) (y:StZ) (s:MW),MeetsO C E slots classes L at' s->DG l (nx,L)=.ok y->MeetsO C E slots classes y.2 at' (C2 at' l s)/\GrowsO s (C2 at' l s)
 | [],nx,L,y,s,h,hk=>by
  unfold DG at hk
  have e:=BU hk
  subst e
  unfold C2
  exact⟨h,GrowsO.refl s⟩
 | a::l,nx,L,y,s,h,hk=>by
  unfold DG at hk
  obtain⟨L',hL,hk⟩:=Ah hk
  unfold C2
  unfold Ds at hL
  split at hL
  ·cases hL
  ·split at hL
   ·cases hL
   ·have e:=BU hL
    subst e
    obtain⟨l1,l2,l3⟩:=Jw (x:=a.str) h.land h.there
    have hm:MeetsO C E slots classes (L++[a.str]) at' (s.local at' a.str):=⟨h.enames,h.many,h.eslots,h.few,l1,h.there,by show(s.locals++[a.str]).length<=_;rw[Z1];exact l3,by rw[h.same];rfl⟩
    obtain⟨p1,p2⟩:=L7 l (nx+1) (L++[a.str]) y _ hm hk
    exact⟨p1,l2.trans p2⟩
theorem NQ{C:Nat}{slots classes:List ByteArray}{at' nx nx':Nat}{s:MW}{m:Nd}(hm:WfM m)(hC:classes.length=C)(hs:slots.length<=59)(hl:CX C s)(hat:at'<s.lists.length)(hk:CI classes slots m nx=.ok nx'):CX C (Cc classes slots at' m s)/\GrowsO s (Cc classes slots at' m s):=by
 obtain⟨x,ks,b,rfl,-,-,hb⟩:=hm
 unfold CI at hk
 obtain⟨y,hy,hk⟩:=Ah hk
 have e1:(Nd.mk 4 x (ks.length:Int) (ks++[b])).num.toNat=ks.length:=by show((ks.length:Int)).toNat=_;omega
 have e2:(Nd.mk 4 x (ks.length:Int) (ks++[b])).kids[ks.length]?=some b:=by show(ks++[b])[ks.length]?=_;simp
 unfold Cc
 rw[e1]at hy hk⊢
 rw[e2]at hk⊢
 have h0:MeetsO C ⟨classes,slots,true,true⟩ slots classes [] at' (s.back []):=⟨rfl,hC,rfl,hs,G9 _ hl,hat,Z3 _,rfl⟩
 obtain⟨a1,a2⟩:=L7 _ _ _ _ _ h0 hy
 cases b with
 | mk k x' m' bs=>
  have hb':=hb
  unfold WfR at hb'
  obtain⟨hsh,-⟩:=hb'
  have h6:k=6:=hsh.1
  subst h6
  dsimp only at hk
  obtain⟨z,hz,hk⟩:=Ah hk
  have hnz:DW ⟨classes,slots,true,true⟩ 0 (.mk 6 x' m' bs) (y.1,y.2)=.ok (z.1,y.2)->True:=fun _=>trivial
  unfold WfR at hb
  obtain⟨w1,w2⟩:=Ga bs 6 0 ⟨classes,slots,true,true⟩ 0 (y.1+1) y.2 z at' _ hb.2 a1 hz
  have e3:AB classes slots at' (.mk 6 x' m' bs) (C2 at' ((Nd.mk 4 x (ks.length:Int) (ks++[.mk 6 x' m' bs])).kids.take ks.length) (s.back []))=(B0 classes slots at' bs (C2 at' ((Nd.mk 4 x (ks.length:Int) (ks++[.mk 6 x' m' bs])).kids.take ks.length) (s.back []))).back (C2 at' ((Nd.mk 4 x (ks.length:Int) (ks++[.mk 6 x' m' bs])).kids.take ks.length) (s.back [])).locals:=by
   conv=>lhs;unfold AB
   rw[if_pos rfl]
  rw[Option.getD_some,e3]
  have g0:GrowsO s (s.back []):=(GrowsO.refl s).back []
  have g1:=(g0.trans (a2.trans w2)).back (C2 at' ((Nd.mk 4 x (ks.length:Int) (ks++[.mk 6 x' m' bs])).kids.take ks.length) (s.back [])).locals
  obtain⟨p1,p2,_,_⟩:=Hh (at':=at') (o:=(2,0,0)) (G9 (C2 at' ((Nd.mk 4 x (ks.length:Int) (ks++[.mk 6 x' m' bs])).kids.take ks.length) (s.back [])).locals w1.land) w1.there (Fe (by decide) (by decide) (by decide) (by decide) (by decide))
  obtain⟨q1,q2,_,_⟩:=Hh (at':=at') (o:=(11,0,0)) p1 (Z5 w1.there p2.lists) (Fe (by decide) (by decide) (by decide) (by decide) (by decide))
  exact⟨q1,g1.trans (p2.trans q2)⟩
structure FewO(s:MW)(b:Nat):Prop where
 lists:s.lists.length<=b
 each:∀l∈s.lists,l.length<=b
 names:s.names.length<=b
 locals:s.locals.length<=b
 counts:∀n∈s.counts,n<=b
 same:s.counts.length=s.lists.length
theorem FewO.mono{s:MW}{b b':Nat}(h:FewO s b)(hb:b<=b'):FewO s b':=⟨Za h.lists hb,fun l hl=>Za (h.each l hl) hb,Za h.names hb,Za h.locals hb,fun n hn=>Za (h.counts n hn) hb,h.same⟩
theorem FewO.here{s:MW}{b:Nat}(h:FewO s b)(k:Nat):s.here k<=b:=by
 unfold MW.here MW.list
 rw[Z2]
 cases hk:s.lists[k]? with
 | none=>exact Z3 _
 | some l=>exact h.each l (List.mem_of_getElem? hk)
theorem IX{α:Type}{l:List α}{i:Nat}{f:α->α}{x:α}(h:x∈l.modify i f):x∈l\/∃y∈l,x=f y:=by
 obtain⟨j,hj,rfl⟩:=List.mem_iff_getElem.1 h
 rw[List.getElem_modify]
 rw[List.length_modify]at hj
 by_cases e:i=j
 ·rw[if_pos e]
  exact Or.inr ⟨_,Z6 hj,rfl⟩
 ·rw[if_neg e]
  exact Or.inl (Z6 hj)
theorem FewO.put{s:MW}{b:Nat}(h:FewO s b)(k:Nat)(o:Ord):FewO (s.put k o) (b+1):=by
 refine⟨by unfold MW.put;rw[List.length_modify];exact Nat.le_succ_of_le h.lists,fun l hl=>?_,Nat.le_succ_of_le h.names,Nat.le_succ_of_le h.locals,fun n hn=>Nat.le_succ_of_le (h.counts n hn),by unfold MW.put;rw[List.length_modify];exact h.same⟩
 rcases IX hl with hl | ⟨y,hy,rfl⟩
 ·exact Nat.le_succ_of_le (h.each l hl)
 ·rw[Z1];exact Nat.succ_le_succ (h.each y hy)
theorem FewO.patch{s:MW}{b:Nat}(h:FewO s b)(k i:Nat)(a:Int):FewO (s.patch k i a) b:=by
 refine⟨by unfold MW.patch;rw[List.length_modify];exact h.lists,fun l hl=>?_,h.names,h.locals,h.counts,by unfold MW.patch;rw[List.length_modify];exact h.same⟩
 rcases IX hl with hl | ⟨y,hy,rfl⟩
 ·exact h.each l hl
 ·rw[List.length_modify];exact h.each y hy
theorem FewO.local{s:MW}{b:Nat}(h:FewO s b)(k:Nat)(x:ByteArray):FewO (s.local k x) (b+1):=by
 refine⟨Nat.le_succ_of_le h.lists,fun l hl=>Nat.le_succ_of_le (h.each l hl),Nat.le_succ_of_le h.names,?_,fun n hn=>?_,by unfold MW.local;rw[List.length_modify];exact h.same⟩
 ·show(s.locals++[x]).length<=_
  rw[Z1];exact Nat.succ_le_succ h.locals
 ·have hl:=h.locals
  rcases IX hn with hn | ⟨y,hy,rfl⟩
  ·exact Nat.le_succ_of_le (h.counts n hn)
  ·have:=h.counts y hy;omega
theorem FewO.begin{s:MW}{b k:Nat}(h:FewO s b)(hk:k<=b):FewO (s.begin k) (b+1):=by
 refine⟨by show(s.lists++[[]]).length<=_;rw[Z1];exact Nat.succ_le_succ h.lists,fun l hl=>?_,Nat.le_succ_of_le h.names,Nat.le_succ_of_le h.locals,fun n hn=>?_,by show(s.counts++[k]).length=(s.lists++[[]]).length;rw[Z1,Z1,h.same];rfl⟩
 ·rcases List.mem_append.1 hl with hl | hl
  ·exact Nat.le_succ_of_le (h.each l hl)
  ·rw[List.mem_singleton.1 hl];exact Z3 _
 ·rcases List.mem_append.1 hn with hn | hn
  ·exact Nat.le_succ_of_le (h.counts n hn)
  ·rw[List.mem_singleton.1 hn];exact Nat.le_succ_of_le hk
theorem FewO.known{s:MW}{b:Nat}(h:FewO s b)(x:ByteArray):FewO (s.known x) (b+1):=by
 unfold MW.known
 split
 ·exact h.mono (Nat.le_succ _)
 ·exact⟨Nat.le_succ_of_le h.lists,fun l hl=>Nat.le_succ_of_le (h.each l hl),by show(s.names++[x]).length<=_;rw[Z1];exact Nat.succ_le_succ h.names,Nat.le_succ_of_le h.locals,fun n hn=>Nat.le_succ_of_le (h.counts n hn),h.same⟩
theorem FewO.back{s:MW}{b:Nat}(h:FewO s b){l:List ByteArray}(hl:l.length<=b):FewO (s.back l) b:=⟨h.lists,h.each,h.names,hl,h.counts,h.same⟩
theorem FewO.order{s:MW}{b:Nat}(h:FewO s b)(cls slots:List ByteArray)(k:Nat)(kd:Int)(x:ByteArray)(m:Int)(len:Nat):FewO (Ai cls slots k kd x m len s).1 (b+1):=by
 have h1:=h.mono (Nat.le_succ b)
 unfold Ai
 split;exact h1
 split;exact h1
 split;exact h.known x
 split;exact h1
 split;exact h1
 split;exact h.local k x
 exact h1
mutual
theorem Bl(cls slots:List ByteArray):∀(n:Nd) (k:Nat) (s:MW) (b:Nat),FewO s b->FewO (AB cls slots k n s) (b+4*A0 n)
 | .mk kd x m ks,k,s,b,h=>by
  have esz:A0 (.mk kd x m ks)=1+A2 ks:=by conv=>lhs;unfold A0
  rw[esz]
  unfold AB
  by_cases h6:kd=6
  ·rw[if_pos h6]
   exact((IY cls slots ks k s b h).mono (by omega)).back (Za h.locals (by omega))
  rw[if_neg h6]
  by_cases h13:kd=13
  ·rw[if_pos h13]
   match ks with
   | []=>exact h.mono (by omega)
   | n::ns=>
    have e:A2 (n::ns)=A0 n+A2 ns:=by conv=>lhs;unfold A2
    rw[e]
    exact((Bl cls slots n s.lists.length _ (b+1+1) ((h.begin h.locals).put k _)).mono (by omega)).back (Za h.locals (by omega))
  rw[if_neg h13]
  by_cases h10:kd=10
  ·rw[if_pos h10]
   match ks with
   | []=>exact h.mono (by omega)
   | [_]=>exact h.mono (by omega)
   | n::n'::ns=>
    have e:A2 (n::n'::ns)=A0 n+(A0 n'+A2 ns):=by
     conv=>lhs;unfold A2
     conv=>lhs;rhs;unfold A2
    rw[e]
    exact(((Bl cls slots n' k _ (b+1+4*A0 n+1) ((Bl cls slots n k _ (b+1) (h.put k _)).put k _)).put k _).patch k _ _).mono (by omega)
  rw[if_neg h10]
  by_cases h9:kd=9
  ·rw[if_pos h9]
   match ks with
   | []=>exact h.mono (by omega)
   | [_]=>exact h.mono (by omega)
   | [n,n']=>
    have e:A2 [n,n']=A0 n+(A0 n'+A2 []):=by
     conv=>lhs;unfold A2
     conv=>lhs;rhs;unfold A2
    rw[e]
    exact((Bl cls slots n' k _ (b+4*A0 n+1) ((Bl cls slots n k _ b h).put k _)).patch k _ _).mono (by omega)
   | n::n'::n''::ns=>
    have e:A2 (n::n'::n''::ns)=A0 n+(A0 n'+(A0 n''+A2 ns)):=by
     conv=>lhs;unfold A2
     conv=>lhs;rhs;unfold A2
     conv=>lhs;rhs;rhs;unfold A2
    rw[e]
    exact((Bl cls slots n'' k _ _ (((Bl cls slots n' k _ (b+4*A0 n+1) ((Bl cls slots n k _ b h).put k _)).put k _).patch k _ _)).patch k _ _).mono (by omega)
  rw[if_neg h9]
  exact(((IY cls slots ks k s b h).order cls slots k kd (strOfNums x) m ks.length).put k _).mono (by omega)
theorem IY (cls slots:List ByteArray):∀(ks:List Nd) (k:Nat) (s:MW) (b:Nat),FewO s b->FewO (B0 cls slots k ks s) (b+4*A2 ks)
 | [],k,s,b,h=>by
  unfold B0
  exact h.mono (by omega)
 | n::ns,k,s,b,h=>by
  have e:A2 (n::ns)=A0 n+A2 ns:=by conv=>lhs;unfold A2
  rw[e]
  unfold B0
  exact(IY cls slots ns k _ _ (Bl cls slots n k s b h)).mono (by omega)
end
mutual
theorem Em(cls slots:List ByteArray):∀(n:Nd) (k:Nat) (s:MW),s.locals <+: (AB cls slots k n s).locals
 | .mk kd x m ks,k,s=>by
  unfold AB
  by_cases h6:kd=6
  ·rw[if_pos h6];exact List.prefix_refl _
  rw[if_neg h6]
  by_cases h13:kd=13
  ·rw[if_pos h13]
   match ks with
   | []=>exact List.prefix_refl _
   | n::ns=>exact List.prefix_refl _
  rw[if_neg h13]
  by_cases h10:kd=10
  ·rw[if_pos h10]
   match ks with
   | []=>exact List.prefix_refl _
   | [_]=>exact List.prefix_refl _
   | n::n'::ns=>exact(Em cls slots n k (s.put k (26,0,0))).trans (Em cls slots n' k ((AB cls slots k n (s.put k (26,0,0))).put k (25,0,0)))
  rw[if_neg h10]
  by_cases h9:kd=9
  ·rw[if_pos h9]
   match ks with
   | []=>exact List.prefix_refl _
   | [_]=>exact List.prefix_refl _
   | [n,n']=>exact(Em cls slots n k s).trans (Em cls slots n' k ((AB cls slots k n s).put k (25,0,0)))
   | n::n'::n''::ns=>exact((Em cls slots n k s).trans (Em cls slots n' k ((AB cls slots k n s).put k (25,0,0)))).trans (Em cls slots n'' k (((AB cls slots k n' ((AB cls slots k n s).put k (25,0,0))).put k (24,0,0)).patch k ((AB cls slots k n s).here k) (((AB cls slots k n' ((AB cls slots k n s).put k (25,0,0))).put k (24,0,0)).here k:Int)))
  rw[if_neg h9]
  refine(KX cls slots ks k s).trans ?_
  show(B0 cls slots k ks s).locals <+: (Ai cls slots k kd (strOfNums x) m ks.length (B0 cls slots k ks s)).1.locals
  unfold Ai
  split;exact List.prefix_refl _
  split;exact List.prefix_refl _
  split
  ·show _ <+: (MW.known _ _).locals
   unfold MW.known
   split<;>exact List.prefix_refl _
  split;exact List.prefix_refl _
  split;exact List.prefix_refl _
  split;exact List.prefix_append _ _
  exact List.prefix_refl _
theorem KX (cls slots:List ByteArray):∀(ks:List Nd) (k:Nat) (s:MW),s.locals <+: (B0 cls slots k ks s).locals
 | [],k,s=>by unfold B0;exact List.prefix_refl _
 | n::ns,k,s=>by
  unfold B0
  exact(Em cls slots n k s).trans (KX cls slots ns k _)
end
mutual
theorem B3(cls slots:List ByteArray):∀(n:Nd) (k:Nat) (s:MW),s.lists.length<=(AB cls slots k n s).lists.length
 | .mk kd x m ks,k,s=>by
  have pu:∀(s:MW) (k:Nat) (o:Ord),(s.put k o).lists.length=s.lists.length:=fun s k o=>by unfold MW.put;rw[List.length_modify]
  have pa:∀(s:MW) (k i:Nat) (a:Int),(s.patch k i a).lists.length=s.lists.length:=fun s k i a=>by unfold MW.patch;rw[List.length_modify]
  unfold AB
  by_cases h6:kd=6
  ·rw[if_pos h6];exact GA cls slots ks k s
  rw[if_neg h6]
  by_cases h13:kd=13
  ·rw[if_pos h13]
   match ks with
   | []=>exact Z0 _
   | n::ns=>
    have h1:=B3 cls slots n s.lists.length ((s.begin s.locals.length).put k (23,(s.lists.length:Int),0))
    have h2:(s.begin s.locals.length).lists.length=s.lists.length+1:=by unfold MW.begin;simp
    rw[pu,h2]at h1
    show s.lists.length<=(AB cls slots s.lists.length n ((s.begin s.locals.length).put k (23,(s.lists.length:Int),0))).lists.length
    omega
  rw[if_neg h13]
  by_cases h10:kd=10
  ·rw[if_pos h10]
   match ks with
   | []=>exact Z0 _
   | [_]=>exact Z0 _
   | n::n'::ns=>
    have h1:=B3 cls slots n k (s.put k (26,0,0))
    have h2:=B3 cls slots n' k ((AB cls slots k n (s.put k (26,0,0))).put k (25,0,0))
    rw[pu]at h1 h2
    dsimp only
    rw[pa,pu]
    omega
  rw[if_neg h10]
  by_cases h9:kd=9
  ·rw[if_pos h9]
   match ks with
   | []=>exact Z0 _
   | [_]=>exact Z0 _
   | [n,n']=>
    have h1:=B3 cls slots n k s
    have h2:=B3 cls slots n' k ((AB cls slots k n s).put k (25,0,0))
    rw[pu]at h2
    dsimp only
    rw[pa]
    omega
   | n::n'::n''::ns=>
    have h1:=B3 cls slots n k s
    have h2:=B3 cls slots n' k ((AB cls slots k n s).put k (25,0,0))
    have h3:=B3 cls slots n'' k (((AB cls slots k n' ((AB cls slots k n s).put k (25,0,0))).put k (24,0,0)).patch k ((AB cls slots k n s).here k) (((AB cls slots k n' ((AB cls slots k n s).put k (25,0,0))).put k (24,0,0)).here k:Int))
    rw[pu]at h2
    rw[pa,pu]at h3
    dsimp only
    rw[pa]
    omega
  rw[if_neg h9,pu]
  refine Za (GA cls slots ks k s) ?_
  unfold Ai
  split;exact Z0 _
  split;exact Z0 _
  split
  ·show _<=(MW.known _ _).lists.length
   unfold MW.known
   split<;>exact Z0 _
  split;exact Z0 _
  split;exact Z0 _
  split;exact Z0 _
  exact Z0 _
theorem GA (cls slots:List ByteArray):∀(ks:List Nd) (k:Nat) (s:MW),s.lists.length<=(B0 cls slots k ks s).lists.length
 | [],k,s=>by unfold B0;exact Z0 _
 | n::ns,k,s=>by
  unfold B0
  exact Za (B3 cls slots n k s) (GA cls slots ns k _)
end
theorem Dx(s:MW)(k j:Nat)(o:Ord):s.here j<=(s.put k o).here j:=by
 unfold MW.here MW.list MW.put
 simp only[Z2,List.getElem?_modify]
 by_cases e:k=j
 ·subst e
  cases s.lists[k]? with
  | none=>exact Z3 _
  | some l=>simp
 ·simp[e]
theorem Fk(s:MW)(k i j:Nat)(a:Int):(s.patch k i a).here j=s.here j:=by
 unfold MW.here MW.list MW.patch
 simp only[Z2,List.getElem?_modify]
 by_cases e:k=j
 ·subst e
  cases s.lists[k]? with
  | none=>rfl
  | some l=>simp
 ·simp[e]
theorem Q4(s:MW)(n j:Nat):s.here j<=(s.begin n).here j:=by
 unfold MW.here MW.list MW.begin
 simp only[Z2]
 by_cases hj:j<s.lists.length
 ·rw[List.getElem?_append_left hj];exact Z0 _
 ·rw[List.getElem?_eq_none (l:=s.lists) (by omega)];exact Z3 _
mutual
theorem CU(cls slots:List ByteArray)(j:Nat):∀(n:Nd) (k:Nat) (s:MW),s.here j<=(AB cls slots k n s).here j
 | .mk kd x m ks,k,s=>by
  unfold AB
  by_cases h6:kd=6
  ·rw[if_pos h6];exact JG cls slots j ks k s
  rw[if_neg h6]
  by_cases h13:kd=13
  ·rw[if_pos h13]
   match ks with
   | []=>exact Z0 _
   | n::ns=>exact Za (Q4 s s.locals.length j) (Za (Dx _ k j (23,(s.lists.length:Int),0)) (CU cls slots j n s.lists.length ((s.begin s.locals.length).put k (23,(s.lists.length:Int),0))))
  rw[if_neg h13]
  by_cases h10:kd=10
  ·rw[if_pos h10]
   match ks with
   | []=>exact Z0 _
   | [_]=>exact Z0 _
   | n::n'::ns=>
    dsimp only
    rw[Fk]
    exact Za (Dx s k j _) (Za (CU cls slots j n k _) (Za (Dx _ k j _) (Za (CU cls slots j n' k _) (Dx _ k j _))))
  rw[if_neg h10]
  by_cases h9:kd=9
  ·rw[if_pos h9]
   match ks with
   | []=>exact Z0 _
   | [_]=>exact Z0 _
   | [n,n']=>
    dsimp only
    rw[Fk]
    exact Za (CU cls slots j n k s) (Za (Dx _ k j _) (CU cls slots j n' k _))
   | n::n'::n''::ns=>
    have h3:=CU cls slots j n'' k (((AB cls slots k n' ((AB cls slots k n s).put k (25,0,0))).put k (24,0,0)).patch k ((AB cls slots k n s).here k) (((AB cls slots k n' ((AB cls slots k n s).put k (25,0,0))).put k (24,0,0)).here k:Int))
    rw[Fk]at h3
    dsimp only
    rw[Fk]
    exact Za (Za (CU cls slots j n k s) (Za (Dx _ k j _) (Za (CU cls slots j n' k _) (Dx _ k j _)))) h3
  rw[if_neg h9]
  refine Za (JG cls slots j ks k s) (Za ?_ (Dx _ k j _))
  unfold Ai
  split;exact Z0 _
  split;exact Z0 _
  split
  ·show _<=(MW.known _ _).here j
   unfold MW.known
   split<;>exact Z0 _
  split;exact Z0 _
  split;exact Z0 _
  split;exact Z0 _
  exact Z0 _
theorem JG (cls slots:List ByteArray) (j:Nat):∀(ks:List Nd) (k:Nat) (s:MW),s.here j<=(B0 cls slots k ks s).here j
 | [],k,s=>by unfold B0;exact Z0 _
 | n::ns,k,s=>by
  unfold B0
  exact Za (CU cls slots j n k s) (JG cls slots j ns k _)
end
theorem LX{p:ByteArray->Bool}:∀(l:List ByteArray) (n i:Nat),l.findIdx? p=some i->i<n->(l.take n).findIdx? p=some i
 | [],n,i,h,_=>by cases h
 | a::l,0,i,_,hi=>by omega
 | a::l,n+1,i,h,hi=>by
  rw[List.take_succ_cons,List.findIdx?_cons]
  rw[List.findIdx?_cons]at h
  split
  ·rename_i ha
   rw[if_pos ha]at h
   exact h
  ·rename_i ha
   rw[if_neg ha]at h
   cases hf:l.findIdx? p with
   | none=>rw[hf]at h;cases h
   | some j=>
    rw[hf]at h
    injection h with h
    have h':j+1=i:=h
    rw[LX l n j hf (by omega)]
    exact congrArg some h'
theorem LY{names:List ByteArray}{many i:Nat}{x:ByteArray}(h:Eu names many x=some i):AX (names.take many) x=(i:Int)/\i<many:=by
 unfold Eu at h
 cases hf:names.findIdx? (fun y=>decide (y=x))with
 | none=>rw[hf]at h;cases h
 | some j=>
  rw[hf]at h
  have h':(if j<many then some j else none)=some i:=h
  split at h'
  ·rename_i hj
   injection h' with h'
   subst h'
   unfold AX
   rw[LX names many j hf hj]
   exact⟨rfl,hj⟩
  ·cases h'
structure Gc(names:List ByteArray)(past:List (List ByteArray))(pastW:List ClW):Prop where
 slots:pastW.map (·.slots)=past
 names:pastW.map (·.name)=names.take past.length
 few:∀l∈past,l.length<=59
theorem Ox{names:List ByteArray}{past:List (List ByteArray)}{pastW:List ClW}(hs:Gc names past pastW){n:Nd}(hk:n.kind=31\/n.kind=3){c c':ClZ}{y:ClW×Nat}(h:C3 names past n c=.ok c')(he:c.slots=y.1.slots)(hf:c.slots.length<=59):c'.slots=(Bg pastW n y).1.slots/\(Bg pastW n y).2=y.2/\(Bg pastW n y).1.meths=y.1.meths/\(Bg pastW n y).1.name=y.1.name/\c'.slots.length<=59:=by
 unfold C3 at h
 unfold Bg
 rcases hk with hk | hk
 ·rw[if_pos hk]at h⊢
  split at h
  ·rename_i i hp
   have e:=BU h
   subst e
   obtain⟨e1,hi⟩:=LY hp
   rw[hs.names,e1]
   have hil:i<pastW.length:=by have:=congrArg List.length hs.slots;rw[List.length_map]at this;omega
   have e2:past.getD i []=((pastW[((i:Int)).toNat]?).map (·.slots)).getD []:=by
    rw[<-hs.slots,Int.toNat_natCast,Z2,List.getElem?_map]
   refine⟨e2,rfl,rfl,rfl,?_⟩
   show(past.getD i []).length<=59
   rw[Z2,List.getElem?_eq_getElem hi]
   exact hs.few _ (Z6 hi)
  ·cases h
 ·rw[if_neg (by omega),if_pos hk]at h
  rw[if_neg (by omega),if_pos hk]
  split at h
  ·cases h
  ·split at h
   ·cases h
   ·rename_i h59
    have e:=BU h
    subst e
    refine⟨by show c.slots++[n.str]=y.1.slots++[n.str];rw[he],rfl,rfl,rfl,?_⟩
    show(c.slots++[n.str]).length<=59
    rw[Z1]
    show c.slots.length+1<=59
    omega
theorem JS{names:List ByteArray}{past:List (List ByteArray)}{pastW:List ClW}(hs:Gc names past pastW):∀(ns:List Nd) (c c':ClZ) (y:ClW×Nat),(∀n∈ns,n.kind=31\/n.kind=3)->Ap names past ns c=.ok c'->c.slots=y.1.slots->c.slots.length<=59->c'.slots=(An pastW ns y).1.slots/\(An pastW ns y).2=y.2/\(An pastW ns y).1.meths=y.1.meths/\(An pastW ns y).1.name=y.1.name/\c'.slots.length<=59
 | [],c,c',y,_,h,he,hf=>by
  unfold Ap at h
  have e:=BU h
  subst e
  exact⟨he,rfl,rfl,rfl,hf⟩
 | n::ns,c,c',y,hk,h,he,hf=>by
  unfold Ap at h
  obtain⟨c1,h1,h⟩:=Ah h
  obtain⟨a1,a2,a3,a4,a5⟩:=Ox hs (hk n (Z7 ..)) h1 he hf
  obtain⟨b1,b2,b3,b4,b5⟩:=JS hs ns c1 c' (Bg pastW n y) (fun n hn=>hk n (Z8 _ hn)) h a1 a5
  unfold An
  exact⟨b1,b2.trans a2,b3.trans a3,b4.trans a4,b5⟩
def CL:Nat->List Nd->List (ByteArray×Int×Nat)
 | _,[]=>[]
 | nl,m::ms=>(m.str,m.num,nl)::CL (nl+1) ms
theorem ER:∀(nl:Nat) (ms:List Nd),(CL nl ms).length=ms.length
 | _,[]=>rfl
 | nl,m::ms=>by unfold CL;rw[List.length_cons,ER,List.length_cons]
theorem LZ{names:List ByteArray}{past:List (List ByteArray)}{pastW:List ClW}:∀(ms:List Nd) (c c':ClZ) (y:ClW×Nat),(∀n∈ms,n.kind=4)->Ap names past ms c=.ok c'->c'.slots=c.slots/\(∀m∈ms,∃a b,CI names c.slots m a=.ok b)/\An pastW ms y=({ y.1 with meths:=y.1.meths++CL y.2 ms },y.2+ms.length)
 | [],c,c',y,_,h=>by
  unfold Ap at h
  have e:=BU h
  subst e
  refine⟨rfl,fun m hm=>(by cases hm),?_⟩
  unfold An CL
  rw[List.append_nil]
  rfl
 | n::ms,c,c',y,hk,h=>by
  have h4:=hk n (Z7 ..)
  unfold Ap at h
  obtain⟨c1,h1,h⟩:=Ah h
  unfold C3 at h1
  rw[if_neg (by omega),if_neg (by omega),if_pos h4]at h1
  split at h1
  ·cases h1
  ·obtain⟨nx,hm,h1⟩:=Ah h1
   have e:=BU h1
   subst e
   have em:Bg pastW n y=({ y.1 with meths:=y.1.meths++[(n.str,n.num,y.2)] },y.2+1):=by
    unfold Bg
    rw[if_neg (by omega),if_neg (by omega),if_pos h4]
   obtain⟨a1,a2,a3⟩:=LZ (pastW:=pastW) ms _ c' (Bg pastW n y) (fun n hn=>hk n (Z8 _ hn)) h
   refine⟨a1,fun m hm'=>?_,?_⟩
   ·rcases List.mem_cons.1 hm' with rfl | hm'
    ·exact⟨_,_,hm⟩
    ·exact a2 m hm'
   ·unfold An
    rw[a3,em]
    have e3:CL y.2 (n::ms)=(n.str,n.num,y.2)::CL (y.2+1) ms:=by conv=>lhs;unfold CL
    rw[e3,List.length_cons]
    show(({ y.1 with meths:=(y.1.meths++[(n.str,n.num,y.2)])++CL (y.2+1) ms }:ClW),y.2+1+ms.length)=_
    rw[List.append_assoc,Nat.add_assoc,Nat.add_comm 1]
    rfl
theorem Nw(names:List ByteArray)(past:List (List ByteArray))(c:ClZ):Ap names past [] c=.ok c:=by unfold Ap;rfl
theorem GS(names:List ByteArray)(past:List (List ByteArray))(n:Nd)(ns:List Nd)(c:ClZ):Ap names past (n::ns) c=(C3 names past n c).then fun c=>Ap names past ns c:=by conv=>lhs;unfold Ap
theorem JT(names:List ByteArray)(past:List (List ByteArray)):∀(a b:List Nd) (c:ClZ),Ap names past (a++b) c=(Ap names past a c).then fun c=>Ap names past b c
 | [],b,c=>by rw[Nw,List.nil_append];rfl
 | n::a,b,c=>by
  rw[List.cons_append,GS,GS]
  cases C3 names past n c with
  | error e=>rfl
  | ok c1=>exact JT names past a b c1
theorem Ir(past:List ClW):∀(a b:List Nd) (y:ClW×Nat),An past (a++b) y=An past b (An past a y)
 | [],b,y=>rfl
 | n::a,b,y=>by
  rw[List.cons_append]
  conv=>lhs;unfold An
  rw[Ir past a b]
  conv=>rhs;rhs;unfold An
structure La(names:List ByteArray)(c:ClW)(n:Nd)(n0 n1:Nat):Prop where
 few:c.slots.length<=59
 meths:∃nl ms,c.meths=CL nl ms/\n0<=nl/\nl+ms.length<=n1/\n.kids.drop (n.kids.length-c.meths.length)=ms/\∀m∈ms,WfM m/\∃a b,CI names c.slots m a=.ok b
theorem Lb{names:List ByteArray}{past:List (List ByteArray)}{pastW:List ClW}(hs:Gc names past pastW){n:Nd}(hw:WfC n){nx nl:Nat}{y:Nat×List ByteArray}(h:EO names past n nx=.ok y):(B7 pastW n nl).1.name=n.str/\(B7 pastW n nl).1.slots=y.2/\nl<=(B7 pastW n nl).2/\y.2.length<=59/\La names (B7 pastW n nl).1 n nl (B7 pastW n nl).2:=by
 obtain⟨x,up,ks,ms,rfl,-,hu,hk,hm⟩:=hw
 unfold EO at h
 split at h
 ·cases h
 obtain⟨c',hm0,hc⟩:=Ah h
 have e:=BU hc
 subst e
 have ek:(Nd.mk 2 x 0 (up++ks++ms)).kids=up++ks++ms:=rfl
 rw[ek,JT]at hm0
 obtain⟨c1,h1,h2⟩:=Ah hm0
 have k1:∀n∈up++ks,n.kind=31\/n.kind=3:=fun n hn=>by
  rcases List.mem_append.1 hn with hn | hn
  ·rcases hu with rfl | ⟨z,-,rfl⟩
   ·cases hn
   ·rw[List.mem_singleton.1 hn];exact Or.inl rfl
  ·obtain⟨z,-,rfl⟩:=hk n hn
   exact Or.inr rfl
 have k2:∀n∈ms,n.kind=4:=fun n hn=>by obtain⟨z,as',b,rfl,_⟩:=hm n hn;rfl
 obtain⟨a1,a2,a3,a4,a5⟩:=JS hs (up++ks) _ c1 (⟨(Nd.mk 2 x 0 (up++ks++ms)).str,-1,[],[]⟩,nl) k1 h1 rfl (Z3 _)
 obtain⟨b1,b2,b3⟩:=LZ (pastW:=pastW) ms c1 c' (An pastW (up++ks) (⟨(Nd.mk 2 x 0 (up++ks++ms)).str,-1,[],[]⟩,nl)) k2 h2
 have ec:B7 pastW (.mk 2 x 0 (up++ks++ms)) nl=({ (An pastW (up++ks) (⟨(Nd.mk 2 x 0 (up++ks++ms)).str,-1,[],[]⟩,nl)).1 with meths:=CL nl ms },nl+ms.length):=by
  unfold B7
  rw[ek,Ir,b3,a2,a3,List.nil_append]
 rw[ec]
 refine⟨a4,by show(An pastW (up++ks) _).1.slots=c'.slots;rw[b1,a1],Nat.le_add_right _ _,by rw[b1];exact a5,⟨by show(An pastW (up++ks) _).1.slots.length<=59;rw[<-a1];exact a5,nl,ms,rfl,Z0 _,Z0 _,?_,fun m hm'=>⟨hm m hm',?_⟩⟩⟩
 ·show(up++ks++ms).drop ((up++ks++ms).length-(CL nl ms).length)=ms
  rw[ER,Z1,Nat.add_sub_cancel,List.drop_left]
 ·show ∃a b,CI names (An pastW (up++ks) _).1.slots m a=.ok b
  rw[<-a1]
  exact b2 m hm'
def AllClsO(names:List ByteArray)(n0 n1:Nat):List ClW->List Nd->Prop
 | [],[]=>True
 | c::L,n::ns=>La names c n n0 n1/\AllClsO names n0 n1 L ns
 | _,_=>False
theorem AllClsO.imp{names:List ByteArray}{n0 n1 m0:Nat}(hm:m0<=n0):∀ {L:List ClW} {ns:List Nd},AllClsO names n0 n1 L ns->AllClsO names m0 n1 L ns
 | [],[],_=>trivial
 | c::L,n::ns,h=>⟨⟨h.1.few,by obtain⟨nl',ms,q2,q3,q4,q5,q6⟩:=h.1.meths;exact⟨nl',ms,q2,Za hm q3,q4,q5,q6⟩⟩,AllClsO.imp hm h.2⟩
theorem Gx{names:List ByteArray}:∀(ns:List Nd) (past:List (List ByteArray)) (pastW:List ClW) (nx nl:Nat) (y:List (List ByteArray)×Nat),Gc names past pastW->(∀n∈ns,WfC n)->names=pastW.map (·.name)++ns.map Nd.str->CO names ns past nx=.ok y->∃L,(B6 ns pastW nl).1=pastW++L/\L.map (·.name)=ns.map Nd.str/\nl<=(B6 ns pastW nl).2/\AllClsO names nl (B6 ns pastW nl).2 L ns
 | [],past,pastW,nx,nl,y,_,_,_,_=>⟨[],by unfold B6;rw[List.append_nil],rfl,Z0 _,trivial⟩
 | n::ns,past,pastW,nx,nl,y,hs,hw,hn,h=>by
  unfold CO at h
  obtain⟨z,hz,h⟩:=Ah h
  obtain⟨a1,a2,a3,a4,a5⟩:=Lb (nl:=nl) hs (hw n (Z7 ..)) hz
  have hlen:past.length=pastW.length:=by rw[<-hs.slots,List.length_map]
  have hs':Gc names (past++[z.2]) (pastW++[(B7 pastW n nl).1]):=⟨by rw[List.map_append,hs.slots];show past++[(B7 pastW n nl).1.slots]=_;rw[a2],by
   rw[List.map_append,hn,Z1,hlen,List.take_append]
   show pastW.map (·.name)++[(B7 pastW n nl).1.name]=_
   rw[a1,List.take_of_length_le (by rw[List.length_map];omega),List.length_map,Nat.add_sub_cancel_left]
   rfl,fun l hl=>by
   rcases List.mem_append.1 hl with hl | hl
   ·exact hs.few l hl
   ·rw[List.mem_singleton.1 hl];exact a4⟩
  obtain⟨L,l1,l2,l3,l4⟩:=Gx ns (past++[z.2]) (pastW++[(B7 pastW n nl).1]) z.1 (B7 pastW n nl).2 y hs' (fun n hn=>hw n (Z8 _ hn)) (by rw[hn,List.map_append];show _=pastW.map (·.name)++[(B7 pastW n nl).1.name]++ns.map Nd.str;rw[a1,List.append_assoc];rfl) h
  unfold B6
  refine⟨(B7 pastW n nl).1::L,by rw[l1,List.append_assoc];rfl,by rw[List.map_cons,List.map_cons,l2,a1],Za a3 l3,?_,?_⟩
  ·obtain⟨q1,nl',ms,q2,q3,q4,q5,q6⟩:=a5
   exact⟨q1,nl',ms,q2,q3,Za q4 l3,q5,q6⟩
  ·exact l4.imp a3
theorem Is{C:Nat}{slots names:List ByteArray}(hC:names.length=C)(hs:slots.length<=59):∀(ms:List Nd) (nl:Nat) (s:MW),CX C s->nl+ms.length<=s.lists.length->(∀m∈ms,WfM m/\∃a b,CI names slots m a=.ok b)->CX C (BO names slots (CL nl ms) ms s)/\GrowsO s (BO names slots (CL nl ms) ms s)
 | [],nl,s,hl,_,_=>by
  unfold CL BO
  exact⟨hl,GrowsO.refl s⟩
 | m::ms,nl,s,hl,hn,hm=>by
  obtain⟨w1,a,b,h1⟩:=hm m (Z7 ..)
  rw[List.length_cons]at hn
  obtain⟨p1,p2⟩:=NQ (at':=nl) w1 hC hs hl (by omega) h1
  have hg:=p2.lists
  obtain⟨q1,q2⟩:=Is hC hs ms (nl+1) (Cc names slots nl m s) p1 (by omega) (fun m hm'=>hm m (Z8 _ hm'))
  unfold CL BO
  exact⟨q1,p2.trans q2⟩
theorem KA{C:Nat}{names:List ByteArray}(hC:names.length=C){n0 n1:Nat}:∀ {L:List ClW} {ns:List Nd} (s:MW),AllClsO names n0 n1 L ns->CX C s->n1<=s.lists.length->CX C (DR names L ns s)/\GrowsO s (DR names L ns s)
 | [],[],s,_,hl,_=>by
  unfold DR
  exact⟨hl,GrowsO.refl s⟩
 | c::L,n::ns,s,h,hl,hn=>by
  obtain⟨h1,h2⟩:=h
  obtain⟨q1,nl,ms,q2,q3,q4,q5,q6⟩:=h1
  obtain⟨p1,p2⟩:=Is hC q1 ms nl s hl (by omega) q6
  have hg:=p2.lists
  obtain⟨r1,r2⟩:=KA hC (BO names c.slots (CL nl ms) ms s) h2 p1 (by omega)
  unfold DR
  rw[q5,q2]
  exact⟨r1,p2.trans r2⟩
theorem QS{ks:List Nd}{b:Nd}{x:List Int}{m:Int}(hks:∀c∈ks,WfC c)(hb:WfR 2 b)(h:DX (.mk 1 x m (ks++[b]))=.ok ()):CX ks.length (Bk ks b).2/\(Bk ks b).1.length=ks.length:=by
 unfold DX at h
 have e1:(Nd.mk 1 x m (ks++[b])).kids.dropLast=ks:=List.dropLast_concat
 have e2:(Nd.mk 1 x m (ks++[b])).kids.getLast?=some b:=List.getLast?_concat
 rw[e1,e2]at h
 obtain⟨y,hy,h⟩:=Ah h
 dsimp only at h
 obtain⟨z,hz,-⟩:=Ah h
 obtain⟨L,l1,l2,l3,l4⟩:=Gx ks [] [] 1 1 y ⟨rfl,by simp,fun l hl=>by cases hl⟩ hks rfl hy
 rw[List.nil_append]at l1
 have hnl:(ks.map Nd.str).length=ks.length:=List.length_map _
 have hlist:∀M k:Nat,(As M).list k=[]:=fun M k=>by
  unfold MW.list As
  rw[Z2,List.getElem?_replicate]
  split<;>rfl
 have hl0:CX ks.length (As (B6 ks [] 1).2):=⟨by unfold As;simp,fun k o ho=>by rw[hlist]at ho;cases ho⟩
 have hfl:(As (B6 ks [] 1).2).lists.length=(B6 ks [] 1).2:=by unfold As;simp
 have h0:MeetsO ks.length ⟨ks.map Nd.str,[],false,false⟩ [] (ks.map Nd.str) [] 0 (As (B6 ks [] 1).2):=⟨rfl,hnl,rfl,by decide,hl0,by rw[hfl];omega,Z3 _,rfl⟩
 obtain⟨p1,p2⟩:=Cs b 2 _ 0 y.2 [] z 0 _ hb h0 hz
 have hp:=p2.lists
 rw[hfl]at hp
 obtain⟨q1,q2⟩:=KA hnl (AB (ks.map Nd.str) [] 0 b (As (B6 ks [] 1).2)) l4 p1.land hp
 have hlen:L.length=ks.length:=by have:=congrArg List.length l2;rw[List.length_map,List.length_map]at this;exact this
 unfold Bk
 rw[l1,l2]
 exact⟨q1,hlen⟩
theorem QT{names:List ByteArray}{past:List (List ByteArray)}{pastW:List ClW}(hs:Gc names past pastW){n:Nd}(hw:WfC n){nx:Nat}{y:Nat×List ByteArray}(h:EO names past n nx=.ok y):∀k∈n.kids,k.kind=31->0<=AX (pastW.map (·.name)) k.str:=by
 obtain⟨x,up,ks,ms,rfl,-,hu,hk,hm⟩:=hw
 unfold EO at h
 split at h
 ·cases h
 obtain⟨c',hm0,-⟩:=Ah h
 have ek:(Nd.mk 2 x 0 (up++ks++ms)).kids=up++ks++ms:=rfl
 rw[ek]at hm0⊢
 intro k hkm h31
 rcases List.mem_append.1 hkm with hkm | hkm
 ·rcases List.mem_append.1 hkm with hkm | hkm
  ·rcases hu with rfl | ⟨z,-,rfl⟩
   ·cases hkm
   ·have e:=List.mem_singleton.1 hkm
    subst e
    rw[List.append_assoc,List.singleton_append,GS]at hm0
    obtain⟨c1,h1,-⟩:=Ah hm0
    unfold C3 at h1
    rw[if_pos h31]at h1
    split at h1
    ·rename_i i hp
     obtain⟨e1,-⟩:=LY hp
     rw[hs.names,e1]
     omega
    ·cases h1
  ·obtain⟨z,-,rfl⟩:=hk k hkm
   have h3:(3:Int)=31:=h31
   exact absurd h3 (by decide)
 ·obtain⟨z,as',b,rfl,_⟩:=hm k hkm
  have h3:(4:Int)=31:=h31
  exact absurd h3 (by decide)
theorem Ii(n:Nd):A0 n=1+A2 n.kids:=by
 cases n with
 | mk k x m ks=>
  show A0 (.mk k x m ks)=1+A2 ks
  conv=>lhs;unfold A0
theorem Ld:∀(l:List Nd) (d:Nat),A2 (l.drop d)<=A2 l
 | [],d=>by rw[List.drop_nil];exact Z0 _
 | n::ns,0=>Z0 _
 | n::ns,d+1=>by
  rw[List.drop_succ_cons,Ab]
  have:=Ld ns d
  omega
theorem GM:∀l:List Nd,l.length<=A2 l
 | []=>Z3 _
 | n::ns=>by
  have:=GM ns
  have h1:1<=A0 n:=by rw[Ii];omega
  rw[Ab,List.length_cons]
  omega
def GoodCls:List Nd->List ClW->Nat->Prop
 | [],_,_=>True
 | n::ns,past,nl=>(∀c∈past,c.slots.length<=59)/\(∀k∈n.kids,k.kind=31->0<=AX (past.map (·.name)) k.str)/\nl+n.kids.length<=90000/\(∃x,n=.mk 2 x 0 n.kids)/\GoodCls ns (past++[(B7 past n nl).1]) (B7 past n nl).2
theorem Nx{names:List ByteArray}:∀(ns:List Nd) (past:List (List ByteArray)) (pastW:List ClW) (nx nl:Nat) (y:List (List ByteArray)×Nat),Gc names past pastW->(∀n∈ns,WfC n)->names=pastW.map (·.name)++ns.map Nd.str->CO names ns past nx=.ok y->nl+A2 ns<=90000->GoodCls ns pastW nl/\(B6 ns pastW nl).2<=nl+A2 ns
 | [],past,pastW,nx,nl,y,_,_,_,_,_=>⟨trivial,Nat.le_add_right _ _⟩
 | n::ns,past,pastW,nx,nl,y,hs,hw,hn,h,hb=>by
  unfold CO at h
  obtain⟨z,hz,h⟩:=Ah h
  obtain⟨a1,a2,a3,a4,a5⟩:=Lb (nl:=nl) hs (hw n (Z7 ..)) hz
  have hov:=QT hs (hw n (Z7 ..)) hz
  have hlen:past.length=pastW.length:=by rw[<-hs.slots,List.length_map]
  have hs':Gc names (past++[z.2]) (pastW++[(B7 pastW n nl).1]):=⟨by rw[List.map_append,hs.slots];show past++[(B7 pastW n nl).1.slots]=_;rw[a2],by
   rw[List.map_append,hn,Z1,hlen,List.take_append]
   show pastW.map (·.name)++[(B7 pastW n nl).1.name]=_
   rw[a1,List.take_of_length_le (by rw[List.length_map];omega),List.length_map,Nat.add_sub_cancel_left]
   rfl,fun l hl=>by
   rcases List.mem_append.1 hl with hl | hl
   ·exact hs.few l hl
   ·rw[List.mem_singleton.1 hl];exact a4⟩
  have h2:(B7 pastW n nl).2<=nl+n.kids.length:=by
   have key:∀(l:List Nd) (y:ClW×Nat),(An pastW l y).2<=y.2+l.length:=fun l=>by
    induction l with
    | nil=>intro y;exact Z0 _
    | cons k l ih=>
     intro y
     unfold An
     have hm:(Bg pastW k y).2<=y.2+1:=by
      unfold Bg
      split
      ·exact Nat.le_succ _
      ·split
       ·exact Nat.le_succ _
       ·split
        ·exact Z0 _
        ·exact Nat.le_succ _
     have:=ih (Bg pastW k y)
     rw[List.length_cons]
     omega
   exact key n.kids _
  have hk:=Ii n
  have hk2:=GM n.kids
  rw[Ab]at hb⊢
  obtain⟨q1,q2⟩:=Nx ns (past++[z.2]) (pastW++[(B7 pastW n nl).1]) z.1 (B7 pastW n nl).2 y hs' (fun n hn=>hw n (Z8 _ hn)) (by rw[hn,List.map_append];show _=pastW.map (·.name)++[(B7 pastW n nl).1.name]++ns.map Nd.str;rw[a1,List.append_assoc];rfl) h (by omega)
  unfold GoodCls B6
  refine⟨⟨fun c hc=>?_,hov,by omega,?_,q1⟩,by omega⟩
  ·exact hs.few c.slots (by rw[<-hs.slots];exact List.mem_map_of_mem hc)
  ·obtain⟨x,up,ks,ms,rfl,_⟩:=hw n (Z7 ..)
   exact⟨x,rfl⟩
theorem AllClsO.get{names:List ByteArray}{n0 n1:Nat}:∀ {L:List ClW} {ns:List Nd},AllClsO names n0 n1 L ns->L.length=ns.length/\∀i (h1:i<L.length) (h2:i<ns.length),La names L[i] ns[i] n0 n1
 | [],[],_=>⟨rfl,fun i h=>by cases h⟩
 | c::L,n::ns,h=>by
  obtain⟨e,hg⟩:=AllClsO.get h.2
  refine⟨by rw[List.length_cons,List.length_cons,e],fun i h1 h2=>?_⟩
  cases i with
  | zero=>exact h.1
  | succ i=>exact hg i (by rw[List.length_cons]at h1;omega) (by rw[List.length_cons]at h2;omega)
theorem Mf:∀(ms:List Nd) (nl i:Nat) (h:i<(CL nl ms).length),(CL nl ms)[i].2.2=nl+i
 | [],nl,i,h=>by cases h
 | m::ms,nl,0,h=>rfl
 | m::ms,nl,i+1,h=>by
  have hi:i<(CL (nl+1) ms).length:=by rw[ER]at h⊢;rw[List.length_cons]at h;omega
  have:=Mf ms (nl+1) i hi
  show((CL (nl+1) ms)[i]'hi).2.2=_
  omega
theorem M4{ns:List Nd}{i nl:Nat}{past:List ClW}(h:i<ns.length):B6 (ns.drop i) past nl=B6 (ns.drop (i+1)) (past++[(B7 past ns[i] nl).1]) (B7 past ns[i] nl).2:=by
 rw[Z4 h]
 conv=>lhs;unfold B6
theorem GoodCls.next{ns:List Nd}{i nl:Nat}{past:List ClW}(h:i<ns.length)(hg:GoodCls (ns.drop i) past nl):(∀c∈past,c.slots.length<=59)/\(∀k∈ns[i].kids,k.kind=31->0<=AX (past.map (·.name)) k.str)/\nl+ns[i].kids.length<=90000/\(∃x,ns[i]=.mk 2 x 0 ns[i].kids)/\GoodCls (ns.drop (i+1)) (past++[(B7 past ns[i] nl).1]) (B7 past ns[i] nl).2:=by
 rw[Z4 h]at hg
 exact hg
theorem Mv{cls:List ByteArray}{L:List ClW}{ns:List Nd}{i:Nat}{s:MW}(h1:i<L.length)(h2:i<ns.length):DR cls (L.drop i) (ns.drop i) s=DR cls (L.drop (i+1)) (ns.drop (i+1)) (BO cls L[i].slots L[i].meths (ns[i].kids.drop (ns[i].kids.length-L[i].meths.length)) s):=by
 rw[Z4 h1,Z4 h2]
 conv=>lhs;unfold DR
theorem Ny{cls:List ByteArray}{L:List ClW}{ns:List Nd}{i:Nat}{s:MW}(h1:L.length<=i):DR cls (L.drop i) (ns.drop i) s=s:=by
 rw[Z9 h1]
 cases ns.drop i<;>rfl
theorem Mg(nl:Nat):FewO (As nl) nl:=by
 unfold As
 exact⟨by simp,fun l hl=>by rw[(List.mem_replicate.1 hl).2];exact Z3 _,Z3 _,Z3 _,fun n hn=>by rw[(List.mem_replicate.1 hn).2];exact Z3 _,by simp⟩
structure Le(ks:List Nd)(b:Nd)(L:List ClW)(n1:Nat):Prop where
 cls:GoodCls ks [] 1
 is:B6 ks [] 1=(L,n1)
 few:n1<=1+A2 ks
 one:1<=n1
 len:L.length=ks.length
 each:∀i (h1:i<L.length) (h2:i<ks.length),La (L.map (·.name)) L[i] ks[i] 1 n1
theorem UY{ks:List Nd}{b:Nd}{x:List Int}{m:Int}(hks:∀c∈ks,WfC c)(hsz:1+A2 ks<=90000)(h:DX (.mk 1 x m (ks++[b]))=.ok ()):∃L n1,Le ks b L n1:=by
 unfold DX at h
 have e1:(Nd.mk 1 x m (ks++[b])).kids.dropLast=ks:=List.dropLast_concat
 rw[e1]at h
 obtain⟨y,hy,h⟩:=Ah h
 have hs0:Gc (ks.map Nd.str) [] []:=⟨rfl,by simp,fun l hl=>by cases hl⟩
 obtain⟨L,l1,l2,l3,l4⟩:=Gx ks [] [] 1 1 y hs0 hks rfl hy
 rw[List.nil_append]at l1
 obtain⟨g1,g2⟩:=Nx ks [] [] 1 1 y hs0 hks rfl hy hsz
 obtain⟨a1,a2⟩:=l4.get
 rw[<-l2]at a2
 exact⟨L,(B6 ks [] 1).2,g1,by rw[<-l1],g2,l3,a1,a2⟩
def Lf(n:Nd):Prop:=n.kind=4->∃na:Nat,n.num=(na:Int)/\n.kids.length=na+1
def OB(n:Nd):Prop:=∀c∈n.kids,Lf c
def G5{α:Type}(P:α->Prop)(g:Got α):Prop:=∀a s,g=.ok (a,s)->P a
theorem Eo{α:Type}{P:α->Prop}{a:α}{s:PS}(h:P a):G5 P (.ok (a,s):Got α):=fun b s' e=>by cases e;exact h
theorem Jq{α:Type}{P:α->Prop}{e:Int×Int}:G5 P (.error e:Got α):=fun b s' e=>by cases e
theorem DL{α:Type}{g:Got α}:G5 (fun _=>True) g:=fun _ _ _=>trivial
theorem Bb{α β:Type}{P:α->Prop}{Q:β->Prop}{g:Got α}{f:α->PS->Got β}(h:G5 P g)(hf:∀a s,P a->G5 Q (f a s)):G5 Q (g.then f):=by
 unfold Got.then
 cases g with
 | error e=>exact Jq
 | ok p=>
  obtain⟨a,s⟩:=p
  exact hf a s (h a s rfl)
theorem OC(S:Src9)(f:Nat)(s:PS):G5 Lf (Co S f s):=by
 unfold Co
 exact Bb DL fun x s1 _=>Bb DL fun _ s2 _=>Bb DL fun ks s3 _=>Bb DL fun _ s4 _=>Bb DL fun b s5 _=>Eo (fun _=>⟨ks.length,rfl,Z1⟩)
theorem KD(S:Src9):∀(f:Nat) (s:PS),G5 (fun ks=>∀c∈ks,Lf c) (Bi S f s)
 | 0,_=>Jq
 | f+1,s=>by
  rw[Bi]
  split
  ·refine Bb DL fun x s1 _=>Bb DL fun _ s2 _=>?_
   show G5 _ ((Bi S f s2.node).then _)
   refine Bb (KD S f s2.node) fun ks s3 h3=>Eo fun c hc=>?_
   rcases List.mem_cons.1 hc with rfl | hc
   ·exact fun e=>absurd e (by show ¬(3:Int)=4;decide)
   ·exact h3 c hc
  ·exact Eo fun c hc=>by cases hc
theorem Iv(S:Src9):∀(f:Nat) (s:PS),G5 (fun ks=>∀c∈ks,Lf c) (Ay S f s)
 | 0,_=>Jq
 | f+1,s=>by
  rw[Ay]
  split
  ·refine Bb (OC S f s.step) fun k s1 h1=>Bb (Iv S f s1) fun ks s2 h2=>Eo fun c hc=>?_
   rcases List.mem_cons.1 hc with rfl | hc
   ·exact h1
   ·exact h2 c hc
  ·exact Eo fun c hc=>by cases hc
theorem P7(S:Src9)(f:Nat)(s:PS):G5 OB (D7 S f s):=by
 unfold D7
 refine Bb DL fun x s1 _=>Bb (P:=fun ks=>∀c∈ks,Lf c) ?_ fun up s2 hu=>Bb DL fun _ s3 _=>Bb (KD S f s3) fun ks s4 hk=>Bb (Iv S f s4) fun ms s5 hm=>Bb DL fun _ s6 _=>Eo fun c hc=>?_
 ·split
  ·refine Bb DL fun y s2 _=>?_
   refine Eo fun c hc=>?_
   have e:c=.mk 31 y 0 []:=by simpa using hc
   subst e
   exact fun e=>absurd e (by show ¬(31:Int)=4;decide)
  ·exact Eo fun c hc=>by cases hc
 ·have hc':c∈up++ks++ms:=hc
  rcases List.mem_append.1 hc' with h | h
  ·rcases List.mem_append.1 h with h | h
   ·exact hu c h
   ·exact hk c h
  ·exact hm c h
theorem Iw(S:Src9):∀(f:Nat) (s:PS),G5 (fun ks=>∀c∈ks,OB c) (BG S f s)
 | 0,_=>Jq
 | f+1,s=>by
  rw[BG]
  split
  ·refine Bb (P7 S f s.step) fun k s1 h1=>Bb (Iw S f s1) fun ks s2 h2=>Eo fun c hc=>?_
   rcases List.mem_cons.1 hc with rfl | hc
   ·exact h1
   ·exact h2 c hc
  ·exact Eo fun c hc=>by cases hc
def Te(n:Nd):Prop:=∃ks b,n=.mk 1 [] 0 (ks++[b])/\∀c∈ks,OB c
theorem Qc(S:Src9)(f:Nat)(s:PS):G5 Te (Et S f s):=by
 unfold Et
 exact Bb (Iw S f s) fun ks s1 hk=>Bb DL fun _ s2 _=>Bb DL fun b s3 _=>Eo ⟨ks,b,rfl,hk⟩
theorem P8{T:List Int}{n:Nd}(h:CD T=.ok n):Te n:=by
 unfold CD at h
 cases hq:CW T with
 | error e=>rw[hq]at h;cases h
 | ok l=>
  rw[hq]at h
  have h':EN ⟨l,T.length⟩ (ED ⟨l,T.length⟩)=.ok n:=h
  unfold EN at h'
  cases hp:Et ⟨l,T.length⟩ (ED ⟨l,T.length⟩) ⟨0,0,0⟩with
  | error e=>rw[hp]at h';cases h'
  | ok y=>
   obtain⟨m,s⟩:=y
   rw[hp]at h'
   dsimp only at h'
   split at h'
   ·cases h'
   ·split at h'
    ·cases h'
    ·cases h'
     exact Qc _ _ _ n s hp
def EM{α:Type}(g:Chk α):Prop:=∀f,g=.error f->f.1≠0
theorem DI{α:Type}{a:α}:EM (.ok a:Chk α):=fun f e=>by cases e
theorem Ep{α:Type}{c a:Int}(h:c≠0):EM (.error (c,a):Chk α):=fun f e=>by cases e;exact h
theorem Cq{α β:Type}{g:Chk α}{f:α->Chk β}(h:EM g)(hf:∀a,EM (f a)):EM (g.then f):=by
 unfold Chk.then
 cases g with
 | error e=>exact fun x hx=>by cases hx;exact h e rfl
 | ok a=>exact hf a
theorem OD(own:Nat)(x:ByteArray)(at':Nat)(L:List ByteArray):EM (Ds own x at' L):=by
 unfold Ds
 split
 ·exact Ep (by decide)
 ·split
  ·exact Ep (by decide)
  ·exact DI
theorem S6(E:CN)(L:List ByteArray)(k:Int)(x:ByteArray)(at':Nat):EM (C9 E L k x at'):=by
 unfold C9
 split
 ·exact Ep (by decide)
 ·split
  ·exact Ep (by decide)
  ·split
   ·exact Ep (by decide)
   ·split
    ·exact Ep (by decide)
    ·exact DI
mutual
theorem Mi:∀(n:Nd) (E:CN) (own:Nat) (s:StZ),EM (DW E own n s)
 | .mk k x m ks,E,own,s=>by
  unfold DW
  refine Cq (S6 _ _ _ _ _) fun _=>?_
  split
  ·exact Cq (GO ks _ _ _) fun _=>DI
  ·split
   ·exact Cq (GO ks _ _ _) fun _=>DI
   ·refine Cq (GO ks _ _ _) fun y=>?_
    split
    ·exact Cq (OD _ _ _ _) fun _=>DI
    ·exact DI
theorem GO:∀(ks:List Nd) (E:CN) (own:Nat) (s:StZ),EM (At E own ks s)
 | [],E,own,s=>by unfold At;exact DI
 | n::ns,E,own,s=>by
  unfold At
  exact Cq (Mi n E own s) fun y=>GO ns E own y
end
theorem Mj:∀(l:List Nd) (s:StZ),EM (DG l s)
 | [],s=>by unfold DG;exact DI
 | a::l,s=>by
  unfold DG
  exact Cq (OD _ _ _ _) fun L=>Mj l _
theorem P9(names slots:List ByteArray)(m:Nd)(nx:Nat):EM (CI names slots m nx):=by
 unfold CI
 refine Cq (Mj _ _) fun y=>?_
 split
 ·exact Cq (GO _ _ _ _) fun _=>DI
 ·exact DI
theorem PA(names:List ByteArray)(past:List (List ByteArray))(n:Nd)(c:ClZ):EM (C3 names past n c):=by
 unfold C3
 split
 ·split
  ·exact DI
  ·exact Ep (by decide)
 ·split
  ·split
   ·exact Ep (by decide)
   ·split
    ·exact Ep (by decide)
    ·exact DI
  ·split
   ·split
    ·exact Ep (by decide)
    ·exact Cq (P9 _ _ _ _) fun _=>DI
   ·exact DI
theorem JV(names:List ByteArray)(past:List (List ByteArray)):∀(ks:List Nd) (c:ClZ),EM (Ap names past ks c)
 | [],c=>by unfold Ap;exact DI
 | n::ns,c=>by
  unfold Ap
  exact Cq (PA _ _ _ _) fun c=>JV names past ns c
theorem JW(names:List ByteArray):∀(ks:List Nd) (past:List (List ByteArray)) (nx:Nat),EM (CO names ks past nx)
 | [],past,nx=>by unfold CO;exact DI
 | n::ns,past,nx=>by
  unfold CO
  refine Cq ?_ fun y=>JW names ns _ _
  unfold EO
  split
  ·exact Ep (by decide)
  ·exact Cq (JV _ _ _ _) fun _=>DI
theorem Mk(n:Nd):EM (DX n):=by
 unfold DX
 refine Cq (JW _ _ _ _) fun y=>?_
 split
 ·exact Cq (Mi _ _ _ _) fun _=>DI
 ·exact DI
def Qk:List Int:=[109,97,105,110,32,123,32,112,114,105,110,116,40,49,32,43,32,50,41,59,32,125]
def Lm:Nd:=.mk 6 [] 0 [.mk 12 [] 0 [.mk 20 [] 0 [.mk 26 [] 1 [],.mk 26 [] 2 []]]]
theorem Ql:CD Qk=.ok (.mk 1 [] 0 [Lm]):=by kernel_rfl
theorem Qm:Ee Qk=.ok (.mk 1 [] 0 [Lm]):=by
 unfold Ee
 rw[Ql]
 have h:DX (.mk 1 [] 0 [Lm])=.ok ():=by kernel_rfl
 dsimp only
 rw[h]
theorem SI:(Bk [] Lm).2.lists=[[(1,1,0),(1,2,0),(12,0,0),(19,0,0)]]:=by kernel_rfl
end Go.Proofs.YtpfdgbalchmmfaaGreatDoor
