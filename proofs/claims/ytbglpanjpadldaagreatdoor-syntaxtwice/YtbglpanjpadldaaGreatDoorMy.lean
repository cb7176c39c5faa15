/- Texts in one. -/
import Derived.Test.YtbglpanjpadldaaGreatDoorMz
import Derived.Test.YtbglpanjpadldaaGreatDoorMk
import Derived.Lib.ItoaNum
namespace Go.Proofs.YtbglpanjpadldaaGreatDoor
abbrev Mf:ByteArray:=⟨#[109,97,105,110]⟩
abbrev Gi:ByteArray:=⟨#[99,108,97,115,115]⟩
abbrev Q6:ByteArray:=⟨#[58]⟩
abbrev P6:ByteArray:=⟨#[115,108,111,116]⟩
abbrev JR:ByteArray:=⟨#[59]⟩
abbrev kTo:ByteArray:=⟨#[116,111]⟩
abbrev FY:ByteArray:=⟨#[123]⟩
abbrev Ir:ByteArray:=⟨#[125]⟩
abbrev RT:ByteArray:=⟨#[118,97,114]⟩
abbrev LN:ByteArray:=⟨#[61]⟩
abbrev kIf:ByteArray:=⟨#[105,102]⟩
abbrev P7:ByteArray:=⟨#[101,108,115,101]⟩
abbrev Mm:ByteArray:=⟨#[119,104,105,108,101]⟩
abbrev LO:ByteArray:=⟨#[114,101,116,117,114,110]⟩
abbrev Mn:ByteArray:=⟨#[112,114,105,110,116]⟩
abbrev P8:ByteArray:=⟨#[102,111,114,107]⟩
abbrev P9:ByteArray:=⟨#[119,97,105,116]⟩
abbrev LP:ByteArray:=⟨#[115,105,103,110,97,108]⟩
abbrev PA:ByteArray:=⟨#[115,119,97,112]⟩
abbrev Dg:ByteArray:=⟨#[40]⟩
abbrev Mg:ByteArray:=⟨#[41]⟩
abbrev EL:ByteArray:=⟨#[44]⟩
abbrev PB:ByteArray:=⟨#[60]⟩
abbrev PC:ByteArray:=⟨#[61,61]⟩
abbrev PD:ByteArray:=⟨#[43]⟩
abbrev Hr:ByteArray:=⟨#[45]⟩
abbrev Mo:ByteArray:=⟨#[42]⟩
abbrev RU:ByteArray:=⟨#[33]⟩
abbrev TM:ByteArray:=⟨#[46]⟩
abbrev RV:ByteArray:=⟨#[110,105,108]⟩
abbrev PE:ByteArray:=⟨#[115,101,108,102]⟩
abbrev PF:ByteArray:=⟨#[103,97,116,101]⟩
abbrev RW:ByteArray:=⟨#[110,101,119]⟩
def FJ(k:Int):Int:=if k=18\/k=19 then 0 else if k=20\/k=21 then 1 else if k=22 then 2 else if k=23\/k=24 then 3 else if k=25 then 4 else 5
def B9:List (List ByteArray)->List ByteArray
 | []=>[]
 | [a]=>a
 | a::b::r=>a++(EL::B9 (b::r))
def DA(T:List (List ByteArray)):List ByteArray:=Dg::(B9 T++[Mg])
def E8(kk:List Int)(T:List (List ByteArray))(i:Nat)(least:Int):List ByteArray:=match T[i]?,kk[i]? with
 | some t,some k=>if FJ k<least then DA [t]else t
 | _,_=>[]
def E0(kk:List Int)(T:List (List ByteArray))(a:Int)(x:ByteArray)(b:Int):List ByteArray:=E8 kk T 0 a++(x::E8 kk T 1 b)
def D5(xs:List ByteArray)(T:List (List ByteArray)):List ByteArray:=xs++(T.flatten++[JR])
def CJ(x:ByteArray)(T:List (List ByteArray)):List ByteArray:=x::(DA T++[JR])
def EM(x:ByteArray)(kk:List Int)(T:List (List ByteArray)):List ByteArray:=
 if kk.head?=some 31 then Gi::x::Q6::((T.take 1).flatten++(FY::((T.drop 1).flatten++[Ir])))
 else Gi::x::(FY::(T.flatten++[Ir]))
def El(T:List (List ByteArray)):List ByteArray:=kIf::(DA (T.take 1)++(((T.drop 1).take 1).flatten++((if 1<(T.drop 1).length then[P7]else[])++((T.drop 1).drop 1).flatten)))
def Cp(num:Int->ByteArray)(k:Int)(x:ByteArray)(m:Int)(kk:List Int)(T:List (List ByteArray)):List ByteArray:=
 if k=18 then E0 kk T 1 PB 1
 else if k=19 then E0 kk T 1 PC 1
 else if k=20 then E0 kk T 1 PD 2
 else if k=21 then E0 kk T 1 Hr 2
 else if k=22 then E0 kk T 2 Mo 3
 else if k=23 then Hr::E8 kk T 0 3
 else if k=24 then RU::E8 kk T 0 3
 else if k=25 then E8 kk T 0 4++(TM::x::DA (T.drop 1))
 else if k=26 then[num m]
 else if k=27 then[RV]
 else if k=28 then[PE]
 else if k=29 then[PF]
 else if k=30 then[RW,x]
 else if k=31 then[x]
 else[]
def Ad(num:Int->ByteArray)(k:Int)(x:ByteArray)(m:Int)(kk:List Int)(T:List (List ByteArray)):List ByteArray:=
 if k=7 then D5 [RT,x,LN] T
 else if k=8 then D5 [x,LN] T
 else if k=9 then El T
 else if k=10 then Mm::(DA (T.take 1)++(T.drop 1).flatten)
 else if k=11 then D5 [LO] T
 else if k=12 then CJ Mn T
 else if k=13 then P8::T.flatten
 else if k=14 then CJ P9 T
 else if k=15 then CJ LP T
 else if k=16 then CJ PA T
 else if k=17 then D5 [] T
 else Cp num k x m kk T
def CK(num:Int->ByteArray)(k:Int)(x:ByteArray)(m:Int)(kk:List Int)(T:List (List ByteArray)):List ByteArray:=
 if k=1 then(T.take (T.length-1)).flatten++(Mf::(T.drop (T.length-1)).flatten)
 else if k=2 then EM x kk T
 else if k=3 then[P6,x,JR]
 else if k=4 then kTo::x::(DA (T.take m.toNat)++(T.drop m.toNat).flatten)
 else if k=5 then[x]
 else if k=6 then FY::(T.flatten++[Ir])
 else Ad num k x m kk T
mutual
def tkN(num:Int->ByteArray):Nd->List ByteArray
 | .mk k x m ks=>CK num k (strOfNums x) m (ks.map Nd.kind) (tkL num ks)
def tkL (num:Int->ByteArray):List Nd->List (List ByteArray)
 | []=>[]
 | n::ns=>tkN num n::tkL num ns
end
theorem D6(num:Int->ByteArray):∀ks:List Nd,tkL num ks=ks.map (tkN num)
 | []=>rfl
 | n::ns=>by
  unfold tkL
  rw[D6 num ns,List.map_cons]
theorem Em(num:Int->ByteArray)(ks:List Nd):(tkL num ks).length=ks.length:=by rw[D6,List.length_map]
theorem EX(num:Int->ByteArray)(ks:List Nd)(j:Nat):tkL num (ks.take j)=(tkL num ks).take j:=by rw[D6,D6,List.map_take]
theorem Dr(num:Int->ByteArray)(ks:List Nd)(j:Nat):tkL num (ks.drop j)=(tkL num ks).drop j:=by rw[D6,D6,List.map_drop]
theorem FZ(num:Int->ByteArray)(k:Int)(x:List Int)(m:Int)(ks:List Nd):tkN num (.mk k x m ks)=CK num k (strOfNums x) m (ks.map Nd.kind) (tkL num ks):=by
 conv=>lhs;unfold tkN
def ER(T:List (List ByteArray)):Nat:=(T.map fun t=>t.length+3).sum
theorem E6(t:List ByteArray)(T:List (List ByteArray)):ER (t::T)=t.length+3+ER T:=by unfold ER;rw[List.map_cons,List.sum_cons]
theorem DR:∀T:List (List ByteArray),T.flatten.length<=ER T
 | []=>Z0 _
 | t::T=>by
  have:=DR T
  rw[List.flatten_cons,Z1,E6]
  omega
theorem Ln:∀T:List (List ByteArray),(B9 T).length<=ER T
 | []=>Z0 _
 | [a]=>by
  show a.length<=_
  rw[E6]
  omega
 | a::b::r=>by
  have:=Ln (b::r)
  unfold B9
  rw[Z1,List.length_cons,E6]
  omega
theorem GC(T:List (List ByteArray))(j:Nat):ER (T.take j)+ER (T.drop j)=ER T:=by
 unfold ER
 rw[List.map_take,List.map_drop,<-List.sum_append,List.take_append_drop]
theorem JS(T:List (List ByteArray)):(DA T).length<=2+ER T:=by
 have:=Ln T
 unfold DA
 rw[List.length_cons,Z1,List.length_singleton]
 omega
theorem JT(kk:List Int)(T:List (List ByteArray))(i:Nat)(l:Int)(h:i<T.length):(E8 kk T i l).length<=T[i].length+2:=by
 unfold E8
 rw[List.getElem?_eq_getElem h]
 split
 ·rename_i t k e1 e2
  injection e1 with e1
  subst e1
  split
  ·unfold DA B9
   simp
  ·omega
 ·exact Z3 _
theorem Gj(kk:List Int)(T:List (List ByteArray))(i:Nat)(l:Int)(h:T.length<=i):E8 kk T i l=[]:=by
 unfold E8
 rw[List.getElem?_eq_none h]
theorem RY(kk:List Int)(T:List (List ByteArray))(a b:Int)(x:ByteArray):(E0 kk T a x b).length<=1+ER T:=by
 unfold E0
 rw[Z1,List.length_cons]
 match T with
 | []=>rw[Gj _ _ _ _ (Z3 _),Gj _ _ _ _ (Z3 _)];exact Nat.le_add_right _ _
 | [t]=>
  have h0:=JT kk [t] 0 a (Nat.zero_lt_one)
  rw[Gj _ _ 1 _ (Z0 _),E6]
  simp only[List.getElem_cons_zero]at h0
  simp only[List.length_nil]
  omega
 | t::s::r=>
  have h0:=JT kk (t::s::r) 0 a (by simp)
  have h1:=JT kk (t::s::r) 1 b (by simp)
  rw[E6,E6]
  simp only[List.getElem_cons_zero,List.getElem_cons_succ]at h0 h1
  omega
theorem RZ(kk:List Int)(T:List (List ByteArray))(a:Int):(E8 kk T 0 a).length+ER (T.drop 1)<=ER T:=by
 match T with
 | []=>rw[Gj _ _ _ _ (Z3 _)];exact Z0 _
 | t::r=>
  have h0:=JT kk (t::r) 0 a (by simp)
  rw[E6]
  simp only[List.getElem_cons_zero]at h0
  show _+ER r<=_
  omega
theorem Ra(num:Int->ByteArray)(k:Int)(x:ByteArray)(m:Int)(kk:List Int)(T:List (List ByteArray)):(Cp num k x m kk T).length<=5+ER T:=by
 have hp:=fun a y b=>RY kk T a b y
 have hk:=fun a=>RZ kk T a
 have hr:=JS (T.drop 1)
 unfold Cp
 by_cases h18:k=18
 ·rw[if_pos h18];refine Za (hp _ _ _) ?_;omega
 rw[if_neg h18]
 by_cases h19:k=19
 ·rw[if_pos h19];refine Za (hp _ _ _) ?_;omega
 rw[if_neg h19]
 by_cases h20:k=20
 ·rw[if_pos h20];refine Za (hp _ _ _) ?_;omega
 rw[if_neg h20]
 by_cases h21:k=21
 ·rw[if_pos h21];refine Za (hp _ _ _) ?_;omega
 rw[if_neg h21]
 by_cases h22:k=22
 ·rw[if_pos h22];refine Za (hp _ _ _) ?_;omega
 rw[if_neg h22]
 by_cases h23:k=23
 ·rw[if_pos h23];have:=hk 3;rw[List.length_cons];omega
 rw[if_neg h23]
 by_cases h24:k=24
 ·rw[if_pos h24];have:=hk 3;rw[List.length_cons];omega
 rw[if_neg h24]
 by_cases h25:k=25
 ·rw[if_pos h25];have:=hk 4;rw[Z1,List.length_cons,List.length_cons];omega
 rw[if_neg h25]
 by_cases h26:k=26
 ·rw[if_pos h26];simp only[List.length_cons,List.length_nil];omega
 rw[if_neg h26]
 by_cases h27:k=27
 ·rw[if_pos h27];simp only[List.length_cons,List.length_nil];omega
 rw[if_neg h27]
 by_cases h28:k=28
 ·rw[if_pos h28];simp only[List.length_cons,List.length_nil];omega
 rw[if_neg h28]
 by_cases h29:k=29
 ·rw[if_pos h29];simp only[List.length_cons,List.length_nil];omega
 rw[if_neg h29]
 by_cases h30:k=30
 ·rw[if_pos h30];simp only[List.length_cons,List.length_nil];omega
 rw[if_neg h30]
 by_cases h31:k=31
 ·rw[if_pos h31];simp only[List.length_cons,List.length_nil];omega
 rw[if_neg h31]
 exact Z3 _
theorem MY(num:Int->ByteArray)(k:Int)(x:ByteArray)(m:Int)(kk:List Int)(T:List (List ByteArray)):(Ad num k x m kk T).length<=5+ER T:=by
 have hf:=DR T
 have hr:=JS T
 have hr1:=JS (T.take 1)
 have hd:=DR (T.drop 1)
 have hs:=GC T 1
 unfold Ad D5 CJ El
 split
 ·simp only[Z1,List.length_cons,List.length_nil];omega
 split
 ·simp only[Z1,List.length_cons,List.length_nil];omega
 split
 ·have h1:=DR ((T.drop 1).take 1)
  have h2:=DR ((T.drop 1).drop 1)
  have h3:=GC (T.drop 1) 1
  have h4:(if 1<(T.drop 1).length then[P7]else[]).length<=1:=by split<;>simp
  simp only[Z1,List.length_cons]
  omega
 split
 ·simp only[Z1,List.length_cons];omega
 split
 ·simp only[Z1,List.length_cons,List.length_nil];omega
 split
 ·simp only[Z1,List.length_cons,List.length_nil];omega
 split
 ·simp only[List.length_cons];omega
 split
 ·simp only[Z1,List.length_cons,List.length_nil];omega
 split
 ·simp only[Z1,List.length_cons,List.length_nil];omega
 split
 ·simp only[Z1,List.length_cons,List.length_nil];omega
 split
 ·simp only[Z1,List.length_cons,List.length_nil];omega
 exact Ra num k x m kk T
theorem Rc(num:Int->ByteArray)(k:Int)(x:ByteArray)(m:Int)(kk:List Int)(T:List (List ByteArray)):(CK num k x m kk T).length<=5+ER T:=by
 have hf:=DR T
 unfold CK EM
 split
 ·have h1:=DR (T.take (T.length-1))
  have h2:=DR (T.drop (T.length-1))
  have h3:=GC T (T.length-1)
  simp only[Z1,List.length_cons];omega
 split
 ·have h1:=DR (T.take 1)
  have h2:=DR (T.drop 1)
  have h3:=GC T 1
  split
  ·simp only[Z1,List.length_cons,List.length_nil];omega
  ·simp only[Z1,List.length_cons,List.length_nil];omega
 split
 ·simp only[List.length_cons,List.length_nil];omega
 split
 ·have h1:=JS (T.take m.toNat)
  have h2:=DR (T.drop m.toNat)
  have h3:=GC T m.toNat
  simp only[Z1,List.length_cons];omega
 split
 ·simp only[List.length_cons,List.length_nil];omega
 split
 ·simp only[Z1,List.length_cons,List.length_nil];omega
 exact MY num k x m kk T
mutual
theorem Is(num:Int->ByteArray):∀n:Nd,(tkN num n).length+3<=8*A1 n
 | .mk k x m ks=>by
  have h:=Rc num k (strOfNums x) m (ks.map Nd.kind) (tkL num ks)
  have h2:=OV num ks
  rw[FZ]
  unfold A1
  omega
theorem OV (num:Int->ByteArray):∀ks:List Nd,ER (tkL num ks)<=8*AA ks
 | []=>Z0 _
 | n::ns=>by
  have h1:=Is num n
  have h2:=OV num ns
  unfold tkL AA
  rw[E6]
  omega
end
abbrev CA (n:Int):ByteArray:=⟨(Lib.itoa n).toArray⟩
def EG(l:List Tok):List ByteArray:=l.map fun t=>strOfNums t.2.1
theorem S5(a b:List Tok):EG (a++b)=EG a++EG b:=List.map_append ..
def IsT(o:Option (List Tok))(A:List ByteArray):Prop:=∀l,o=some l->EG l=A
theorem Eu(A:List ByteArray):IsT none A:=fun l h=>by cases h
theorem IsT.of{o:Option (List Tok)}{A B:List ByteArray}(h:IsT o A)(e:A=B):IsT o B:=by rw[<-e];exact h
theorem IsT.cat{a b:Option (List Tok)}{A B:List ByteArray}(ha:IsT a A)(hb:IsT b B):IsT (AE a b) (A++B):=fun l hl=>by
 obtain⟨x,y,hx,hy,rfl⟩:=Fw hl
 rw[S5,ha x hx,hb y hy]
theorem Ar(x:List Int):IsT (some (A5 x)) [strOfNums x]:=fun l hl=>by cases hl;rfl
theorem E5(x:List Int):IsT (Ax x) [strOfNums x]:=fun l hl=>by
 unfold Ax at hl
 split at hl
 ·cases hl;rfl
 ·cases hl
theorem Jw:∀(k n:Nat),n<10 ^ k->0<k->(Cm k n).map (fun c=>UInt8.ofNat c.toNat)=Lib.decDigits n
 | 0,n,_,h=>by cases h
 | k+1,n,hn,_=>by
  rw[Cm,Lib.decDigits]
  by_cases h:9<n
  ·have hk:0<k:=by
    cases k with
    | zero=>simp at hn;omega
    | succ k=>omega
   rw[if_pos h,dif_neg (by omega),List.map_append,Jw k (n / 10) (by rw[Nat.pow_succ]at hn;omega) hk]
   congr 1
  ·rw[if_neg h,dif_pos (by omega)]
   rfl
theorem Nw(k n:Nat)(hn:n<10 ^ k)(h0:0<k):strOfNums (Cm k n)=⟨(Lib.decDigits n).toArray⟩:=by
 unfold strOfNums
 rw[Jw k n hn h0]
theorem Tb(m:Int):IsT (GM m) [CA m]:=fun l hl=>by
 unfold GM at hl
 split at hl
 ·rename_i h
  cases hl
  show[strOfNums (Bg m)]=_
  unfold Bg CA Lib.itoa
  rw[if_neg (by omega),Nw 20 m.toNat (by omega) (by decide)]
 ·cases hl
theorem JB{g:Nd->Option (List Tok)}{h:Nd->List ByteArray}:∀(ks:List Nd),(∀a∈ks,IsT (g a) (h a))->IsT (CO (ks.map g)) (B9 (ks.map h))
 | [],_=>fun l hl=>by cases hl;rfl
 | [a],hh=>hh a (Z7 ..)
 | a::b::r,hh=>by
  have h1:=JB (b::r) fun c hc=>hh c (Z8 _ hc)
  exact((hh a (Z7 ..)).cat ((Ar An).cat h1)).of rfl
theorem Jg{g:Nd->Option (List Tok)}{h:Nd->List ByteArray}:∀(ks:List Nd),(∀a∈ks,IsT (g a) (h a))->IsT (Bv (ks.map g)) (ks.map h).flatten
 | [],_=>fun l hl=>by cases hl;rfl
 | a::r,hh=>((hh a (Z7 ..)).cat (Jg r fun c hc=>hh c (Z8 _ hc))).of rfl
def JC(k:Nat)(n:Nd):List ByteArray:=if FJ n.kind<(k:Int)then DA [tkN CA n]else tkN CA n
theorem Gr(k:Int):FJ k=(Bc k:Int):=by
 unfold FJ Bc
 repeat' split
 all_goals rfl
theorem IP(n:Nd):JC 0 n=tkN CA n:=by
 unfold JC
 rw[Gr,if_neg (by omega)]
theorem Fd{g:Nat->Nd->Option (List Tok)}(h:∀k n,IsT (g k n) (JC k n))(ks:List Nd)(x:List Int)(l r:Nat):IsT (AH.betweenW g ks x l r) (E0 (ks.map Nd.kind) (tkL CA ks) (l:Int) (strOfNums x) (r:Int)):=by
 unfold AH.betweenW
 match ks with
 | []=>exact Eu _
 | [a]=>exact Eu _
 | a::b::s=>exact((h l a).cat ((Ar x).cat (h r b))).of rfl
theorem DU{c:Prop}[Decidable c]{a b:Option (List Tok)}{A:List ByteArray}(ha:c->IsT a A)(hb:¬c->IsT b A):IsT (if c then a else b) A:=by
 by_cases h:c
 ·rw[if_pos h];exact ha h
 ·rw[if_neg h];exact hb h
theorem Lc:∀(f k:Nat) (n:Nd),IsT (AH f k n) (JC k n)
 | 0,k,n=>by unfold AH;exact Eu _
 | f+1,k,.mk kind x num ks=>by
  have I:=Lc f
  unfold AH
  refine DU (fun h=>?_) (fun h=>?_)
  ·have e:JC k (.mk kind x num ks)=DA [tkN CA (.mk kind x num ks)]:=by
    unfold JC
    rw[if_pos (by rw[Gr];show(Bc kind:Int)<_;omega)]
   rw[e]
   exact((Ar AD).cat ((I 0 (.mk kind x num ks)).cat (Ar A9))).of (by rw[IP];rfl)
  ·have e:JC k (.mk kind x num ks)=tkN CA (.mk kind x num ks):=by
    unfold JC
    rw[if_neg (by rw[Gr];show ¬(Bc kind:Int)<_;omega)]
   rw[e,FZ]
   refine DU (fun h=>?_) fun _=>DU (fun h=>?_) fun _=>DU (fun h=>?_) fun _=>DU (fun h=>?_) fun _=>DU (fun h=>?_) fun _=>DU (fun h=>?_) fun _=>DU (fun h=>?_) fun _=>DU (fun h=>?_) fun _=>DU (fun h=>?_) fun _=>DU (fun h=>?_) fun _=>DU (fun h=>?_) fun _=>DU (fun h=>?_) fun _=>DU (fun h=>?_) fun _=>DU (fun h=>?_) fun _=>Eu _
   all_goals subst h
   ·exact Fd I ks Gx 1 1
   ·exact Fd I ks Gy 1 1
   ·exact Fd I ks GP 1 2
   ·exact Fd I ks CC 1 2
   ·exact Fd I ks FX 2 3
   ·match ks with
    | []=>exact Eu _
    | a::r=>exact((Ar CC).cat (I 3 a)).of rfl
   ·match ks with
    | []=>exact Eu _
    | a::r=>exact((Ar Fq).cat (I 3 a)).of rfl
   ·match ks with
    | []=>exact Eu _
    | a::r=>
     have hc:=JB (g:=AH f 0) (h:=tkN CA) r (fun c _=>(I 0 c).of (IP c))
     refine((I 4 a).cat ((Ar FW).cat ((E5 x).cat ((Ar AD).cat (hc.cat (Ar A9)))))).of ?_
     rw[<-D6]
     rfl
   ·exact Tb num
   ·exact Ar Dq
   ·exact Ar DK
   ·exact Ar De
   ·exact((Ar EW).cat (E5 x)).of rfl
   ·exact E5 x
theorem Ge(f:Nat)(a:Nd)(r:List Nd):IsT (CZ f (a::r)) (DA [tkN CA a]):=((Ar AD).cat (((Lc f 0 a).of (IP a)).cat (Ar A9))).of rfl
theorem Ld(f:Nat)(a:Nd):IsT (AH f 0 a) (tkN CA a):=(Lc f 0 a).of (IP a)
theorem IsT.semi{o:Option (List Tok)}{A:List ByteArray}(h:IsT o A):IsT (C1 o) (A++[JR]):=h.cat (Ar AQ)
theorem T7{k:Int}{ks:List Nd}(h:WfK k 0 ks){r:Nat}(hr:∀i,G7 k i=r):∀c∈ks,WfR r c:=fun c hc=>by
 obtain⟨j,hj,rfl⟩:=List.getElem_of_mem hc
 have:=Gq h j hj
 rw[hr]at this
 exact this
theorem KS:∀(f:Nat),(∀n,WfR 2 n->IsT (BR f n) (tkN CA n))/\(∀n,WfR 1 n->IsT (Aa f n) (tkN CA n))
 | 0=>⟨fun n _=>by unfold BR;exact Eu _,fun n _=>by unfold Aa;exact Eu _⟩
 | f+1=>by
  obtain⟨I,J⟩:=KS f
  refine⟨fun n hw=>?_,fun n hw=>?_⟩
  ·obtain⟨k,x,m,ks⟩:=n
   unfold WfR at hw
   obtain⟨hs,hk⟩:=hw
   have h6:k=6:=hs.1
   subst h6
   rw[BR,if_pos rfl,FZ]
   have hc:=Jg (g:=Aa f) (h:=tkN CA) ks (fun c hc=>J c (T7 hk (fun i=>rfl) c hc))
   refine((Ar Ai).cat (hc.cat (Ar Au))).of ?_
   rw[<-D6]
   rfl
  ·obtain⟨k,x,m,ks⟩:=n
   unfold WfR at hw
   obtain⟨hs,hk⟩:=hw
   have hs':((k=7\/k=8)/\BV x=true/\m=0/\ks.length=1)\/(k=9/\x=[]/\m=0/\(ks.length=2\/ks.length=3))\/((k=10\/k=16)/\x=[]/\m=0/\ks.length=2)\/((k=11\/k=12\/k=13\/k=14\/k=15\/k=17)/\x=[]/\m=0/\ks.length=1):=hs
   rw[FZ]
   rcases hs' with⟨hkk,-,-,hl⟩ | ⟨rfl,-,-,hl⟩ | ⟨hkk,-,-,hl⟩ | ⟨hkk,-,-,hl⟩
   ·match ks,hl with
    | [a],_=>
     rcases hkk with rfl | rfl
     ·rw[Aa.eq_def]
      exact(((Ar CT).cat ((E5 x).cat ((Ar Ca).cat (Ld f a)))).semi).of (by simp[CK,Ad,D5,tkL]<;>first | rfl | exact⟨rfl,rfl⟩ | exact⟨rfl,rfl,rfl,rfl⟩)
     ·rw[Aa.eq_def]
      exact(((E5 x).cat ((Ar Ca).cat (Ld f a))).semi).of (by simp[CK,Ad,D5,tkL]<;>first | rfl | exact⟨rfl,rfl⟩ | exact⟨rfl,rfl,rfl,rfl⟩)
   ·rcases hl with hl | hl
    ·match ks,hl,hk with
     | [a,b],_,hk=>
      have hb:WfR 2 b:=Gq hk 1 (by simp)
      rw[Aa.eq_def]
      exact((Ar wIf).cat ((Ge f a [b]).cat (I b hb))).of (by simp[CK,Ad,El,tkL]<;>first | rfl | exact⟨rfl,rfl⟩ | exact⟨rfl,rfl,rfl,rfl⟩)
    ·match ks,hl,hk with
     | [a,b,c],_,hk=>
      have hb:WfR 2 b:=Gq hk 1 (by simp)
      have hc:WfR 2 c:=Gq hk 2 (by simp)
      rw[Aa.eq_def]
      exact((Ar wIf).cat ((Ge f a [b,c]).cat ((I b hb).cat ((Ar Cy).cat (I c hc))))).of (by simp[CK,Ad,El,tkL]<;>first | rfl | exact⟨rfl,rfl⟩ | exact⟨rfl,rfl,rfl,rfl⟩)
   ·match ks,hl,hk with
    | [a,b],_,hk=>
     rcases hkk with rfl | rfl
     ·have hb:WfR 2 b:=Gq hk 1 (by simp)
      rw[Aa.eq_def]
      exact((Ar C0).cat ((Ge f a [b]).cat (I b hb))).of (by simp[CK,Ad,tkL]<;>first | rfl | exact⟨rfl,rfl⟩ | exact⟨rfl,rfl,rfl,rfl⟩)
     ·rw[Aa.eq_def]
      exact(((Ar Ek).cat ((Ar AD).cat ((Ld f a).cat ((Ar An).cat ((Ld f b).cat (Ar A9)))))).semi).of (by simp[CK,Ad,CJ,DA,B9,tkL]<;>first | rfl | exact⟨rfl,rfl⟩ | exact⟨rfl,rfl,rfl,rfl⟩)
   ·match ks,hl,hk with
    | [a],_,hk=>
     rcases hkk with rfl | rfl | rfl | rfl | rfl | rfl
     ·rw[Aa.eq_def]
      exact(((Ar Bs).cat (Ld f a)).semi).of (by simp[CK,Ad,D5,tkL]<;>first | rfl | exact⟨rfl,rfl⟩ | exact⟨rfl,rfl,rfl,rfl⟩)
     ·rw[Aa.eq_def]
      exact(((Ar CN).cat (Ge f a [])).semi).of (by simp[CK,Ad,CJ,tkL]<;>first | rfl | exact⟨rfl,rfl⟩ | exact⟨rfl,rfl,rfl,rfl⟩)
     ·have hb:WfR 2 a:=Gq hk 0 (by simp)
      rw[Aa.eq_def]
      exact((Ar DX).cat (I a hb)).of (by simp[CK,Ad,tkL]<;>first | rfl | exact⟨rfl,rfl⟩ | exact⟨rfl,rfl,rfl,rfl⟩)
     ·rw[Aa.eq_def]
      exact(((Ar Dd).cat (Ge f a [])).semi).of (by simp[CK,Ad,CJ,tkL]<;>first | rfl | exact⟨rfl,rfl⟩ | exact⟨rfl,rfl,rfl,rfl⟩)
     ·rw[Aa.eq_def]
      exact(((Ar Cu).cat (Ge f a [])).semi).of (by simp[CK,Ad,CJ,tkL]<;>first | rfl | exact⟨rfl,rfl⟩ | exact⟨rfl,rfl,rfl,rfl⟩)
     ·rw[Aa.eq_def]
      exact((Ld f a).semi).of (by simp[CK,Ad,D5,tkL]<;>first | rfl | exact⟨rfl,rfl⟩ | exact⟨rfl,rfl,rfl,rfl⟩)
theorem M9(f:Nat){n:Nd}(h:IE n\/WfM n):IsT (Bi f n) (tkN CA n):=by
 rcases h with⟨x,-,rfl⟩ | ⟨x,ar,b,rfl,-,har,hb⟩
 ·unfold Bi
  exact(((Ar Ej).cat (E5 x)).semi).of rfl
 ·unfold Bi
  have e1:(Nd.mk 4 x (ar.length:Int) (ar++[b])).kids.getLast?=some b:=List.getLast?_concat
  have e2:(Nd.mk 4 x (ar.length:Int) (ar++[b])).kids.dropLast=ar:=List.dropLast_concat
  show IsT (if(4:Int)=3 then _ else if(4:Int)=4 then _ else _) _
  rw[if_neg (by decide),if_pos rfl,e1]
  have ha:IsT (JO (Nd.mk 4 x (ar.length:Int) (ar++[b])).kids) (B9 (tkL CA ar)):=by
   unfold JO
   rw[e2,D6]
   exact JB (g:=fun a=>Ax a.text) ar (fun c hc=>by
    obtain⟨y,-,rfl⟩:=har c hc
    exact(E5 y).of rfl)
  refine((Ar wTo).cat ((E5 x).cat ((Ar AD).cat (ha.cat ((Ar A9).cat ((KS f).1 b hb)))))).of ?_
  rw[FZ]
  show _=kTo::strOfNums x::(DA ((tkL CA (ar++[b])).take ((ar.length:Int)).toNat)++((tkL CA (ar++[b])).drop ((ar.length:Int)).toNat).flatten)
  rw[Int.toNat_natCast,<-EX,<-Dr,List.take_left,List.drop_left]
  simp[DA,tkL]<;>first | rfl | exact⟨rfl,rfl,rfl⟩
theorem S6(f:Nat){n:Nd}(h:WfC n):IsT (B4 f n) (tkN CA n):=by
 obtain⟨x,up,ks,ms,rfl,-,hu,hk,hm⟩:=h
 have hmem:∀c∈ks++ms,IsT (Bi f c) (tkN CA c):=fun c hc=>by
  rcases List.mem_append.1 hc with hc | hc
  ·exact M9 f (Or.inl (hk c hc))
  ·exact M9 f (Or.inr (hm c hc))
 have hbody:IsT (B4.bodyW f (ks++ms)) (FY::((tkL CA (ks++ms)).flatten++[Ir])):=by
  unfold B4.bodyW
  rw[D6]
  exact((Ar Ai).cat ((Jg (ks++ms) hmem).cat (Ar Au))).of rfl
 rw[FZ]
 show IsT _ (EM (strOfNums x) ((up++ks++ms).map Nd.kind) (tkL CA (up++ks++ms)))
 unfold B4
 rcases hu with rfl | ⟨y,-,rfl⟩
 ·have hne:¬((([]:List Nd)++ks++ms).map Nd.kind).head?=some 31:=by
   rw[List.nil_append]
   match ks,ms,hk,hm with
   | [],[],_,_=>intro e;cases e
   | [],m::r,_,hm=>
    obtain⟨z,a,b,rfl,-⟩:=hm m (Z7 ..)
    intro e;cases e
   | k::r,ms,hk,_=>
    obtain⟨z,-,rfl⟩:=hk k (Z7 ..)
    intro e;cases e
  unfold EM
  rw[if_neg hne]
  refine IsT.of ((Ar Cz).cat ((E5 x).cat (B:=FY::((tkL CA (ks++ms)).flatten++[Ir])) ?_)) rfl
  show IsT (match ks++ms with | u::ks=>_ | []=>_) _
  cases e:ks++ms with
  | nil=>rw[<-e];rw[e]at hbody⊢;exact hbody
  | cons c r=>
   have hc:¬c.kind=31:=fun e2=>by
    apply hne
    rw[List.nil_append,e,List.map_cons,List.head?_cons,e2]
   show IsT (if c.kind=31 then _ else _) _
   rw[if_neg hc,<-e]
   exact hbody
 ·have hh:(([Nd.mk 31 y 0 []]++ks++ms).map Nd.kind).head?=some 31:=rfl
  unfold EM
  rw[if_pos hh]
  refine IsT.of ((Ar Cz).cat ((E5 x).cat ((Ar DP).cat ((E5 y).cat hbody)))) ?_
  rfl
theorem T8(f:Nat){n:Nd}(h:WfP n):IsT (Dz f n) (tkN CA n):=by
 obtain⟨ks,b,rfl,hk,hb⟩:=h
 unfold Dz
 have e1:(Nd.mk 1 [] 0 (ks++[b])).kids.getLast?=some b:=List.getLast?_concat
 have e2:(Nd.mk 1 [] 0 (ks++[b])).kids.dropLast=ks:=List.dropLast_concat
 rw[e1,e2]
 show IsT (if(1:Int)=1 then _ else _) _
 rw[if_pos rfl,FZ]
 refine((Jg ks (fun c hc=>S6 f (hk c hc))).cat ((Ar Dy).cat ((KS f).1 b hb))).of ?_
 rw[<-D6]
 show _=((tkL CA (ks++[b])).take ((tkL CA (ks++[b])).length-1)).flatten++(Mf::((tkL CA (ks++[b])).drop ((tkL CA (ks++[b])).length-1)).flatten)
 rw[Em,<-EX,<-Dr,Z1,List.length_singleton,Nat.add_sub_cancel,List.take_left,List.drop_left]
 simp[tkL]<;>rfl
end Go.Proofs.YtbglpanjpadldaaGreatDoor
