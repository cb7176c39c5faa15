/- Texts in one. -/
import Derived.Test.YtbglpanjpadldaaGreatDoorOd
import Derived.Test.YtbglpanjpadldaaGreatDoorOe
import Derived.Test.YtbglpanjpadldaaGreatDoorMu
set_option linter.unusedVariables false
set_option maxHeartbeats 16000000
set_option maxRecDepth 100000
namespace Go.Proofs.YtbglpanjpadldaaGreatDoor
open Go.RowKit
def FI(L:List ByteArray):Nat:=(L.map ByteArray.size).sum
theorem MW(L:List ByteArray)(i:Nat)(h:i<L.length):FI (L.take (i+1))=FI (L.take i)+L[i].size:=by
 unfold FI
 rw[List.take_add_one,List.getElem?_eq_getElem h,List.map_append,List.sum_append]
 simp
theorem Ll(L:List ByteArray)(i:Nat):FI (L.take i)<=FI L:=by
 unfold FI
 conv=>rhs;rw[<-List.take_append_drop i L,List.map_append,List.sum_append]
 omega
theorem EQ(w:World)(x y:Obj):Below w.heap.size w ((w.alloc x).alloc y):=((Zg _ _).alloc (Z0 _) _).alloc (by simp) _
theorem GL(w:World)(o:Obj)(x y:Value):Box2 ((w.alloc o).alloc (.cells #[x,y] 27)) (w.heap.size+1) x y:=by
 have h:=heap_alloc_new (w.alloc o) (.cells #[x,y] 27)
 rw[show(w.alloc o).heap.size=w.heap.size+1 by simp]at h
 exact h
def DW(t:ByteArray)(n:Nd):Prop:=∀w,Errs w->Calls Tryz.prog 4 #[.string t] w fun e w'=>Below w.heap.size w w'/\∃u,e=.returned (.tuple #[u,.agg #[.int .i64 0,.int .i64 0]])/\NodeV w' (Be w.heap.size) u n
theorem Q0(L:List ByteArray)(n:Nd)(hn:A1 n<=900000)(hsum:FI L<=4000)(hlen:(BT false L).length<=900000)(hL:L.length<=900000)(hP:DW ⟨(BT false L).toArray⟩ n)(B0:Nat)(ad:Option Addr)(c:Nat)(M:Nat->Prop)(u:Value)(w:World)(he:Errs w)(hr:w.ownsRow B0 9 1 (.slice ad L.length c) L.length (CU L))(hu:NodeV w M u n) :
  Calls Tryz.prog 19 #[.slice ad L.length c,u] w fun e w'=>e=.returned (.bool true)/\Below w.heap.size w w':=by
 have hs9:∀x∈L,x.size<=900000:=fun x hx=>by
  obtain⟨j,hj,rfl⟩:=List.getElem_of_mem hx
  have h1:=MW L j hj
  have h2:=Ll L (j+1)
  omega
 have hsm:=NT n hn
 cases n with
 | mk k t m ks=>
 obtain⟨ad1,c1,rfl,hkv,hlc⟩:=Da hu
 have hbl:Below w.heap.size w (w.alloc (.cells #[.int .i64 k,.string (strOfNums t),.int .i64 m,.slice ad1 ks.length c1] 24)):=(Zg _ _).alloc (Z0 _) _
 have hbx:(w.alloc (.cells #[.int .i64 k,.string (strOfNums t),.int .i64 m,.slice ad1 ks.length c1] 24)).heap[w.heap.size]?=some (.cells #[.int .i64 k,.string (strOfNums t),.int .i64 m,.slice ad1 ks.length c1] 24):=heap_alloc_new _ _
 have hsz1:(w.alloc (.cells #[.int .i64 k,.string (strOfNums t),.int .i64 m,.slice ad1 ks.length c1] 24)).heap.size=w.heap.size+1:=by simp
 have hr1:=FS hr (fun g e=>hbl.block g (hr.lt g e).2)
 have hsh:=NI L B0 ad c _ hr1 hlen hL hs9
 have HR:Hid ((w.alloc (.cells #[.int .i64 k,.string (strOfNums t),.int .i64 m,.slice ad1 ks.length c1] 24)).ownsRow B0 9 1 (.slice ad L.length c) L.length (CU L)):=hr1
 have HU:Hid (NodeV w M (.agg #[.int .i64 k,.string (strOfNums t),.int .i64 m,.slice ad1 ks.length c1]) (.mk k t m ks)):=hu
 have HB:Hid (Below w.heap.size w (w.alloc (.cells #[.int .i64 k,.string (strOfNums t),.int .i64 m,.slice ad1 ks.length c1] 24))):=hbl
 have HX:Hid ((w.alloc (.cells #[.int .i64 k,.string (strOfNums t),.int .i64 m,.slice ad1 ks.length c1] 24)).heap[w.heap.size]?=some (.cells #[.int .i64 k,.string (strOfNums t),.int .i64 m,.slice ad1 ks.length c1] 24)):=hbx
 have HE:Hid (Errs w):=he
 have HZ:Hid ((w.alloc (.cells #[.int .i64 k,.string (strOfNums t),.int .i64 m,.slice ad1 ks.length c1] 24)).heap.size=w.heap.size+1):=hsz1
 clear hr hr1 hu hbl hbx hkv he hsz1
 go_enter Tryz.func19,Tryz.ntmps19
 go_wp2_with fail
 generalize w.alloc (.cells #[.int .i64 k,.string (strOfNums t),.int .i64 m,.slice ad1 ks.length c1] 24)=wA at *
 go_loopw [12,5] (fun s12 s5 wr=>∃i:Nat,s12=.int .i64 i/\s5=.int .i64 (FI (L.take i):Int)/\i<=L.length/\wr=wA) (fun s12 _ _=>900001-(intOf s12).toNat)
 case atStart=>exact⟨0,rfl,rfl,Z3 _,rfl⟩
 case round=>
  obtain⟨i,rfl,rfl,hi,rfl⟩:=hrel
  by_cases hlt:i<L.length
  ·have hil:(i:Int)<(L.length:Int):=by omega
   have hwi:=C4 (x:=(i:Int)+1) (by omega) (by omega)
   obtain⟨g,rfl⟩:∃g,ad=some ⟨g,0,none⟩:=by
    rcases HR.out.2 with⟨_,h0⟩ | ⟨g,cap,cur,e,_⟩
    ·omega
    ·injection e with e;exact⟨g,e⟩
   have hgl:=(HR.out.lt g rfl).2
   have hc0:wr.cell? ⟨g,i,none⟩=some (.string L[i]):=by
    rw[HR.out.cellAt i (by omega)]
    unfold CU
    rw[List.getElem?_map,List.getElem?_eq_getElem hlt]
    rfl
   have hsn:=MW L i hlt
   have hsl:=Ll L (i+1)
   have hws:=C4 (x:=(FI (L.take i):Int)+(L[i].size:Int)) (by omega) (by omega)
   clear hsh
   go_wp2_with fail
   exact⟨⟨i+1,by simp,by rw[hsn];simp,by omega,by first | rfl | trivial⟩,by simp[intOf];omega⟩
  ·have hil:¬(i:Int)<(L.length:Int):=by omega
   have hsl:=Ll L i
   have h4:¬(4000:Int)<(FI (L.take i):Int):=by omega
   have hPp:=hP
   unfold DW at hPp
   clear hP
   go_wp2_with (first
    | (go_at_call 40;refine(hsm _ _ _ _ _ hvA (HU.out.above (Zk hwA))).mono ?_;rintro e w3 ⟨rfl,hb3⟩)
    | (go_at_call 4;refine(hPp _ (HE.out.lasts (HB.out.trans (hb1.mono (by have:=HZ.out;omega))))).mono ?_;rintro e w2 ⟨hb2,u2,rfl,hv2⟩;obtain⟨a1,b1,q1,ad2,nn2,cc2,hu2⟩:=hv2.any;subst hu2;have s1:=hb1.size;have s2:=hb2.size;have hz:=HZ.out;have hx2:=(hb2.block w.heap.size (by omega)).trans ((hb1.block w.heap.size (by omega)).trans HX.out);have hbp:=EQ w2 (.cells #[.int .i64 a1,.string b1,.int .i64 q1,.slice ad2 nn2 cc2] 24) (.cells #[.int .i64 0,.int .i64 0] 27);have hw2:Below w.heap.size w w2:=HB.out.trans ((hb1.mono (by omega)).trans (hb2.mono (by omega)));have hwA:=hw2.trans (hbp.mono (by omega));have hvA:=hv2.above (Zk hbp);have x0:w2.cell? ⟨w.heap.size,0,none⟩=_:=cell_of_row _ _ _ _ _ _ hx2;have x1:w2.cell? ⟨w.heap.size,1,none⟩=_:=cell_of_row _ _ _ _ _ _ hx2;have x2:w2.cell? ⟨w.heap.size,2,none⟩=_:=cell_of_row _ _ _ _ _ _ hx2;have x3:w2.cell? ⟨w.heap.size,3,none⟩=_:=cell_of_row _ _ _ _ _ _ hx2;have xl:w.heap.size<w2.heap.size:=(by omega))
    | (go_at_call 39;refine hsh.mono ?_;clear hsh;rintro e w1 ⟨rfl,hb1⟩))
   go_ret
   exact⟨by first | rfl | simp,hwA.trans (hb3.mono (by have:=hwA.size;omega))⟩
end Go.Proofs.YtbglpanjpadldaaGreatDoor
namespace Go.Proofs.YtbglpanjpadldaaGreatDoor
def G9(x:List Int):Prop:=∀c∈x,0<=c/\c<=255
theorem Sd{c:Int}(h:Ba c=true):0<=c/\c<=255:=by
 unfold Ba Bk Ah at h
 simp at h
 omega
theorem Se{c:Int}(h:Ah c=true):0<=c/\c<=255:=by
 unfold Ah at h
 simp at h
 omega
theorem Ie{t:Tok}(h:E2 t):G9 t.2.1:=by
 rcases h with⟨_,h⟩ | ⟨_,m,h0,h1,h⟩ | ⟨_,h⟩ | ⟨_,h⟩
 ·intro c hc
  unfold BV at h
  simp only[Bool.and_eq_true]at h
  exact Sd (List.all_eq_true.1 h.2.2.1 c hc)
 ·intro c hc
  rw[h]at hc
  exact Se (List.all_eq_true.1 (FC h0 h1).1 c hc)
 ·intro c hc
  have hall:Io.all (fun x=>x.all fun c=>decide (0<=c/\c<=255))=true:=by decide
  have hm:t.2.1∈Io:=by
   unfold DJ at h
   simpa using h
  exact of_decide_eq_true (List.all_eq_true.1 (List.all_eq_true.1 hall _ hm) c hc)
 ·intro c hc
  unfold Ja at h
  rw[Bool.or_eq_true]at h
  rcases h with h | h
  ·have e:t.2.1=[61,61]:=by simpa using h
   rw[e]at hc
   simp at hc
   omega
  ·rw[Bool.and_eq_true]at h
   obtain⟨h1,h2⟩:=h
   have hl:t.2.1.length=1:=by simpa using h1
   match e:t.2.1,hl with
   | [d],_=>
    rw[e]at hc h2
    have ed:c=d:=by simpa using hc
    subst ed
    have h3:c∈CB:=by simpa [wd] using h2
    have hall:CB.all (fun c=>decide (0<=c/\c<=255))=true:=by decide
    exact of_decide_eq_true (List.all_eq_true.1 hall _ h3)
abbrev u8 (c:Int):UInt8:=UInt8.ofNat c.toNat
theorem RO:∀c:Fin 256,KT.data.toList.contains (u8 (c.val:Int))=CB.contains (c.val:Int):=by decide
theorem Q1{x:List Int}(h:G9 x):CX (strOfNums x)=AN x:=by
 unfold CX AN
 congr 1
 rw[strOfNums_data,List.all_map]
 have key:∀(p q:Int->Bool) (l:List Int),(∀c∈l,p c=q c)->l.all p=l.all q:=fun p q l=>by
  induction l with
  | nil=>intro _;rfl
  | cons a r ih=>intro hh;rw[List.all_cons,List.all_cons,hh a (Z7 ..),ih fun c hc=>hh c (Z8 _ hc)]
 refine key _ _ x fun c hc=>?_
 obtain⟨h0,h1⟩:=h c hc
 have:=RO ⟨c.toNat,by omega⟩
 have e:((c.toNat:Nat):Int)=c:=by omega
 simp only[e]at this
 exact this
theorem Ig:∀(ap:Bool) (xs:List (List Int)),(∀x∈xs,G9 x)->BT ap (xs.map strOfNums)=(CI ap xs).map u8
 | ap,[],_=>rfl
 | ap,x::r,h=>by
  have ih:=Ig (AN x) r fun y hy=>h y (Z8 _ hy)
  have hw:=Q1 (h x (Z7 ..))
  show(if(ap&&CX (strOfNums x))=true then[32]else[])++((strOfNums x).data.toList++BT (CX (strOfNums x)) (r.map strOfNums))=((if(ap&&AN x)=true then[32]else[])++(x++CI (AN x) r)).map u8
  rw[hw,ih,strOfNums_data,List.map_append,List.map_append]
  congr 1
  split<;>rfl
theorem Gg(l:List Tok):EG l=(BL l).map strOfNums:=by
 unfold EG BL
 rw[List.map_map]
 rfl
theorem RP{l:List Tok}(h:∀t∈l,E2 t):(⟨(BT false (EG l)).toArray⟩:ByteArray)=strOfNums (CI false (BL l)):=by
 rw[Gg,Ig false (BL l) (fun x hx=>by
  obtain⟨t,ht,rfl⟩:=List.mem_map.1 hx
  exact Ie (h t ht))]
 rfl
theorem Nf:∀xs:List (List Int),FI (xs.map strOfNums)=GF xs
 | []=>rfl
 | x::r=>by
  have ih:=Nf r
  show(strOfNums x).size+FI (r.map strOfNums)=x.length+GF r
  rw[ih,strOfNums_size]
theorem JN:∀xs:List (List Int),Lib.join ((xs.map strOfNums).map (·.data.toList)) [32]=(FA xs).map u8
 | []=>rfl
 | [a]=>by
  show Lib.join [(strOfNums a).data.toList] [32]=a.map u8
  rw[Lib.join_one]
  rfl
 | a::b::r=>by
  have ih:=JN (b::r)
  have e:Lib.join (((a::b::r).map strOfNums).map (·.data.toList)) [32]=(strOfNums a).data.toList++([32]++Lib.join (((b::r).map strOfNums).map (·.data.toList)) [32]):=by
   unfold Lib.join
   simp[List.intercalate]
  rw[e,ih]
  show _=(a++[32]++FA (b::r)).map u8
  rw[List.map_append,List.map_append,List.append_assoc]
  rfl
theorem RQ{l:List Tok}(h:∀t∈l,E2 t):G9 (C2 l):=by
 have hj:∀xs:List (List Int),(∀x∈xs,G9 x)->G9 (FA xs):=fun xs=>by
  induction xs with
  | nil=>intro _ c hc;cases hc
  | cons a r ih=>
   intro hx
   match r,ih,hx with
   | [],_,hx=>exact hx a (Z7 ..)
   | b::s,ih,hx=>
    intro c hc
    have hc':c∈a++[32]++FA (b::s):=hc
    rcases List.mem_append.1 hc' with hc | hc
    ·rcases List.mem_append.1 hc with hc | hc
     ·exact hx a (Z7 ..) c hc
     ·rw[List.mem_singleton.1 hc];decide
    ·exact ih (fun y hy=>hx y (Z8 _ hy)) c hc
 intro c hc
 unfold C2 at hc
 rcases List.mem_append.1 hc with hc | hc
 ·exact hj _ (fun x hx=>by
   obtain⟨t,ht,rfl⟩:=List.mem_map.1 hx
   exact Ie (h t ht)) c hc
 ·rw[List.mem_singleton.1 hc];decide
theorem Sf(l:List Tok):(⟨(Lib.join ((EG l).map (·.data.toList)) [32]).toArray⟩:ByteArray)++(⟨#[10]⟩:ByteArray)=strOfNums (C2 l):=by
 rw[Gg,JN]
 unfold C2 strOfNums
 apply ByteArray.ext
 simp[ByteArray.data_append,BL]
theorem Q2{l:List Tok}(h:∀t∈l,E2 t):G9 (CI false (BL l)):=by
 have key:∀(ap:Bool) (xs:List (List Int)),(∀x∈xs,G9 x)->G9 (CI ap xs):=fun ap xs=>by
  induction xs generalizing ap with
  | nil=>intro _ c hc;cases hc
  | cons a r ih=>
   intro hx c hc
   have hc':c∈(if ap&&AN a then[32]else[])++(a++CI (AN a) r):=hc
   rcases List.mem_append.1 hc' with hc | hc
   ·split at hc
    ·rw[List.mem_singleton.1 hc];decide
    ·cases hc
   ·rcases List.mem_append.1 hc with hc | hc
    ·exact hx a (Z7 ..) c hc
    ·exact ih _ (fun y hy=>hx y (Z8 _ hy)) c hc
 exact key false _ (fun x hx=>by
  obtain⟨t,ht,rfl⟩:=List.mem_map.1 hx
  exact Ie (h t ht))
open Go.RowKit
mutual
theorem Lm:∀(n:Nd) (r:Nat),WfR r n->Ee n
 | .mk k x m ks,r,h=>by
  unfold WfR at h
  unfold Ee
  refine⟨?_,P5 ks k 0 h.2⟩
  have hs:=h.1
  unfold NE at hs
  split at hs
  ·rcases hs with⟨_,_,hm,_⟩ | ⟨_,_,hm,_⟩ | ⟨_,_,hm,_⟩ | ⟨_,_,h1,h2,_⟩ | ⟨_,_,hm,_⟩ | ⟨_,_,hm,_⟩<;>omega
  ·split at hs
   ·rcases hs with⟨_,_,hm,_⟩ | ⟨_,_,hm,_⟩ | ⟨_,_,hm,_⟩ | ⟨_,_,hm,_⟩<;>omega
   ·have:=hs.2.2
    omega
theorem P5:∀(ks:List Nd) (k:Int) (i:Nat),WfK k i ks->G0 ks
 | [],_,_,_=>by unfold G0;trivial
 | n::ns,k,i,h=>by
  unfold WfK at h
  unfold G0
  exact⟨Lm n _ h.1,P5 ns k (i+1) h.2⟩
end
theorem Jk:∀ks:List Nd,(∀c∈ks,Ee c)->G0 ks
 | [],_=>by unfold G0;trivial
 | n::ns,h=>by unfold G0;exact⟨h n (Z7 ..),Jk ns fun c hc=>h c (Z8 _ hc)⟩
theorem Ng{c:Nd}(h:Iy c\/IE c):Ee c:=by
 rcases h with⟨x,-,rfl⟩ | ⟨x,-,rfl⟩
 ·unfold Ee G0;exact⟨by omega,trivial⟩
 ·unfold Ee G0;exact⟨by omega,trivial⟩
theorem Sg{n:Nd}(h:WfP n)(hsz:A1 n<=600):Ee n:=by
 obtain⟨ks,b,rfl,hk,hb⟩:=h
 have hs:A1 (.mk 1 [] 0 (ks++[b]))=1+AA (ks++[b]):=by conv=>lhs;unfold A1
 have hmem:∀(l:List Nd) (c:Nd),c∈l->A1 c<=AA l:=fun l c hc=>by
  induction l with
  | nil=>cases hc
  | cons a r ih=>
   have e:AA (a::r)=A1 a+AA r:=by conv=>lhs;unfold AA
   rcases List.mem_cons.1 hc with rfl | hc
   ·omega
   ·have:=ih hc;omega
 unfold Ee
 refine⟨by omega,Jk _ fun c hc=>?_⟩
 have hcs:=hmem _ _ hc
 rcases List.mem_append.1 hc with hc | hc
 ·obtain⟨x,up,sl,ms,rfl,-,hu,hsl,hms⟩:=hk c hc
  have e2:A1 (.mk 2 x 0 (up++sl++ms))=1+AA (up++sl++ms):=by conv=>lhs;unfold A1
  unfold Ee
  refine⟨by omega,Jk _ fun d hd=>?_⟩
  have hds:=hmem _ _ hd
  rcases List.mem_append.1 hd with hd | hd
  ·rcases List.mem_append.1 hd with hd | hd
   ·rcases hu with rfl | ⟨y,-,rfl⟩
    ·cases hd
    ·rw[List.mem_singleton.1 hd]
     unfold Ee G0
     exact⟨by omega,trivial⟩
   ·exact Ng (Or.inr (hsl d hd))
  ·obtain⟨y,ar,bb,rfl,-,har,hbb⟩:=hms d hd
   have e3:A1 (.mk 4 y (ar.length:Int) (ar++[bb]))=1+AA (ar++[bb]):=by conv=>lhs;unfold A1
   have hl:=Hg (ar++[bb])
   rw[Z1]at hl
   unfold Ee
   refine⟨by omega,Jk _ fun a ha=>?_⟩
   rcases List.mem_append.1 ha with ha | ha
   ·exact Ng (Or.inl (har a ha))
   ·rw[List.mem_singleton.1 ha]
    exact Lm bb 2 hbb
 ·rw[List.mem_singleton.1 hc]
  exact Lm b 2 hb
theorem Nh{w:World}{B n c:Nat}{e:TypeId}{ad:Option Addr}{xs:List Value}(h:w.ownsRow B e 1 (.slice ad n c) n xs)(h0:0<n):∃g,ad=some ⟨g,0,none⟩/\n<=c:=by
 rcases h.2 with⟨_,h1⟩ | ⟨g,cap,cur,e,_,_,hle,_⟩
 ·omega
 ·injection e with e1 e2 e3
  subst e3
  exact⟨g,e1,hle⟩
theorem Ni:∀xs:List (List Int),(FA xs).length<=GF xs+xs.length
 | []=>Z3 _
 | [a]=>by show a.length<=a.length+0+1;omega
 | a::b::r=>by
  have ih:=Ni (b::r)
  show(a++[32]++FA (b::r)).length<=a.length+GF (b::r)+((b::r).length+1)
  rw[Z1,Z1,List.length_singleton]
  omega
theorem Hl{t:ByteArray}{n:Nd}(hp:CD (A7 t)=.ok n)(hm:t.size<=maxLen):DW t n:=fun w he=>(LK t w he hm).mono (fun e w' h=>by
 unfold Id at h
 rw[hp]at h
 exact h)
theorem RR{w:World}{B B':Nat}{e:TypeId}{size n:Nat}{v:Value}{xs:List Value}(hB:B'<=B)(h:w.ownsRow B e size v n xs):w.ownsRow B' e size v n xs:=by
 obtain⟨h1,h2⟩:=h
 refine⟨h1,?_⟩
 rcases h2 with h2 | ⟨g,cap',cur,hv,hg,r⟩
 ·exact Or.inl h2
 ·exact Or.inr ⟨g,cap',cur,hv,Za hB hg,r⟩
theorem Nj(n:Nd)(L:List ByteArray)(hL:tkN AC n=L)(hnum:Ee n)(hsz:A1 n<=600)(h0:0<L.length)(hsum:FI L<=4000)(hshort:(BT false L).length<=900000)(hP:DW ⟨(BT false L).toArray⟩ n)(M:Nat->Prop)(u:Value)(w:World)(he:Errs w)(hp:PowW w w.heap.size)(hu:NodeV w M u n) :
  Calls Tryz.prog 10 #[u] w fun e w'=>(∃ad c,e=.returned (.tuple #[.slice ad L.length c,.agg #[.int .i64 0,.int .i64 0]])/\w'.ownsRow (w.heap.size+2) 9 1 (.slice ad L.length c) L.length (CU L))/\Below w.heap.size w w':=by
 have hLl:L.length<=900000:=by rw[<-hL];have:=Is AC n;omega
 have hlg:decide (600<A1 n)=false:=decide_eq_false (by omega)
 have hbig:=fun w u M=>JF n M u w
 rw[hlg]at hbig
 have htk:=fun w u M hp=>NM n hnum (by omega) M u w hp
 rw[hL]at htk
 have hrd:=fun B0 ad c M u w=>Q0 L n (by omega) hsum hshort hLl hP B0 ad c M u w
 clear hL hnum hP hlg
 cases n with
 | mk k t m ks=>
 obtain⟨ad1,c1,rfl,hkv,hlc⟩:=Da hu
 have hbl:Below w.heap.size w ((w.alloc (.cells #[.int .i64 k,.string (strOfNums t),.int .i64 m,.slice ad1 ks.length c1] 24)).alloc (.cells #[.int .i64 0,.int .i64 0] 27)):=EQ _ _ _
 have hbx:((w.alloc (.cells #[.int .i64 k,.string (strOfNums t),.int .i64 m,.slice ad1 ks.length c1] 24)).alloc (.cells #[.int .i64 0,.int .i64 0] 27)).heap[w.heap.size]?=some (.cells #[.int .i64 k,.string (strOfNums t),.int .i64 m,.slice ad1 ks.length c1] 24):=by
  have h:=heap_alloc_new w (.cells #[.int .i64 k,.string (strOfNums t),.int .i64 m,.slice ad1 ks.length c1] 24)
  rw[((Zg _ (w.alloc (.cells #[.int .i64 k,.string (strOfNums t),.int .i64 m,.slice ad1 ks.length c1] 24))).alloc (Z0 _) (.cells #[.int .i64 0,.int .i64 0] 27)).block w.heap.size (by simp)]
  exact h
 have hfb:Box2 ((w.alloc (.cells #[.int .i64 k,.string (strOfNums t),.int .i64 m,.slice ad1 ks.length c1] 24)).alloc (.cells #[.int .i64 0,.int .i64 0] 27)) (w.heap.size+1) (.int .i64 0) (.int .i64 0):=GL w _ _ _
 have hsz1:((w.alloc (.cells #[.int .i64 k,.string (strOfNums t),.int .i64 m,.slice ad1 ks.length c1] 24)).alloc (.cells #[.int .i64 0,.int .i64 0] 27)).heap.size=w.heap.size+2:=by simp
 have HU:Hid (NodeV w M (.agg #[.int .i64 k,.string (strOfNums t),.int .i64 m,.slice ad1 ks.length c1]) (.mk k t m ks)):=hu
 have HB:Hid (Below w.heap.size w ((w.alloc (.cells #[.int .i64 k,.string (strOfNums t),.int .i64 m,.slice ad1 ks.length c1] 24)).alloc (.cells #[.int .i64 0,.int .i64 0] 27))):=hbl
 have HX:Hid (((w.alloc (.cells #[.int .i64 k,.string (strOfNums t),.int .i64 m,.slice ad1 ks.length c1] 24)).alloc (.cells #[.int .i64 0,.int .i64 0] 27)).heap[w.heap.size]?=some (.cells #[.int .i64 k,.string (strOfNums t),.int .i64 m,.slice ad1 ks.length c1] 24)):=hbx
 have HF:Hid (Box2 ((w.alloc (.cells #[.int .i64 k,.string (strOfNums t),.int .i64 m,.slice ad1 ks.length c1] 24)).alloc (.cells #[.int .i64 0,.int .i64 0] 27)) (w.heap.size+1) (.int .i64 0) (.int .i64 0)):=hfb
 have HZ:Hid (((w.alloc (.cells #[.int .i64 k,.string (strOfNums t),.int .i64 m,.slice ad1 ks.length c1] 24)).alloc (.cells #[.int .i64 0,.int .i64 0] 27)).heap.size=w.heap.size+2):=hsz1
 have HE:Hid (Errs w):=he
 have HP:Hid (PowW w w.heap.size):=hp
 clear hu hbl hbx hfb hsz1 hkv he hp
 go_enter Tryz.func10,Tryz.ntmps10
 go_wp2_with fail
 generalize (w.alloc (.cells #[.int .i64 k,.string (strOfNums t),.int .i64 m,.slice ad1 ks.length c1] 24)).alloc (.cells #[.int .i64 0,.int .i64 0] 27)=wA at *
 have HXp:=HX.out
 have hz:=HZ.out
 go_wp2_with (first
  | (go_at_call 19;refine(hrd _ (some ⟨g,0,none⟩) c2 M _ _ (HE.out.lasts hB2) r2 (HU.out.above (Zk hB2))).mono ?_;rintro e w3 ⟨rfl,hb3⟩;have s3:=hb3.size;have hg2:=(r2.lt g rfl).2;have r3:=FS r2 (fun g e=>hb3.block g (r2.lt g e).2);have hF3:Box2 w3 (w.heap.size+1) (.int .i64 0) (.int .i64 0):=(hb3.block _ (by omega)).trans ((hb2.block _ (by omega)).trans ((hb1.block _ (by omega)).trans HF.out));obtain⟨hlf,⟨q0,q1⟩,z0,z1⟩:=hF3.facts)
  | (go_at_call 18;refine(htk _ _ M (HP.out.lasts hB1) (HU.out.above (Zk hB1))).mono ?_;rintro e w2 ⟨hb2,ad2,c2,rfl,r2⟩;have s2:=hb2.size;have hB2:Below w.heap.size w w2:=hB1.trans (hb2.mono (by omega));obtain⟨g,eg,hcap⟩:=Nh r2 h0;subst eg;have hx2:=(hb2.block w.heap.size (by omega)).trans HXp;clear HXp;have HXp:=hx2;have a2:w2.cell? ⟨w.heap.size,0,none⟩=_:=cell_of_row _ _ _ _ _ _ hx2;have b2:w2.cell? ⟨w.heap.size,1,none⟩=_:=cell_of_row _ _ _ _ _ _ hx2;have d2:w2.cell? ⟨w.heap.size,2,none⟩=_:=cell_of_row _ _ _ _ _ _ hx2;have f2:w2.cell? ⟨w.heap.size,3,none⟩=_:=cell_of_row _ _ _ _ _ _ hx2;have xl2:w.heap.size<w2.heap.size:=(by omega))
  | (go_at_call 9;refine(hbig _ _ M (HU.out.above (Zk HB.out))).mono ?_;rintro e w1 ⟨rfl,hb1⟩;have s1:=hb1.size;have hB1:Below w.heap.size w w1:=HB.out.trans (hb1.mono (by omega));have hx1:=(hb1.block w.heap.size (by omega)).trans HXp;clear HXp;have HXp:=hx1;have a1:w1.cell? ⟨w.heap.size,0,none⟩=_:=cell_of_row _ _ _ _ _ _ hx1;have b1:w1.cell? ⟨w.heap.size,1,none⟩=_:=cell_of_row _ _ _ _ _ _ hx1;have d1:w1.cell? ⟨w.heap.size,2,none⟩=_:=cell_of_row _ _ _ _ _ _ hx1;have f1:w1.cell? ⟨w.heap.size,3,none⟩=_:=cell_of_row _ _ _ _ _ _ hx1;have xl1:w.heap.size<w1.heap.size:=(by omega)))
 have hB3:Below w.heap.size w w3:=hB2.trans (hb3.mono (by omega))
 have hF5:=hF3.put (.int .i64 0) (.int .i64 0)
 obtain⟨_,⟨k0,k1⟩,_⟩:=hF5.facts
 refine bodyPost_ret (v:=.tuple #[.slice (some ⟨g,0,none⟩) L.length c2,.agg #[.int .i64 0,.int .i64 0]]) (by simp[results,Tryz.results10,go_sem,k0,k1]) rfl ⟨⟨_,c2,rfl,RR (show w.heap.size+2<=w1.heap.size by omega) (FS r3 fun g' e=>?_)⟩,(hB3.setCell (p:=⟨w.heap.size+1,0,none⟩) (by dsimp only;omega) _).setCell (p:=⟨w.heap.size+1,1,none⟩) (by dsimp only;omega) _⟩
 have:=(r3.lt g' e).1
 rw[Zm _ _ _ _ (by dsimp only;omega),Zm _ _ _ _ (by dsimp only;omega)]
theorem Q3(n:Nd)(L:List ByteArray)(hL:tkN AC n=L)(hnum:Ee n)(hsz:A1 n<=600)(h0:0<L.length)(hsum:FI L<=4000)(hshort:(BT false L).length<=900000)(hP:DW ⟨(BT false L).toArray⟩ n)(hjoin:(Lib.join (L.map (·.data.toList)) [32]).length<=140737488355328)(M:Nat->Prop)(u:Value)(w:World)(he:Errs w)(hp:PowW w w.heap.size)(hu:NodeV w M u n) :
  Calls Tryz.prog 5 #[u] w fun e w'=>e=.returned (.tuple #[.string ((⟨(Lib.join (L.map (·.data.toList)) [32]).toArray⟩:ByteArray)++(⟨#[10]⟩:ByteArray)),.agg #[.int .i64 0,.int .i64 0]])/\Below w.heap.size w w':=by
 have hLl:L.length<=900000:=by rw[<-hL];have:=Is AC n;omega
 have hwr:=fun u w he hp hu=>Nj n L hL hnum hsz h0 hsum hshort hP M u w he hp hu
 clear hL hnum hP
 cases n with
 | mk k t m ks=>
 obtain⟨ad1,c1,rfl,hkv,hlc⟩:=Da hu
 have hbl:Below w.heap.size w ((w.alloc (.cells #[.int .i64 k,.string (strOfNums t),.int .i64 m,.slice ad1 ks.length c1] 24)).alloc (.cells #[.int .i64 0,.int .i64 0] 27)):=EQ _ _ _
 have hfb:Box2 ((w.alloc (.cells #[.int .i64 k,.string (strOfNums t),.int .i64 m,.slice ad1 ks.length c1] 24)).alloc (.cells #[.int .i64 0,.int .i64 0] 27)) (w.heap.size+1) (.int .i64 0) (.int .i64 0):=GL w _ _ _
 have hsz1:((w.alloc (.cells #[.int .i64 k,.string (strOfNums t),.int .i64 m,.slice ad1 ks.length c1] 24)).alloc (.cells #[.int .i64 0,.int .i64 0] 27)).heap.size=w.heap.size+2:=by simp
 have HU:Hid (NodeV w M (.agg #[.int .i64 k,.string (strOfNums t),.int .i64 m,.slice ad1 ks.length c1]) (.mk k t m ks)):=hu
 have HB:Hid (Below w.heap.size w ((w.alloc (.cells #[.int .i64 k,.string (strOfNums t),.int .i64 m,.slice ad1 ks.length c1] 24)).alloc (.cells #[.int .i64 0,.int .i64 0] 27))):=hbl
 have HF:Hid (Box2 ((w.alloc (.cells #[.int .i64 k,.string (strOfNums t),.int .i64 m,.slice ad1 ks.length c1] 24)).alloc (.cells #[.int .i64 0,.int .i64 0] 27)) (w.heap.size+1) (.int .i64 0) (.int .i64 0)):=hfb
 have HZ:Hid (((w.alloc (.cells #[.int .i64 k,.string (strOfNums t),.int .i64 m,.slice ad1 ks.length c1] 24)).alloc (.cells #[.int .i64 0,.int .i64 0] 27)).heap.size=w.heap.size+2):=hsz1
 have HE:Hid (Errs w):=he
 have HP:Hid (PowW w w.heap.size):=hp
 clear hu hbl hfb hsz1 hkv he hp
 go_enter Tryz.func5,Tryz.ntmps5
 go_wp2_with (first
  | (go_at_call 11;refine(Tryz.strings_Join g 0 c2 L ⟨#[32]⟩ _ hcells (Z5 hg2 (by simp)) (by omega) hcap hjoin).mono ?_;rintro e w4 ⟨rfl,hb4⟩;have s4:=hb4.size;have hb14:=GR hb4;have hF4:Box2 w4 (w.heap.size+1) (.int .i64 0) (.int .i64 0):=(hb14.block _ (by omega)).trans ((hb1.block _ (by omega)).trans HF.out);have hB4:Below w.heap.size w w4:=(HB.out.trans (hb1.mono (by omega))).trans (hb14.mono (by omega));obtain⟨hlf,⟨q0,q1⟩,z0,z1⟩:=hF4.facts)
  | (go_at_call 10;refine(hwr _ _ (HE.out.lasts HB.out) (HP.out.lasts HB.out) (HU.out.above (Zk HB.out))).mono ?_;rintro e w1 ⟨⟨ad2,c2,rfl,r2⟩,hb1⟩;have hz:=HZ.out;have s1:=hb1.size;obtain⟨g,eg,hcap⟩:=Nh r2 h0;subst eg;have hg2:=(r2.lt g rfl).2;have r3:(w1.alloc (.cells #[.int .i64 0,.int .i64 0] 27)).ownsRow _ 9 1 _ _ _:=FS r2 (fun g e=>Below.heap_alloc _ _ _ (r2.lt g e).2);have hcells:∀(j:Nat) x,L[j]?=some x->(w1.alloc (.cells #[.int .i64 0,.int .i64 0] 27)).cell? ⟨g,0+j,none⟩=some (.string x):=(fun j x hx=>by rw[Nat.zero_add,r3.cellAt j (by have:=(List.getElem?_eq_some_iff.1 hx).1;omega)];unfold CU;rw[List.getElem?_map,hx];rfl)))
 have hF5:=hF4.put (.int .i64 0) (.int .i64 0)
 obtain⟨_,⟨k0,k1⟩,_⟩:=hF5.facts
 exact bodyPost_ret (v:=.tuple #[.string ((⟨(Lib.join (L.map (·.data.toList)) [32]).toArray⟩:ByteArray)++(⟨#[10]⟩:ByteArray)),.agg #[.int .i64 0,.int .i64 0]]) (by simp[results,Tryz.results5,go_sem,k0,k1]) rfl ⟨rfl,(hB4.setCell (p:=⟨w.heap.size+1,0,none⟩) (by dsimp only;omega) _).setCell (p:=⟨w.heap.size+1,1,none⟩) (by dsimp only;omega) _⟩
theorem MX{T:List Int}{n:Nd}(h:CD T=.ok n):∃l,GA n=.ok (C2 l)/\G9 (C2 l)/\(C2 l).length<=900000/\∀(M:Nat->Prop) (u:Value) (w:World),Errs w->PowW w w.heap.size->NodeV w M u n->Calls Tryz.prog 5 #[u] w fun e w'=>e=.returned (.tuple #[.string (strOfNums (C2 l)),.agg #[.int .i64 0,.int .i64 0]])/\Below w.heap.size w w':=by
 obtain⟨l,h2,h1,ok,hc,hps⟩:=Nv h
 obtain⟨hwf,hsz⟩:=NH h
 have hL:tkN AC n=EG l:=(T8 _ hwf l h2).symm
 have hsl:GF (BL l)<=4000:=Za (QS false (BL l) false) hc
 have hsum:FI (EG l)<=4000:=by rw[Gg,Nf];exact hsl
 have hss:=Ig false (BL l) (fun x hx=>by
  obtain⟨t,ht,rfl⟩:=List.mem_map.1 hx
  exact Ie (ok t ht))
 have hshl:(BT false (EG l)).length<=4000:=by
  rw[Gg,hss,List.length_map,Gn]
  exact hc
 have hstr:=RP ok
 have hnm:A7 (⟨(BT false (EG l)).toArray⟩:ByteArray)=CI false (BL l):=by
  rw[hstr]
  exact I8 (Q2 ok)
 have hP:DW ⟨(BT false (EG l)).toArray⟩ n:=Hl (by rw[hnm];exact hps) (by
  show(BT false (EG l)).toArray.size<=maxLen
  rw[List.size_toArray]
  unfold maxLen
  omega)
 have hfew:=Is AC n
 have hll:(EG l).length<=4800:=by rw[<-hL];omega
 have htl:(BL l).length=(EG l).length:=by rw[Gg,List.length_map]
 have hjl:=Ni (BL l)
 have h0:0<(EG l).length:=by
  rw[<-hL]
  obtain⟨ks,b,rfl,_⟩:=hwf
  rw[FZ]
  show 0<(((tkL AC (ks++[b])).take _).flatten++(Mf::_)).length
  rw[Z1,List.length_cons]
  omega
 have hjoin:(Lib.join ((EG l).map (·.data.toList)) [32]).length<=140737488355328:=by
  rw[Gg,JN,List.length_map]
  omega
 have htx:(C2 l).length<=900000:=by
  have e:(C2 l).length=(FA (BL l)).length+1:=by
   unfold C2
   rw[Z1,List.length_singleton]
   rfl
  omega
 refine⟨l,h1,RQ ok,htx,fun M u w he hp hu=>?_⟩
 have:=Q3 n (EG l) hL (Sg hwf hsz) hsz h0 hsum (by omega) hP hjoin M u w he hp hu
 rw[Sf]at this
 exact this
end Go.Proofs.YtbglpanjpadldaaGreatDoor
