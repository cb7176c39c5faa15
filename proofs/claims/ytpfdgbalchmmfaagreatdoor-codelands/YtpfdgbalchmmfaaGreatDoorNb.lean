/- Texts in one. -/
import Derived.Test.YtpfdgbalchmmfaaGreatDoorNa
import Derived.Test.YtpfdgbalchmmfaaGreatDoorMo
set_option maxHeartbeats 8000000
set_option maxRecDepth 20000
namespace Go.Proofs.YtpfdgbalchmmfaaGreatDoor
open Go.RowKit
theorem Tj:(Tryz.prog.info? 9).map (fun i=>(i.zero,i.size,i.bytes))=some (some (.string ⟨#[]⟩),1,16):=by kernel_rfl
theorem Hw:Ef 23 9 1 16:=by
 obtain⟨i,h1,h2⟩:=Option.map_eq_some_iff.1 Tj
 simp only[Prod.mk.injEq]at h2
 exact⟨by kernel_rfl,⟨i,_,h1,h2.1,h2.2.1,h2.2.2,rfl⟩,by decide,by decide⟩
def B5(l:List ByteArray):List Value:=l.map Value.string
theorem Hx(l:List ByteArray):(B5 l).length=l.length:=List.length_map _
theorem GF(l:List ByteArray)(x:ByteArray):B5 (l++[x])=B5 l++[.string x]:=List.map_append
def UD(w:World)(b o:Nat)(l:List ByteArray):Prop:=∀i (h:i<l.length),w.cell? ⟨b,o+i,none⟩=some (.string l[i])
def StrsV(w:World)(M:Nat->Prop)(v:Value)(l:List ByteArray):Prop:=∃ad c,v=.slice ad l.length c/\l.length<=c/\c<=maxLen/\(ad=none->c=0)/\∀a,ad=some a->∃b o,a=⟨b,o,none⟩/\M b/\b<w.heap.size/\UD w b o l
structure Keeps(w w':World)(Q:Nat)(v:Value)(m:Nat):Prop where
 os:w'.os=w.os
 tape:w'.tape=w.tape
 output:w'.output=w.output
 size:w.heap.size<=w'.heap.size
 block:∀k,k<w.heap.size->k≠Q->v.ownBlock≠some k->w'.heap[k]?=w.heap[k]?
 row:∀g cur e,v.ownBlock=some g->g≠Q->w.heap[g]?=some (.cells cur e (0,0))->∃cur',w'.heap[g]?=some (.cells cur' e (0,0))/\cur'.size=cur.size/\cur'.toList.take m=cur.toList.take m
def Onto(w:World)(v v':Value):Prop:=v'.ownBlock=v.ownBlock\/∀g,v'.ownBlock=some g->w.heap.size<=g
theorem Onto.refl(w:World)(v:Value):Onto w v v:=Or.inl rfl
theorem Onto.trans{w w1:World}{v v1 v2:Value}(h:Onto w v v1)(h1:Onto w1 v1 v2)(hs:w.heap.size<=w1.heap.size):Onto w v v2:=by
 rcases h1 with h1 | h1
 ·rcases h with h | h
  ·exact Or.inl (h1.trans h)
  ·exact Or.inr (fun g e=>h g (by rw[<-h1];exact e))
 ·exact Or.inr (fun g e=>Za hs (h1 g e))
theorem Keeps.of_grown{w w':World}{Q m:Nat}{v:Value}(h:w.grownBy w' (some Q)):Keeps w w' Q v m:=
 ⟨h.os,h.tape,h.output,h.size,fun k hk hq _=>h.block k hk (fun e=>hq (by injection e)),fun g cur e hg hq hc=>⟨cur,by rw[h.block g (Array.getElem?_eq_some_iff.1 hc).1 (fun e=>hq (by injection e))];exact hc,rfl,rfl⟩⟩
theorem Keeps.of_below{w w':World}{Q m:Nat}{v:Value}(h:Below w.heap.size w w'):Keeps w w' Q v m:=Keeps.of_grown (A1 Q h)
theorem Keeps.refl(w:World)(Q:Nat)(v:Value)(m:Nat):Keeps w w Q v m:=Keeps.of_below (Zg _ _)
theorem Keeps.trans{w w1 w2:World}{Q m m1:Nat}{v v1:Value}(h:Keeps w w1 Q v m)(h1:Keeps w1 w2 Q v1 m1)(ho:Onto w v v1)(hm:v1.ownBlock=v.ownBlock->m<=m1):Keeps w w2 Q v m:=by
 refine⟨h1.os.trans h.os,h1.tape.trans h.tape,h1.output.trans h.output,Za h.size h1.size,fun k hk hq hv=>?_,fun g cur e hg hq hc=>?_⟩
 ·rw[h1.block k (Z5 hk h.size) hq (fun e=>?_),h.block k hk hq hv]
  rcases ho with ho | ho
  ·exact hv (by rw[<-ho];exact e)
  ·have:=ho k e
   omega
 ·obtain⟨cur1,c1,s1,t1⟩:=h.row g cur e hg hq hc
  by_cases hv1:v1.ownBlock=some g
  ·obtain⟨cur2,c2,s2,t2⟩:=h1.row g cur1 e hv1 hq c1
   refine⟨cur2,c2,s2.trans s1,?_⟩
   have hmm:=hm (by rw[hv1,hg])
   have e1:cur2.toList.take m=(cur2.toList.take m1).take m:=by rw[List.take_take,Nat.min_eq_left hmm]
   have e2:cur1.toList.take m=(cur1.toList.take m1).take m:=by rw[List.take_take,Nat.min_eq_left hmm]
   rw[e1,t2,<-e2,t1]
  ·refine⟨cur1,?_,s1,t1⟩
   rw[h1.block g (Array.getElem?_eq_some_iff.1 c1).1 hq hv1]
   exact c1
theorem Keeps.own{w w':World}{Q B n:Nat}{v:Value}{xs:List Value}{e:TypeId}(h:Keeps w w' Q v n)(ho:w.ownsRow B e 1 v n xs)(hq:v.ownBlock≠some Q):w'.ownsRow B e 1 v n xs:=by
 refine⟨ho.1,?_⟩
 rcases ho.2 with h0 | ⟨g,cap,cur,rfl,hb,hg,h1,h2,h3,h4⟩
 ·exact Or.inl h0
 ·obtain⟨cur',c1,s1,t1⟩:=h.row g cur e rfl (fun e'=>hq (by rw[e'];rfl)) hg
  exact Or.inr ⟨g,cap,cur',rfl,hb,c1,h1,h2,s1.trans h3,by rw[Nat.mul_one]at h4⊢;rw[t1,h4]⟩
theorem EH{w:World}{B:Nat}{v:Value}{l:List ByteArray}(h:w.ownsRow B 9 1 v l.length (B5 l)):StrsV w (fun k=>B<=k) v l:=by
 rcases h.2 with⟨rfl,h0⟩ | ⟨g,cap,cur,rfl,hb,hg,h1,h2,h3,h4⟩
 ·exact⟨none,0,by rw[h0],by omega,by unfold maxLen;omega,fun _=>rfl,fun a e=>by cases e⟩
 ·refine⟨_,cap,rfl,h1,h2,fun e=>(by cases e),fun a e=>?_⟩
  cases e
  refine⟨g,0,rfl,hb,(Array.getElem?_eq_some_iff.1 hg).1,fun i hi=>?_⟩
  rw[Nat.zero_add,h.cellAt i (by omega)]
  simp[B5,hi]
theorem Keeps.of_none{w w':World}{Q m:Nat}{v:Value}(h:w.grownBy w' none):Keeps w w' Q v m:=
 ⟨h.os,h.tape,h.output,h.size,fun k hk _ _=>h.block k hk (fun e=>by cases e),fun g cur e _ _ hc=>⟨cur,by rw[h.block g (Array.getElem?_eq_some_iff.1 hc).1 (fun e=>by cases e)];exact hc,rfl,rfl⟩⟩
theorem GX(w:World)(o:Obj):w.grownBy (w.drew.alloc o) none:=by
 have h:=Zf w.drew o none
 exact⟨h.os,h.tape,h.output,h.size,fun k hk e=>h.block k hk e⟩
theorem N9{w:World}{ty:TypeId}{base n c:Nat}{v:Value}{xs:List Value}{ad:Addr}{u:ByteArray}(hown:w.ownsRow base 9 1 v n xs)(hx:w.cell? ad=some (.string u))(hb:n<=1000000)(hbase:base<=w.heap.size) :
  ∃g cap w',(Builtin.append_ #[23,23] ty #[v,.slice (some ad) 1 c]).run Tryz.prog w=.ok (sl g (n+1) cap) w'/\w'.ownsRow base 9 1 (sl g (n+1) cap) (n+1) (xs++[.string u])/\(∀Q,Keeps w w' Q v n)/\Onto w v (sl g (n+1) cap):=by
 obtain⟨i,z,hi,hz0,hz1,hz2,hz3⟩:=Hw.info
 have hc:∀j x,[Value.string u][j]?=some x->w.cell? (ad.add j)=some x:=fun j x h=>by
  cases j with
  | zero=>simp at h;rw[<-h];simpa [Addr.add] using hx
  | succ j=>simp at h
 have h1:∀x∈[Value.string u],x.oneCell'=true:=fun x hx=>by simp at hx;subst hx;rfl
 have hm:(n+1)*16<=140737488355328:=by omega
 obtain⟨v',w',hr,r1,r2,_⟩:=run_append_own (P:=Tryz.prog) w base 23 ty 9 i z 1 16 Hw.under hi hz0 hz1 hz2 hz3 (by decide) v n xs hown ad 1 c [.string u] rfl hc h1 (by unfold maxLen;omega) hm hbase
 rcases hown.2 with⟨rfl,rfl⟩ | ⟨g,cap,cur,rfl,hbg,hg,hnc,hcm,hcs,htake⟩
 ·have h:=run_append_nil (P:=Tryz.prog) w 23 ty 9 i z Hw.under hi hz0 ad 1 c [.string u] (by rw[hz1];rfl) hc (by omega) (by omega) (by rw[hz2];omega)
  rw[h]at hr
  injection hr with e1 e2
  subst e1 e2
  exact⟨_,_,_,h,r1,fun Q=>Keeps.of_none (GX _ _),Or.inr (fun g e=>by injection e with e;exact Nat.le_of_eq e)⟩
 ·by_cases hroom:n+1<=cap
  ·obtain⟨w2,h,o2,g2⟩:=run_append_fits (P:=Tryz.prog) w base 23 ty 9 i 1 Hw.under hi hz1 g n cap xs hown ad 1 c [.string u] rfl hc h1 hroom
   refine⟨g,cap,w2,h,o2,fun Q=>⟨g2.os,g2.tape,g2.output,g2.size,fun k hk _ hv=>g2.block k hk (fun e=>hv e.symm),fun g' cur' e hg' hq hc'=>?_⟩,Or.inl rfl⟩
   injection hg' with hg'
   have hg'':g=g':=hg'
   subst hg''
   rw[hg]at hc'
   injection hc' with hc'
   injection hc' with hc1 hc2
   subst hc1 hc2
   rcases o2.2 with⟨e0,_⟩ | ⟨g3,cap3,cur3,e3,_,k1,k2,k3,k4,k5⟩
   ·cases e0
   ·injection e3 with e4 e5 e6
    injection e4 with e4
    injection e4 with e4
    subst e4 e6
    refine⟨cur3,k1,by rw[k4,hcs],?_⟩
    have hxl:xs.length=n:=by rw[hown.1,Nat.mul_one]
    rw[Nat.mul_one]at htake k5
    have e7:cur3.toList.take n=(cur3.toList.take (n+1)).take n:=by rw[List.take_take,Nat.min_eq_left (by omega)]
    rw[e7,k5,List.take_left' hxl,htake]
  ·have h:=run_append_grow (P:=Tryz.prog) w 23 ty 9 i z Hw.under hi hz0 ⟨g,0,none⟩ n cap xs (by rw[hown.1,hz1]) (hown.cells (g:=g) rfl) ad 1 c [.string u] (by rw[hz1];rfl) hc (by omega) (by omega) (growslice_fits (by omega) (by rw[hz2];exact hm))
   rw[h]at hr
   injection hr with e1 e2
   subst e1 e2
   exact⟨_,_,_,h,r1,fun Q=>Keeps.of_none (GX _ _),Or.inr (fun g e=>by injection e with e;exact Nat.le_of_eq e)⟩
theorem Eg{ops:Array Oper}{rest:List Oper}{o:Oper}{a:Act}{w:World}{Q:Exit->Act->World->Prop}(hgd:o.guard=none)(s x:Operand)(ho:o.op=.call { callee:=.builtin .append,args:=#[s,x],argTypes:=#[23,23] })(base n c:Nat)(v:Value)(xs:List Value)(u:ByteArray)(hs:a.eval s=v)(hown:w.ownsRow base 9 1 v n xs)(ad:Addr)(hx:a.eval x=.slice (some ad) 1 c)(hc:w.cell? ad=some (.string u))(hb:n<=1000000)(hbase:base<=w.heap.size)(h:∀g cap w',w'.ownsRow base 9 1 (sl g (n+1) cap) (n+1) (xs++[.string u])->(∀Q,Keeps w w' Q v n)->Onto w v (sl g (n+1) cap)->wpList Tryz.prog ops Q rest (a.put o.dst (sl g (n+1) cap)) w'):wpList Tryz.prog ops Q (o::rest) a w:=by
 refine wpList_plain hgd fun K' hK'=>?_
 obtain⟨g,cap,w',hr,r1,r2,r3⟩:=N9 (ty:=o.type) (c:=c) hown hc hb hbase
 unfold Oper.wp
 simp[execOp,ho,resolve,invoke,builtin,hs,hx,hr,Result.andThen]
 exact hK' _ _ (h g cap w' r1 r2 r3)
theorem IV(a b:ByteArray):(a.toList==b.toList)=decide (b=a):=by
 by_cases h:b=a
 ·subst h
  rw[beq_self_eq_true,decide_eq_true rfl]
 ·rw[decide_eq_false h]
  refine beq_eq_false_iff_ne.2 fun e=>h ?_
  rw[ByteArray.toList_eq,ByteArray.toList_eq]at e
  cases a with
  | mk d=>
   cases b with
   | mk d'=>
    simp only at e
    rw[Array.ext' e]
theorem NS(l:List ByteArray)(x:ByteArray):BQ l x=(l.findIdx? fun y=>decide (y=x)).isSome:=by
 unfold BQ
 rw[List.findIdx?_isSome]
theorem MG(l:List ByteArray)(x:ByteArray)(M:Nat->Prop)(v:Value)(w:World)(hv:StrsV w M v l) :
  Calls Tryz.prog 99 #[v,.string x] w fun e w'=>e=.returned (.int .i64 (match l.findIdx? (fun y=>decide (y=x))with
   | some i=>(i:Int)
   | none=>-1))/\w'=w:=by
 obtain⟨ad,c,rfl,hc1,hc2,hc3,hr⟩:=hv
 unfold maxLen at hc2
 obtain⟨R,HR⟩:∃R:Int,Hid ((match l.findIdx? (fun y=>decide (y=x))with
   | some i=>(i:Int)
   | none=>-1)=R):=⟨_,rfl⟩
 rw[HR.out]
 go_enter Tryz.func99,Tryz.ntmps99
 go_wp2_with fail
 go_loopw [8] (fun s8 wr=>∃(i:Nat),s8=.int .i64 i/\i<=l.length/\wr=w/\Hid (∀j (h:j<i) (h':j<l.length),decide (l[j]=x)=false)) (fun s8 _=>l.length-(intOf s8).toNat)
 case atStart=>exact⟨0,rfl,Z3 _,rfl,fun j h=>by omega⟩
 case round=>
  obtain⟨i,rfl,hi,rfl,HN⟩:=hrel
  by_cases hlt:i<l.length
  ·have hil:(i:Int)<(l.length:Int):=by omega
   have hwi:=Ao (x:=(i:Int)+1) (by omega) (by omega)
   cases ad with
   | none=>have:=hc3 rfl;omega
   | some a=>
    obtain⟨b,o,rfl,hM,hb,hcl⟩:=hr a rfl
    have hcx:=hcl i hlt
    have hbe:=IV x l[i]
    cases hx:decide (l[i]=x)with
    | true=>
     rw[hx]at hbe
     have HE:Hid (R=(i:Int)):=by
      show _=_
      rw[<-HR.out]
      have e:l.findIdx? (fun y=>decide (y=x))=some i:=by
       rw[List.findIdx?_eq_some_iff_getElem]
       exact⟨hlt,hx,fun j hj=>by have:=HN.out j hj (by omega);rw[this];decide⟩
      rw[e]
     clear hcl hr hx
     go_wp2_with fail
     go_ret
     exact⟨by rw[HE.out];rfl,rfl⟩
    | false=>
     rw[hx]at hbe
     have HN2:Hid (∀j (h:j<i+1) (h':j<l.length),decide (l[j]=x)=false):=fun j h h'=>by
      by_cases e:j=i
      ·subst e;exact hx
      ·exact HN.out j (by omega) h'
     clear hcl hr hx HN
     go_wp2_with fail
     exact⟨⟨i+1,by simp,by omega,trivial,HN2⟩,by simp[intOf];omega⟩
  ·have hil:¬(i:Int)<(l.length:Int):=by omega
   have HE:Hid (R=-1):=by
    show _=_
    rw[<-HR.out]
    have e:l.findIdx? (fun y=>decide (y=x))=none:=by
     rw[List.findIdx?_eq_none_iff]
     intro y hy
     obtain⟨j,hj,rfl⟩:=List.getElem_of_mem hy
     exact HN.out j (by omega) hj
    rw[e]
   go_wp2_with fail
   go_ret
   exact⟨by rw[HE.out];rfl,rfl⟩
theorem E9(l:List ByteArray)(x:ByteArray)(M:Nat->Prop)(v:Value)(w:World)(hv:StrsV w M v l) :
  Calls Tryz.prog 79 #[v,.string x] w fun e w'=>e=.returned (.bool (BQ l x))/\w'=w:=by
 have hi:=MG l x M v w hv
 obtain⟨ad,c,rfl,_⟩:=hv
 rw[NS]
 cases hf:l.findIdx? (fun y=>decide (y=x))with
 | some i=>
  rw[hf]at hi
  have h0:(0:Int)<=(i:Int):=by omega
  clear hf
  go_enter Tryz.func79,Tryz.ntmps79
  go_wp2_with (first | (go_at_call 99;refine hi.mono ?_;rintro e w1 ⟨rfl,rfl⟩))
  go_ret
  exact⟨by simp,rfl⟩
 | none=>
  rw[hf]at hi
  clear hf
  go_enter Tryz.func79,Tryz.ntmps79
  go_wp2_with (first | (go_at_call 99;refine hi.mono ?_;rintro e w1 ⟨rfl,rfl⟩))
  go_ret
  exact⟨by simp,rfl⟩
def WObj(w:World)(Q:Nat)(nx mb:Nat)(vp vs v:Value)(own:Nat)(self ret:Bool):Prop:=
 w.heap[Q]?=some (.cells #[.int .i64 (nx:Int),.map (some mb),vp,vs,v,.int .i64 (own:Int),.bool self,.bool ret] 65)
theorem WObj.lt{w:World}{Q nx mb own:Nat}{vp vs v:Value}{self ret:Bool}(h:WObj w Q nx mb vp vs v own self ret):Q<w.heap.size:=(Array.getElem?_eq_some_iff.1 h).1
theorem WObj.cells{w:World}{Q nx mb own:Nat}{vp vs v:Value}{self ret:Bool}(h:WObj w Q nx mb vp vs v own self ret) :
  (w.cell? ⟨Q,0,none⟩=some (.int .i64 (nx:Int))/\w.cell? ⟨Q,1,none⟩=some (.map (some mb))/\w.cell? ⟨Q,2,none⟩=some vp)/\(w.cell? ⟨Q,3,none⟩=some vs/\w.cell? ⟨Q,4,none⟩=some v/\w.cell? ⟨Q,5,none⟩=some (.int .i64 (own:Int))/\w.cell? ⟨Q,6,none⟩=some (.bool self)/\w.cell? ⟨Q,7,none⟩=some (.bool ret)):=
 ⟨⟨cell_of_row _ _ _ _ _ _ h,cell_of_row _ _ _ _ _ _ h,cell_of_row _ _ _ _ _ _ h⟩,cell_of_row _ _ _ _ _ _ h,cell_of_row _ _ _ _ _ _ h,cell_of_row _ _ _ _ _ _ h,cell_of_row _ _ _ _ _ _ h,cell_of_row _ _ _ _ _ _ h⟩
theorem WObj.frozen{w:World}{Q nx mb own:Nat}{vp vs v:Value}{self ret:Bool}(h:WObj w Q nx mb vp vs v own self ret)(j:Nat):w.frozen? ⟨Q,j,none⟩=false:=frozen_of_row _ _ _ _ _ h
theorem WObj.setNext{w:World}{Q nx mb own:Nat}{vp vs v:Value}{self ret:Bool}(h:WObj w Q nx mb vp vs v own self ret)(n:Nat):WObj (w.setCell ⟨Q,0,none⟩ (.int .i64 (n:Int))) Q n mb vp vs v own self ret:=heap_setCell_same _ _ _ _ _ _ h
theorem WObj.setLoc{w:World}{Q nx mb own:Nat}{vp vs v:Value}{self ret:Bool}(h:WObj w Q nx mb vp vs v own self ret)(v':Value):WObj (w.setCell ⟨Q,4,none⟩ v') Q nx mb vp vs v' own self ret:=heap_setCell_same _ _ _ _ _ _ h
theorem WObj.setPlace{w:World}{Q nx mb own:Nat}{vp vs v:Value}{self ret:Bool}(h:WObj w Q nx mb vp vs v own self ret)(vs' v':Value)(own':Nat)(self' ret':Bool):WObj (((((w.setCell ⟨Q,3,none⟩ vs').setCell ⟨Q,4,none⟩ v').setCell ⟨Q,5,none⟩ (.int .i64 (own':Int))).setCell ⟨Q,6,none⟩ (.bool self')).setCell ⟨Q,7,none⟩ (.bool ret')) Q nx mb vp vs' v' own' self' ret':=
 heap_setCell_same _ _ _ _ _ _ (heap_setCell_same _ _ _ _ _ _ (heap_setCell_same _ _ _ _ _ _ (heap_setCell_same _ _ _ _ _ _ (heap_setCell_same _ _ _ _ _ _ h))))
def FB(M:List (ByteArray×Int))(names:List ByteArray):Prop:=∀x,BZ M x=(names.findIdx? fun y=>decide (y=x)).map fun i=>(i:Int)
structure Wk(w:World)(Q BB mb:Nat)(M:List (ByteArray×Int))(vp vs:Value)(E:CN)(own nx:Nat)(L:List ByteArray)(v:Value):Prop where
 obj:WObj w Q nx mb vp vs v own E.inside E.returns
 row:w.ownsRow BB 9 1 v L.length (B5 L)
 slots:StrsV w (fun k=>k<BB/\k≠Q) vs E.slots
 map:w.heap[mb]?=some (Aw M)
 mlt:mb<BB/\mb≠Q
 names:FB M E.names
 qb:Q<BB
 size:BB<=w.heap.size
 own:own<=L.length
 few:L.length<=30
theorem StrsV.keeps{w w':World}{Q BB m:Nat}{v vs:Value}{l:List ByteArray}(h:StrsV w (fun k=>k<BB/\k≠Q) vs l)(hk:Keeps w w' Q v m)(hv:∀g,v.ownBlock=some g->BB<=g):StrsV w' (fun k=>k<BB/\k≠Q) vs l:=by
 obtain⟨ad,c,e,h1,h2,h3,h4⟩:=h
 refine⟨ad,c,e,h1,h2,h3,fun a ea=>?_⟩
 obtain⟨b,o,e2,hm,hb,hc⟩:=h4 a ea
 refine⟨b,o,e2,hm,Z5 hb hk.size,fun i hi=>?_⟩
 rw[World.cell?_of_block (w:=w) (a:=⟨b,o+i,none⟩) (hk.block b hb hm.2 (fun e=>by have:=hv b e;omega))]
 exact hc i hi
theorem Wk.again{w w':World}{Q BB mb own own' nx nx' m:Nat}{M:List (ByteArray×Int)}{vp vs v v':Value}{E E':CN}{L L':List ByteArray}(h:Wk w Q BB mb M vp vs E own nx L v)(hk:Keeps w w' Q v m)(ho:WObj w' Q nx' mb vp vs v' own' E'.inside E'.returns)(hr:w'.ownsRow BB 9 1 v' L'.length (B5 L'))(hs:E'.slots=E.slots)(hn:E'.names=E.names)(h1:own'<=L'.length)(h2:L'.length<=30):Wk w' Q BB mb M vp vs E' own' nx' L' v':=
 ⟨ho,hr,by rw[hs];exact h.slots.keeps hk (fun g e=>(h.row.lt g e).1),by rw[hk.block mb (Z5 h.mlt.1 h.size) h.mlt.2 (fun e=>by have:=(h.row.lt mb e).1;have:=h.mlt.1;omega)];exact h.map,h.mlt,by rw[hn];exact h.names,h.qb,Za h.size hk.size,h1,h2⟩
theorem Wk.below{w w':World}{Q BB mb own nx:Nat}{M:List (ByteArray×Int)}{vp vs v:Value}{E:CN}{L:List ByteArray}(h:Wk w Q BB mb M vp vs E own nx L v)(hb:Below w.heap.size w w'):Wk w' Q BB mb M vp vs E own nx L v:=
 h.again (Keeps.of_below (m:=L.length) hb) ((hb.block Q h.obj.lt).trans h.obj) ((Keeps.of_below hb).own h.row (fun e=>by have:=(h.row.lt Q e).1;have:=h.qb;omega)) rfl rfl h.own h.few
theorem CT{P:Program}{f:FuncId}{args:Array Value}{w:World}{m:Nat}{v:Value}(h:Calls P f args (w.drewN m) fun e w'=>e=.returned v/\w'=w.drewN m):Calls P f args (w.drewN m) fun e w''=>e=.returned v/\∃m',w''=w.drewN m':=
 h.mono fun _ _ ⟨he,hm⟩=>⟨he,m,hm⟩
def F0(f:Int×Int):Value:=.iface 59 (.agg #[.int .i64 f.1,.int .i64 f.2])
theorem FW(c a:Int)(w:World):Calls Tryz.prog 52 #[.int .i64 c,.int .i64 a] w fun e w'=>e=.panicked [{ v:=F0 (c,a),recovered:=false }]/\w'=w:=by
 go_enter Tryz.func52,Tryz.ntmps52
 go_wp2_with fail
 exact⟨rfl,rfl,rfl⟩
theorem JE(Q BB mb own nx:Nat)(M:List (ByteArray×Int))(vp vs v:Value)(E:CN)(L:List ByteArray)(w:World)(h:Wk w Q BB mb M vp vs E own nx L v)(hn:nx<=1000000) :
  Calls Tryz.prog 28 #[.pointer (some ⟨Q,0,none⟩)] w fun e w'=>e=.returned (.int .i64 (nx:Int))/\Wk w' Q BB mb M vp vs E own (nx+1) L v/\w.grownBy w' (some Q):=by
 obtain⟨⟨k0,_,_⟩,_⟩:=h.obj.cells
 have z0:=h.obj.frozen 0
 have hl:=h.obj.lt
 have hw1:=Ao (x:=(nx:Int)+1) (by omega) (by omega)
 have hw2:=Ao (x:=(nx:Int)+1-1) (by omega) (by omega)
 have HG:Hid (w.grownBy (w.setCell ⟨Q,0,none⟩ (.int .i64 ((nx:Int)+1))) (some Q)):=Am w Q 0 _
 have HW:Hid (Wk (w.setCell ⟨Q,0,none⟩ (.int .i64 ((nx:Int)+1))) Q BB mb M vp vs E own (nx+1) L v):=by
  have hk:Keeps w (w.setCell ⟨Q,0,none⟩ (.int .i64 ((nx:Int)+1))) Q v L.length:=Keeps.of_grown HG.out
  exact h.again hk (h.obj.setNext (nx+1)) (hk.own h.row (fun e=>by have:=(h.row.lt Q e).1;have:=h.qb;omega)) rfl rfl h.own h.few
 clear h
 go_enter Tryz.func28,Tryz.ntmps28
 go_wp2_with fail
 go_ret
 exact⟨by first | rfl | simp,HW.out,HG.out⟩
theorem BS{w:World}{B n:Nat}{v:Value}{xs:List Value}{e:TypeId}(h:w.ownsRow B e 1 v n xs):∃ad c,v=.slice ad n c/\n<=c/\c<=maxLen:=by
 rcases h.2 with⟨rfl,rfl⟩ | ⟨g,cap,cur,rfl,_,_,h1,h2,_⟩
 ·exact⟨none,0,rfl,by omega,by unfold maxLen;omega⟩
 ·exact⟨_,cap,rfl,h1,h2⟩
theorem Au(w:World)(x y:Obj):Below w.heap.size w ((w.alloc x).alloc y):=((Zg _ _).alloc (Z0 _) _).alloc (by simp) _
theorem OW(sa ac:Option Addr)(ns cs n c own:Nat)(s r:Bool)(w:World) :
  Calls Tryz.prog 59 #[.agg #[.slice sa ns cs,.slice ac n c,.int .i64 (own:Int),.bool s,.bool r]] w fun e w'=>e=.returned (.agg #[.slice sa ns cs,.slice ac n c,.int .i64 (n:Int),.bool s,.bool r])/\Below w.heap.size w w':=by
 go_enter Tryz.func59,Tryz.ntmps59
 go_wp2_with fail
 exact bodyPost_ret (v:=.agg #[.slice sa ns cs,.slice ac n c,.int .i64 (n:Int),.bool s,.bool r]) (by simp[results,Tryz.results59,go_sem]) rfl ⟨rfl,Au _ _ _⟩
theorem Q3(sa ac:Option Addr)(ns cs n c own:Nat)(s r:Bool)(w:World) :
  Calls Tryz.prog 60 #[.agg #[.slice sa ns cs,.slice ac n c,.int .i64 (own:Int),.bool s,.bool r]] w fun e w'=>e=.returned (.agg #[.slice sa ns cs,.slice ac n c,.int .i64 (own:Int),.bool s,.bool false])/\Below w.heap.size w w':=by
 go_enter Tryz.func60,Tryz.ntmps60
 go_wp2_with fail
 exact bodyPost_ret (v:=.agg #[.slice sa ns cs,.slice ac n c,.int .i64 (own:Int),.bool s,.bool false]) (by simp[results,Tryz.results60,go_sem]) rfl ⟨rfl,Au _ _ _⟩
def Lv(w:World)(Q BB mb:Nat)(M:List (ByteArray×Int))(vp vs:Value)(E:CN)(own:Nat)(v:Value)(m:Nat)(g:Chk StZ)(e:Ending)(w':World):Prop:=match g with
 | .ok y=>∃v',e=.returned (.tuple #[])/\Wk w' Q BB mb M vp vs E own y.1 y.2 v'/\Keeps w w' Q v m/\Onto w v v'/\m<=y.2.length
 | .error f=>e=.panicked [{ v:=F0 f,recovered:=false }]/\Keeps w w' Q v m
theorem StrsV.drewN{w:World}{M:Nat->Prop}{v:Value}{l:List ByteArray}(h:StrsV w M v l)(k:Nat):StrsV (w.drewN k) M v l:=by
 obtain⟨ad,c,e,h1,h2,h3,h4⟩:=h
 refine⟨ad,c,e,h1,h2,h3,fun a ea=>?_⟩
 obtain⟨b,o,e2,hm,hb,hc⟩:=h4 a ea
 exact⟨b,o,e2,hm,by simpa using hb,fun i hi=>by rw[World.cell?_drewN];exact hc i hi⟩
theorem Sr{w:World}{B g n c:Nat}{L:List ByteArray}(h:w.ownsRow B 9 1 (.slice (some ⟨g,0,none⟩) n c) n (B5 L))(hn:n=L.length){own:Nat}(ho:own<=n):StrsV w (fun k=>B<=k) (.slice (if c=own then some ⟨g,0,none⟩else some ⟨g,own,none⟩) (n-own) (c-own)) (L.drop own):=by
 subst hn
 obtain⟨ad,c',e,h1,h2,h3,h4⟩:=EH h
 injection e with e1 e2 e3
 subst e3
 obtain⟨b,o,e4,hm,hb,hc⟩:=h4 ⟨g,0,none⟩ e1.symm
 injection e4 with e5 e6
 subst e5 e6
 by_cases hco:c=own
 ·rw[if_pos hco]
  refine⟨_,_,by rw[List.length_drop],by rw[List.length_drop];omega,by omega,fun e=>(by cases e),fun a ea=>?_⟩
  cases ea
  exact⟨g,0,rfl,hm,hb,fun i hi=>by rw[List.length_drop]at hi;omega⟩
 ·rw[if_neg hco]
  refine⟨_,_,by rw[List.length_drop],by rw[List.length_drop];omega,by omega,fun e=>(by cases e),fun a ea=>?_⟩
  cases ea
  refine⟨g,own,rfl,hm,hb,fun i hi=>?_⟩
  have hi':=hi
  rw[List.length_drop]at hi'
  have:=hc (own+i) (by omega)
  rw[Nat.zero_add]at this
  rw[this,List.getElem_drop]
theorem PY(Q BB mb own nx:Nat)(M:List (ByteArray×Int))(vp vs v:Value)(E:CN)(L:List ByteArray)(x:ByteArray)(at':Nat)(w:World)(h:Wk w Q BB mb M vp vs E own nx L v) :
  Calls Tryz.prog 62 #[.pointer (some ⟨Q,0,none⟩),.string x,.int .i64 (at':Int)] w fun e w'=>Lv w Q BB mb M vp vs E own v L.length ((Ds own x at' L).then fun L'=>.ok (nx,L')) e w':=by
 obtain⟨⟨k0,k1,k2⟩,k3,k4,k5,k6,k7⟩:=h.obj.cells
 have hl:=h.obj.lt
 have z4:=h.obj.frozen 4
 have hown:=h.own
 have hfew:=h.few
 have HW:Hid (Wk w Q BB mb M vp vs E own nx L v):=h
 obtain⟨ad,c,hv,hc1,hc2⟩:=BS h.row
 subst hv
 unfold maxLen at hc2
 have hth:=FW
 have hoi:(own:Int)<=(L.length:Int):=by omega
 have hci:(L.length:Int)<=(c:Int):=by omega
 cases ad with
 | none=>
  obtain⟨rfl,rfl⟩:L=[]/\c=0:=by
   rcases h.row.2 with⟨e,h0⟩ | ⟨g,cap,cur,e,_⟩
   ·injection e with _ _ e3
    exact⟨Zd h0,e3⟩
   ·cases e
  have ho0:own=0:=by simp at hown;exact hown
  subst ho0
  have hsub:∀k,StrsV (w.drewN k) (fun _=>True) (.slice none 0 0) []:=fun k=>⟨none,0,rfl,by simp,by unfold maxLen;omega,fun _=>rfl,fun a e=>by cases e⟩
  have hcn:=fun k=>E9 [] x _ _ _ (hsub k)
  rw[show BQ [] x=false from rfl]at hcn
  have HE:Hid (Ds 0 x at' []=.ok ([]++[x])):=by show _=_;unfold Ds;rw[if_neg (by simp[BQ]),if_neg (by simp)]
  clear hsub h hown hfew hoi hci
  simp only[List.length_nil]at *
  go_enter Tryz.func62,Tryz.ntmps62
  go_wp2_with fail
  go_quiet ((go_at_call 79;exact CT (hcn _)))
  have HWD:Hid (Wk (w.drewN nq) Q BB mb M vp vs E 0 nx [] (.slice none 0 0)):=HW.out.below (Ar _ _)
  obtain⟨wd,ewd⟩:∃wd,wd=w.drewN nq:=⟨_,rfl⟩
  have HKD:Hid (∀m,Keeps w wd Q (.slice none 0 0) m):=fun m=>by rw[ewd];exact Keeps.of_below (Ar _ _)
  rw[<-ewd]at HWD⊢
  clear ewd
  obtain⟨⟨_,_,_⟩,_,p4,p5,_,_⟩:=HWD.out.obj.cells
  have hld:=HWD.out.obj.lt
  have zd:=HWD.out.obj.frozen 4
  have hsd:=HWD.out.size
  go_wp2_with (first
   | (at_builtin;refine Eg rfl (.tmp 35) (.tmp 37) rfl BB 0 1 (.slice none 0 0) [] x rfl (Zl _ _ _ _) ⟨wd.heap.size,0,none⟩ rfl (by simp) (by omega) (by simp;omega) ?_;intro g' cap' w7 O7 hk7 hon7;have hQ7:w7.heap[Q]?=wd.heap[Q]?:=((hk7 (Q+1)).block Q (by simp;omega) (by omega) (fun e=>by cases e)).trans (((Zg _ wd).alloc (Z0 _) _).block Q hld);have ho7:WObj w7 Q nx mb vp vs (.slice none 0 0) 0 E.inside E.returns:=hQ7.trans HWD.out.obj;have z7:=ho7.frozen 4;have hl7:=ho7.lt;obtain⟨_,_,y4,_⟩:=ho7.cells))
  have hkA:Keeps wd (wd.alloc (.cells #[.string x] 9)) Q (.slice none 0 0) 0:=Keeps.of_below ((Zg _ _).alloc (Z0 _) _)
  have hkB:=(hkA.trans (hk7 Q) (Or.inl rfl) (fun _=>Z0 _)).trans (Keeps.of_grown (m:=0) (v:=.slice none 0 0) (Am w7 Q 4 (.slice (some ⟨g',0,none⟩) (0+1) cap'))) (Or.inl rfl) (fun _=>Z0 _)
  have hqn:(Value.slice (some ⟨g',0,none⟩) (0+1) cap').ownBlock≠some Q:=fun e=>by have:=(O7.lt Q e).1;have:=HWD.out.qb;omega
  have hr8:=(Keeps.of_grown (m:=0+1) (v:=.slice (some ⟨g',0,none⟩) (0+1) cap') (Am w7 Q 4 (.slice (some ⟨g',0,none⟩) (0+1) cap'))).own O7 hqn
  refine bodyPost_end (v:=.tuple #[]) (by simp[results,Tryz.results62,go_sem]) rfl ?_
  rw[HE.out]
  exact⟨_,rfl,HWD.out.again (L':=[]++[x]) hkB (ho7.setLoc _) hr8 rfl rfl (Z3 _) (by simp),(HKD.out 0).trans hkB (Or.inl rfl) (fun _=>Z0 _),(Onto.refl w _).trans hon7 (by have:=(HKD.out 0).size;simp;omega),Z3 _⟩
 | some a=>
  obtain⟨g,hg⟩:∃g,a=⟨g,0,none⟩:=by
   rcases h.row.2 with⟨e,_⟩ | ⟨g,cap,cur,e,_⟩
   ·cases e
   ·injection e with e1 _ _;injection e1 with e1;exact⟨g,e1⟩
  subst hg
  have hsub:=fun k=>(Sr h.row rfl hown).drewN k
  obtain⟨ta,hta⟩:∃ta:Option Addr,(if c=own then some (⟨g,0,none⟩:Addr)else some ⟨g,own,none⟩)=ta:=⟨_,rfl⟩
  rw[hta]at hsub
  clear h
  cases hh:BQ (L.drop own) x with
  | true=>
   have HE:Hid (Ds own x at' L=.error (5,(at':Int))):=by show _=_;unfold Ds;rw[if_pos hh]
   have hcn:=fun k=>E9 (L.drop own) x _ _ _ (hsub k)
   rw[hh]at hcn
   clear hsub hh
   go_enter Tryz.func62,Tryz.ntmps62
   go_wp2_with fail
   go_quiet ((go_at_call 79;exact CT (hcn _)))
   go_wp2_with (first | (go_at_call 52;refine(hth _ _ _).mono ?_;rintro e w1 ⟨rfl,rfl⟩))
   refine⟨rfl,?_⟩
   rw[HE.out]
   exact⟨rfl,Keeps.of_below (Ar _ _)⟩
  | false=>
   have hcn:=fun k=>E9 (L.drop own) x _ _ _ (hsub k)
   rw[hh]at hcn
   by_cases h30:L.length=30
   ·have HE:Hid (Ds own x at' L=.error (1,(at':Int))):=by show _=_;unfold Ds;rw[hh,if_neg (by decide),if_pos h30]
    have h30i:((L.length:Int)==30)=true:=by rw[h30];decide
    clear hsub hh h30
    go_enter Tryz.func62,Tryz.ntmps62
    go_wp2_with fail
    go_quiet ((go_at_call 79;exact CT (hcn _)))
    go_wp2_with (first | (go_at_call 52;refine(hth _ _ _).mono ?_;rintro e w1 ⟨rfl,rfl⟩))
    refine⟨rfl,?_⟩
    rw[HE.out]
    exact⟨rfl,Keeps.of_below (Ar _ _)⟩
   ·have HE:Hid (Ds own x at' L=.ok (L++[x])):=by show _=_;unfold Ds;rw[hh,if_neg (by decide),if_neg h30]
    have h30i:((L.length:Int)==30)=false:=by simp;omega
    have HLL:Hid (L.length+1<=30):=(by show L.length+1<=30;omega)
    clear hsub hh h30
    go_enter Tryz.func62,Tryz.ntmps62
    go_wp2_with fail
    go_quiet ((go_at_call 79;exact CT (hcn _)))
    have HWD:Hid (Wk (w.drewN nq) Q BB mb M vp vs E own nx L (.slice (some ⟨g,0,none⟩) L.length c)):=HW.out.below (Ar _ _)
    obtain⟨wd,ewd⟩:∃wd,wd=w.drewN nq:=⟨_,rfl⟩
    have HKD:Hid (∀m,Keeps w wd Q (.slice (some ⟨g,0,none⟩) L.length c) m):=fun m=>by rw[ewd];exact Keeps.of_below (Ar _ _)
    rw[<-ewd]at HWD⊢
    clear ewd
    obtain⟨⟨_,_,_⟩,_,p4,p5,_,_⟩:=HWD.out.obj.cells
    have hld:=HWD.out.obj.lt
    have zd:=HWD.out.obj.frozen 4
    have hsd:=HWD.out.size
    go_wp2_with (first
     | (at_builtin;refine Eg rfl (.tmp 35) (.tmp 37) rfl BB L.length 1 (.slice (some ⟨g,0,none⟩) L.length c) (B5 L) x rfl (HWD.out.row.alloc (.cells #[.string x] 9)) ⟨wd.heap.size,0,none⟩ rfl (by simp) (by omega) (by simp;omega) ?_;intro g' cap' w7 O7 hk7 hon7;have hQ7:w7.heap[Q]?=wd.heap[Q]?:=((hk7 (Q+1)).block Q (by simp;omega) (by omega) (fun e=>by have:=(HWD.out.row.lt Q e).1;have:=HWD.out.qb;omega)).trans (((Zg _ wd).alloc (Z0 _) _).block Q hld);have ho7:WObj w7 Q nx mb vp vs (.slice (some ⟨g,0,none⟩) L.length c) own E.inside E.returns:=hQ7.trans HWD.out.obj;have z7:=ho7.frozen 4;have hl7:=ho7.lt;obtain⟨_,_,y4,_⟩:=ho7.cells))
    have hkA:Keeps wd (wd.alloc (.cells #[.string x] 9)) Q (.slice (some ⟨g,0,none⟩) L.length c) L.length:=Keeps.of_below ((Zg _ _).alloc (Z0 _) _)
    have hkB:=(hkA.trans (hk7 Q) (Or.inl rfl) (fun _=>Z0 _)).trans (Keeps.of_grown (m:=L.length) (v:=(.slice (some ⟨g,0,none⟩) L.length c)) (Am w7 Q 4 (.slice (some ⟨g',0,none⟩) (L.length+1) cap'))) (Or.inl rfl) (fun _=>Z0 _)
    have hqn:(Value.slice (some ⟨g',0,none⟩) (L.length+1) cap').ownBlock≠some Q:=fun e=>by have:=(O7.lt Q e).1;have:=HWD.out.qb;omega
    have hr8:=(Keeps.of_grown (m:=L.length+1) (v:=.slice (some ⟨g',0,none⟩) (L.length+1) cap') (Am w7 Q 4 (.slice (some ⟨g',0,none⟩) (L.length+1) cap'))).own O7 hqn
    refine bodyPost_end (v:=.tuple #[]) (by simp[results,Tryz.results62,go_sem]) rfl ?_
    rw[HE.out]
    exact⟨_,rfl,HWD.out.again (L':=L++[x]) hkB (ho7.setLoc _) (by rw[Z1,GF];exact hr8) rfl rfl (by rw[Z1];omega) (by rw[Z1];exact HLL.out),(HKD.out L.length).trans hkB (Or.inl rfl) (fun _=>Z0 _),(Onto.refl w (.slice (some ⟨g,0,none⟩) L.length c)).trans hon7 (by have:=(HKD.out 0).size;simp;omega),by rw[Z1];omega⟩
def V0(w:World)(g:Chk Unit)(e:Ending)(w':World):Prop:=Below w.heap.size w w'/\match g with
 | .ok _=>e=.returned (.tuple #[])
 | .error f=>e=.panicked [{ v:=F0 f,recovered:=false }]
theorem St(Q BB mb own nx:Nat)(M:List (ByteArray×Int))(vp vs v:Value)(E:CN)(L:List ByteArray)(k:Int)(x:ByteArray)(num:Int)(ka:Option Addr)(kn kc:Nat)(at':Nat)(w:World)(h:Wk w Q BB mb M vp vs E own nx L v) :
  Calls Tryz.prog 57 #[.pointer (some ⟨Q,0,none⟩),.agg #[.int .i64 k,.string x,.int .i64 num,.slice ka kn kc],.int .i64 (at':Int)] w fun e w'=>V0 w (C9 E L k x at') e w':=by
 obtain⟨ad,c,hv,hc1,hc2⟩:=BS h.row
 subst hv
 have hs:=h.slots
 obtain⟨sd,sc,hvs,_⟩:=hs
 subst hvs
 have h1:=h.below ((Zg _ w).alloc (Z0 _) (.cells #[.int .i64 k,.string x,.int .i64 num,.slice ka kn kc] 39))
 have hB1:Below w.heap.size w (w.alloc (.cells #[.int .i64 k,.string x,.int .i64 num,.slice ka kn kc] 39)):=(Zg _ w).alloc (Z0 _) _
 have hcL:=fun j=>E9 L x _ _ _ ((EH h1.row).drewN j)
 have hcS:=fun j=>E9 E.slots x _ _ _ (h1.slots.drewN j)
 obtain⟨⟨k0,k1,k2⟩,k3,k4,k5,k6,k7⟩:=h1.obj.cells
 have hl:=h1.obj.lt
 have hth:=FW
 have hlk:=fun(w':World) (e:w'.heap[mb]?=some (Aw M))=>G2 e x
 have hmp:=h1.map
 have hnm:=h1.names x
 have hb0:(w.alloc (.cells #[.int .i64 k,.string x,.int .i64 num,.slice ka kn kc] 39)).heap[w.heap.size]?=some (.cells #[.int .i64 k,.string x,.int .i64 num,.slice ka kn kc] 39):=heap_alloc_new w _
 by_cases e1:k=8\/k=31
 ·have hsw:(k==8)=true\/((k==8)=false/\(k==31)=true):=by
   rcases e1 with rfl | rfl
   ·exact Or.inl (by decide)
   ·exact Or.inr ⟨by decide,by decide⟩
  have HE:Hid (C9 E L k x at'=if BQ L x=false/\BQ E.slots x=false then .error (14,(at':Int))else .ok ()):=by
   show _=_
   unfold C9
   by_cases hh:BQ L x=false/\BQ E.slots x=false
   ·rw[if_pos ⟨e1,hh⟩,if_pos hh]
   ·rw[if_neg (fun z=>hh z.2),if_neg hh,if_neg (fun z=>by omega),if_neg (fun z=>by omega),if_neg (fun z=>by omega)]
  clear hlk hmp hnm e1
  rcases hsw with ha | ⟨ha,hb⟩
  ·cases hL:BQ L x with
   | true=>
    cases hS:BQ E.slots x with
    | true=>
     have hcL2:=hcL
     have hcS2:=hcS
     rw[hL]at hcL2
     rw[hS]at hcS2
     have HE2:Hid (C9 E L k x at'=.ok ()):=by have h:=HE.out;rw[hL,hS]at h;exact h
     clear HE hL hS hcL hcS
     go_enter Tryz.func57,Tryz.ntmps57
     go_wp2_with fail
     go_quiet ((go_at_call 79;first | exact CT (hcL2 _) | exact CT (hcS2 _)))
     go_wp2_with fail
     refine bodyPost_end (v:=.tuple #[]) (by simp[results,Tryz.results57,go_sem]) rfl ⟨hB1.trans ((Ar _ _).mono hB1.size),?_⟩
     rw[HE2.out]
    | false=>
     have hcL2:=hcL
     have hcS2:=hcS
     rw[hL]at hcL2
     rw[hS]at hcS2
     have HE2:Hid (C9 E L k x at'=.ok ()):=by have h:=HE.out;rw[hL,hS]at h;exact h
     clear HE hL hS hcL hcS
     go_enter Tryz.func57,Tryz.ntmps57
     go_wp2_with fail
     go_quiet ((go_at_call 79;first | exact CT (hcL2 _) | exact CT (hcS2 _)))
     go_wp2_with fail
     refine bodyPost_end (v:=.tuple #[]) (by simp[results,Tryz.results57,go_sem]) rfl ⟨hB1.trans ((Ar _ _).mono hB1.size),?_⟩
     rw[HE2.out]
   | false=>
    cases hS:BQ E.slots x with
    | true=>
     have hcL2:=hcL
     have hcS2:=hcS
     rw[hL]at hcL2
     rw[hS]at hcS2
     have HE2:Hid (C9 E L k x at'=.ok ()):=by have h:=HE.out;rw[hL,hS]at h;exact h
     clear HE hL hS hcL hcS
     go_enter Tryz.func57,Tryz.ntmps57
     go_wp2_with fail
     go_quiet ((go_at_call 79;first | exact CT (hcL2 _) | exact CT (hcS2 _)))
     go_wp2_with fail
     refine bodyPost_end (v:=.tuple #[]) (by simp[results,Tryz.results57,go_sem]) rfl ⟨hB1.trans ((Ar _ _).mono hB1.size),?_⟩
     rw[HE2.out]
    | false=>
     have hcL2:=hcL
     have hcS2:=hcS
     rw[hL]at hcL2
     rw[hS]at hcS2
     have HE2:Hid (C9 E L k x at'=.error (14,(at':Int))):=by have h:=HE.out;rw[hL,hS]at h;exact h
     clear HE hL hS hcL hcS
     go_enter Tryz.func57,Tryz.ntmps57
     go_wp2_with fail
     go_quiet ((go_at_call 79;first | exact CT (hcL2 _) | exact CT (hcS2 _)))
     go_wp2_with (first | (go_at_call 52;refine(hth _ _ _).mono ?_;rintro e w1 ⟨rfl,rfl⟩))
     refine⟨rfl,hB1.trans ((Ar _ _).mono hB1.size),?_⟩
     rw[HE2.out]
  ·cases hL:BQ L x with
   | true=>
    cases hS:BQ E.slots x with
    | true=>
     have hcL2:=hcL
     have hcS2:=hcS
     rw[hL]at hcL2
     rw[hS]at hcS2
     have HE2:Hid (C9 E L k x at'=.ok ()):=by have h:=HE.out;rw[hL,hS]at h;exact h
     clear HE hL hS hcL hcS
     go_enter Tryz.func57,Tryz.ntmps57
     go_wp2_with fail
     go_quiet ((go_at_call 79;first | exact CT (hcL2 _) | exact CT (hcS2 _)))
     go_wp2_with fail
     refine bodyPost_end (v:=.tuple #[]) (by simp[results,Tryz.results57,go_sem]) rfl ⟨hB1.trans ((Ar _ _).mono hB1.size),?_⟩
     rw[HE2.out]
    | false=>
     have hcL2:=hcL
     have hcS2:=hcS
     rw[hL]at hcL2
     rw[hS]at hcS2
     have HE2:Hid (C9 E L k x at'=.ok ()):=by have h:=HE.out;rw[hL,hS]at h;exact h
     clear HE hL hS hcL hcS
     go_enter Tryz.func57,Tryz.ntmps57
     go_wp2_with fail
     go_quiet ((go_at_call 79;first | exact CT (hcL2 _) | exact CT (hcS2 _)))
     go_wp2_with fail
     refine bodyPost_end (v:=.tuple #[]) (by simp[results,Tryz.results57,go_sem]) rfl ⟨hB1.trans ((Ar _ _).mono hB1.size),?_⟩
     rw[HE2.out]
   | false=>
    cases hS:BQ E.slots x with
    | true=>
     have hcL2:=hcL
     have hcS2:=hcS
     rw[hL]at hcL2
     rw[hS]at hcS2
     have HE2:Hid (C9 E L k x at'=.ok ()):=by have h:=HE.out;rw[hL,hS]at h;exact h
     clear HE hL hS hcL hcS
     go_enter Tryz.func57,Tryz.ntmps57
     go_wp2_with fail
     go_quiet ((go_at_call 79;first | exact CT (hcL2 _) | exact CT (hcS2 _)))
     go_wp2_with fail
     refine bodyPost_end (v:=.tuple #[]) (by simp[results,Tryz.results57,go_sem]) rfl ⟨hB1.trans ((Ar _ _).mono hB1.size),?_⟩
     rw[HE2.out]
    | false=>
     have hcL2:=hcL
     have hcS2:=hcS
     rw[hL]at hcL2
     rw[hS]at hcS2
     have HE2:Hid (C9 E L k x at'=.error (14,(at':Int))):=by have h:=HE.out;rw[hL,hS]at h;exact h
     clear HE hL hS hcL hcS
     go_enter Tryz.func57,Tryz.ntmps57
     go_wp2_with fail
     go_quiet ((go_at_call 79;first | exact CT (hcL2 _) | exact CT (hcS2 _)))
     go_wp2_with (first | (go_at_call 52;refine(hth _ _ _).mono ?_;rintro e w1 ⟨rfl,rfl⟩))
     refine⟨rfl,hB1.trans ((Ar _ _).mono hB1.size),?_⟩
     rw[HE2.out]
 ·have n8:(k==8)=false:=by simp;omega
  have n31:(k==31)=false:=by simp;omega
  have HE1:Hid (C9 E L k x at'=if k=30/\BQ E.names x=false then .error (14,(at':Int))else if k=28/\E.inside=false then .error (3,(at':Int))else if k=11/\E.returns=false then .error (3,(at':Int))else .ok ()):=by
   show _=_
   unfold C9
   rw[if_neg (fun z=>e1 z.1)]
  by_cases e30:k=30
  ·subst e30
   have hfx:(BZ M x).isSome=BQ E.names x:=by rw[hnm,NS];cases E.names.findIdx? (fun y=>decide (y=x))<;>rfl
   have hlk1:=fun j=>hlk ((w.alloc (.cells #[.int .i64 30,.string x,.int .i64 num,.slice ka kn kc] 39)).drewN j) (by simpa using hmp)
   have hlk0:=hlk (w.alloc (.cells #[.int .i64 30,.string x,.int .i64 num,.slice ka kn kc] 39)) hmp
   rw[hfx]at hlk0
   simp only[hfx]at hlk1
   clear hlk hmp hnm hcL hcS
   cases hN:BQ E.names x with
   | true=>
    rw[hN]at hlk0
    simp only[hN]at hlk1
    have HE2:Hid (C9 E L 30 x at'=.ok ()):=by have h:=HE1.out;rw[hN,if_neg (fun z=>by cases z.2),if_neg (fun z=>by omega),if_neg (fun z=>by omega)]at h;exact h
    clear HE1 hN hfx
    go_enter Tryz.func57,Tryz.ntmps57
    go_wp2_with fail
    go_quiet (fail)
    go_wp2_with fail
    refine bodyPost_end (v:=.tuple #[]) (by simp[results,Tryz.results57,go_sem]) rfl ⟨hB1.trans ((Ar _ _).mono hB1.size),?_⟩
    rw[HE2.out]
   | false=>
    rw[hN]at hlk0
    simp only[hN]at hlk1
    have HE2:Hid (C9 E L 30 x at'=.error (14,(at':Int))):=by have h:=HE1.out;rw[hN,if_pos ⟨rfl,rfl⟩]at h;exact h
    clear HE1 hN hfx
    go_enter Tryz.func57,Tryz.ntmps57
    go_wp2_with fail
    go_quiet (fail)
    go_wp2_with (first | (go_at_call 52;refine(hth _ _ _).mono ?_;rintro e w1 ⟨rfl,rfl⟩))
    refine⟨rfl,hB1.trans ((Ar _ _).mono hB1.size),?_⟩
    rw[HE2.out]
  ·have n30:(k==30)=false:=by simp;omega
   by_cases e28:k=28
   ·subst e28
    cases hI:E.inside with
    | true=>
     rw[hI]at k6
     have HE2:Hid (C9 E L 28 x at'=.ok ()):=by have h:=HE1.out;rw[hI,if_neg (fun z=>by omega),if_neg (fun z=>by cases z.2),if_neg (fun z=>by omega)]at h;exact h
     clear HE1 hI hcL hcS hlk hnm hmp
     go_enter Tryz.func57,Tryz.ntmps57
     go_wp2_with (first | (go_at_call 52;refine(hth _ _ _).mono ?_;rintro e w1 ⟨rfl,rfl⟩))
     refine bodyPost_end (v:=.tuple #[]) (by simp[results,Tryz.results57,go_sem]) rfl ⟨hB1,?_⟩
     rw[HE2.out]
    | false=>
     rw[hI]at k6
     have HE2:Hid (C9 E L 28 x at'=.error (3,(at':Int))):=by have h:=HE1.out;rw[hI,if_neg (fun z=>by omega),if_pos ⟨rfl,rfl⟩]at h;exact h
     clear HE1 hI hcL hcS hlk hnm hmp
     go_enter Tryz.func57,Tryz.ntmps57
     go_wp2_with (first | (go_at_call 52;refine(hth _ _ _).mono ?_;rintro e w1 ⟨rfl,rfl⟩))
     refine⟨rfl,hB1,?_⟩
     rw[HE2.out]
   ·have n28:(k==28)=false:=by simp;omega
    by_cases e11:k=11
    ·subst e11
     cases hI:E.returns with
     | true=>
      rw[hI]at k7
      have HE2:Hid (C9 E L 11 x at'=.ok ()):=by have h:=HE1.out;rw[hI,if_neg (fun z=>by omega),if_neg (fun z=>by omega),if_neg (fun z=>by cases z.2)]at h;exact h
      clear HE1 hI hcL hcS hlk hnm hmp
      go_enter Tryz.func57,Tryz.ntmps57
      go_wp2_with (first | (go_at_call 52;refine(hth _ _ _).mono ?_;rintro e w1 ⟨rfl,rfl⟩))
      refine bodyPost_end (v:=.tuple #[]) (by simp[results,Tryz.results57,go_sem]) rfl ⟨hB1,?_⟩
      rw[HE2.out]
     | false=>
      rw[hI]at k7
      have HE2:Hid (C9 E L 11 x at'=.error (3,(at':Int))):=by have h:=HE1.out;rw[hI,if_neg (fun z=>by omega),if_neg (fun z=>by omega),if_pos ⟨rfl,rfl⟩]at h;exact h
      clear HE1 hI hcL hcS hlk hnm hmp
      go_enter Tryz.func57,Tryz.ntmps57
      go_wp2_with (first | (go_at_call 52;refine(hth _ _ _).mono ?_;rintro e w1 ⟨rfl,rfl⟩))
      refine⟨rfl,hB1,?_⟩
      rw[HE2.out]
    ·have n11:(k==11)=false:=by simp;omega
     have HE2:Hid (C9 E L k x at'=.ok ()):=by have h:=HE1.out;rw[if_neg (fun z=>e30 z.1),if_neg (fun z=>e28 z.1),if_neg (fun z=>e11 z.1)]at h;exact h
     clear HE1 hcL hcS hlk hnm hmp
     go_enter Tryz.func57,Tryz.ntmps57
     go_wp2_with (first | (go_at_call 52;refine(hth _ _ _).mono ?_;rintro e w1 ⟨rfl,rfl⟩))
     refine bodyPost_end (v:=.tuple #[]) (by simp[results,Tryz.results57,go_sem]) rfl ⟨hB1,?_⟩
     rw[HE2.out]
mutual
theorem LD:∀(n:Nd) (E:CN) (own:Nat) (s y:StZ),DW E own n s=.ok y->y.1=s.1+A0 n
 | .mk k x m ks,E,own,s,y,h=>by
  have e:A0 (.mk k x m ks)=1+A2 ks:=by conv=>lhs;unfold A0
  rw[e]
  unfold DW at h
  cases hl:C9 E s.2 k (strOfNums x) s.1 with
  | error f=>rw[hl]at h;cases h
  | ok _=>
   rw[hl,chk_ok]at h
   split at h
   ·cases hk:At E s.2.length ks (s.1+1,s.2)with
    | error f=>rw[hk]at h;cases h
    | ok z=>
     have:=Fm ks _ _ _ _ hk
     rw[hk,chk_ok]at h
     cases h
     show z.1=_
     rw[this]
     show s.1+1+_=_
     omega
   ·split at h
    ·cases hk:At { E with returns:=false } own ks (s.1+1,s.2)with
     | error f=>rw[hk]at h;cases h
     | ok z=>
      have:=Fm ks _ _ _ _ hk
      rw[hk,chk_ok]at h
      cases h
      show z.1=_
      rw[this]
      show s.1+1+_=_
      omega
    ·cases hk:At E own ks (s.1+1,s.2)with
     | error f=>rw[hk]at h;cases h
     | ok z=>
      have:=Fm ks _ _ _ _ hk
      rw[hk,chk_ok]at h
      have e1:y.1=z.1:=by
       split at h
       ·cases ha:Ds own (strOfNums x) s.1 z.2 with
        | error f=>rw[ha]at h;cases h
        | ok L=>rw[ha,chk_ok]at h;cases h;rfl
       ·cases h;rfl
      rw[e1,this]
      show s.1+1+_=_
      omega
theorem Fm:∀(ks:List Nd) (E:CN) (own:Nat) (s y:StZ),At E own ks s=.ok y->y.1=s.1+A2 ks
 | [],E,own,s,y,h=>by
  unfold At at h
  cases h
  unfold A2
  rfl
 | n::ns,E,own,s,y,h=>by
  have e:A2 (n::ns)=A0 n+A2 ns:=by conv=>lhs;unfold A2
  rw[e]
  unfold At at h
  cases hn:DW E own n s with
  | error f=>rw[hn]at h;cases h
  | ok z=>
   rw[hn,chk_ok]at h
   have h1:=LD n _ _ _ _ hn
   have h2:=Fm ns _ _ _ _ h
   rw[h2,h1]
   omega
end
abbrev Low (BB Q:Nat):Nat->Prop:=fun k=>k<BB/\k≠Q
theorem I0{w w':World}{Q BB m:Nat}{v:Value}(hk:Keeps w w' Q v m)(hv:∀g,v.ownBlock=some g->BB<=g):Above (Low BB Q) w w':=⟨hk.size,fun k h1 h2=>hk.block k h2 h1.2 (fun e=>by have:=hv k e;omega)⟩
theorem EL:∀ks:List Nd,ks.length<=A2 ks
 | []=>Z3 _
 | k::ks=>by
  have h:=EL ks
  have e:A2 (k::ks)=A0 k+A2 ks:=by conv=>lhs;unfold A2
  have hk:1<=A0 k:=by cases k with | mk a b c d=>unfold A0;omega
  rw[e,List.length_cons]
  omega
def JH(Q BB mb:Nat)(M:List (ByteArray×Int))(vp vs:Value)(n:Nd):Prop:=∀(E:CN) (own nx:Nat) (L:List ByteArray) (v u:Value) (w:World),Wk w Q BB mb M vp vs E own nx L v->NodeV w (Low BB Q) u n->nx+A0 n<=100000 ->
 Calls Tryz.prog 30 #[.pointer (some ⟨Q,0,none⟩),u] w fun e w'=>Lv w Q BB mb M vp vs E own v L.length (DW E own n (nx,L)) e w'
theorem I1(Q BB mb:Nat)(M:List (ByteArray×Int))(vp vs:Value)(ks:List Nd)(hks:∀i (h:i<ks.length),JH Q BB mb M vp vs ks[i])(E:CN)(own nx:Nat)(L:List ByteArray)(v u:Value)(w:World)(h:Wk w Q BB mb M vp vs E own nx L v)(hu:KidsV w (Low BB Q) u ks)(hn:nx+A2 ks<=100000) :
  Calls Tryz.prog 61 #[.pointer (some ⟨Q,0,none⟩),u] w fun e w'=>Lv w Q BB mb M vp vs E own v L.length (At E own ks (nx,L)) e w':=by
 obtain⟨ad,c0,hu1,hkk⟩:=hu
 obtain⟨c,hcc⟩:∃c,c0+ks.length=c:=⟨_,rfl⟩
 rw[hcc]at hu1
 clear hcc
 subst hu1
 have hkl:=EL ks
 obtain⟨R,HR⟩:∃R,Hid (At E own ks (nx,L)=R):=⟨_,rfl⟩
 rw[HR.out]
 have HW:Hid (Wk w Q BB mb M vp vs E own nx L v):=h
 have HKK:Hid (0<ks.length->∃b o,ad=some ⟨b,o,none⟩/\Low BB Q b/\b<w.heap.size/\NodesAt w (Low BB Q) b o ks):=hkk
 have HN:Hid (nx+A2 ks<=100000):=hn
 have HVB:Hid (∀g,v.ownBlock=some g->BB<=g):=fun g e=>(h.row.lt g e).1
 have HKS:Hid (∀i (h:i<ks.length),JH Q BB mb M vp vs ks[i]):=hks
 have hlen:ks.length<=100000:=by omega
 clear h hkk hn hks hkl
 go_enter Tryz.func61,Tryz.ntmps61
 go_wp2_with fail
 go_loopw [8] (fun s8 wr=>∃(i nx1:Nat) (L1:List ByteArray) (v1:Value),s8=.int .i64 i/\i<=ks.length/\Hid (At E own (ks.drop i) (nx1,L1)=R)/\Hid (nx1+A2 (ks.drop i)<=100000)/\Hid (Wk wr Q BB mb M vp vs E own nx1 L1 v1)/\Hid (Keeps w wr Q v L.length)/\Hid (Onto w v v1)/\Hid (L.length<=L1.length)) (fun s8 _=>100001-(intOf s8).toNat)
 case atStart=>exact⟨0,nx,L,v,rfl,Z3 _,HR,HN,HW,Keeps.refl _ _ _ _,Onto.refl _ _,Z0 _⟩
 case round=>
  obtain⟨i,nx1,L1,v1,rfl,hi,HR1,HN1,HW1,HK1,HO1,HL1⟩:=hrel
  by_cases hlt:i<ks.length
  ·have hil:(i:Int)<(ks.length:Int):=by omega
   have hwi:=Ao (x:=(i:Int)+1) (by omega) (by omega)
   obtain⟨b,o,rfl,hMb,hbw,hnodes⟩:=HKK.out (by omega)
   have hab:=I0 HK1.out HVB.out
   have hkw:NodesAt wr (Low BB Q) b o ks:=NodesAt.above hab ks b o hMb hbw hnodes
   obtain⟨x,hkx,c0,c1,c2,c3⟩:=CV hkw hlt
   have hkx2:=hkx
   obtain⟨adx,cx0,hxx,_⟩:=hkx2
   obtain⟨cx,hcx⟩:∃cx,cx0+ks[i].kids.length=cx:=⟨_,rfl⟩
   rw[hcx]at hxx
   clear hcx
   have hbr:b<wr.heap.size:=by have:=hab.size;omega
   have hdr:ks.drop i=ks[i]::ks.drop (i+1):=Z4 hlt
   have hsz:A2 (ks.drop i)=A0 ks[i]+A2 (ks.drop (i+1)):=by rw[hdr];conv=>lhs;unfold A2
   have hNb:nx1+A0 ks[i]<=100000:=by have:=HN1.out;omega
   have hun:(CA ks[i] x).toArray=#[.int .i64 ks[i].kind,.string (strOfNums ks[i].text),.int .i64 ks[i].num,x]:=rfl
   have hcl:=HKS.out i hlt E own nx1 L1 v1 (.agg (CA ks[i] x).toArray) (wr.alloc (.cells (CA ks[i] x).toArray 39)) (HW1.out.below ((Zg _ _).alloc (Z0 _) _)) ⟨x,rfl,hkx.above (Zk ((Zg _ _).alloc (Z0 _) _))⟩ hNb
   rw[hun]at hcl
   have HB1:Hid (Keeps wr (wr.alloc (.cells #[.int .i64 ks[i].kind,.string (strOfNums ks[i].text),.int .i64 ks[i].num,x] 39)) Q v1 L1.length):=Keeps.of_below ((Zg _ _).alloc (Z0 _) _)
   have HRE:=HR1.out
   rw[hdr,At]at HRE
   have HNX:∀y,DW E own ks[i] (nx1,L1)=.ok y->y.1+A2 (ks.drop (i+1))<=100000:=fun y e=>by
    have h1:=LD _ _ _ _ _ e
    have h2:=HN1.out
    rw[h1]
    show nx1+_+_<=_
    omega
   clear hnodes hkw hdr hsz hun
   generalize DW E own ks[i] (nx1,L1)=gz at *
   subst hxx
   generalize ks[i].kind=y0 at *
   generalize strOfNums ks[i].text=y1 at *
   generalize ks[i].num=y2 at *
   cases gz with
   | error f=>
    have HE:Hid (R=.error f):=by show _=_;rw[<-HRE];rfl
    clear HRE HNX
    go_wp2_with (first | (go_at_call 30;refine hcl.mono ?_;rintro e w2 ⟨rfl,hk2⟩))
    refine⟨rfl,?_⟩
    rw[HE.out]
    exact⟨rfl,HK1.out.trans (HB1.out.trans hk2 (Or.inl rfl) (fun _=>Z0 _)) HO1.out (fun _=>HL1.out)⟩
   | ok y=>
    have HNY:Hid (y.1+A2 (ks.drop (i+1))<=100000):=HNX y rfl
    have HRY:Hid (At E own (ks.drop (i+1)) (y.1,y.2)=R):=HRE
    clear HRE HNX
    go_wp2_with (first | (go_at_call 30;refine hcl.mono ?_;rintro e w2 ⟨v2,rfl,hw2,hk2,ho2,hm2⟩))
    exact⟨⟨i+1,y.1,y.2,v2,by simp,by omega,HRY,HNY,hw2,HK1.out.trans (HB1.out.trans hk2 (Or.inl rfl) (fun _=>Z0 _)) HO1.out (fun _=>HL1.out),HO1.out.trans ho2 (by have:=HK1.out.size;simp;omega),Za HL1.out hm2⟩,by simp[intOf];omega⟩
  ·have hil:¬(i:Int)<(ks.length:Int):=by omega
   have HE:Hid (R=.ok (nx1,L1)):=by
    show _=_
    rw[<-HR1.out,Z9 (by omega),At]
   go_wp2_with fail
   refine bodyPost_end (v:=.tuple #[]) (by simp[results,Tryz.results61,go_sem]) rfl ?_
   rw[HE.out]
   exact⟨v1,rfl,HW1.out,HK1.out,HO1.out,HL1.out⟩
theorem GC(w:World)(Q:Nat)(a b c d e:Value):w.grownBy (((((w.setCell ⟨Q,3,none⟩ a).setCell ⟨Q,4,none⟩ b).setCell ⟨Q,5,none⟩ c).setCell ⟨Q,6,none⟩ d).setCell ⟨Q,7,none⟩ e) (some Q):=
 ((((Am w Q 3 a).trans (Am _ Q 4 b)).trans (Am _ Q 5 c)).trans (Am _ Q 6 d)).trans (Am _ Q 7 e)
def PBox(w:World)(R:Nat)(a b c d e:Value):Prop:=w.heap[R]?=some (.cells #[a,b,c,d,e] 63)
theorem PBox.facts{w:World}{R:Nat}{a b c d e:Value}(h:PBox w R a b c d e):R<w.heap.size/\w.cell? ⟨R,0,none⟩=some a/\w.cell? ⟨R,1,none⟩=some b/\w.cell? ⟨R,2,none⟩=some c/\w.cell? ⟨R,3,none⟩=some d/\w.cell? ⟨R,4,none⟩=some e:=
 ⟨(Array.getElem?_eq_some_iff.1 h).1,cell_of_row _ _ _ _ _ _ h,cell_of_row _ _ _ _ _ _ h,cell_of_row _ _ _ _ _ _ h,cell_of_row _ _ _ _ _ _ h,cell_of_row _ _ _ _ _ _ h⟩
theorem LP(Q BB mb:Nat)(M:List (ByteArray×Int))(vp vs:Value)(ks:List Nd)(hks:∀i (h:i<ks.length),JH Q BB mb M vp vs ks[i])(E E':CN)(hs':E'.slots=E.slots)(hn':E'.names=E.names)(own own' nx:Nat)(L:List ByteArray)(ho':own'<=L.length)(v u:Value)(w:World)(h:Wk w Q BB mb M vp vs E own nx L v)(hu:KidsV w (Low BB Q) u ks)(hn:nx+A2 ks<=100000) :
  Calls Tryz.prog 58 #[.pointer (some ⟨Q,0,none⟩),.agg #[vs,v,.int .i64 (own':Int),.bool E'.inside,.bool E'.returns],u] w fun e w'=>Lv w Q BB mb M vp vs E own v L.length ((At E' own' ks (nx,L)).then fun y=>.ok (y.1,L)) e w':=by
 obtain⟨ad,c0,hu1,_⟩:=id hu
 obtain⟨c,hcc⟩:∃c,c0+ks.length=c:=⟨_,rfl⟩
 rw[hcc]at hu1
 clear hcc
 subst hu1
 obtain⟨la,lc,hv1,_,_⟩:=BS h.row
 subst hv1
 obtain⟨sa,sc,hs1,_⟩:=id h.slots
 subst hs1
 have hl:=h.obj.lt
 have hsz:=h.size
 have hqb:=h.qb
 obtain⟨wA,hWA⟩:∃wA,wA=(((((w.setCell ⟨Q,3,none⟩ (.slice sa E.slots.length sc)).setCell ⟨Q,4,none⟩ (.slice la L.length lc)).setCell ⟨Q,5,none⟩ (.int .i64 (own':Int))).setCell ⟨Q,6,none⟩ (.bool E'.inside)).setCell ⟨Q,7,none⟩ (.bool E'.returns)):=⟨_,rfl⟩
 have hgA:w.grownBy wA (some Q):=by rw[hWA];exact GC w Q _ _ _ _ _
 have hzA:wA.heap.size=w.heap.size:=by rw[hWA];simp[World.setCell]
 have hqv:(Value.slice la L.length lc).ownBlock≠some Q:=fun e=>by have:=(h.row.lt Q e).1;omega
 have hkA:Keeps w wA Q (.slice la L.length lc) L.length:=Keeps.of_grown hgA
 have hA:Wk wA Q BB mb M vp (.slice sa E.slots.length sc) E' own' nx L (.slice la L.length lc):=h.again (E':=E') hkA (by rw[hWA];exact h.obj.setPlace _ _ own' E'.inside E'.returns) (hkA.own h.row hqv) hs' hn' ho' h.few
 have hb1:Below wA.heap.size wA ((wA.alloc (.cells #[.slice sa E.slots.length sc,.slice la L.length lc,.int .i64 (own':Int),.bool E'.inside,.bool E'.returns] 63)).alloc (.cells #[.slice sa E.slots.length sc,.slice la L.length lc,.int .i64 (own:Int),.bool E.inside,.bool E.returns] 63)):=Au _ _ _
 have h1:=hA.below hb1
 have HP1:Hid (PBox ((wA.alloc (.cells #[.slice sa E.slots.length sc,.slice la L.length lc,.int .i64 (own':Int),.bool E'.inside,.bool E'.returns] 63)).alloc (.cells #[.slice sa E.slots.length sc,.slice la L.length lc,.int .i64 (own:Int),.bool E.inside,.bool E.returns] 63)) (w.heap.size+1) (.slice sa E.slots.length sc) (.slice la L.length lc) (.int .i64 (own:Int)) (.bool E.inside) (.bool E.returns)):=by
  have hx:=heap_alloc_new (wA.alloc (.cells #[.slice sa E.slots.length sc,.slice la L.length lc,.int .i64 (own':Int),.bool E'.inside,.bool E'.returns] 63)) (.cells #[.slice sa E.slots.length sc,.slice la L.length lc,.int .i64 (own:Int),.bool E.inside,.bool E.returns] 63)
  rw[show(wA.alloc (.cells #[.slice sa E.slots.length sc,.slice la L.length lc,.int .i64 (own':Int),.bool E'.inside,.bool E'.returns] 63)).heap.size=w.heap.size+1 by simp[hzA]]at hx
  exact hx
 have HZ1:Hid (w.heap.size+1<((wA.alloc (.cells #[.slice sa E.slots.length sc,.slice la L.length lc,.int .i64 (own':Int),.bool E'.inside,.bool E'.returns] 63)).alloc (.cells #[.slice sa E.slots.length sc,.slice la L.length lc,.int .i64 (own:Int),.bool E.inside,.bool E.returns] 63)).heap.size):=HP1.out.facts.1
 have hcl:=I1 Q BB mb M vp _ ks hks E' own' nx L _ _ _ h1 ((hu.above (I0 hkA (fun g e=>(h.row.lt g e).1))).above (Zk hb1)) hn
 have HW:Hid (Wk w Q BB mb M vp (.slice sa E.slots.length sc) E own nx L (.slice la L.length lc)):=h
 have HK1:Hid (Keeps w ((wA.alloc (.cells #[.slice sa E.slots.length sc,.slice la L.length lc,.int .i64 (own':Int),.bool E'.inside,.bool E'.returns] 63)).alloc (.cells #[.slice sa E.slots.length sc,.slice la L.length lc,.int .i64 (own:Int),.bool E.inside,.bool E.returns] 63)) Q (.slice la L.length lc) L.length):=hkA.trans (Keeps.of_below hb1) (Or.inl rfl) (fun _=>Z0 _)
 obtain⟨_,k3,k4,k5,k6,k7⟩:=h.obj.cells
 have z3:=h.obj.frozen 3
 have z4:=h.obj.frozen 4
 have z5:=h.obj.frozen 5
 have z6:=h.obj.frozen 6
 have z7:=h.obj.frozen 7
 clear h1 hkA hgA hA hb1 h hzA hu
 rw[hWA]at hcl HP1 HK1 HZ1
 clear hWA
 cases hz:At E' own' ks (nx,L)with
 | error f=>
  rw[hz]at hcl
  rw[chk_err]
  clear hz
  go_enter Tryz.func58,Tryz.ntmps58
  go_wp2_with (first | (go_at_call 61;refine hcl.mono ?_;rintro e w2 ⟨rfl,hk2⟩))
  exact⟨rfl,rfl,HK1.out.trans hk2 (Or.inl rfl) (fun _=>Z0 _)⟩
 | ok y=>
  rw[hz]at hcl
  rw[chk_ok]
  clear hz
  go_enter Tryz.func58,Tryz.ntmps58
  go_wp2_with (first | (go_at_call 61;refine hcl.mono ?_;rintro e w2 ⟨v2,rfl,hw2,hk2,ho2,hm2⟩;have hP2:PBox w2 (w.heap.size+1) (.slice sa E.slots.length sc) (.slice la L.length lc) (.int .i64 (own:Int)) (.bool E.inside) (.bool E.returns):=(hk2.block (w.heap.size+1) HZ1.out (by omega) (fun e=>by have:=(HW.out.row.lt _ e).2;omega)).trans HP1.out;obtain⟨lp,p0,p1,p2,p3,p4⟩:=hP2.facts;obtain⟨_,y3,y4,y5,y6,y7⟩:=hw2.obj.cells;have x3:=hw2.obj.frozen 3;have x4:=hw2.obj.frozen 4;have x5:=hw2.obj.frozen 5;have x6:=hw2.obj.frozen 6;have x7:=hw2.obj.frozen 7;have hl2:=hw2.obj.lt))
  have hK2:=HK1.out.trans hk2 (Or.inl rfl) (fun _=>Z0 _)
  have hK3:=hK2.trans (Keeps.of_grown (m:=L.length) (v:=.slice la L.length lc) (GC w2 Q (.slice sa E.slots.length sc) (.slice la L.length lc) (.int .i64 (own:Int)) (.bool E.inside) (.bool E.returns))) (Or.inl rfl) (fun _=>Z0 _)
  exact bodyPost_end (v:=.tuple #[]) (by simp[results,Tryz.results58,go_sem]) rfl ⟨_,rfl,HW.out.again (L':=L) hK3 (hw2.obj.setPlace _ _ own E.inside E.returns) (hK3.own HW.out.row hqv) rfl rfl HW.out.own HW.out.few,hK3,Or.inl rfl,Z0 _⟩
end Go.Proofs.YtpfdgbalchmmfaaGreatDoor
