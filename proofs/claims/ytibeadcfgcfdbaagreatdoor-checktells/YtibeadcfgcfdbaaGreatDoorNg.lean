/- Texts in one. -/
import Derived.Test.YtibeadcfgcfdbaaGreatDoorNd
import Derived.Lib.OwnKind
import Derived.Deep.DeepCutAuto
import Derived.Deep.RegionLaw
import Derived.Deep.RegionHeld3
set_option maxHeartbeats 16000000
set_option maxRecDepth 20000
namespace Go.Proofs.YtibeadcfgcfdbaaGreatDoor
open Go.RowKit
theorem NP(a b:ByteArray):(a.toList==b.toList)=decide (a=b):=by
 rw[LY]
 by_cases h:a=b
 ·rw[decide_eq_true h,decide_eq_true h.symm]
 ·rw[decide_eq_false h,decide_eq_false (fun e=>h e.symm)]
theorem SI(l:List ByteArray)(x:ByteArray)(M:Nat->Prop)(v:Value)(w:World)(hv:StrsV w M v l) :
  Calls Tryz.prog 29 #[v,.string x] w fun e w'=>e=.returned (.int .i64 (match l.findIdx? (fun y=>decide (y=x))with
   | some i=>(i:Int)
   | none=>-1))/\w'=w:=by
 obtain⟨ad,c,rfl,hc1,hc2,hc3,hr⟩:=hv
 unfold maxLen at hc2
 obtain⟨R,HR⟩:∃R:Int,Hid ((match l.findIdx? (fun y=>decide (y=x))with
   | some i=>(i:Int)
   | none=>-1)=R):=⟨_,rfl⟩
 rw[HR.out]
 go_enter Tryz.func29,Tryz.ntmps29
 go_wp2_with fail
 go_loopw [5] (fun s8 wr=>∃(i:Nat),s8=.int .i64 i/\i<=l.length/\wr=w/\Hid (∀j (h:j<i) (h':j<l.length),decide (l[j]=x)=false)) (fun s8 _=>l.length-(intOf s8).toNat)
 case atStart=>exact⟨0,rfl,Z3 _,rfl,fun j h=>by omega⟩
 case round=>
  obtain⟨i,rfl,hi,rfl,HN⟩:=hrel
  by_cases hlt:i<l.length
  ·have hil:(i:Int)<(l.length:Int):=by omega
   have hwi:=AN (x:=(i:Int)+1) (by omega) (by omega)
   cases ad with
   | none=>have:=hc3 rfl;omega
   | some a=>
    obtain⟨b,o,rfl,hM,hb,hcl⟩:=hr a rfl
    have hcx:=hcl i hlt
    have hbe:=NP l[i] x
    cases hx:decide (l[i]=x)with
    | true=>
     rw[hx]at hbe
     have HE:Hid (R=(i:Int)):=by
      show _=_
      rw[<-HR.out]
      have e:l.findIdx? (fun y=>decide (y=x))=some i:=by
       rw[List.findIdx?_eq_some_iff_getElem]
       exact⟨hlt,hx,fun j hj=>by have:=HN.out j hj (by omega);rw[this];decide⟩
      rw[e]
     clear hcl hr hx
     go_wp2_with fail
     go_ret
     exact⟨by rw[HE.out];rfl,rfl⟩
    | false=>
     rw[hx]at hbe
     have HN2:Hid (∀j (h:j<i+1) (h':j<l.length),decide (l[j]=x)=false):=fun j h h'=>by
      by_cases e:j=i
      ·subst e;exact hx
      ·exact HN.out j (by omega) h'
     clear hcl hr hx HN
     go_wp2_with fail
     exact⟨⟨i+1,by simp,by omega,trivial,HN2⟩,by simp[intOf];omega⟩
  ·have hil:¬(i:Int)<(l.length:Int):=by omega
   have HE:Hid (R=-1):=by
    show _=_
    rw[<-HR.out]
    have e:l.findIdx? (fun y=>decide (y=x))=none:=by
     rw[List.findIdx?_eq_none_iff]
     intro y hy
     obtain⟨j,hj,rfl⟩:=List.getElem_of_mem hy
     exact HN.out j (by omega) hj
    rw[e]
   go_wp2_with fail
   go_ret
   exact⟨by rw[HE.out];rfl,rfl⟩
def CObj(w:World)(Q:Nat)(vn vc:Value)(nx:Int)(vs vl:Value)(ins ret:Bool)(f:Int×Int):Prop:=
 w.heap[Q]?=some (.cells #[vn,vc,.int .i64 nx,vs,vl,.bool ins,.bool ret,.int .i64 f.1,.int .i64 f.2] 50)
theorem CObj.lt{w:World}{Q:Nat}{vn vc vs vl:Value}{nx:Int}{ins ret:Bool}{f:Int×Int}(h:CObj w Q vn vc nx vs vl ins ret f):Q<w.heap.size:=(Array.getElem?_eq_some_iff.1 h).1
theorem CObj.cells{w:World}{Q:Nat}{vn vc vs vl:Value}{nx:Int}{ins ret:Bool}{f:Int×Int}(h:CObj w Q vn vc nx vs vl ins ret f) :
  (w.cell? ⟨Q,0,none⟩=some vn/\w.cell? ⟨Q,1,none⟩=some vc/\w.cell? ⟨Q,2,none⟩=some (.int .i64 nx)/\w.cell? ⟨Q,3,none⟩=some vs)/\w.cell? ⟨Q,4,none⟩=some vl/\w.cell? ⟨Q,5,none⟩=some (.bool ins)/\w.cell? ⟨Q,6,none⟩=some (.bool ret)/\w.cell? ⟨Q,7,none⟩=some (.int .i64 f.1)/\w.cell? ⟨Q,8,none⟩=some (.int .i64 f.2):=
 ⟨⟨cell_of_row _ _ _ _ _ _ h,cell_of_row _ _ _ _ _ _ h,cell_of_row _ _ _ _ _ _ h,cell_of_row _ _ _ _ _ _ h⟩,cell_of_row _ _ _ _ _ _ h,cell_of_row _ _ _ _ _ _ h,cell_of_row _ _ _ _ _ _ h,cell_of_row _ _ _ _ _ _ h,cell_of_row _ _ _ _ _ _ h⟩
theorem CObj.frozen{w:World}{Q:Nat}{vn vc vs vl:Value}{nx:Int}{ins ret:Bool}{f:Int×Int}(h:CObj w Q vn vc nx vs vl ins ret f)(j:Nat):w.frozen? ⟨Q,j,none⟩=false:=frozen_of_row _ _ _ _ _ h
theorem CObj.setNext{w:World}{Q:Nat}{vn vc vs vl:Value}{nx:Int}{ins ret:Bool}{f:Int×Int}(h:CObj w Q vn vc nx vs vl ins ret f)(n:Int):CObj (w.setCell ⟨Q,2,none⟩ (.int .i64 n)) Q vn vc n vs vl ins ret f:=heap_setCell_same _ _ _ _ _ _ h
theorem CObj.setLoc{w:World}{Q:Nat}{vn vc vs vl:Value}{nx:Int}{ins ret:Bool}{f:Int×Int}(h:CObj w Q vn vc nx vs vl ins ret f)(v:Value):CObj (w.setCell ⟨Q,4,none⟩ v) Q vn vc nx vs v ins ret f:=heap_setCell_same _ _ _ _ _ _ h
theorem CObj.setRet{w:World}{Q:Nat}{vn vc vs vl:Value}{nx:Int}{ins ret:Bool}{f:Int×Int}(h:CObj w Q vn vc nx vs vl ins ret f)(b:Bool):CObj (w.setCell ⟨Q,6,none⟩ (.bool b)) Q vn vc nx vs vl ins b f:=heap_setCell_same _ _ _ _ _ _ h
theorem CObj.setFault{w:World}{Q:Nat}{vn vc vs vl:Value}{nx:Int}{ins ret:Bool}{f:Int×Int}(h:CObj w Q vn vc nx vs vl ins ret f)(g:Int×Int):CObj ((w.setCell ⟨Q,7,none⟩ (.int .i64 g.1)).setCell ⟨Q,8,none⟩ (.int .i64 g.2)) Q vn vc nx vs vl ins ret g:=heap_setCell_same _ _ _ _ _ _ (heap_setCell_same _ _ _ _ _ _ h)
theorem De(Q:Nat)(vn vc vs vl:Value)(nx:Int)(ins ret:Bool)(f:Int×Int)(c a:Int)(w:World)(h:CObj w Q vn vc nx vs vl ins ret f) :
  Calls Tryz.prog 30 #[.pointer (some ⟨Q,0,none⟩),.int .i64 c,.int .i64 a] w fun e w'=>e=.returned (.tuple #[])/\CObj w' Q vn vc nx vs vl ins ret (if f.1=0 then(c,a)else f)/\w.grownBy w' (some Q):=by
 obtain⟨f1,f2⟩:=f
 obtain⟨_,_,_,_,k7,k8⟩:=h.cells
 have hl:=h.lt
 have z7:=h.frozen 7
 have z8:=h.frozen 8
 have HO:Hid (CObj w Q vn vc nx vs vl ins ret (f1,f2)):=h
 clear h
 by_cases h0:f1=0
 ·subst h0
  go_enter Tryz.func30,Tryz.ntmps30
  go_wp2_with fail
  exact bodyPost_end (v:=.tuple #[]) (by simp[results,Tryz.results30,go_sem]) rfl ⟨rfl,HO.out.setFault (c,a),(AJ w Q 7 _).trans (AJ _ Q 8 _)⟩
 ·have hb:(f1==0)=false:=by simpa using h0
  have HE:Hid ((if(f1,f2).1=0 then(c,a)else(f1,f2))=(f1,f2)):=if_neg h0
  rw[HE.out]
  clear h0 HE
  go_enter Tryz.func30,Tryz.ntmps30
  go_wp2_with fail
  exact bodyPost_end (v:=.tuple #[]) (by simp[results,Tryz.results30,go_sem]) rfl ⟨rfl,HO.out,Ge w Q⟩
theorem C3{w w':World}{base n size:Nat}{v:Value}{xs:List Value}{e:TypeId}(h:w.ownsRow base e size v n xs)(hb:∀g,v.ownBlock=some g->w'.heap[g]?=w.heap[g]?):w'.ownsRow base e size v n xs:=by
 refine⟨h.1,?_⟩
 rcases h.2 with h0 | ⟨g,cap,cur,rfl,h1,hg,r⟩
 ·exact Or.inl h0
 ·exact Or.inr ⟨g,cap,cur,rfl,h1,(hb g rfl).trans hg,r⟩
theorem FA{w:World}{B B' n n' size size':Nat}{v v':Value}{xs xs':List Value}{e e':TypeId}(h:w.ownsRow B e size v n xs)(h':w.ownsRow B' e' size' v' n' xs')(he:e≠e'){g:Nat}(hg:v.ownBlock=some g):v'.ownBlock≠some g:=fun hg'=>by
 obtain⟨c,fz,h1⟩:=Lib.ownsRow_kind h g hg
 obtain⟨c',fz',h2⟩:=Lib.ownsRow_kind h' g hg'
 rw[h1]at h2
 injection h2 with h2
 injection h2 with _ h2 _
 exact he h2
structure LocsR(w:World)(BB:Nat)(vl:Value)(vis:List Value)(LL:List (List ByteArray)):Prop where
 row:w.ownsRow BB 33 1 vl LL.length vis
 inner:∀i (h:i<LL.length),∃v,vis[i]?=some v/\w.ownsRow BB 9 1 v LL[i].length (BL LL[i])
 apart:∀(i j:Nat) (v v':Value) (g:Nat),i≠j->vis[i]?=some v->vis[j]?=some v'->v.ownBlock=some g->v'.ownBlock≠some g
theorem LocsR.len{w:World}{BB:Nat}{vl:Value}{vis:List Value}{LL:List (List ByteArray)}(h:LocsR w BB vl vis LL):vis.length=LL.length:=by rw[h.row.1,Nat.mul_one]
theorem LocsR.same{w w':World}{BB:Nat}{vl:Value}{vis:List Value}{LL:List (List ByteArray)}(h:LocsR w BB vl vis LL)(hb:∀k,BB<=k->k<w.heap.size->w'.heap[k]?=w.heap[k]?):LocsR w' BB vl vis LL:=
 ⟨C3 h.row fun g e=>hb g (h.row.lt g e).1 (h.row.lt g e).2,fun i hi=>by
  obtain⟨v,e,hv⟩:=h.inner i hi
  exact⟨v,e,C3 hv fun g e=>hb g (hv.lt g e).1 (hv.lt g e).2⟩,h.apart⟩
theorem Kx:(9:TypeId)≠33:=by decide
theorem LocsR.more{w w':World}{BB m:Nat}{vl vl' v:Value}{vis:List Value}{LL:List (List ByteArray)}{l:List ByteArray}(h:LocsR w BB vl vis LL)(hk:∀Q,Keeps w w' Q vl m)(hr:w'.ownsRow BB 33 1 vl' (LL.length+1) (vis++[v]))(hv:w.ownsRow BB 9 1 v l.length (BL l))(ha:∀(i:Nat) (v':Value) (g:Nat),vis[i]?=some v'->v'.ownBlock=some g->v.ownBlock≠some g):LocsR w' BB vl' (vis++[v]) (LL++[l]):=by
 have keep:∀(u:Value) (n:Nat) (xs:List Value),w.ownsRow BB 9 1 u n xs->w'.ownsRow BB 9 1 u n xs:=fun u n xs hu=>C3 hu fun g e=>(hk (g+1)).block g (hu.lt g e).2 (by omega) (FA hu h.row Kx e)
 have hl:=h.len
 refine⟨by rw[Z1];exact hr,fun i hi=>?_,fun i j u u' g hij hu hu' hg=>?_⟩
 ·rw[Z1]at hi
  by_cases hlt:i<LL.length
  ·obtain⟨u,e,hu⟩:=h.inner i hlt
   refine⟨u,by rw[List.getElem?_append_left (by omega)];exact e,?_⟩
   rw[Zb hlt]
   exact keep _ _ _ hu
  ·have hi':i=LL.length:=by simp at hi;omega
   subst hi'
   refine⟨v,by rw[<-hl,List.getElem?_append_right (Z0 _),Nat.sub_self];rfl,?_⟩
   rw[Zc (Z0 _)]
   simp only[Nat.sub_self,List.getElem_cons_zero]
   exact keep _ _ _ hv
 ·by_cases hi:i<vis.length
  ·rw[List.getElem?_append_left hi]at hu
   by_cases hj:j<vis.length
   ·rw[List.getElem?_append_left hj]at hu'
    exact h.apart i j u u' g hij hu hu' hg
   ·have hj':j=vis.length:=by have:=(List.getElem?_eq_some_iff.1 hu').1;simp at this;omega
    subst hj'
    rw[List.getElem?_append_right (Z0 _),Nat.sub_self]at hu'
    injection hu' with hu'
    rw[<-hu']
    exact ha i u g hu hg
  ·have hi':i=vis.length:=by have:=(List.getElem?_eq_some_iff.1 hu).1;simp at this;omega
   subst hi'
   rw[List.getElem?_append_right (Z0 _),Nat.sub_self]at hu
   injection hu with hu
   subst hu
   have hj:j<vis.length:=by have:=(List.getElem?_eq_some_iff.1 hu').1;simp at this;omega
   rw[List.getElem?_append_left hj]at hu'
   exact fun e=>ha j u' g hu' e hg
theorem LocsR.less{w:World}{BB g cap:Nat}{vis:List Value}{LL:List (List ByteArray)}{l:List ByteArray}(h:LocsR w BB (.slice (some ⟨g,0,none⟩) (LL.length+1) cap) vis (LL++[l])):∃vis',LocsR w BB (.slice (some ⟨g,0,none⟩) LL.length cap) vis' LL:=by
 have hl:=h.len
 rw[Z1]at hl
 have hl':vis.length=LL.length+1:=hl
 obtain⟨v,hv⟩:∃v,vis=vis.take LL.length++[v]:=⟨vis[LL.length],by
  have e:=List.take_append_drop LL.length vis
  rw[Z4 (by omega),Z9 (by omega)]at e
  exact e.symm⟩
 have ht:(vis.take LL.length).length=LL.length:=by rw[List.length_take];omega
 refine⟨vis.take LL.length,ownsRow_pop (last:=[v]) (by rw[ht,Nat.mul_one]) (by rw[<-hv];have hr:=h.row;rw[Z1]at hr;exact hr),fun i hi=>?_,fun i j u u' g hij hu hu' hg=>?_⟩
 ·obtain⟨u,e,hu⟩:=h.inner i (by rw[Z1];omega)
  rw[Zb hi]at hu
  exact⟨u,by rw[List.getElem?_take_of_lt hi];exact e,hu⟩
 ·have h1:=(List.getElem?_eq_some_iff.1 hu).1
  have h2:=(List.getElem?_eq_some_iff.1 hu').1
  rw[ht]at h1 h2
  rw[List.getElem?_take_of_lt h1]at hu
  rw[List.getElem?_take_of_lt h2]at hu'
  exact h.apart i j u u' g hij hu hu' hg
theorem LocsR.push{w w':World}{BB g cap m:Nat}{vis:List Value}{O:List (List ByteArray)}{l:List ByteArray}{x:ByteArray}{v v':Value}(h:LocsR w BB (.slice (some ⟨g,0,none⟩) (O.length+1) cap) vis (O++[l]))(hv:vis[O.length]?=some v)(hk:∀Q,Keeps w w' Q v m)(ho:Onto w v v')(hr:w'.ownsRow BB 9 1 v' (l.length+1) (BL l++[.string x])) :
  LocsR (w'.setCell ⟨g,O.length,none⟩ v') BB (.slice (some ⟨g,0,none⟩) (O.length+1) cap) (vis.set O.length v') (O++[l++[x]]):=by
 have hl:=h.len
 rw[Z1]at hl
 have hl':vis.length=O.length+1:=hl
 obtain⟨v0,e0,hv0⟩:=h.inner O.length (by rw[Z1];exact Nat.lt_succ_self _)
 have ev:v0=v:=by rw[hv]at e0;injection e0 with e0;exact e0.symm
 subst ev
 have hrow:w'.ownsRow BB 33 1 (.slice (some ⟨g,0,none⟩) (O.length+1) cap) (O.length+1) vis:=by
  have hr0:=h.row
  rw[Z1]at hr0
  exact C3 hr0 fun k e=>(hk (k+1)).block k (hr0.lt k e).2 (by omega) (FA hr0 hv0 (fun e=>Kx e.symm) e)
 have hst:=(hrow.stored O.length v').1
 have hgne:∀(u:Value) (n:Nat) (xs:List Value),w'.ownsRow BB 9 1 u n xs->(w'.setCell ⟨g,O.length,none⟩ v').ownsRow BB 9 1 u n xs:=fun u n xs hu=>ownsRow_setCell_other hu (a:=⟨g,O.length,none⟩) (fun e=>FA hu hrow Kx e rfl) _
 refine⟨by rw[Z1];exact hst,fun i hi=>?_,fun i j u u' k hij hu hu' hg=>?_⟩
 ·rw[Z1]at hi
  by_cases hlt:i<O.length
  ·obtain⟨u,e,hu⟩:=h.inner i (by rw[Z1];omega)
   rw[Zb hlt]at hu
   refine⟨u,by rw[List.getElem?_set_ne (by omega)];exact e,?_⟩
   rw[Zb hlt]
   refine hgne _ _ _ (C3 hu fun k e'=>(hk (k+1)).block k (hu.lt k e').2 (by omega) (h.apart i O.length u v0 k (by omega) e hv e'))
  ·have hi':i=O.length:=by simp at hi;omega
   subst hi'
   refine⟨v',by rw[List.getElem?_set_self (by omega)],?_⟩
   rw[Zc (Z0 _)]
   simp only[Nat.sub_self,List.getElem_cons_zero]
   rw[Z1,GP]
   exact hgne _ _ _ hr
 ·have old:∀(i:Nat) (u:Value) (k:Nat),i≠O.length->vis[i]?=some u->u.ownBlock=some k->v'.ownBlock≠some k:=fun i u k hi hu hk' hv'=>by
   have hil:=(List.getElem?_eq_some_iff.1 hu).1
   obtain⟨u2,e2,hu2⟩:=h.inner i (by rw[Z1];show i<O.length+1;omega)
   have e3:u2=u:=by rw[hu]at e2;injection e2 with e2;exact e2.symm
   subst e3
   rcases ho with ho | ho
   ·exact h.apart i O.length u2 v0 k hi hu hv hk' (by rw[<-ho];exact hv')
   ·have:=ho k hv'
    have:=(hu2.lt k hk').2
    omega
  by_cases hi:i=O.length
  ·subst hi
   rw[List.getElem?_set_self (by omega)]at hu
   injection hu with hu
   subst hu
   rw[List.getElem?_set_ne (by omega)]at hu'
   exact fun e=>old j u' k (fun e=>hij e.symm) hu' e hg
  ·rw[List.getElem?_set_ne (fun e=>hi e.symm)]at hu
   by_cases hj:j=O.length
   ·subst hj
    rw[List.getElem?_set_self (by omega)]at hu'
    injection hu' with hu'
    rw[<-hu']
    exact old i u k hi hu hg
   ·rw[List.getElem?_set_ne (fun e=>hj e.symm)]at hu'
    exact h.apart i j u u' k hij hu hu' hg
structure Ck(w:World)(Q BB:Nat)(vn vc vs:Value)(E:BI)(nx:Nat)(LL:List (List ByteArray))(f:Int×Int)(vl:Value):Prop where
 obj:CObj w Q vn vc (nx:Int) vs vl E.inside E.returns f
 names:StrsV w (Low BB Q) vn E.names
 slots:StrsV w (Low BB Q) vs E.slots
 locs:∃vis,LocsR w BB vl vis LL
 qb:Q<BB
 size:BB<=w.heap.size
theorem StrsV.fr{w w':World}{Q BB:Nat}{vs:Value}{l:List ByteArray}(h:StrsV w (Low BB Q) vs l)(hf:FrQ w w' BB Q):StrsV w' (Low BB Q) vs l:=by
 obtain⟨ad,c,e,h1,h2,h3,h4⟩:=h
 refine⟨ad,c,e,h1,h2,h3,fun a ea=>?_⟩
 obtain⟨b,o,e2,hm,hb,hc⟩:=h4 a ea
 refine⟨b,o,e2,hm,Z5 hb hf.size,fun i hi=>?_⟩
 rw[World.cell?_of_block (w:=w) (a:=⟨b,o+i,none⟩) (hf.block b hm.1 hm.2)]
 exact hc i hi
theorem FrQ.above{w w':World}{Q BB:Nat}(hf:FrQ w w' BB Q):Above (Low BB Q) w w':=⟨hf.size,fun k h1 _=>hf.block k h1.1 h1.2⟩
theorem FrQ.trans{w w1 w2:World}{N Q:Nat}(h:FrQ w w1 N Q)(h1:FrQ w1 w2 N Q):FrQ w w2 N Q:=
 ⟨h1.os.trans h.os,h1.tape.trans h.tape,h1.output.trans h.output,Za h.size h1.size,fun k a b=>(h1.block k a b).trans (h.block k a b)⟩
theorem FrQ.of_grown{w w':World}{N Q m:Nat}(hg:w.grownBy w' (some m))(hm:m=Q\/N<=m)(hN:N<=w.heap.size):FrQ w w' N Q:=(FrQ.refl w N Q).grown hg hm hN
theorem FrQ.of_below{w w':World}{N Q:Nat}(hb:Below w.heap.size w w')(hN:N<=w.heap.size):FrQ w w' N Q:=(FrQ.refl w N Q).below hb hN
theorem Ck.again{w w':World}{Q BB nx nx':Nat}{vn vc vs vl vl':Value}{E E':BI}{LL LL':List (List ByteArray)}{f f':Int×Int}(h:Ck w Q BB vn vc vs E nx LL f vl)(hf:FrQ w w' BB Q)(ho:CObj w' Q vn vc (nx':Int) vs vl' E'.inside E'.returns f')(hl:∃vis,LocsR w' BB vl' vis LL')(hs:E'.slots=E.slots)(hn:E'.names=E.names):Ck w' Q BB vn vc vs E' nx' LL' f' vl':=
 ⟨ho,by rw[hn];exact h.names.fr hf,by rw[hs];exact h.slots.fr hf,hl,h.qb,Za h.size hf.size⟩
theorem Ck.put{w w':World}{Q BB nx nx':Nat}{vn vc vs vl:Value}{E E':BI}{LL:List (List ByteArray)}{f f':Int×Int}(h:Ck w Q BB vn vc vs E nx LL f vl)(hg:w.grownBy w' (some Q))(ho:CObj w' Q vn vc (nx':Int) vs vl E'.inside E'.returns f')(hs:E'.slots=E.slots)(hn:E'.names=E.names):Ck w' Q BB vn vc vs E' nx' LL f' vl/\FrQ w w' BB Q:=by
 have hf:=FrQ.of_grown hg (Or.inl rfl) h.size
 obtain⟨vis,hv⟩:=h.locs
 exact⟨h.again hf ho ⟨vis,hv.same fun k h1 h2=>hg.block k h2 (fun e=>by injection e with e;have:=h.qb;omega)⟩ hs hn,hf⟩
theorem Ck.below{w w':World}{Q BB nx:Nat}{vn vc vs vl:Value}{E:BI}{LL:List (List ByteArray)}{f:Int×Int}(h:Ck w Q BB vn vc vs E nx LL f vl)(hb:Below w.heap.size w w'):Ck w' Q BB vn vc vs E nx LL f vl:=by
 obtain⟨vis,hv⟩:=h.locs
 exact h.again (FrQ.of_below hb h.size) ((hb.block Q h.obj.lt).trans h.obj) ⟨vis,hv.same fun k _ h2=>hb.block k h2⟩ rfl rfl
def P3(w:World)(k:Nat):Prop:=∀c e fz,w.heap[k]?=some (.cells c e fz)->e≠9/\e≠33
structure FrT(w w':World)(N Q:Nat):Prop where
 os:w'.os=w.os
 tape:w'.tape=w.tape
 output:w'.output=w.output
 size:w.heap.size<=w'.heap.size
 block:∀k,k<w.heap.size->k≠Q->(k<N\/P3 w k)->w'.heap[k]?=w.heap[k]?
theorem FrT.trans{w w1 w2:World}{N Q:Nat}(h:FrT w w1 N Q)(h1:FrT w1 w2 N Q):FrT w w2 N Q:=
 ⟨h1.os.trans h.os,h1.tape.trans h.tape,h1.output.trans h.output,Za h.size h1.size,fun k a b c=>by
  have e:=h.block k a b c
  refine(h1.block k (Z5 a h.size) b ?_).trans e
  rcases c with c | c
  ·exact Or.inl c
  ·exact Or.inr fun cs t fz hc=>c cs t fz (by rw[<-e];exact hc)⟩
theorem FrT.fr{w w':World}{N Q:Nat}(h:FrT w w' N Q)(hN:N<=w.heap.size):FrQ w w' N Q:=⟨h.os,h.tape,h.output,h.size,fun k a b=>h.block k (by omega) b (Or.inl a)⟩
theorem FrT.of_grown{w w':World}{N Q:Nat}(hg:w.grownBy w' (some Q)):FrT w w' N Q:=⟨hg.os,hg.tape,hg.output,hg.size,fun k a b _=>hg.block k a (fun e=>by injection e with e;exact b e)⟩
theorem FrT.of_below{w w':World}{N Q:Nat}(hb:Below w.heap.size w w'):FrT w w' N Q:=⟨hb.os,hb.tape,hb.output,hb.size,fun k a _ _=>hb.block k a⟩
theorem Iq{w:World}{N n k size:Nat}{v:Value}{xs:List Value}{e:TypeId}(ho:w.ownsRow N e size v n xs)(he:e=9\/e=33)(hk:k<N\/P3 w k):v.ownBlock≠some k:=fun hv=>by
 rcases hk with hk | hk
 ·have:=(ho.lt k hv).1;omega
 ·obtain⟨c,fz,h1⟩:=Lib.ownsRow_kind ho k hv
  have:=hk c e fz h1
  rcases he with rfl | rfl
  ·exact this.1 rfl
  ·exact this.2 rfl
theorem FrT.of_keeps{w w':World}{N Q m n:Nat}{v:Value}{xs:List Value}{e:TypeId}(hk:∀Q,Keeps w w' Q v m)(ho:w.ownsRow N e 1 v n xs)(he:e=9\/e=33):FrT w w' N Q:=
 ⟨(hk 0).os,(hk 0).tape,(hk 0).output,(hk 0).size,fun k a _ c=>(hk (k+1)).block k a (by omega) (Iq ho he c)⟩
theorem FrT.of_set{w:World}{N Q g j n cap:Nat}{xs:List Value}{e:TypeId}(u:Value)(ho:w.ownsRow N e 1 (.slice (some ⟨g,0,none⟩) n cap) n xs)(he:e=9\/e=33):FrT w (w.setCell ⟨g,j,none⟩ u) N Q:=
 ⟨rfl,rfl,rfl,by simp,fun k _ _ c=>Zm _ _ _ _ (fun e'=>Iq ho he c (by rw[e'];rfl))⟩
theorem FrT.box{w w':World}{N Q X:Nat}{a b c d:Value}(hf:FrT w w' N Q)(h:Box4 w X a b c d)(hx:X≠Q):Box4 w' X a b c d:=
 (hf.block X h.lt hx (Or.inr fun cs t fz hc=>by
  have h':w.heap[X]?=some (.cells #[a,b,c,d] 24):=h
  rw[h']at hc
  injection hc with hc
  injection hc with _ hc _
  subst hc
  exact⟨by decide,by decide⟩)).trans h
def Hh(Q BB:Nat)(vn vc vs:Value)(n:Nd):Prop:=∀(E:BI) (O:List (List ByteArray)) (s:StR) (vl u:Value) (w:World),Ck w Q BB vn vc vs E s.next (O++[s.inn]) s.bad vl->NodeV w (Low BB Q) u n->Dr 0 O s->s.next+A4 n<=100000 ->
 Calls Tryz.prog 31 #[.pointer (some ⟨Q,0,none⟩),u] w fun e w'=>e=.returned (.tuple #[])/\(∃vl',Ck w' Q BB vn vc vs E (Dl E O n s).next (O++[(Dl E O n s).inn]) (Dl E O n s).bad vl')/\FrT w w' BB Q
theorem CObj.same{w w':World}{Q:Nat}{vn vc vs vl:Value}{nx:Int}{ins ret:Bool}{f:Int×Int}(h:CObj w Q vn vc nx vs vl ins ret f)(hb:w'.heap[Q]?=w.heap[Q]?):CObj w' Q vn vc nx vs vl ins ret f:=hb.trans h
theorem Ng{w:World}{B n:Nat}{v:Value}{xs:List Value}{e:TypeId}(h:w.ownsRow B e 1 v (n+1) xs):∃g cap,v=.slice (some ⟨g,0,none⟩) (n+1) cap/\n+1<=cap/\cap<=maxLen:=by
 rcases h.2 with⟨_,h0⟩ | ⟨g,cap,cur,rfl,_,_,h1,h2,_⟩
 ·exact absurd h0 (Nat.succ_ne_zero n)
 ·exact⟨g,cap,rfl,h1,h2⟩
theorem Nh(Q BB:Nat)(vn vc vs:Value)(k:Int)(tx:List Int)(nm:Int)(ks:List Nd)(hks:∀i (h:i<ks.length),Hh Q BB vn vc vs ks[i])(E:BI)(O:List (List ByteArray))(own:List ByteArray)(nx:Nat)(f:Int×Int)(vl vo u:Value)(w:World)(h:Ck w Q BB vn vc vs E nx O f vl)(hu:NodeV w (Low BB Q) u (.mk k tx nm ks))(ho:w.ownsRow BB 9 1 vo own.length (BL own))(ha:∀vis,LocsR w BB vl vis O->∀(i:Nat) (v':Value) (g:Nat),vis[i]?=some v'->v'.ownBlock=some g->vo.ownBlock≠some g)(hF:Dr 0 O ⟨nx+1,own,f⟩)(hN:nx+1+A5 ks<=100000) :
  Calls Tryz.prog 16 #[.pointer (some ⟨Q,0,none⟩),u,vo] w fun e w'=>e=.returned (.tuple #[])/\(∃vl',Ck w' Q BB vn vc vs E (BM E O ks ⟨nx+1,own,f⟩).next O (BM E O ks ⟨nx+1,own,f⟩).bad vl')/\FrT w w' BB Q:=by
 obtain⟨xk,hu1,ad,c0,hx1,hkk⟩:=hu
 obtain⟨c,hcc⟩:∃c,c0+ks.length=c:=⟨_,rfl⟩
 have hx2:xk=.slice ad ks.length c:=by rw[<-hcc];exact hx1
 subst hx2
 have hu2:u=.agg #[.int .i64 k,.string (strOfNums tx),.int .i64 nm,.slice ad ks.length c]:=hu1
 subst hu2
 obtain⟨vis,hL⟩:=h.locs
 obtain⟨la,lc,hv1,_,_⟩:=B2 hL.row
 subst hv1
 obtain⟨oa,oc,hv2,_,_⟩:=B2 ho
 subst hv2
 have hao:=ha vis hL
 have hqb:=h.qb
 have hsz:=h.size
 have hO:O.length<=100000:=by unfold Dr at hF;dsimp only at hF;omega
 have hkl:=Ci ks
 have hlen:ks.length<=100000:=by omega
 obtain⟨R,HR⟩:∃R,Hid (BM E O ks ⟨nx+1,own,f⟩=R):=⟨_,rfl⟩
 rw[HR.out]
 generalize strOfNums tx=x at *
 have hw1:=AN (x:=(nx:Int)+1) (by omega) (by omega)
 have hg1:w.grownBy (w.setCell ⟨Q,2,none⟩ (.int .i64 ((nx:Int)+1))) (some Q):=AJ w Q 2 _
 obtain⟨⟨k0,k1,k2,k3⟩,k4,_⟩:=h.obj.cells
 have hl:=h.obj.lt
 have z2:=h.obj.frozen 2
 obtain⟨w1,ew1⟩:∃w1,w1=(w.setCell ⟨Q,2,none⟩ (.int .i64 ((nx:Int)+1))).alloc (.cells #[.int .i64 k,.string x,.int .i64 nm,.slice ad ks.length c] 24):=⟨_,rfl⟩
 have hs0:(w.setCell ⟨Q,2,none⟩ (.int .i64 ((nx:Int)+1))).heap.size=w.heap.size:=by simp
 have hC1:Ck w1 Q BB vn vc vs E (nx+1) O f (.slice la O.length lc):=by rw[ew1];exact(h.put (nx':=nx+1) (E':=E) hg1 (h.obj.setNext ((nx:Int)+1)) rfl rfl).1.below ((Zg _ _).alloc (Z0 _) _)
 have hF1:FrT w w1 BB Q:=by rw[ew1];exact(FrT.of_grown hg1).trans (FrT.of_below ((Zg _ _).alloc (Z0 _) _))
 have hX1:Box4 w1 w.heap.size (.int .i64 k) (.string x) (.int .i64 nm) (.slice ad ks.length c):=by have e:=Box4.new (w.setCell ⟨Q,2,none⟩ (.int .i64 ((nx:Int)+1))) (.int .i64 k) (.string x) (.int .i64 nm) (.slice ad ks.length c);rw[hs0]at e;rw[ew1];exact e
 have hL1:LocsR w1 BB (.slice la O.length lc) vis O:=by rw[ew1];exact hL.same fun j h1 h2=>(((Zg _ (w.setCell ⟨Q,2,none⟩ (.int .i64 ((nx:Int)+1)))).alloc (Z0 _) _).block j (by rw[hs0];exact h2)).trans (hg1.block j h2 (fun e=>by injection e with e;omega))
 have ho1:w1.ownsRow BB 9 1 (.slice oa own.length oc) own.length (BL own):=C3 ho fun g e=>by rw[ew1];exact(((Zg _ (w.setCell ⟨Q,2,none⟩ (.int .i64 ((nx:Int)+1)))).alloc (Z0 _) _).block g (by rw[hs0];exact(ho.lt g e).2)).trans (hg1.block g (ho.lt g e).2 (fun e'=>by injection e' with e';have:=(ho.lt g e).1;omega))
 have hbA:Below w1.heap.size w1 (w1.alloc (.cells #[.slice oa own.length oc] 33)):=(Zg _ _).alloc (Z0 _) _
 have hsz1:=hF1.size
 have HS1:Hid (w1.heap.size=w.heap.size+1):=by show _=_;rw[ew1];simp
 have hrow2:=hL1.row.alloc (.cells #[.slice oa own.length oc] 33)
 have HKK:Hid (0<ks.length->∃b o,ad=some ⟨b,o,none⟩/\Low BB Q b/\b<w.heap.size/\NodesAt w (Low BB Q) b o ks):=hkk
 have HN:Hid (nx+1+A5 ks<=100000):=hN
 have HFW:Hid (Dr 0 O ⟨nx+1,own,f⟩):=hF
 have HKS:Hid (∀i (h:i<ks.length),Hh Q BB vn vc vs ks[i]):=hks
 clear hkk hx1 hu1 hcc hN hF hks hkl ha
 go_enter Tryz.func16,Tryz.ntmps16
 go_wp2_with (first
  | (at_builtin;rw[<-ew1];refine Gs VF rfl (.tmp 18) (.tmp 20) rfl BB O.length 1 (.slice la O.length lc) vis (.slice oa own.length oc) rfl rfl hrow2 ⟨w.heap.size+1,0,none⟩ rfl (by rw[<-HS1.out];simp) (by omega) (by simp;omega) ?_;intro g' cap' w7 O7 hk7 hon7;have hQ7:w7.heap[Q]?=w1.heap[Q]?:=((hk7 (Q+1)).block Q (by simp;omega) (by omega) (fun e=>by have:=(hL1.row.lt Q e).1;omega)).trans (hbA.block Q (by omega));have ho7:=hC1.obj.same hQ7;have z7:=ho7.frozen 4;have hl7:=ho7.lt;obtain⟨_,y4,_⟩:=ho7.cells))
 have hFA:FrT w1 (w1.alloc (.cells #[.slice oa own.length oc] 33)) BB Q:=FrT.of_below hbA
 have hF7:FrT (w1.alloc (.cells #[.slice oa own.length oc] 33)) w7 BB Q:=FrT.of_keeps hk7 hrow2 (Or.inr rfl)
 have hg8:w7.grownBy (w7.setCell ⟨Q,4,none⟩ (sl g' (O.length+1) cap')) (some Q):=AJ w7 Q 4 _
 have hF8:FrT w (w7.setCell ⟨Q,4,none⟩ (sl g' (O.length+1) cap')) BB Q:=((hF1.trans hFA).trans hF7).trans (FrT.of_grown hg8)
 have hF18:FrT w1 (w7.setCell ⟨Q,4,none⟩ (sl g' (O.length+1) cap')) BB Q:=(hFA.trans hF7).trans (FrT.of_grown hg8)
 have hL7:=(hL1.same (w':=w1.alloc (.cells #[.slice oa own.length oc] 33)) fun j _ h2=>hbA.block j h2).more hk7 O7 (ho1.alloc _) hao
 have hL8:=hL7.same (w':=w7.setCell ⟨Q,4,none⟩ (sl g' (O.length+1) cap')) fun j h1 h2=>hg8.block j h2 (fun e=>by injection e with e;omega)
 have HC8:Hid (Ck (w7.setCell ⟨Q,4,none⟩ (sl g' (O.length+1) cap')) Q BB vn vc vs E (nx+1) (O++[own]) f (sl g' (O.length+1) cap')):=hC1.again (hF18.fr hC1.size) (ho7.setLoc _) ⟨_,hL8⟩ rfl rfl
 have HX8:Hid (Box4 (w7.setCell ⟨Q,4,none⟩ (sl g' (O.length+1) cap')) w.heap.size (.int .i64 k) (.string x) (.int .i64 nm) (.slice ad ks.length c)):=hF18.box hX1 (by omega)
 have HF8:Hid (FrT w (w7.setCell ⟨Q,4,none⟩ (sl g' (O.length+1) cap')) BB Q):=hF8
 obtain⟨w8,e8⟩:∃w8,w8=w7.setCell ⟨Q,4,none⟩ (sl g' (O.length+1) cap'):=⟨_,rfl⟩
 have e8':w7.setCell ⟨Q,4,none⟩ (Value.slice (some { block:=g',off:=0 }) (O.length+1) cap')=w8:=e8.symm
 rw[<-e8]at HC8 HX8 HF8
 rw[e8']
 clear e8 e8' hL8 hL7 hF18 hF8 hg8 hF7 hFA y4 z7 hl7 ho7 hQ7 hon7 hk7 O7 hrow2 HS1 hbA ho1 hL1 hX1 hF1 hC1 hs0 k0 k1 k2 k3 k4 hg1 hao hL ho h hw1 ew1 z2
 go_loopw [6] (fun s6 wr=>∃(i:Nat) (s1:StR) (v1:Value),s6=.int .i64 i/\i<=ks.length/\Hid (BM E O (ks.drop i) s1=R)/\Hid (Dr 0 O s1)/\Hid (s1.next+A5 (ks.drop i)<=100000)/\Hid (Ck wr Q BB vn vc vs E s1.next (O++[s1.inn]) s1.bad v1)/\Hid (Box4 wr w.heap.size (.int .i64 k) (.string x) (.int .i64 nm) (.slice ad ks.length c))/\Hid (FrT w wr BB Q)) (fun s6 _=>100001-(intOf s6).toNat)
 case atStart=>exact⟨0,⟨nx+1,own,f⟩,_,rfl,Z3 _,HR,HFW,HN,HC8,HX8,HF8⟩
 case round=>
  clear HC8 HX8 HF8
  obtain⟨i,s1,v1,rfl,hi,HR1,HF1,HN1,HC1,HX1,HT1⟩:=hrel
  obtain⟨⟨x0,x1,x2,x3⟩,_⟩:=HX1.out.facts
  have hlx:=HX1.out.lt
  by_cases hlt:i<ks.length
  ·have hil:(i:Int)<(ks.length:Int):=by omega
   have hwi:=AN (x:=(i:Int)+1) (by omega) (by omega)
   obtain⟨b,o,rfl,hMb,hbw,hnodes⟩:=HKK.out (by omega)
   have hab:=(HT1.out.fr hsz).above
   have hkw:NodesAt wr (Low BB Q) b o ks:=NodesAt.above hab ks b o hMb hbw hnodes
   obtain⟨xx,hkx,c0,c1,c2,c3⟩:=D4 hkw hlt
   obtain⟨adx,cx0,hxx,_⟩:=id hkx
   obtain⟨cx,hcx⟩:∃cx,cx0+ks[i].kids.length=cx:=⟨_,rfl⟩
   rw[hcx]at hxx
   clear hcx
   have hbr:b<wr.heap.size:=by have:=hab.size;omega
   have hdr:ks.drop i=ks[i]::ks.drop (i+1):=Z4 hlt
   have hsz':A5 (ks.drop i)=A4 ks[i]+A5 (ks.drop (i+1)):=by rw[hdr];conv=>lhs;unfold A5
   have hcl:=HKS.out i hlt E O s1 v1 (.agg (Bb ks[i] xx).toArray) wr HC1.out ⟨xx,rfl,hkx⟩ HF1.out (by have:=HN1.out;omega)
   have hun:(Bb ks[i] xx).toArray=#[.int .i64 ks[i].kind,.string (strOfNums ks[i].text),.int .i64 ks[i].num,xx]:=rfl
   rw[hun]at hcl
   have HRY:Hid (BM E O (ks.drop (i+1)) (Dl E O ks[i] s1)=R):=by
    have e:=HR1.out
    rw[hdr,BM]at e
    exact e
   have HFY:Hid (Dr 0 O (Dl E O ks[i] s1)):=KT _ _ _ _ _ HF1.out
   have HNY:Hid ((Dl E O ks[i] s1).next+A5 (ks.drop (i+1))<=100000):=by
    show _<=_
    rw[Jj]
    have:=HN1.out
    omega
   clear hnodes hkw hdr hsz' hun hkx
   generalize Dl E O ks[i] s1=s2 at *
   subst hxx
   generalize ks[i].kind=y0 at *
   generalize strOfNums ks[i].text=y1 at *
   generalize ks[i].num=y2 at *
   go_wp2_with (first | (go_at_call 31;refine hcl.mono ?_;rintro e w2 ⟨rfl,⟨v2,hc2⟩,hf2⟩))
   exact⟨⟨i+1,s2,v2,by simp,by omega,HRY,HFY,HNY,hc2,hf2.box HX1.out (by omega),HT1.out.trans hf2⟩,by simp[intOf];omega⟩
  ·have hil:¬(i:Int)<(ks.length:Int):=by omega
   have HE:Hid (R=s1):=by
    show _=_
    rw[<-HR1.out,Z9 (by omega),BM]
   obtain⟨vis1,hL1⟩:=HC1.out.locs
   have hll:(O++[s1.inn]).length=O.length+1:=Z1
   have hrow:=hL1.row
   rw[hll]at hrow
   obtain⟨ga,gc,hv1,hgc,hgm⟩:=Ng hrow
   subst hv1
   clear hll hrow
   obtain⟨_,k4,_⟩:=HC1.out.obj.cells
   have hl:=HC1.out.obj.lt
   have z4:=HC1.out.obj.frozen 4
   have hwl:=AN (x:=((O.length+1:Nat):Int)-1) (by omega) (by omega)
   go_wp2_with fail
   go_region
   all_goals go_wp2_with fail
   have hg9:wr.grownBy (wr.setCell ⟨Q,4,none⟩ (.slice (some ⟨ga,0,none⟩) O.length gc)) (some Q):=AJ wr Q 4 _
   obtain⟨vis2,hL2⟩:=LocsR.less hL1
   have hC9:=HC1.out.again (E':=E) (nx':=s1.next) ((FrT.of_grown hg9).fr HC1.out.size) (HC1.out.obj.setLoc _) ⟨vis2,hL2.same fun j h1 h2=>hg9.block j h2 (fun e=>by injection e with e;omega)⟩ rfl rfl
   refine bodyPost_end (v:=.tuple #[]) (by simp[results,Tryz.results16,go_sem]) rfl ?_
   rw[HE.out]
   exact⟨rfl,⟨_,hC9.below (Zg _ _).drew⟩,(HT1.out.trans (FrT.of_grown hg9)).trans (FrT.of_below (Zg _ _).drew)⟩
theorem Ir{ops:Array Oper}{o:Oper}{a:Act}{w:World}{K:Act->World->Prop}{Q:Exit->Act->World->Prop}{E:Prop}(hg:o.guard=none)(s x:Operand)(hop:o.op=Op.call { callee:=Callee.builtin Builtin.append,args:=#[s,x],argTypes:=#[33,33] }){base n c:Nat}(v:Value){xs:List Value}{u:ByteArray}{ad:Addr}(hs:a.eval s=v)(hx:a.eval x=.slice (some ad) 1 c)(hown:w.ownsRow base 9 1 v n xs)(hc:w.cell? ad=some (.string u))(hb:n<=1000000)(hbase:base<=w.heap.size)(hK:∀g cap w',w'.ownsRow base 9 1 (sl g (n+1) cap) (n+1) (xs++[.string u])->(∀Q,Keeps w w' Q v n)->Onto w v (sl g (n+1) cap)->K (a.put o.dst (sl g (n+1) cap)) w') :
  if Region.wanted o (yielded ops a.tmps)=true then Oper.wp Tryz.prog o a w K Q else E:=by
 have hw:Region.wanted o (yielded ops a.tmps)=true:=by simp[Region.wanted,hg]
 rw[if_pos hw]
 obtain⟨g,cap,w',hr,r1,r2,r3⟩:=K8 (ty:=o.type) (c:=c) hown hc hb hbase
 unfold Oper.wp
 simp[execOp,hop,resolve,invoke,builtin,hs,hx,hr,Result.andThen]
 exact hK g cap w' r1 r2 r3
theorem Fi(l:List ByteArray)(x:ByteArray)(M:Nat->Prop)(v:Value)(w:World)(hv:StrsV w M v l):Calls Tryz.prog 29 #[v,.string x] w fun e w'=>e=.returned (.int .i64 (CD l x))/\w'=w:=SI l x M v w hv
def IB(p:Int):List (List ByteArray)->ByteArray->Int
 | [],_=>p
 | l::ls,x=>IB (max p (CD l x)) ls x
theorem Nk:∀(LL:List (List ByteArray)) (p:Int) (x:ByteArray),IB p LL x<0↔p<0/\Ji LL x=false
 | [],p,x=>by unfold IB Ji;simp
 | l::ls,p,x=>by
  unfold IB
  have e:Ji (l::ls) x=(BE l x||Ji ls x):=rfl
  rw[Nk ls,e,Bool.or_eq_false_iff,<-Du]
  constructor
  ·rintro⟨h1,h2⟩
   exact⟨by omega,by omega,h2⟩
  ·rintro⟨h1,h2,h3⟩
   exact⟨by omega,h3⟩
theorem KW(LL:List (List ByteArray))(j:Nat):(LL.take j).flatten.length<=LL.flatten.length:=by
 have e:=congrArg (fun l=>l.flatten.length) (List.take_append_drop j LL)
 rw[List.flatten_append,Z1]at e
 omega
theorem P5(LL:List (List ByteArray))(j:Nat)(h:j<LL.length):(LL.take (j+1)).flatten.length=(LL.take j).flatten.length+LL[j].length:=by
 rw[List.take_succ_eq_append_getElem h,F9,Z1]
theorem LocsR.at{w:World}{BB n c:Nat}{la:Option Addr}{vis:List Value}{LL:List (List ByteArray)}(h:LocsR w BB (.slice la n c) vis LL)(i:Nat)(hi:i<LL.length):∃g v,la=some ⟨g,0,none⟩/\w.cell? ⟨g,i,none⟩=some v/\vis[i]?=some v/\g<w.heap.size/\w.ownsRow BB 9 1 v LL[i].length (BL LL[i]):=by
 obtain⟨v,e,hv⟩:=h.inner i hi
 have hr:=h.row
 rcases hr.2 with⟨_,h0⟩ | ⟨g,cap,cur,e2,_⟩
 ·omega
 ·injection e2 with e3 e4 e5
  subst e3 e4 e5
  exact⟨g,v,rfl,by rw[hr.cellAt i (by omega)];exact e,e,(hr.lt g rfl).2,hv⟩
structure Way(w wx:World)(Q BB:Nat)(vn vc vs:Value)(E:BI)(nx:Nat)(LL:List (List ByteArray))(f:Int×Int)(vl:Value)(k:Int)(x:ByteArray)(nm:Int)(xk:Value):Prop where
 ck:Ck wx Q BB vn vc vs E nx LL f vl
 box:Box4 wx w.heap.size (.int .i64 k) (.string x) (.int .i64 nm) xk
 fr:FrT w wx BB Q
theorem Way.fail{w wx wy:World}{Q BB nx:Nat}{vn vc vs vl xk:Value}{E:BI}{LL:List (List ByteArray)}{f f':Int×Int}{k nm:Int}{x:ByteArray}(h:Way w wx Q BB vn vc vs E nx LL f vl k x nm xk)(ho:CObj wy Q vn vc (nx:Int) vs vl E.inside E.returns f')(hg:wx.grownBy wy (some Q))(hq:Q<w.heap.size):Way w wy Q BB vn vc vs E nx LL f' vl k x nm xk:=by
 have hc:=h.ck.put (E':=E) hg ho rfl rfl
 exact⟨hc.1,(FrT.of_grown (N:=BB) hg).box h.box (by omega),h.fr.trans (FrT.of_grown hg)⟩
theorem Way.below{w wx wy:World}{Q BB nx:Nat}{vn vc vs vl xk:Value}{E:BI}{LL:List (List ByteArray)}{f:Int×Int}{k nm:Int}{x:ByteArray}(h:Way w wx Q BB vn vc vs E nx LL f vl k x nm xk)(hb:Below wx.heap.size wx wy):Way w wy Q BB vn vc vs E nx LL f vl k x nm xk:=
 ⟨h.ck.below hb,(hb.block _ h.box.lt).trans h.box,h.fr.trans (FrT.of_below hb)⟩
theorem MO{w:World}{X:Nat}{a b c d:Value}(h:Box4 w X a b c d):P3 w X:=fun cs t fz hc=>by
 have h':w.heap[X]?=some (.cells #[a,b,c,d] 24):=h
 rw[h']at hc
 injection hc with hc
 injection hc with _ hc _
 subst hc
 exact⟨by decide,by decide⟩
theorem EB(k:Int)(x:List Int)(m:Int)(ks:List Nd):A4 (.mk k x m ks)=1+A5 ks:=by conv=>lhs;unfold A4
theorem UP(E:BI)(O:List (List ByteArray))(k:Int)(tx:List Int)(nm:Int)(ks:List Nd)(s:StR)(h:k≠6) :
  Dl E O (.mk k tx nm ks) s=I1 O k (strOfNums tx) s.next (BM (Ek E k) O ks ⟨s.next+1,s.inn,J9 E k (strOfNums tx) s.next (Hg E k (O++[s.inn]) (strOfNums tx) s.next (Fy (Ek E k) k s.next s.bad))⟩):=by rw[Dl,if_neg h]
theorem So{w:World}{Q BB nx:Nat}{vn vc vs vl xk:Value}{E:BI}{LL:List (List ByteArray)}{f:Int×Int}{k nm:Int}{x:ByteArray}(h:Ck w Q BB vn vc vs E nx LL f vl) :
  ∃w1,w1=(w.setCell ⟨Q,2,none⟩ (.int .i64 ((nx:Int)+1))).alloc (.cells #[.int .i64 k,.string x,.int .i64 nm,xk] 24)/\Hid (Way w w1 Q BB vn vc vs E (nx+1) LL f vl k x nm xk):=by
 refine⟨_,rfl,?_⟩
 have hg1:w.grownBy (w.setCell ⟨Q,2,none⟩ (.int .i64 ((nx:Int)+1))) (some Q):=AJ w Q 2 _
 have hs0:(w.setCell ⟨Q,2,none⟩ (.int .i64 ((nx:Int)+1))).heap.size=w.heap.size:=by simp
 have e:=Box4.new (w.setCell ⟨Q,2,none⟩ (.int .i64 ((nx:Int)+1))) (.int .i64 k) (.string x) (.int .i64 nm) xk
 rw[hs0]at e
 exact⟨(h.put (nx':=nx+1) (E':=E) hg1 (h.obj.setNext ((nx:Int)+1)) rfl rfl).1.below ((Zg _ _).alloc (Z0 _) _),e,(FrT.of_grown hg1).trans (FrT.of_below ((Zg _ _).alloc (Z0 _) _))⟩
structure LoopW(w wr:World)(Q BB:Nat)(vn vc vs:Value)(E:BI)(O:List (List ByteArray))(k:Int)(x:ByteArray)(nm:Int)(xk:Value)(ks:List Nd)(R1:StR)(i:Nat)(s1:StR)(v1:Value):Prop where
 way:Way w wr Q BB vn vc vs E s1.next (O++[s1.inn]) s1.bad v1 k x nm xk
 eq:BM E O (ks.drop i) s1=R1
 few:Dr 1 O s1
 bound:s1.next+A5 (ks.drop i)<=100000
theorem LoopW.last{w wr:World}{Q BB i:Nat}{vn vc vs xk v1:Value}{E:BI}{O:List (List ByteArray)}{k nm:Int}{x:ByteArray}{ks:List Nd}{R1 s1:StR}(h:LoopW w wr Q BB vn vc vs E O k x nm xk ks R1 i s1 v1)(hi:¬i<ks.length):R1=s1:=by
 rw[<-h.eq,Z9 (by omega),BM]
theorem LoopW.next{w wr:World}{Q BB i c:Nat}{ad:Option Addr}{vn vc vs v1:Value}{E:BI}{O:List (List ByteArray)}{k nm:Int}{x:ByteArray}{ks:List Nd}{R1 s1:StR}(h:LoopW w wr Q BB vn vc vs E O k x nm (.slice ad ks.length c) ks R1 i s1 v1)(hsz:BB<=w.heap.size)(hqb:Q<BB)(hkk:0<ks.length->∃b o,ad=some ⟨b,o,none⟩/\Low BB Q b/\b<w.heap.size/\NodesAt w (Low BB Q) b o ks)(hks:∀i (h:i<ks.length),Hh Q BB vn vc vs ks[i])(hlt:i<ks.length) :
  ∃b o,ad=some ⟨b,o,none⟩/\b<wr.heap.size/\∃(y0:Int) (y1:ByteArray) (y2:Int) (adx:Option Addr) (lx cx:Nat) (s2:StR),(wr.cell? ⟨b,o+i*4,none⟩=some (.int .i64 y0)/\wr.cell? ⟨b,o+i*4+1,none⟩=some (.string y1)/\wr.cell? ⟨b,o+i*4+2,none⟩=some (.int .i64 y2)/\wr.cell? ⟨b,o+i*4+3,none⟩=some (.slice adx lx cx)) /\
   (Calls Tryz.prog 31 #[.pointer (some ⟨Q,0,none⟩),.agg #[.int .i64 y0,.string y1,.int .i64 y2,.slice adx lx cx]] wr fun e w'=>e=.returned (.tuple #[])/\(∃vl',Ck w' Q BB vn vc vs E s2.next (O++[s2.inn]) s2.bad vl')/\FrT wr w' BB Q) /\
   ∀(w2:World) (v2:Value),Ck w2 Q BB vn vc vs E s2.next (O++[s2.inn]) s2.bad v2->FrT wr w2 BB Q->Hid (LoopW w w2 Q BB vn vc vs E O k x nm (.slice ad ks.length c) ks R1 (i+1) s2 v2):=by
 obtain⟨b,o,rfl,hMb,hbw,hnodes⟩:=hkk (by omega)
 have hab:=(h.way.fr.fr hsz).above
 have hkw:NodesAt wr (Low BB Q) b o ks:=NodesAt.above hab ks b o hMb hbw hnodes
 obtain⟨xx,hkx,c0,c1,c2,c3⟩:=D4 hkw hlt
 obtain⟨adx,cx0,hxx,_⟩:=id hkx
 have hdr:ks.drop i=ks[i]::ks.drop (i+1):=Z4 hlt
 have hsz':A5 (ks.drop i)=A4 ks[i]+A5 (ks.drop (i+1)):=by rw[hdr];conv=>lhs;unfold A5
 have hbd:=h.bound
 have hcl:=hks i hlt E O s1 v1 (.agg (Bb ks[i] xx).toArray) wr h.way.ck ⟨xx,rfl,hkx⟩ (by have:=h.few;unfold Dr at this⊢;omega) (by omega)
 have hun:(Bb ks[i] xx).toArray=#[.int .i64 ks[i].kind,.string (strOfNums ks[i].text),.int .i64 ks[i].num,xx]:=rfl
 rw[hun]at hcl
 subst hxx
 refine⟨b,o,rfl,by have:=hab.size;omega,_,_,_,_,_,_,Dl E O ks[i] s1,⟨c0,c1,c2,c3⟩,hcl,fun w2 v2 hc2 hf2=>⟨⟨hc2,hf2.box h.way.box (by omega),h.way.fr.trans hf2⟩,?_,KT _ _ _ _ _ h.few,?_⟩⟩
 ·have e:=h.eq
  rw[hdr,BM]at e
  exact e
 ·rw[Jj]
  omega
theorem Way.last{w wr:World}{Q BB nx:Nat}{vn vc vs vl xk:Value}{E E0:BI}{LL:List (List ByteArray)}{f:Int×Int}{k nm:Int}{x:ByteArray}(h:Way w wr Q BB vn vc vs E nx LL f vl k x nm xk)(hE:{ E with returns:=E0.returns }=E0):Ck (wr.setCell ⟨Q,6,none⟩ (.bool E0.returns)) Q BB vn vc vs E0 nx LL f vl/\FrT w (wr.setCell ⟨Q,6,none⟩ (.bool E0.returns)) BB Q:=by
 have hg:wr.grownBy (wr.setCell ⟨Q,6,none⟩ (.bool E0.returns)) (some Q):=AJ wr Q 6 _
 have hc:=h.ck.put (nx':=nx) (E':={ E with returns:=E0.returns }) hg (h.ck.obj.setRet E0.returns) rfl rfl
 rw[hE]at hc
 exact⟨hc.1,h.fr.trans (FrT.of_grown hg)⟩
end Go.Proofs.YtibeadcfgcfdbaaGreatDoor
