/- Texts in one. -/
import Derived.Test.YtpfdgbalchmmfaaGreatDoorNb
import Derived.Lib.OwnKind
import Derived.Deep.RegionLaw
import Derived.OneCell
import Derived.Deep.DeepCutAuto
import Derived.Deep.RegionHeld3
set_option linter.unusedSimpArgs false
set_option linter.unusedVariables false
set_option maxHeartbeats 16000000
set_option maxRecDepth 20000
namespace Go.Proofs.YtpfdgbalchmmfaaGreatDoor
open Go.RowKit
theorem AF{w w':World}{base n size:Nat}{v:Value}{xs:List Value}{e:TypeId}(h:w.ownsRow base e size v n xs)(hb:∀g,v.ownBlock=some g->w'.heap[g]?=w.heap[g]?):w'.ownsRow base e size v n xs:=by
 refine⟨h.1,?_⟩
 rcases h.2 with h0 | ⟨g,cap,cur,rfl,h1,hg,r⟩
 ·exact Or.inl h0
 ·exact Or.inr ⟨g,cap,cur,rfl,h1,(hb g rfl).trans hg,r⟩
theorem BI{w:World}{B B' n n' size size':Nat}{v v':Value}{xs xs':List Value}{e e':TypeId}(h:w.ownsRow B e size v n xs)(h':w.ownsRow B' e' size' v' n' xs')(he:e≠e'){g:Nat}(hg:v.ownBlock=some g):v'.ownBlock≠some g:=fun hg'=>by
 obtain⟨c,fz,h1⟩:=Lib.ownsRow_kind h g hg
 obtain⟨c',fz',h2⟩:=Lib.ownsRow_kind h' g hg'
 rw[h1]at h2
 injection h2 with h2
 injection h2 with _ h2 _
 exact he h2
theorem Aq{w:World}{B n size:Nat}{v:Value}{xs:List Value}{e:TypeId}(h:w.ownsRow B e size v n xs):∃ad c,v=.slice ad n c:=by
 rcases h.2 with⟨rfl,rfl⟩ | ⟨g,cap,cur,rfl,_⟩
 ·exact⟨none,0,rfl⟩
 ·exact⟨_,cap,rfl⟩
theorem DJ{w:World}{B B' n size:Nat}{v:Value}{xs:List Value}{e:TypeId}(h:w.ownsRow B e size v n xs)(hB:B'<=B):w.ownsRow B' e size v n xs:=by
 refine⟨h.1,?_⟩
 rcases h.2 with h0 | ⟨g,cap,cur,rfl,hb,r⟩
 ·exact Or.inl h0
 ·exact Or.inr ⟨g,cap,cur,rfl,Za hB hb,r⟩
theorem Lq{t e:TypeId}{size bytes:Nat}(he:Ef t e size bytes){w:World}{ty:TypeId}{base n m:Nat}{v u:Value}{xs news:List Value}(hown:w.ownsRow base e size v n xs)(hn:news.length=m*size)(hu:(u=.slice none 0 0/\m=0)\/∃ad c,u=.slice (some ad) m c/\∀j x,news[j]?=some x->w.cell? (ad.add j)=some x)(h1:∀x∈news,x.oneCell'=true)(hb:n+m<=1000000)(hbase:base<=w.heap.size) :
  ∃v' w',(Builtin.append_ #[t,t] ty #[v,u]).run Tryz.prog w=.ok v' w'/\w'.ownsRow base e size v' (n+m) (xs++news)/\w.grownBy w' v.ownBlock:=by
 obtain⟨i,z,hi,hz0,hz1,hz2,hz3⟩:=he.info
 rcases hu with⟨rfl,rfl⟩ | ⟨ad,c,rfl,hc⟩
 ·have e0:news=[]:=Zd (by omega)
  subst e0
  refine⟨v,w,run_append_owned_none _ base t ty e i size he.under hi v n xs hown,by rw[List.append_nil];exact hown,⟨rfl,rfl,rfl,Z0 _,fun _ _ _=>rfl⟩⟩
 ·have hm:(n+m)*bytes<=140737488355328:=Za (Nat.mul_le_mul (show n+m<=1000001 by omega) he.few) (by decide)
  obtain⟨v',w',hr,r1,r2,_⟩:=run_append_own (P:=Tryz.prog) w base t ty e i _ size bytes he.under hi hz0 hz1 hz2 hz3 he.pos v n xs hown ad m c news hn hc h1 (by unfold maxLen;omega) hm hbase
  exact⟨v',w',hr,r1,r2⟩
theorem Lr(l:List ByteArray):∀x∈B5 l,x.oneCell'=true:=fun x hx=>by
 unfold B5 at hx
 obtain⟨y,-,rfl⟩:=List.mem_map.1 hx
 rfl
theorem EY{t e:TypeId}{size bytes:Nat}(he:Ef t e size bytes){ops:Array Oper}{o:Oper}{a:Act}{w:World}{K:Act->World->Prop}{Q:Exit->Act->World->Prop}{E:Prop}(hg:o.guard=none)(s x:Operand)(hop:o.op=Op.call { callee:=Callee.builtin Builtin.append,args:=#[s,x],argTypes:=#[t,t] }){base n c:Nat}(v:Value)(ad:Addr){xs news:List Value}(hs:a.eval s=v)(hx:a.eval x=.slice (some ad) 1 c)(hown:w.ownsRow base e size v n xs)(hn:news.length=size)(hc:∀j u,news[j]?=some u->w.cell? (ad.add j)=some u)(h1:∀x∈news,x.oneCell'=true)(hb:n<=900000)(hbase:base<=w.heap.size)(hK:∀g cap w',w'.ownsRow base e size (sl g (n+1) cap) (n+1) (xs++news)->w.grownBy w' v.ownBlock->Onto w v (sl g (n+1) cap)->K (a.put o.dst (sl g (n+1) cap)) w') :
  if Region.wanted o (yielded ops a.tmps)=true then Oper.wp Tryz.prog o a w K Q else E:=by
 have hw:Region.wanted o (yielded ops a.tmps)=true:=by simp[Region.wanted,hg]
 rw[if_pos hw]
 obtain⟨v',w',hr,r1,r2⟩:=Lq he (ty:=o.type) (m:=1) hown (by rw[hn,Nat.one_mul]) (Or.inr ⟨ad,c,rfl,hc⟩) h1 (by omega) hbase
 have hwh:=Ip he hown hn hc h1 (by omega) hr
 rcases r1.2 with⟨_,h0⟩ | ⟨g,cap,cur,rfl,r⟩
 ·omega
 ·unfold Oper.wp
  simp[execOp,hop,resolve,invoke,builtin,hs,hx,hr,Result.andThen]
  exact hK g cap w' r1 r2 (by
   rcases hwh with h | h
   ·exact Or.inl h
   ·exact Or.inr fun k e=>by
     rw[h]at e
     injection e with e
     exact Nat.le_of_eq e)
theorem EA(w:World)(xs:List Value)(e:TypeId):∀j u,xs[j]?=some u->(w.alloc (.cells xs.toArray e)).cell? ((⟨w.heap.size,0,none⟩:Addr).add j)=some u:=fun j u h=>by
 rw[Hc,Nat.zero_add,cell_of_row _ _ _ _ _ _ (heap_alloc_new w (.cells xs.toArray e))]
 simpa using h
def Hz(o:Ord):List Value:=[.int .i64 o.1,.int .i64 o.2.1,.int .i64 o.2.2]
def DY(l:List Ord):List Value:=l.flatMap Hz
theorem Py(l:List Ord)(o:Ord):DY (l++[o])=DY l++Hz o:=by simp[DY,List.flatMap_append]
theorem NR(o:Ord):∀u∈Hz o,u.oneCell'=true:=fun u hu=>by
 unfold Hz at hu
 simp at hu
 rcases hu with rfl | rfl | rfl<;>rfl
theorem Ff(o:Ord)(l:List Ord):DY (o::l)=.int .i64 o.1::.int .i64 o.2.1::.int .i64 o.2.2::DY l:=by simp[DY,Hz]
theorem KV:∀(l:List Ord) (k:Nat) (h:k<l.length),(DY l)[k*3]?=some (.int .i64 l[k].1)/\(DY l)[k*3+1]?=some (.int .i64 l[k].2.1)/\(DY l)[k*3+2]?=some (.int .i64 l[k].2.2)
 | [],k,h=>by cases h
 | a::r,k,h=>by
  rw[Ff]
  cases k with
  | zero=>exact⟨rfl,rfl,rfl⟩
  | succ k=>
   obtain⟨h1,h2,h3⟩:=KV r k (by simp at h;omega)
   refine⟨?_,?_,?_⟩
   ·rw[show(k+1)*3=k*3+3 by omega];exact h1
   ·rw[show(k+1)*3+1=k*3+1+3 by omega];exact h2
   ·rw[show(k+1)*3+2=k*3+2+3 by omega];exact h3
theorem Jy(a:Int):∀(l:List Ord) (i:Nat),DY (l.modify i fun o=>(o.1,a,o.2.2))=(DY l).set (i*3+1) (.int .i64 a)
 | [],i=>by
  rw[List.modify_nil]
  rfl
 | o::r,0=>by
  rw[List.modify_zero_cons,Ff,Ff]
  rfl
 | o::r,i+1=>by
  rw[List.modify_succ_cons,Ff,Ff,Jy a r i,show(i+1)*3+1=i*3+1+1+1+1 by omega]
  rfl
structure RowsO(w:World)(B:Nat)(vL:Value)(vis:List Value)(LL:List (List Ord)):Prop where
 row:w.ownsRow B 33 1 vL LL.length vis
 inner:∀i (h:i<LL.length),∃v,vis[i]?=some v/\w.ownsRow B 35 3 v LL[i].length (DY LL[i])
 apart:∀(i j:Nat) (v v':Value) (g:Nat),i≠j->vis[i]?=some v->vis[j]?=some v'->v.ownBlock=some g->v'.ownBlock≠some g
theorem RowsO.len{w:World}{B:Nat}{vL:Value}{vis:List Value}{LL:List (List Ord)}(h:RowsO w B vL vis LL):vis.length=LL.length:=by rw[h.row.1,Nat.mul_one]
theorem Hi:(35:TypeId)≠33:=by decide
theorem RowsO.same{w w':World}{B:Nat}{vL:Value}{vis:List Value}{LL:List (List Ord)}(h:RowsO w B vL vis LL)(hb:∀(k:Nat) c fz e,w.heap[k]?=some (Obj.cells c e fz)->(e=33\/e=35)->w'.heap[k]?=w.heap[k]?):RowsO w' B vL vis LL:=
 ⟨AF h.row fun g e=>by
  obtain⟨c,fz,hc⟩:=Lib.ownsRow_kind h.row g e
  exact hb g c fz _ hc (Or.inl rfl),fun i hi=>by
  obtain⟨v,e,hv⟩:=h.inner i hi
  refine⟨v,e,AF hv fun g e=>?_⟩
  obtain⟨c,fz,hc⟩:=Lib.ownsRow_kind hv g e
  exact hb g c fz _ hc (Or.inr rfl),h.apart⟩
theorem RowsO.more{w w':World}{B:Nat}{vL vL':Value}{vis:List Value}{LL:List (List Ord)}(h:RowsO w B vL vis LL)(hg:w.grownBy w' vL.ownBlock)(hr:w'.ownsRow B 33 1 vL' (LL.length+1) (vis++[.slice none 0 0])):RowsO w' B vL' (vis++[.slice none 0 0]) (LL++[[]]):=by
 have hl:=h.len
 refine⟨by rw[Z1];exact hr,fun i hi=>?_,fun i j u u' g hij hu hu' hg'=>?_⟩
 ·rw[Z1]at hi
  by_cases hlt:i<LL.length
  ·obtain⟨u,e,hu⟩:=h.inner i hlt
   refine⟨u,by rw[List.getElem?_append_left (by omega)];exact e,?_⟩
   rw[Zb hlt]
   exact AF hu fun g e=>hg.block g (hu.lt g e).2 (fun e'=>BI hu h.row Hi e e'.symm)
  ·have hi':i=LL.length:=by simp at hi;omega
   subst hi'
   refine⟨.slice none 0 0,by rw[<-hl,List.getElem?_append_right (Z0 _),Nat.sub_self];rfl,?_⟩
   rw[Zc (Z0 _)]
   simp only[Nat.sub_self,List.getElem_cons_zero]
   exact Zl _ _ _ _
 ·by_cases hi:i<vis.length
  ·rw[List.getElem?_append_left hi]at hu
   by_cases hj:j<vis.length
   ·rw[List.getElem?_append_left hj]at hu'
    exact h.apart i j u u' g hij hu hu' hg'
   ·have hj':j=vis.length:=by have:=(List.getElem?_eq_some_iff.1 hu').1;simp at this;omega
    subst hj'
    rw[List.getElem?_append_right (Z0 _),Nat.sub_self]at hu'
    injection hu' with hu'
    rw[<-hu']
    intro e;cases e
  ·have hi':i=vis.length:=by have:=(List.getElem?_eq_some_iff.1 hu).1;simp at this;omega
   subst hi'
   rw[List.getElem?_append_right (Z0 _),Nat.sub_self]at hu
   injection hu with hu
   subst hu
   cases hg'
theorem RowsO.push{w w':World}{B g cap n at':Nat}{vis:List Value}{LL:List (List Ord)}{o:Ord}{v v':Value}(h:RowsO w B (.slice (some ⟨g,0,none⟩) n cap) vis LL)(hat:at'<LL.length)(hn:n=LL.length)(hv:vis[at']?=some v)(hk:w.grownBy w' v.ownBlock)(ho:Onto w v v')(hr:w'.ownsRow B 35 3 v' (LL[at'].length+1) (DY LL[at']++Hz o)) :
  RowsO (w'.setCell ⟨g,at',none⟩ v') B (.slice (some ⟨g,0,none⟩) n cap) (vis.set at' v') (LL.modify at' (·++[o])):=by
 subst hn
 have hl:=h.len
 obtain⟨v0,e0,hv0⟩:=h.inner at' hat
 have ev:v0=v:=by rw[hv]at e0;injection e0 with e0;exact e0.symm
 subst ev
 have hrow:w'.ownsRow B 33 1 (.slice (some ⟨g,0,none⟩) LL.length cap) LL.length vis:=AF h.row fun k e=>hk.block k (h.row.lt k e).2 (fun e'=>BI h.row hv0 (fun e=>Hi e.symm) e e'.symm)
 have hst:=(hrow.stored at' v').1
 have hgne:∀(u:Value) (m:Nat) (xs:List Value),w'.ownsRow B 35 3 u m xs->(w'.setCell ⟨g,at',none⟩ v').ownsRow B 35 3 u m xs:=fun u m xs hu=>ownsRow_setCell_other hu (a:=⟨g,at',none⟩) (fun e=>BI hu hrow Hi e rfl) _
 refine⟨by rw[List.length_modify];exact hst,fun i hi=>?_,fun i j u u' k hij hu hu' hg=>?_⟩
 ·rw[List.length_modify]at hi
  by_cases hia:i=at'
  ·subst hia
   refine⟨v',by rw[List.getElem?_set_self (by omega)],?_⟩
   rw[List.getElem_modify_eq,Z1,Py]
   exact hgne _ _ _ hr
  ·obtain⟨u,e,hu⟩:=h.inner i hi
   refine⟨u,by rw[List.getElem?_set_ne (fun e=>hia e.symm)];exact e,?_⟩
   rw[List.getElem_modify,if_neg (fun e=>hia e.symm)]
   exact hgne _ _ _ (AF hu fun k e'=>hk.block k (hu.lt k e').2 (fun e''=>h.apart i at' u v0 k hia e hv e' e''.symm))
 ·have old:∀(i:Nat) (u:Value) (k:Nat),i≠at'->vis[i]?=some u->u.ownBlock=some k->v'.ownBlock≠some k:=fun i u k hi hu hk' hv'=>by
   have hil:=(List.getElem?_eq_some_iff.1 hu).1
   obtain⟨u2,e2,hu2⟩:=h.inner i (by omega)
   have e3:u2=u:=by rw[hu]at e2;injection e2 with e2;exact e2.symm
   subst e3
   rcases ho with ho | ho
   ·exact h.apart i at' u2 v0 k hi hu hv hk' (by rw[<-ho];exact hv')
   ·have:=ho k hv'
    have:=(hu2.lt k hk').2
    omega
  by_cases hi:i=at'
  ·subst hi
   rw[List.getElem?_set_self (by omega)]at hu
   injection hu with hu
   subst hu
   rw[List.getElem?_set_ne (by omega)]at hu'
   exact fun e=>old j u' k (fun e=>hij e.symm) hu' e hg
  ·rw[List.getElem?_set_ne (fun e=>hi e.symm)]at hu
   by_cases hj:j=at'
   ·subst hj
    rw[List.getElem?_set_self (by omega)]at hu'
    injection hu' with hu'
    rw[<-hu']
    exact old i u k hi hu hg
   ·rw[List.getElem?_set_ne (fun e=>hj e.symm)]at hu'
    exact h.apart i j u u' k hij hu hu' hg
theorem RowsO.patch{w:World}{B g n cap at' i:Nat}{vL:Value}{vis:List Value}{LL:List (List Ord)}{a:Int}(h:RowsO w B vL vis LL)(hat:at'<LL.length)(hv:vis[at']?=some (.slice (some ⟨g,0,none⟩) n cap))(_hi:i<LL[at'].length) :
  RowsO (w.setCell ⟨g,i*3+1,none⟩ (.int .i64 a)) B vL vis (LL.modify at' fun l=>l.modify i fun o=>(o.1,a,o.2.2)):=by
 obtain⟨v0,e0,hv0⟩:=h.inner at' hat
 have ev:v0=.slice (some ⟨g,0,none⟩) n cap:=by rw[hv]at e0;injection e0 with e0;exact e0.symm
 subst ev
 have hn:n=LL[at'].length:=by
  rcases hv0.2 with⟨e,_⟩ | ⟨g',cap',cur,e,_⟩
  ·cases e
  ·injection e
 subst hn
 refine⟨by rw[List.length_modify];exact ownsRow_setCell_other h.row (a:=⟨g,i*3+1,none⟩) (fun e=>BI hv0 h.row Hi rfl e) _,fun j hj=>?_,h.apart⟩
 rw[List.length_modify]at hj
 by_cases hja:j=at'
 ·subst hja
  refine⟨_,hv,?_⟩
  rw[List.getElem_modify_eq,List.length_modify,Jy]
  exact(hv0.stored (i*3+1) (.int .i64 a)).1
 ·obtain⟨u,e,hu⟩:=h.inner j hj
  refine⟨u,e,?_⟩
  rw[List.getElem_modify,if_neg (fun e=>hja e.symm)]
  exact ownsRow_setCell_other hu (a:=⟨g,i*3+1,none⟩) (fun e'=>h.apart j at' u _ g hja e hv e' rfl) _
theorem Tv:(Tryz.prog.info? 35).map (fun i=>(i.zero,i.size,i.bytes))=some (some (.agg #[.int .i64 0,.int .i64 0,.int .i64 0]),3,24):=by kernel_rfl
theorem UO:Ef 33 35 3 24:=by
 obtain⟨i,h1,h2⟩:=Option.map_eq_some_iff.1 Tv
 simp only[Prod.mk.injEq]at h2
 exact⟨by kernel_rfl,⟨i,_,h1,h2.1,h2.2.1,h2.2.2,by decide⟩,by decide,by decide⟩
theorem Sk:(Tryz.prog.info? 33).map (fun i=>(i.zero,i.size,i.bytes))=some (some (.slice none 0 0),1,24):=by kernel_rfl
theorem Uo:Ef 24 33 1 24:=by
 obtain⟨i,h1,h2⟩:=Option.map_eq_some_iff.1 Sk
 simp only[Prod.mk.injEq]at h2
 exact⟨by kernel_rfl,⟨i,_,h1,h2.1,h2.2.1,h2.2.2,by decide⟩,by decide,by decide⟩
theorem Tw:(Tryz.prog.info? 3).map (fun i=>(i.zero,i.size,i.bytes))=some (some (.int .i64 0),1,8):=by kernel_rfl
theorem Uz:Ef 25 3 1 8:=by
 obtain⟨i,h1,h2⟩:=Option.map_eq_some_iff.1 Tw
 simp only[Prod.mk.injEq]at h2
 exact⟨by kernel_rfl,⟨i,_,h1,h2.1,h2.2.1,h2.2.2,by decide⟩,by decide,by decide⟩
def MkObj(w:World)(Q:Nat)(vC vN vL vK vS:Value):Prop:=w.heap[Q]?=some (.cells #[vC,vN,vL,vK,vS] 45)
theorem MkObj.lt{w:World}{Q:Nat}{vC vN vL vK vS:Value}(h:MkObj w Q vC vN vL vK vS):Q<w.heap.size:=(Array.getElem?_eq_some_iff.1 h).1
theorem MkObj.cells{w:World}{Q:Nat}{vC vN vL vK vS:Value}(h:MkObj w Q vC vN vL vK vS):(w.cell? ⟨Q,0,none⟩=some vC/\w.cell? ⟨Q,1,none⟩=some vN/\w.cell? ⟨Q,2,none⟩=some vL/\w.cell? ⟨Q,3,none⟩=some vK/\w.cell? ⟨Q,4,none⟩=some vS)/\∀j,w.frozen? ⟨Q,j,none⟩=false:=
 ⟨⟨cell_of_row _ _ _ _ _ _ h,cell_of_row _ _ _ _ _ _ h,cell_of_row _ _ _ _ _ _ h,cell_of_row _ _ _ _ _ _ h,cell_of_row _ _ _ _ _ _ h⟩,fun _=>frozen_of_row _ _ _ _ _ h⟩
theorem MkObj.setC{w:World}{Q:Nat}{vC vN vL vK vS:Value}(h:MkObj w Q vC vN vL vK vS)(v:Value):MkObj (w.setCell ⟨Q,0,none⟩ v) Q v vN vL vK vS:=heap_setCell_same _ _ _ _ _ _ h
theorem MkObj.setN{w:World}{Q:Nat}{vC vN vL vK vS:Value}(h:MkObj w Q vC vN vL vK vS)(v:Value):MkObj (w.setCell ⟨Q,1,none⟩ v) Q vC v vL vK vS:=heap_setCell_same _ _ _ _ _ _ h
theorem MkObj.setL{w:World}{Q:Nat}{vC vN vL vK vS:Value}(h:MkObj w Q vC vN vL vK vS)(v:Value):MkObj (w.setCell ⟨Q,2,none⟩ v) Q vC vN v vK vS:=heap_setCell_same _ _ _ _ _ _ h
theorem MkObj.setK{w:World}{Q:Nat}{vC vN vL vK vS:Value}(h:MkObj w Q vC vN vL vK vS)(v:Value):MkObj (w.setCell ⟨Q,3,none⟩ v) Q vC vN vL v vS:=heap_setCell_same _ _ _ _ _ _ h
theorem MkObj.setS{w:World}{Q:Nat}{vC vN vL vK vS:Value}(h:MkObj w Q vC vN vL vK vS)(v:Value):MkObj (w.setCell ⟨Q,4,none⟩ v) Q vC vN vL vK v:=heap_setCell_same _ _ _ _ _ _ h
def WrObj(w:World)(R Q at':Nat)(vs vl:Value):Prop:=w.heap[R]?=some (.cells #[.pointer (some ⟨Q,0,none⟩),.int .i64 (at':Int),vs,vl] 51)
theorem WrObj.lt{w:World}{R Q at':Nat}{vs vl:Value}(h:WrObj w R Q at' vs vl):R<w.heap.size:=(Array.getElem?_eq_some_iff.1 h).1
theorem WrObj.cells{w:World}{R Q at':Nat}{vs vl:Value}(h:WrObj w R Q at' vs vl):(w.cell? ⟨R,0,none⟩=some (.pointer (some ⟨Q,0,none⟩))/\w.cell? ⟨R,1,none⟩=some (.int .i64 (at':Int))/\w.cell? ⟨R,2,none⟩=some vs/\w.cell? ⟨R,3,none⟩=some vl)/\∀j,w.frozen? ⟨R,j,none⟩=false:=
 ⟨⟨cell_of_row _ _ _ _ _ _ h,cell_of_row _ _ _ _ _ _ h,cell_of_row _ _ _ _ _ _ h,cell_of_row _ _ _ _ _ _ h⟩,fun _=>frozen_of_row _ _ _ _ _ h⟩
theorem WrObj.setLoc{w:World}{R Q at':Nat}{vs vl:Value}(h:WrObj w R Q at' vs vl)(v:Value):WrObj (w.setCell ⟨R,3,none⟩ v) R Q at' vs v:=heap_setCell_same _ _ _ _ _ _ h
def Fj(w:World)(k:Nat):Prop:=∃c e fz,w.heap[k]?=some (Obj.cells c e fz)/\(e=3\/e=33\/e=35)
structure FrO(w w':World)(Q R:Nat)(vN vl:Value):Prop where
 os:w'.os=w.os
 tape:w'.tape=w.tape
 output:w'.output=w.output
 size:w.heap.size<=w'.heap.size
 block:∀k,k<w.heap.size->k≠Q->k≠R->vN.ownBlock≠some k->vl.ownBlock≠some k->(k<=Q\/¬Fj w k)->w'.heap[k]?=w.heap[k]?
theorem FrO.of_grown{w w':World}{Q R:Nat}{vN vl:Value}{m:Option Nat}(hg:w.grownBy w' m)(hm:∀k,m=some k->k=Q\/k=R\/vN.ownBlock=some k\/vl.ownBlock=some k\/(Q<k/\Fj w k)):FrO w w' Q R vN vl:=
 ⟨hg.os,hg.tape,hg.output,hg.size,fun k h1 h2 h3 h4 h5 h6=>hg.block k h1 (fun e=>by
  rcases hm k e.symm with h | h | h | h | ⟨h,h'⟩
  ·exact h2 h
  ·exact h3 h
  ·exact h4 h
  ·exact h5 h
  ·rcases h6 with h6 | h6
   ·omega
   ·exact h6 h')⟩
theorem FrO.of_below{w w':World}{Q R:Nat}{vN vl:Value}(hb:Below w.heap.size w w'):FrO w w' Q R vN vl:=⟨hb.os,hb.tape,hb.output,hb.size,fun k h _ _ _ _ _=>hb.block k h⟩
theorem FrO.refl(w:World)(Q R:Nat)(vN vl:Value):FrO w w Q R vN vl:=FrO.of_below (Zg _ _)
theorem FrO.trans{w w1 w2:World}{Q R:Nat}{vN vN1 vl vl1:Value}(h:FrO w w1 Q R vN vl)(h1:FrO w1 w2 Q R vN1 vl1)(hN:Onto w vN vN1)(hl:Onto w vl vl1):FrO w w2 Q R vN vl:=
 ⟨h1.os.trans h.os,h1.tape.trans h.tape,h1.output.trans h.output,Za h.size h1.size,fun k a b c d e f=>by
  have e0:=h.block k a b c d e f
  have on:∀ {v v1:Value},Onto w v v1->v.ownBlock≠some k->v1.ownBlock≠some k:=fun ho hv e=>by
   rcases ho with ho | ho
   ·exact hv (by rw[<-ho];exact e)
   ·have:=ho k e;omega
  refine(h1.block k (Z5 a h.size) b c (on hN d) (on hl e) ?_).trans e0
  rcases f with f | f
  ·exact Or.inl f
  ·exact Or.inr fun⟨c,t,fz,hc,ht⟩=>f ⟨c,t,fz,by rw[<-e0];exact hc,ht⟩⟩
def CE(l:List Nat):List Value:=l.map fun(n:Nat)=>.int .i64 (n:Int)
structure ClsN(w:World)(Q:Nat)(vC:Value)(cls:List ByteArray):Prop where
 row:∃xs,w.ownsRow (Q+1) 68 4 vC cls.length xs/\∀i (h:i<cls.length),∃u1 u2 ma mn mc,xs[i*4]?=some (.string cls[i])/\xs[i*4+1]?=some (.int .i64 u1)/\xs[i*4+2]?=some (.int .i64 u2)/\xs[i*4+3]?=some (.slice ma mn mc)
structure CnO where
 Q:Nat
 BB:Nat
 vC:Value
 vS:Value
 cls:List ByteArray
structure MkO(w:World)(c:CnO)(s:MW)(vN:Value):Prop where
 obj:∃vL vK vis,MkObj w c.Q c.vC vN vL vK c.vS/\RowsO w (c.Q+1) vL vis s.lists/\w.ownsRow (c.Q+1) 3 1 vK s.counts.length (CE s.counts)
 names:w.ownsRow c.BB 9 1 vN s.names.length (B5 s.names)
 cls:ClsN w c.Q c.vC c.cls
 qb:c.Q<c.BB
 size:c.BB<=w.heap.size
structure WrO(w:World)(c:CnO)(R at':Nat)(vs:Value)(slots:List ByteArray)(s:MW)(vN vl:Value):Prop where
 mkr:MkO w c s vN
 obj:WrObj w R c.Q at' vs vl
 row:w.ownsRow c.BB 9 1 vl s.locals.length (B5 s.locals)
 apart:∀g,vN.ownBlock=some g->vl.ownBlock≠some g
 slots:w.ownsRow (c.Q+1) 9 1 vs slots.length (B5 slots)
 low:∀g,vs.ownBlock=some g->g<c.BB
 rb:c.BB<=R
def OutO(w:World)(c:CnO)(R at':Nat)(vs:Value)(slots:List ByteArray)(s':MW)(vN vl:Value)(w':World):Prop:=∃vN' vl',WrO w' c R at' vs slots s' vN' vl'/\FrO w w' c.Q R vN vl/\Onto w vN vN'/\Onto w vl vl'
theorem D4{w:World}{k:Nat}{c:Array Value}{e:TypeId}{fz:Nat×Nat}(h:w.heap[k]?=some (Obj.cells c e fz))(h1:e≠3)(h2:e≠33)(h3:e≠35):¬Fj w k:=fun⟨c',e',fz',h',ht⟩=>by
 rw[h]at h'
 injection h' with h'
 injection h' with _ h' _
 subst h'
 rcases ht with ht | ht | ht
 ·exact h1 ht
 ·exact h2 ht
 ·exact h3 ht
theorem CB{w:World}{B n size:Nat}{v:Value}{xs:List Value}{e:TypeId}(h:w.ownsRow B e size v n xs)(h1:e≠3)(h2:e≠33)(h3:e≠35){g:Nat}(hg:v.ownBlock=some g):¬Fj w g:=by
 obtain⟨c,fz,hc⟩:=Lib.ownsRow_kind h g hg
 exact D4 hc h1 h2 h3
theorem ET{w:World}{B n size:Nat}{v:Value}{xs:List Value}{e:TypeId}(h:w.ownsRow B e size v n xs)(he:e=3\/e=33\/e=35){g:Nat}(hg:v.ownBlock=some g):Fj w g:=by
 obtain⟨c,fz,hc⟩:=Lib.ownsRow_kind h g hg
 exact⟨c,e,fz,hc,he⟩
theorem AJ{w:World}{B n size:Nat}{v:Value}{xs:List Value}{e:TypeId}(h:w.ownsRow B e size v n xs){k:Nat}{c:Array Value}{e':TypeId}{fz:Nat×Nat}(hk:w.heap[k]?=some (Obj.cells c e' fz))(he:e≠e'):v.ownBlock≠some k:=fun hg=>by
 obtain⟨c',fz',hc⟩:=Lib.ownsRow_kind h k hg
 rw[hk]at hc
 injection hc with hc
 injection hc with _ hc _
 exact he hc.symm
theorem ClsN.same{w w':World}{Q:Nat}{vC:Value}{cls:List ByteArray}(h:ClsN w Q vC cls)(hb:∀g,vC.ownBlock=some g->w'.heap[g]?=w.heap[g]?):ClsN w' Q vC cls:=by
 obtain⟨xs,h1,h2⟩:=h.row
 exact⟨xs,AF h1 hb,h2⟩
theorem MkO.below{w w':World}{c:CnO}{s:MW}{vN:Value}(h:MkO w c s vN)(hb:Below w.heap.size w w'):MkO w' c s vN:=by
 obtain⟨vL,vK,vis,h1,h2,h3⟩:=h.obj
 have hlt:∀ {k:Nat} {o:Obj},w.heap[k]?=some o->k<w.heap.size:=fun hk=>(Array.getElem?_eq_some_iff.1 hk).1
 obtain⟨xs,hx,hxs⟩:=h.cls.row
 exact⟨⟨vL,vK,vis,(hb.block _ h1.lt).trans h1,h2.same fun k c fz e hc _=>hb.block k (hlt hc),AF h3 fun g e=>hb.block g (h3.lt g e).2⟩,AF h.names fun g e=>hb.block g (h.names.lt g e).2,⟨xs,AF hx fun g e=>hb.block g (hx.lt g e).2,hxs⟩,h.qb,Za h.size hb.size⟩
theorem WrO.below{w w':World}{c:CnO}{R at':Nat}{vs:Value}{slots:List ByteArray}{s:MW}{vN vl:Value}(h:WrO w c R at' vs slots s vN vl)(hb:Below w.heap.size w w'):WrO w' c R at' vs slots s vN vl:=
 ⟨h.mkr.below hb,(hb.block _ h.obj.lt).trans h.obj,AF h.row fun g e=>hb.block g (h.row.lt g e).2,h.apart,AF h.slots fun g e=>hb.block g (h.slots.lt g e).2,h.low,h.rb⟩
theorem WrO.mut{w w':World}{c:CnO}{R at':Nat}{vs vN vl vL vK:Value}{slots:List ByteArray}{s s':MW}{vis:List Value}(h:WrO w c R at' vs slots s vN vl)(hs:w.heap.size<=w'.heap.size)(hk:∀k,k<w.heap.size->¬Fj w k->w'.heap[k]?=w.heap[k]?)(hn:s'.names=s.names)(hl:s'.locals=s.locals)(ho:MkObj w c.Q c.vC vN vL vK c.vS)(hr:RowsO w' (c.Q+1) vL vis s'.lists)(hc:w'.ownsRow (c.Q+1) 3 1 vK s'.counts.length (CE s'.counts)):WrO w' c R at' vs slots s' vN vl:=by
 obtain⟨xs,hx,hxs⟩:=h.mkr.cls.row
 have str:∀ {B n:Nat} {v:Value} {ys:List Value},w.ownsRow B 9 1 v n ys->w'.ownsRow B 9 1 v n ys:=fun hv=>AF hv fun g e=>hk g (hv.lt g e).2 (CB hv (by decide) (by decide) (by decide) e)
 refine⟨⟨⟨vL,vK,vis,(hk _ ho.lt (D4 ho (by decide) (by decide) (by decide))).trans ho,hr,hc⟩,by rw[hn];exact str h.mkr.names,⟨xs,AF hx fun g e=>hk g (hx.lt g e).2 (CB hx (by decide) (by decide) (by decide) e),hxs⟩,h.mkr.qb,Za h.mkr.size hs⟩,(hk _ h.obj.lt (D4 h.obj (by decide) (by decide) (by decide))).trans h.obj,by rw[hl];exact str h.row,h.apart,str h.slots,h.low,h.rb⟩
theorem WrO.push{w w7:World}{c:CnO}{R at' g cap n:Nat}{vs vN vl vK v v':Value}{slots:List ByteArray}{s:MW}{vis:List Value}{o:Ord}(h:WrO w c R at' vs slots s vN vl)(ho:MkObj w c.Q c.vC vN (.slice (some ⟨g,0,none⟩) n cap) vK c.vS)(hr:RowsO w (c.Q+1) (.slice (some ⟨g,0,none⟩) n cap) vis s.lists)(hc:w.ownsRow (c.Q+1) 3 1 vK s.counts.length (CE s.counts))(hat:at'<s.lists.length)(hn:n=s.lists.length)(hv:vis[at']?=some v)(hg:w.grownBy w7 v.ownBlock)(hon:Onto w v v')(h7:w7.ownsRow (c.Q+1) 35 3 v' (s.lists[at'].length+1) (DY s.lists[at']++Hz o)) :
  WrO (w7.setCell ⟨g,at',none⟩ v') c R at' vs slots (s.put at' o) vN vl/\FrO w (w7.setCell ⟨g,at',none⟩ v') c.Q R vN vl:=by
 obtain⟨v0,e0,hv0⟩:=hr.inner at' hat
 have ev:v0=v:=by rw[hv]at e0;injection e0 with e0;exact e0.symm
 subst ev
 have mg:Fj w g:=ET hr.row (Or.inr (Or.inl rfl)) rfl
 have hgl:=(hr.row.lt g rfl)
 have hr7:w7.ownsRow (c.Q+1) 33 1 (.slice (some ⟨g,0,none⟩) s.lists.length cap) s.lists.length vis:=by
  subst hn
  exact AF hr.row fun k e=>hg.block k (hr.row.lt k e).2 (fun e'=>BI hr.row hv0 (fun e=>Hi e.symm) e e'.symm)
 have hg2:w7.grownBy (w7.setCell ⟨g,at',none⟩ v') (some g):=Am w7 g at' v'
 have hb:∀k,k<w.heap.size->k≠g->v0.ownBlock≠some k->(w7.setCell ⟨g,at',none⟩ v').heap[k]?=w.heap[k]?:=fun k h1 h2 h3=>(Zm _ _ _ _ h2).trans (hg.block k h1 (fun e=>h3 e.symm))
 have hsz:w.heap.size<=(w7.setCell ⟨g,at',none⟩ v').heap.size:=by have:=hg.size;simp;exact this
 refine⟨h.mut hsz (fun k h1 h2=>hb k h1 (fun e=>h2 (by rw[e];exact mg)) (fun e=>h2 (ET hv0 (Or.inr (Or.inr rfl)) e))) rfl rfl ho (hr.push (o:=o) hat hn hv hg hon h7) ?_,⟨hg.os,hg.tape,hg.output,hsz,fun k h1 h2 h3 h4 h5 h6=>hb k h1 (fun e=>?_) (fun e=>?_)⟩⟩
 ·exact AF hc fun k e=>hb k (hc.lt k e).2 (fun e'=>BI hc hr.row (by decide) e (by rw[e'];rfl)) (fun e'=>BI hc hv0 (by decide) e e')
 ·subst e
  rcases h6 with h6 | h6
  ·have:=hgl.1;omega
  ·exact h6 mg
 ·rcases h6 with h6 | h6
  ·have:=(hv0.lt k e).1;omega
  ·exact h6 (ET hv0 (Or.inr (Or.inr rfl)) e)
def OBox(w:World)(X:Nat)(a b d:Int):Prop:=w.heap[X]?=some (.cells #[.int .i64 a,.int .i64 b,.int .i64 d] 35)
theorem OBox.lt{w:World}{X:Nat}{a b d:Int}(h:OBox w X a b d):X<w.heap.size:=(Array.getElem?_eq_some_iff.1 h).1
theorem OBox.facts{w:World}{X:Nat}{a b d:Int}(h:OBox w X a b d):w.cell? ⟨X,0,none⟩=some (.int .i64 a)/\w.cell? ⟨X,1,none⟩=some (.int .i64 b)/\w.cell? ⟨X,2,none⟩=some (.int .i64 d):=
 ⟨cell_of_row _ _ _ _ _ _ h,cell_of_row _ _ _ _ _ _ h,cell_of_row _ _ _ _ _ _ h⟩
theorem Ty(w:World)(o1 o2 o3:Int):∃wA,Hid (wA=(w.alloc (.cells #[.int .i64 o1,.int .i64 o2,.int .i64 o3] 35)).drew)/\Hid (Below w.heap.size w wA)/\Hid (∀j u,(Hz (o1,o2,o3))[j]?=some u->wA.cell? ((⟨w.heap.size,0,none⟩:Addr).add j)=some u):=by
 refine⟨_,rfl,((Zg _ _).alloc (Z0 _) _).drew,fun j u h=>?_⟩
 have:=EA w [.int .i64 o1,.int .i64 o2,.int .i64 o3] 35 j u h
 exact this
theorem RJ(c:CnO)(R at':Nat)(vs vN vl:Value)(slots:List ByteArray)(s:MW)(o:Ord)(w:World)(h:WrO w c R at' vs slots s vN vl)(hat:at'<s.lists.length)(hfew:s.here at'<=900000)(hlst:s.lists.length<=900000) :
  Calls Tryz.prog 35 #[.pointer (some ⟨R,0,none⟩),.agg #[.int .i64 o.1,.int .i64 o.2.1,.int .i64 o.2.2]] w fun e w'=>e=.returned (.int .i64 (s.here at':Int))/\OutO w c R at' vs slots (s.put at' o) vN vl w':=by
 obtain⟨vL,vK,vis,ho,hr,hc⟩:=h.mkr.obj
 have hqb:=h.mkr.qb
 have hrb:=h.rb
 have hsz:=h.mkr.size
 obtain⟨v,hv,hvr⟩:=hr.inner at' hat
 have hh:s.here at'=s.lists[at'].length:=by unfold MW.here MW.list;rw[Z2,List.getElem?_eq_getElem hat];rfl
 obtain⟨g,cap,rfl⟩:∃g cap,vL=.slice (some ⟨g,0,none⟩) s.lists.length cap:=by
  rcases hr.row.2 with⟨_,h0⟩ | ⟨g,cap,cur,e,_⟩
  ·omega
  ·exact⟨g,cap,e⟩
 obtain⟨va,vc,rfl⟩:=Aq hvr
 have hb0:Below w.heap.size w (w.alloc (.cells #[.int .i64 o.1,.int .i64 o.2.1,.int .i64 o.2.2] 35)):=(Zg _ _).alloc (Z0 _) _
 have HX:Hid (OBox (w.alloc (.cells #[.int .i64 o.1,.int .i64 o.2.1,.int .i64 o.2.2] 35)) w.heap.size o.1 o.2.1 o.2.2):=heap_alloc_new w _
 obtain⟨wb,ewb⟩:∃wb,wb=w.alloc (.cells #[.int .i64 o.1,.int .i64 o.2.1,.int .i64 o.2.2] 35):=⟨_,rfl⟩
 rw[<-ewb]at HX hb0
 have hw1:=h.below hb0
 have ho1:MkObj wb c.Q c.vC vN (.slice (some ⟨g,0,none⟩) s.lists.length cap) vK c.vS:=(hb0.block _ ho.lt).trans ho
 have hr1:RowsO wb (c.Q+1) (.slice (some ⟨g,0,none⟩) s.lists.length cap) vis s.lists:=hr.same fun k _ _ _ hc _=>hb0.block k (Array.getElem?_eq_some_iff.1 hc).1
 have hc1:wb.ownsRow (c.Q+1) 3 1 vK s.counts.length (CE s.counts):=AF hc fun g e=>hb0.block g (hc.lt g e).2
 have HA:Hid (WrO wb c R at' vs slots s vN vl):=hw1
 have HF:Hid (FrO w wb c.Q R vN vl):=FrO.of_below hb0
 have HO:Hid (MkObj wb c.Q c.vC vN (.slice (some ⟨g,0,none⟩) s.lists.length cap) vK c.vS):=ho1
 have HR:Hid (RowsO wb (c.Q+1) (.slice (some ⟨g,0,none⟩) s.lists.length cap) vis s.lists):=hr1
 have HC:Hid (wb.ownsRow (c.Q+1) 3 1 vK s.counts.length (CE s.counts)):=hc1
 have HN:Hid (s.here at'=s.lists[at'].length):=hh
 have hvl:∀k,(Value.slice va s.lists[at'].length vc).ownBlock=some k->k<w.heap.size:=fun k e=>(hvr.lt k e).2
 have hgw:g<w.heap.size:=(hr.row.lt g rfl).2
 have hgr:g≠R:=fun e=>AJ hr.row h.obj (by decide) (by rw[e];rfl)
 have hgq:g≠c.Q:=fun e=>AJ hr.row ho (by decide) (by rw[e];rfl)
 have hvR:(Value.slice va s.lists[at'].length vc).ownBlock≠some R:=AJ hvr h.obj (by decide)
 have hvQ:(Value.slice va s.lists[at'].length vc).ownBlock≠some c.Q:=AJ hvr ho (by decide)
 have hvG:(Value.slice va s.lists[at'].length vc).ownBlock≠some g:=fun e=>BI hvr hr.row Hi e rfl
 obtain⟨⟨_,_,k2,_,_⟩,_⟩:=ho1.cells
 obtain⟨⟨r0,r1,_,_⟩,_⟩:=hw1.obj.cells
 obtain⟨x0,x1,x2⟩:=HX.out.facts
 have hlx:=HX.out.lt
 have hlq:=ho1.lt
 have hlr:=hw1.obj.lt
 obtain⟨v1,hv1,hvr1⟩:=hr1.inner at' hat
 have ev:v1=.slice va s.lists[at'].length vc:=by rw[hv]at hv1;injection hv1 with hv1;exact hv1.symm
 subst ev
 have hgl:=hr1.row.lt g rfl
 have hcv:wb.cell? ⟨g,at',none⟩=some (.slice va s.lists[at'].length vc):=(hr1.row.cellAt at' (by omega)).trans hv
 have zg:=hr1.row.frozenAt at'
 have hai:(at':Int)<(s.lists.length:Int):=by omega
 have hwr:wrap64 (s.lists[at'].length:Int)=(s.lists[at'].length:Int):=by unfold wrap64;omega
 generalize s.here at'=here at *
 obtain⟨Q,EQ⟩:∃Q,Hid (Q=c.Q):=⟨_,rfl⟩
 obtain⟨o1,o2,o3⟩:=o
 dsimp only at *
 rw[<-EQ.out]at k2 r0 hlq hgl hgq hvQ hvr1
 have hvis:vis[at']?=some (.slice va s.lists[at'].length vc):=hv
 clear h ho hr hc hh hw1 hr1 hc1 hv hvr hb0 ho1 hv1
 obtain⟨wA,EWA,HBA,HCA⟩:=Ty wb o1 o2 o3
 go_enter Tryz.func35,Tryz.ntmps35
 go_wp2_with fail
 rw[<-ewb]
 clear ewb
 refine wp_region_held_drew (S:=fun w'=>w'.cell? ⟨R,0,none⟩=some (.pointer (some ⟨Q,0,none⟩))/\w'.cell? ⟨R,1,none⟩=some (.int .i64 (at':Int))/\w'.cell? ⟨Q,2,none⟩=some (.slice (some ⟨g,0,none⟩) s.lists.length cap)/\w'.cell? ⟨w.heap.size,0,none⟩=some (.int .i64 o1)/\w'.cell? ⟨w.heap.size,1,none⟩=some (.int .i64 o2)/\w'.cell? ⟨w.heap.size,2,none⟩=some (.int .i64 o3)) (by kernel_rfl) ⟨r0,r1,k2,x0,x1,x2⟩ (fun hHeld=>?_)
 refine wpAnyH_take (i:=0) (v:=(.pointer (some ⟨R,0,none⟩))) rfl (by kernel_rfl) (by kernel_rfl) (by kernel_rfl) (fun _ _ _ h=>h) (Or.inl ⟨by rfl,?_⟩) hHeld ?_
 ·intro w' hS'
  obtain⟨hA,hB,hC,hD,hE,hF⟩:=hS'
  go_simp
 (try simp only[Act.put,List.setIfInBounds_toArray,List.set_cons_zero,List.set_cons_succ])
 refine wpAnyH_take (i:=1) (v:=(.pointer (some ⟨R,0,none⟩))) rfl (by kernel_rfl) (by kernel_rfl) (by kernel_rfl) (fun _ _ _ h=>h) (Or.inl ⟨by rfl,?_⟩) hHeld ?_
 ·intro w' hS'
  obtain⟨hA,hB,hC,hD,hE,hF⟩:=hS'
  go_simp
 (try simp only[Act.put,List.setIfInBounds_toArray,List.set_cons_zero,List.set_cons_succ])
 refine wpAnyH_take (i:=2) (v:=(.pointer (some ⟨R,0,none⟩))) rfl (by kernel_rfl) (by kernel_rfl) (by kernel_rfl) (fun _ _ _ h=>h) (Or.inl ⟨by rfl,?_⟩) hHeld ?_
 ·intro w' hS'
  obtain⟨hA,hB,hC,hD,hE,hF⟩:=hS'
  go_simp
 (try simp only[Act.put,List.setIfInBounds_toArray,List.set_cons_zero,List.set_cons_succ])
 refine wpAnyH_take (i:=3) (v:=(.pointer (some ⟨Q,0,none⟩))) rfl (by kernel_rfl) (by kernel_rfl) (by kernel_rfl) (fun _ _ _ h=>h) (Or.inl ⟨by rfl,?_⟩) hHeld ?_
 ·intro w' hS'
  obtain⟨hA,hB,hC,hD,hE,hF⟩:=hS'
  go_simp
 (try simp only[Act.put,List.setIfInBounds_toArray,List.set_cons_zero,List.set_cons_succ])
 refine wpAnyH_take (i:=4) (v:=(.pointer (some ⟨Q,0,none⟩))) rfl (by kernel_rfl) (by kernel_rfl) (by kernel_rfl) (fun _ _ _ h=>h) (Or.inl ⟨by rfl,?_⟩) hHeld ?_
 ·intro w' hS'
  obtain⟨hA,hB,hC,hD,hE,hF⟩:=hS'
  go_simp
 (try simp only[Act.put,List.setIfInBounds_toArray,List.set_cons_zero,List.set_cons_succ])
 refine wpAnyH_take (i:=5) (v:=(.pointer (some ⟨Q,0,none⟩))) rfl (by kernel_rfl) (by kernel_rfl) (by kernel_rfl) (fun _ _ _ h=>h) (Or.inl ⟨by rfl,?_⟩) hHeld ?_
 ·intro w' hS'
  obtain⟨hA,hB,hC,hD,hE,hF⟩:=hS'
  go_simp
 (try simp only[Act.put,List.setIfInBounds_toArray,List.set_cons_zero,List.set_cons_succ])
 refine wpAnyH_take (i:=6) (v:=(.pointer (some ⟨Q,2,none⟩))) rfl (by kernel_rfl) (by kernel_rfl) (by kernel_rfl) (fun _ _ _ h=>h) (Or.inl ⟨by rfl,?_⟩) hHeld ?_
 ·intro w' hS'
  obtain⟨hA,hB,hC,hD,hE,hF⟩:=hS'
  go_simp
 (try simp only[Act.put,List.setIfInBounds_toArray,List.set_cons_zero,List.set_cons_succ])
 refine wpAnyH_take (i:=7) (v:=(.slice (some ⟨g,0,none⟩) s.lists.length cap)) rfl (by kernel_rfl) (by kernel_rfl) (by kernel_rfl) (fun _ _ _ h=>h) (Or.inl ⟨by rfl,?_⟩) hHeld ?_
 ·intro w' hS'
  obtain⟨hA,hB,hC,hD,hE,hF⟩:=hS'
  go_simp
 (try simp only[Act.put,List.setIfInBounds_toArray,List.set_cons_zero,List.set_cons_succ])
 refine wpAnyH_take (i:=8) (v:=(.pointer (some ⟨R,0,none⟩))) rfl (by kernel_rfl) (by kernel_rfl) (by kernel_rfl) (fun _ _ _ h=>h) (Or.inl ⟨by rfl,?_⟩) hHeld ?_
 ·intro w' hS'
  obtain⟨hA,hB,hC,hD,hE,hF⟩:=hS'
  go_simp
 (try simp only[Act.put,List.setIfInBounds_toArray,List.set_cons_zero,List.set_cons_succ])
 refine wpAnyH_take (i:=9) (v:=(.pointer (some ⟨R,0,none⟩))) rfl (by kernel_rfl) (by kernel_rfl) (by kernel_rfl) (fun _ _ _ h=>h) (Or.inl ⟨by rfl,?_⟩) hHeld ?_
 ·intro w' hS'
  obtain⟨hA,hB,hC,hD,hE,hF⟩:=hS'
  go_simp
 (try simp only[Act.put,List.setIfInBounds_toArray,List.set_cons_zero,List.set_cons_succ])
 refine wpAnyH_take (i:=10) (v:=(.pointer (some ⟨R,1,none⟩))) rfl (by kernel_rfl) (by kernel_rfl) (by kernel_rfl) (fun _ _ _ h=>h) (Or.inl ⟨by rfl,?_⟩) hHeld ?_
 ·intro w' hS'
  obtain⟨hA,hB,hC,hD,hE,hF⟩:=hS'
  go_simp
 (try simp only[Act.put,List.setIfInBounds_toArray,List.set_cons_zero,List.set_cons_succ])
 refine wpAnyH_take (i:=11) (v:=(.int .i64 (at':Int))) rfl (by kernel_rfl) (by kernel_rfl) (by kernel_rfl) (fun _ _ _ h=>h) (Or.inl ⟨by rfl,?_⟩) hHeld ?_
 ·intro w' hS'
  obtain⟨hA,hB,hC,hD,hE,hF⟩:=hS'
  go_simp
 (try simp only[Act.put,List.setIfInBounds_toArray,List.set_cons_zero,List.set_cons_succ])
 refine wpAnyH_take (i:=12) (v:=(.pointer (some ⟨R,0,none⟩))) rfl (by kernel_rfl) (by kernel_rfl) (by kernel_rfl) (fun _ _ _ h=>h) (Or.inl ⟨by rfl,?_⟩) hHeld ?_
 ·intro w' hS'
  obtain⟨hA,hB,hC,hD,hE,hF⟩:=hS'
  go_simp
 (try simp only[Act.put,List.setIfInBounds_toArray,List.set_cons_zero,List.set_cons_succ])
 refine wpAnyH_take (i:=13) (v:=(.pointer (some ⟨R,0,none⟩))) rfl (by kernel_rfl) (by kernel_rfl) (by kernel_rfl) (fun _ _ _ h=>h) (Or.inl ⟨by rfl,?_⟩) hHeld ?_
 ·intro w' hS'
  obtain⟨hA,hB,hC,hD,hE,hF⟩:=hS'
  go_simp
 (try simp only[Act.put,List.setIfInBounds_toArray,List.set_cons_zero,List.set_cons_succ])
 refine wpAnyH_take (i:=14) (v:=(.pointer (some ⟨R,0,none⟩))) rfl (by kernel_rfl) (by kernel_rfl) (by kernel_rfl) (fun _ _ _ h=>h) (Or.inl ⟨by rfl,?_⟩) hHeld ?_
 ·intro w' hS'
  obtain⟨hA,hB,hC,hD,hE,hF⟩:=hS'
  go_simp
 (try simp only[Act.put,List.setIfInBounds_toArray,List.set_cons_zero,List.set_cons_succ])
 refine wpAnyH_take (i:=15) (v:=(.pointer (some ⟨Q,0,none⟩))) rfl (by kernel_rfl) (by kernel_rfl) (by kernel_rfl) (fun _ _ _ h=>h) (Or.inl ⟨by rfl,?_⟩) hHeld ?_
 ·intro w' hS'
  obtain⟨hA,hB,hC,hD,hE,hF⟩:=hS'
  go_simp
 (try simp only[Act.put,List.setIfInBounds_toArray,List.set_cons_zero,List.set_cons_succ])
 refine wpAnyH_take (i:=16) (v:=(.pointer (some ⟨Q,0,none⟩))) rfl (by kernel_rfl) (by kernel_rfl) (by kernel_rfl) (fun _ _ _ h=>h) (Or.inl ⟨by rfl,?_⟩) hHeld ?_
 ·intro w' hS'
  obtain⟨hA,hB,hC,hD,hE,hF⟩:=hS'
  go_simp
 (try simp only[Act.put,List.setIfInBounds_toArray,List.set_cons_zero,List.set_cons_succ])
 refine wpAnyH_take (i:=17) (v:=(.pointer (some ⟨Q,0,none⟩))) rfl (by kernel_rfl) (by kernel_rfl) (by kernel_rfl) (fun _ _ _ h=>h) (Or.inl ⟨by rfl,?_⟩) hHeld ?_
 ·intro w' hS'
  obtain⟨hA,hB,hC,hD,hE,hF⟩:=hS'
  go_simp
 (try simp only[Act.put,List.setIfInBounds_toArray,List.set_cons_zero,List.set_cons_succ])
 refine wpAnyH_take (i:=18) (v:=(.pointer (some ⟨Q,2,none⟩))) rfl (by kernel_rfl) (by kernel_rfl) (by kernel_rfl) (fun _ _ _ h=>h) (Or.inl ⟨by rfl,?_⟩) hHeld ?_
 ·intro w' hS'
  obtain⟨hA,hB,hC,hD,hE,hF⟩:=hS'
  go_simp
 (try simp only[Act.put,List.setIfInBounds_toArray,List.set_cons_zero,List.set_cons_succ])
 refine wpAnyH_take (i:=19) (v:=(.slice (some ⟨g,0,none⟩) s.lists.length cap)) rfl (by kernel_rfl) (by kernel_rfl) (by kernel_rfl) (fun _ _ _ h=>h) (Or.inl ⟨by rfl,?_⟩) hHeld ?_
 ·intro w' hS'
  obtain⟨hA,hB,hC,hD,hE,hF⟩:=hS'
  go_simp
 (try simp only[Act.put,List.setIfInBounds_toArray,List.set_cons_zero,List.set_cons_succ])
 refine wpAnyH_take (i:=20) (v:=(.pointer (some ⟨R,0,none⟩))) rfl (by kernel_rfl) (by kernel_rfl) (by kernel_rfl) (fun _ _ _ h=>h) (Or.inl ⟨by rfl,?_⟩) hHeld ?_
 ·intro w' hS'
  obtain⟨hA,hB,hC,hD,hE,hF⟩:=hS'
  go_simp
 (try simp only[Act.put,List.setIfInBounds_toArray,List.set_cons_zero,List.set_cons_succ])
 refine wpAnyH_take (i:=21) (v:=(.pointer (some ⟨R,0,none⟩))) rfl (by kernel_rfl) (by kernel_rfl) (by kernel_rfl) (fun _ _ _ h=>h) (Or.inl ⟨by rfl,?_⟩) hHeld ?_
 ·intro w' hS'
  obtain⟨hA,hB,hC,hD,hE,hF⟩:=hS'
  go_simp
 (try simp only[Act.put,List.setIfInBounds_toArray,List.set_cons_zero,List.set_cons_succ])
 refine wpAnyH_take (i:=22) (v:=(.pointer (some ⟨R,1,none⟩))) rfl (by kernel_rfl) (by kernel_rfl) (by kernel_rfl) (fun _ _ _ h=>h) (Or.inl ⟨by rfl,?_⟩) hHeld ?_
 ·intro w' hS'
  obtain⟨hA,hB,hC,hD,hE,hF⟩:=hS'
  go_simp
 (try simp only[Act.put,List.setIfInBounds_toArray,List.set_cons_zero,List.set_cons_succ])
 refine wpAnyH_take (i:=23) (v:=(.int .i64 (at':Int))) rfl (by kernel_rfl) (by kernel_rfl) (by kernel_rfl) (fun _ _ _ h=>h) (Or.inl ⟨by rfl,?_⟩) hHeld ?_
 ·intro w' hS'
  obtain⟨hA,hB,hC,hD,hE,hF⟩:=hS'
  go_simp
 (try simp only[Act.put,List.setIfInBounds_toArray,List.set_cons_zero,List.set_cons_succ])
 refine wpAnyH_take (i:=24) (v:=(.pointer (some ⟨g,at',none⟩))) rfl (by kernel_rfl) (by kernel_rfl) (by kernel_rfl) (fun _ _ _ h=>h) (Or.inl ⟨by rfl,?_⟩) hHeld ?_
 ·intro w' hS'
  obtain⟨hA,hB,hC,hD,hE,hF⟩:=hS'
  go_simp
 (try simp only[Act.put,List.setIfInBounds_toArray,List.set_cons_zero,List.set_cons_succ])
 refine wpAnyH_take (i:=26) (v:=(.agg #[.int .i64 o1,.int .i64 o2,.int .i64 o3])) rfl (by kernel_rfl) (by kernel_rfl) (by kernel_rfl) (fun _ _ _ h=>h) (Or.inl ⟨by rfl,?_⟩) hHeld ?_
 ·intro w' hS'
  obtain⟨hA,hB,hC,hD,hE,hF⟩:=hS'
  go_simp
 (try simp only[Act.put,List.setIfInBounds_toArray,List.set_cons_zero,List.set_cons_succ])
 refine wpAnyH_ready (rs:=[25,27]) (by kernel_rfl) (by simp) ?_
 refine AllReadyH.cons rfl (fun K hK=>?_) (AllReadyH.cons rfl (fun K hK=>?_) AllReadyH.nil)
 ·go_simp
  refine hK.out _ _ ⟨r0,r1,k2,x0,x1,x2⟩ (fun hHeld=>?_)
  clear hK K
  (try simp only[Act.put,List.setIfInBounds_toArray,List.set_cons_zero,List.set_cons_succ])
  refine wpAnyH_ready (rs:=[27]) (by kernel_rfl) (by simp) ?_
  refine AllReadyH.cons rfl (fun K hK=>?_) AllReadyH.nil
  go_simp
  refine hK.out _ _ (by go_keep) (fun hHeld=>?_)
  clear hK K
  (try simp only[Act.put,List.setIfInBounds_toArray,List.set_cons_zero,List.set_cons_succ])
  rw[<-EWA.out]
  clear EWA
  have hbA:=HBA.out
  have hcA:=HCA.out
  refine wpAnyH_ready (rs:=[28]) (by kernel_rfl) (by simp) ?_
  refine AllReadyH.cons rfl (fun K hK=>?_) AllReadyH.nil
  refine EY UO rfl (.tmp 30) (.tmp 32) rfl (base:=Q+1) (c:=1) (.slice va s.lists[at'].length vc) ⟨wb.heap.size,0,none⟩ (xs:=DY s.lists[at']) (news:=Hz (o1,o2,o3)) (by first | (simp[Act.eval];done) | simp[Act.eval,Act.put]) (by first | (simp[Act.eval];done) | simp[Act.eval,Act.put]) (AF hvr1 fun k e=>hbA.block k (hvr1.lt k e).2) rfl hcA (NR _) (by rw[<-HN.out];exact hfew) (by have:=hbA.size;omega) ?_
  intro g7 cap7 w7 O7 hg7 hon7
  have hbg:∀ {w7:World},wA.grownBy w7 (Value.slice va s.lists[at'].length vc).ownBlock->wb.grownBy w7 (Value.slice va s.lists[at'].length vc).ownBlock:=fun hg=>⟨hg.os.trans hbA.os,hg.tape.trans hbA.tape,hg.output.trans hbA.output,Za hbA.size hg.size,fun k h1 h2=>(hg.block k (Z5 h1 hbA.size) h2).trans (hbA.block k h1)⟩
  have hon:∀ {v':Value},Onto wA (Value.slice va s.lists[at'].length vc) v'->Onto wb (Value.slice va s.lists[at'].length vc) v':=fun ho=>by
   rcases ho with h | h
   ·exact Or.inl h
   ·exact Or.inr fun k e=>Za hbA.size (h k e)
  have hk7:∀k,k<wb.heap.size->(Value.slice va s.lists[at'].length vc).ownBlock≠some k->w7.heap[k]?=wb.heap[k]?:=fun k h1 h2=>(hg7.block k (by have:=hbA.size;omega) (fun e=>h2 e.symm)).trans (hbA.block k h1)
  have hcel:∀(k j:Nat) (u:Value),k<wb.heap.size->(Value.slice va s.lists[at'].length vc).ownBlock≠some k->wb.cell? ⟨k,j,none⟩=some u->w7.cell? ⟨k,j,none⟩=some u:=fun k j u h1 h2 h3=>(World.cell?_of_block (w:=wb) (a:=⟨k,j,none⟩) (hk7 k h1 h2)).trans h3
  have hvX:(Value.slice va s.lists[at'].length vc).ownBlock≠some w.heap.size:=fun e=>Nat.lt_irrefl _ (hvl _ e)
  have t0:=hcel _ _ _ hlr hvR r0
  have t1:=hcel _ _ _ hlr hvR r1
  have t2:=hcel _ _ _ hlq hvQ k2
  have t3:=hcel _ _ _ hlx hvX x0
  have t4:=hcel _ _ _ hlx hvX x1
  have t5:=hcel _ _ _ hlx hvX x2
  refine hK.out _ _ ⟨t0,t1,t2,t3,t4,t5⟩ (fun hHeld=>?_)
  clear hK K
  (try simp only[Act.put,List.setIfInBounds_toArray,List.set_cons_zero,List.set_cons_succ])
  refine wpAnyH_take (i:=29) (v:=(.pointer (some ⟨g,at',none⟩))) rfl (by kernel_rfl) (by kernel_rfl) (by kernel_rfl) (fun _ _ _ h=>h) (Or.inl ⟨by rfl,?_⟩) hHeld ?_
  ·intro w' hS'
   obtain⟨hA,hB,hC,hD,hE,hF⟩:=hS'
   go_simp
  (try simp only[Act.put,List.setIfInBounds_toArray,List.set_cons_zero,List.set_cons_succ])
  have hR7:=AF HR.out.row (w':=w7) (fun k e=>by injection e with e;have e2:g=k:=e;subst e2;exact hk7 g hgl.2 hvG)
  have hc7:=(hR7.cellAt at' (by omega)).trans hvis
  have z7:=hR7.frozenAt at'
  have hl7:=(hR7.lt g rfl).2
  have hfin:=HA.out.push HO.out HR.out HC.out hat rfl hvis (hbg hg7) (hon hon7) (o:=(o1,o2,o3)) (by rw[<-EQ.out];exact O7)
  clear hcel hk7 hR7 O7 hg7 hon7 hbg hon hbA hcA HBA HCA
  refine wpAnyH_ready (rs:=[30]) (by kernel_rfl) (by simp) ?_
  refine AllReadyH.cons rfl (fun K hK=>?_) AllReadyH.nil
  go_simp
  have nk:∀(k j:Nat) (u:Value),g≠k->w7.cell? ⟨k,j,none⟩=some u->(w7.setCell ⟨g,at',none⟩ (.slice (some ⟨g7,0,none⟩) (s.lists[at'].length+1) cap7)).cell? ⟨k,j,none⟩=some u:=fun k j u h1 h2=>(World.cell?_of_block (w:=w7) (a:=⟨k,j,none⟩) (Zm _ _ _ _ (fun e=>h1 e.symm))).trans h2
  have n0:=nk _ _ _ hgr t0
  have n1:=nk _ _ _ hgr t1
  have n2:=nk _ _ _ hgq t2
  refine hK.out _ _ ⟨n0,n1,n2,nk _ _ _ (Nat.ne_of_lt hgw) t3,nk _ _ _ (Nat.ne_of_lt hgw) t4,nk _ _ _ (Nat.ne_of_lt hgw) t5⟩ (fun hHeld=>?_)
  clear hK K
  refine wpAnyH_done (by kernel_rfl) ?_ _
  have HFIN:Hid (WrO (w7.setCell ⟨g,at',none⟩ (.slice (some ⟨g7,0,none⟩) (s.lists[at'].length+1) cap7)) c R at' vs slots (s.put at' (o1,o2,o3)) vN vl/\FrO wb (w7.setCell ⟨g,at',none⟩ (.slice (some ⟨g7,0,none⟩) (s.lists[at'].length+1) cap7)) c.Q R vN vl):=hfin
  have hlr7:R<w7.heap.size:=by have:=hfin.1.obj.lt;simp at this;exact this
  have hlq7:Q<w7.heap.size:=Nat.lt_trans (Nat.lt_of_succ_le hgl.1) hl7
  clear hfin nk n0 n1 n2 t3 t4 t5 hHeld r0 r1 k2 x0 x1 x2 hcv zg hvX hvl hvR hvQ hvG hvr1 hvis
  go_wp2_with fail
  go_quiet (fail)
  go_wp2_with fail
  go_ret
  exact⟨by rw[HN.out];first | rfl | simp[hwr],vN,vl,HFIN.out.1.below (Ar _ _),HF.out.trans (HFIN.out.2.trans (FrO.of_below (Ar _ _)) (Onto.refl _ _) (Onto.refl _ _)) (Onto.refl _ _) (Onto.refl _ _),Onto.refl _ _,Onto.refl _ _⟩
 ·go_simp
  refine hK.out _ _ (by go_keep) (fun hHeld=>?_)
  clear hK K
  (try simp only[Act.put,List.setIfInBounds_toArray,List.set_cons_zero,List.set_cons_succ])
  refine wpAnyH_ready (rs:=[25]) (by kernel_rfl) (by simp) ?_
  refine AllReadyH.cons rfl (fun K hK=>?_) AllReadyH.nil
  go_simp
  refine hK.out _ _ hHeld (fun hHeld=>?_)
  clear hK K
  (try simp only[Act.put,List.setIfInBounds_toArray,List.set_cons_zero,List.set_cons_succ])
  rw[<-EWA.out]
  clear EWA
  have hbA:=HBA.out
  have hcA:=HCA.out
  refine wpAnyH_ready (rs:=[28]) (by kernel_rfl) (by simp) ?_
  refine AllReadyH.cons rfl (fun K hK=>?_) AllReadyH.nil
  refine EY UO rfl (.tmp 30) (.tmp 32) rfl (base:=Q+1) (c:=1) (.slice va s.lists[at'].length vc) ⟨wb.heap.size,0,none⟩ (xs:=DY s.lists[at']) (news:=Hz (o1,o2,o3)) (by first | (simp[Act.eval];done) | simp[Act.eval,Act.put]) (by first | (simp[Act.eval];done) | simp[Act.eval,Act.put]) (AF hvr1 fun k e=>hbA.block k (hvr1.lt k e).2) rfl hcA (NR _) (by rw[<-HN.out];exact hfew) (by have:=hbA.size;omega) ?_
  intro g7 cap7 w7 O7 hg7 hon7
  have hbg:∀ {w7:World},wA.grownBy w7 (Value.slice va s.lists[at'].length vc).ownBlock->wb.grownBy w7 (Value.slice va s.lists[at'].length vc).ownBlock:=fun hg=>⟨hg.os.trans hbA.os,hg.tape.trans hbA.tape,hg.output.trans hbA.output,Za hbA.size hg.size,fun k h1 h2=>(hg.block k (Z5 h1 hbA.size) h2).trans (hbA.block k h1)⟩
  have hon:∀ {v':Value},Onto wA (Value.slice va s.lists[at'].length vc) v'->Onto wb (Value.slice va s.lists[at'].length vc) v':=fun ho=>by
   rcases ho with h | h
   ·exact Or.inl h
   ·exact Or.inr fun k e=>Za hbA.size (h k e)
  have hk7:∀k,k<wb.heap.size->(Value.slice va s.lists[at'].length vc).ownBlock≠some k->w7.heap[k]?=wb.heap[k]?:=fun k h1 h2=>(hg7.block k (by have:=hbA.size;omega) (fun e=>h2 e.symm)).trans (hbA.block k h1)
  have hcel:∀(k j:Nat) (u:Value),k<wb.heap.size->(Value.slice va s.lists[at'].length vc).ownBlock≠some k->wb.cell? ⟨k,j,none⟩=some u->w7.cell? ⟨k,j,none⟩=some u:=fun k j u h1 h2 h3=>(World.cell?_of_block (w:=wb) (a:=⟨k,j,none⟩) (hk7 k h1 h2)).trans h3
  have hvX:(Value.slice va s.lists[at'].length vc).ownBlock≠some w.heap.size:=fun e=>Nat.lt_irrefl _ (hvl _ e)
  have t0:=hcel _ _ _ hlr hvR r0
  have t1:=hcel _ _ _ hlr hvR r1
  have t2:=hcel _ _ _ hlq hvQ k2
  have t3:=hcel _ _ _ hlx hvX x0
  have t4:=hcel _ _ _ hlx hvX x1
  have t5:=hcel _ _ _ hlx hvX x2
  refine hK.out _ _ ⟨t0,t1,t2,t3,t4,t5⟩ (fun hHeld=>?_)
  clear hK K
  (try simp only[Act.put,List.setIfInBounds_toArray,List.set_cons_zero,List.set_cons_succ])
  refine wpAnyH_take (i:=29) (v:=(.pointer (some ⟨g,at',none⟩))) rfl (by kernel_rfl) (by kernel_rfl) (by kernel_rfl) (fun _ _ _ h=>h) (Or.inl ⟨by rfl,?_⟩) hHeld ?_
  ·intro w' hS'
   obtain⟨hA,hB,hC,hD,hE,hF⟩:=hS'
   go_simp
  (try simp only[Act.put,List.setIfInBounds_toArray,List.set_cons_zero,List.set_cons_succ])
  have hR7:=AF HR.out.row (w':=w7) (fun k e=>by injection e with e;have e2:g=k:=e;subst e2;exact hk7 g hgl.2 hvG)
  have hc7:=(hR7.cellAt at' (by omega)).trans hvis
  have z7:=hR7.frozenAt at'
  have hl7:=(hR7.lt g rfl).2
  have hfin:=HA.out.push HO.out HR.out HC.out hat rfl hvis (hbg hg7) (hon hon7) (o:=(o1,o2,o3)) (by rw[<-EQ.out];exact O7)
  clear hcel hk7 hR7 O7 hg7 hon7 hbg hon hbA hcA HBA HCA
  refine wpAnyH_ready (rs:=[30]) (by kernel_rfl) (by simp) ?_
  refine AllReadyH.cons rfl (fun K hK=>?_) AllReadyH.nil
  go_simp
  have nk:∀(k j:Nat) (u:Value),g≠k->w7.cell? ⟨k,j,none⟩=some u->(w7.setCell ⟨g,at',none⟩ (.slice (some ⟨g7,0,none⟩) (s.lists[at'].length+1) cap7)).cell? ⟨k,j,none⟩=some u:=fun k j u h1 h2=>(World.cell?_of_block (w:=w7) (a:=⟨k,j,none⟩) (Zm _ _ _ _ (fun e=>h1 e.symm))).trans h2
  have n0:=nk _ _ _ hgr t0
  have n1:=nk _ _ _ hgr t1
  have n2:=nk _ _ _ hgq t2
  refine hK.out _ _ ⟨n0,n1,n2,nk _ _ _ (Nat.ne_of_lt hgw) t3,nk _ _ _ (Nat.ne_of_lt hgw) t4,nk _ _ _ (Nat.ne_of_lt hgw) t5⟩ (fun hHeld=>?_)
  clear hK K
  refine wpAnyH_done (by kernel_rfl) ?_ _
  have HFIN:Hid (WrO (w7.setCell ⟨g,at',none⟩ (.slice (some ⟨g7,0,none⟩) (s.lists[at'].length+1) cap7)) c R at' vs slots (s.put at' (o1,o2,o3)) vN vl/\FrO wb (w7.setCell ⟨g,at',none⟩ (.slice (some ⟨g7,0,none⟩) (s.lists[at'].length+1) cap7)) c.Q R vN vl):=hfin
  have hlr7:R<w7.heap.size:=by have:=hfin.1.obj.lt;simp at this;exact this
  have hlq7:Q<w7.heap.size:=Nat.lt_trans (Nat.lt_of_succ_le hgl.1) hl7
  clear hfin nk n0 n1 n2 t3 t4 t5 hHeld r0 r1 k2 x0 x1 x2 hcv zg hvX hvl hvR hvQ hvG hvr1 hvis
  go_wp2_with fail
  go_quiet (fail)
  go_wp2_with fail
  go_ret
  exact⟨by rw[HN.out];first | rfl | simp[hwr],vN,vl,HFIN.out.1.below (Ar _ _),HF.out.trans (HFIN.out.2.trans (FrO.of_below (Ar _ _)) (Onto.refl _ _) (Onto.refl _ _)) (Onto.refl _ _) (Onto.refl _ _),Onto.refl _ _,Onto.refl _ _⟩
theorem WrO.patchW{w:World}{c:CnO}{R at' g n cap i:Nat}{vs vN vl vL vK:Value}{slots:List ByteArray}{s:MW}{vis:List Value}{a:Int}(h:WrO w c R at' vs slots s vN vl)(ho:MkObj w c.Q c.vC vN vL vK c.vS)(hr:RowsO w (c.Q+1) vL vis s.lists)(hc:w.ownsRow (c.Q+1) 3 1 vK s.counts.length (CE s.counts))(hat:at'<s.lists.length)(hv:vis[at']?=some (.slice (some ⟨g,0,none⟩) n cap))(hi:i<s.lists[at'].length) :
  WrO (w.setCell ⟨g,i*3+1,none⟩ (.int .i64 a)) c R at' vs slots (s.patch at' i a) vN vl/\FrO w (w.setCell ⟨g,i*3+1,none⟩ (.int .i64 a)) c.Q R vN vl:=by
 obtain⟨v0,e0,hv0⟩:=hr.inner at' hat
 have ev:v0=.slice (some ⟨g,0,none⟩) n cap:=by rw[hv]at e0;injection e0 with e0;exact e0.symm
 subst ev
 have mg:Fj w g:=ET hv0 (Or.inr (Or.inr rfl)) rfl
 have hgl:=hv0.lt g rfl
 have hb:∀k,k≠g->(w.setCell ⟨g,i*3+1,none⟩ (.int .i64 a)).heap[k]?=w.heap[k]?:=fun k h2=>Zm _ _ _ _ h2
 refine⟨h.mut (by simp) (fun k h1 h2=>hb k (fun e=>h2 (by rw[e];exact mg))) rfl rfl ho (hr.patch hat hv hi) (AF hc fun k e=>hb k (fun e'=>BI hc hv0 (by decide) e (by rw[e'];rfl))),FrO.of_grown (Am w g (i*3+1) (.int .i64 a)) fun k e=>?_⟩
 injection e with e
 subst e
 exact Or.inr (Or.inr (Or.inr (Or.inr ⟨by have:=hgl.1;omega,mg⟩)))
theorem Ss(c:CnO)(R at':Nat)(vs vN vl:Value)(slots:List ByteArray)(s:MW)(i:Nat)(w:World)(h:WrO w c R at' vs slots s vN vl)(hat:at'<s.lists.length)(hfew:s.here at'<=900000)(hlst:s.lists.length<=900000)(hi:i<s.here at') :
  Calls Tryz.prog 81 #[.pointer (some ⟨R,0,none⟩),.int .i64 (i:Int)] w fun e w'=>e=.returned (.tuple #[])/\OutO w c R at' vs slots (s.patch at' i (s.here at':Int)) vN vl w':=by
 obtain⟨vL,vK,vis,ho,hr,hc⟩:=h.mkr.obj
 obtain⟨v,hv,hvr⟩:=hr.inner at' hat
 have hh:s.here at'=s.lists[at'].length:=by unfold MW.here MW.list;rw[Z2,List.getElem?_eq_getElem hat];rfl
 rw[hh]at hfew hi⊢
 obtain⟨g,cap,rfl⟩:∃g cap,vL=.slice (some ⟨g,0,none⟩) s.lists.length cap:=by
  rcases hr.row.2 with⟨_,h0⟩ | ⟨g,cap,cur,e,_⟩
  ·omega
  ·exact⟨g,cap,e⟩
 obtain⟨g2,vc,rfl⟩:∃g2 vc,v=.slice (some ⟨g2,0,none⟩) s.lists[at'].length vc:=by
  rcases hvr.2 with⟨_,h0⟩ | ⟨g,cap,cur,e,_⟩
  ·omega
  ·exact⟨g,cap,e⟩
 have HFIN:Hid (WrO (w.setCell ⟨g2,i*3+1,none⟩ (.int .i64 (s.lists[at'].length:Int))) c R at' vs slots (s.patch at' i (s.lists[at'].length:Int)) vN vl/\FrO w (w.setCell ⟨g2,i*3+1,none⟩ (.int .i64 (s.lists[at'].length:Int))) c.Q R vN vl):=h.patchW ho hr hc hat hv hi
 obtain⟨⟨_,_,k2,_,_⟩,_⟩:=ho.cells
 obtain⟨⟨r0,r1,_,_⟩,_⟩:=h.obj.cells
 have hlq:=ho.lt
 have hlr:=h.obj.lt
 have hcv:w.cell? ⟨g,at',none⟩=some (.slice (some ⟨g2,0,none⟩) s.lists[at'].length vc):=(hr.row.cellAt at' (by omega)).trans hv
 have hgl:=(hr.row.lt g rfl).2
 have hg2l:=(hvr.lt g2 rfl).2
 have hgr:g2≠R:=fun e=>AJ hvr h.obj (by decide) (by rw[e];rfl)
 have hgq:g2≠c.Q:=fun e=>AJ hvr ho (by decide) (by rw[e];rfl)
 have hgg:g2≠g:=fun e=>BI hvr hr.row Hi rfl (by rw[e];rfl)
 have hold:w.cell? ⟨g2,i*3+1,none⟩=some (.int .i64 s.lists[at'][i].2.1):=(hvr.cellAt (i*3+1) (by omega)).trans (KV _ i hi).2.1
 have zold:=hvr.frozenAt (i*3+1)
 have hai:(at':Int)<(s.lists.length:Int):=by omega
 have hii:(i:Int)<(s.lists[at'].length:Int):=by omega
 obtain⟨Q,EQ⟩:∃Q,Hid (Q=c.Q):=⟨_,rfl⟩
 rw[<-EQ.out]at k2 r0 hlq hgq
 have nk:∀(k j:Nat) (u:Value),g2≠k->w.cell? ⟨k,j,none⟩=some u->(w.setCell ⟨g2,i*3+1,none⟩ (.int .i64 (s.lists[at'].length:Int))).cell? ⟨k,j,none⟩=some u:=fun k j u h1 h2=>(World.cell?_of_block (w:=w) (a:=⟨k,j,none⟩) (Zm _ _ _ _ (fun e=>h1 e.symm))).trans h2
 have HNK:Hid ((w.setCell ⟨g2,i*3+1,none⟩ (.int .i64 (s.lists[at'].length:Int))).cell? ⟨R,0,none⟩=some (.pointer (some ⟨Q,0,none⟩))/\(w.setCell ⟨g2,i*3+1,none⟩ (.int .i64 (s.lists[at'].length:Int))).cell? ⟨R,1,none⟩=some (.int .i64 (at':Int))/\(w.setCell ⟨g2,i*3+1,none⟩ (.int .i64 (s.lists[at'].length:Int))).cell? ⟨Q,2,none⟩=some (.slice (some ⟨g,0,none⟩) s.lists.length cap)/\(w.setCell ⟨g2,i*3+1,none⟩ (.int .i64 (s.lists[at'].length:Int))).cell? ⟨g,at',none⟩=some (.slice (some ⟨g2,0,none⟩) s.lists[at'].length vc)):=⟨nk _ _ _ hgr r0,nk _ _ _ hgr r1,nk _ _ _ hgq k2,nk _ _ _ hgg hcv⟩
 clear h ho hr hc hh hv hvr nk
 go_enter Tryz.func81,Tryz.ntmps81
 refine wp_region_held_drew (S:=fun w'=>w'.cell? ⟨R,0,none⟩=some (.pointer (some ⟨Q,0,none⟩))/\w'.cell? ⟨R,1,none⟩=some (.int .i64 (at':Int))/\w'.cell? ⟨Q,2,none⟩=some (.slice (some ⟨g,0,none⟩) s.lists.length cap)/\w'.cell? ⟨g,at',none⟩=some (.slice (some ⟨g2,0,none⟩) s.lists[at'].length vc)) (by kernel_rfl) ⟨r0,r1,k2,hcv⟩ (fun hHeld=>?_)
 refine wpAnyH_take (i:=0) (v:=(.pointer (some ⟨R,0,none⟩))) rfl (by kernel_rfl) (by kernel_rfl) (by kernel_rfl) (fun _ _ _ h=>h) (Or.inl ⟨by rfl,?_⟩) hHeld ?_
 ·intro w' hS'
  obtain⟨hA,hB,hC,hD⟩:=hS'
  go_simp
 (try simp only[Act.put,List.setIfInBounds_toArray,List.set_cons_zero,List.set_cons_succ])
 refine wpAnyH_take (i:=1) (v:=(.pointer (some ⟨R,0,none⟩))) rfl (by kernel_rfl) (by kernel_rfl) (by kernel_rfl) (fun _ _ _ h=>h) (Or.inl ⟨by rfl,?_⟩) hHeld ?_
 ·intro w' hS'
  obtain⟨hA,hB,hC,hD⟩:=hS'
  go_simp
 (try simp only[Act.put,List.setIfInBounds_toArray,List.set_cons_zero,List.set_cons_succ])
 refine wpAnyH_take (i:=2) (v:=(.pointer (some ⟨R,0,none⟩))) rfl (by kernel_rfl) (by kernel_rfl) (by kernel_rfl) (fun _ _ _ h=>h) (Or.inl ⟨by rfl,?_⟩) hHeld ?_
 ·intro w' hS'
  obtain⟨hA,hB,hC,hD⟩:=hS'
  go_simp
 (try simp only[Act.put,List.setIfInBounds_toArray,List.set_cons_zero,List.set_cons_succ])
 refine wpAnyH_take (i:=3) (v:=(.pointer (some ⟨Q,0,none⟩))) rfl (by kernel_rfl) (by kernel_rfl) (by kernel_rfl) (fun _ _ _ h=>h) (Or.inl ⟨by rfl,?_⟩) hHeld ?_
 ·intro w' hS'
  obtain⟨hA,hB,hC,hD⟩:=hS'
  go_simp
 (try simp only[Act.put,List.setIfInBounds_toArray,List.set_cons_zero,List.set_cons_succ])
 refine wpAnyH_take (i:=4) (v:=(.pointer (some ⟨Q,0,none⟩))) rfl (by kernel_rfl) (by kernel_rfl) (by kernel_rfl) (fun _ _ _ h=>h) (Or.inl ⟨by rfl,?_⟩) hHeld ?_
 ·intro w' hS'
  obtain⟨hA,hB,hC,hD⟩:=hS'
  go_simp
 (try simp only[Act.put,List.setIfInBounds_toArray,List.set_cons_zero,List.set_cons_succ])
 refine wpAnyH_take (i:=5) (v:=(.pointer (some ⟨Q,0,none⟩))) rfl (by kernel_rfl) (by kernel_rfl) (by kernel_rfl) (fun _ _ _ h=>h) (Or.inl ⟨by rfl,?_⟩) hHeld ?_
 ·intro w' hS'
  obtain⟨hA,hB,hC,hD⟩:=hS'
  go_simp
 (try simp only[Act.put,List.setIfInBounds_toArray,List.set_cons_zero,List.set_cons_succ])
 refine wpAnyH_take (i:=6) (v:=(.pointer (some ⟨Q,2,none⟩))) rfl (by kernel_rfl) (by kernel_rfl) (by kernel_rfl) (fun _ _ _ h=>h) (Or.inl ⟨by rfl,?_⟩) hHeld ?_
 ·intro w' hS'
  obtain⟨hA,hB,hC,hD⟩:=hS'
  go_simp
 (try simp only[Act.put,List.setIfInBounds_toArray,List.set_cons_zero,List.set_cons_succ])
 refine wpAnyH_take (i:=7) (v:=(.slice (some ⟨g,0,none⟩) s.lists.length cap)) rfl (by kernel_rfl) (by kernel_rfl) (by kernel_rfl) (fun _ _ _ h=>h) (Or.inl ⟨by rfl,?_⟩) hHeld ?_
 ·intro w' hS'
  obtain⟨hA,hB,hC,hD⟩:=hS'
  go_simp
 (try simp only[Act.put,List.setIfInBounds_toArray,List.set_cons_zero,List.set_cons_succ])
 refine wpAnyH_take (i:=8) (v:=(.pointer (some ⟨R,0,none⟩))) rfl (by kernel_rfl) (by kernel_rfl) (by kernel_rfl) (fun _ _ _ h=>h) (Or.inl ⟨by rfl,?_⟩) hHeld ?_
 ·intro w' hS'
  obtain⟨hA,hB,hC,hD⟩:=hS'
  go_simp
 (try simp only[Act.put,List.setIfInBounds_toArray,List.set_cons_zero,List.set_cons_succ])
 refine wpAnyH_take (i:=9) (v:=(.pointer (some ⟨R,0,none⟩))) rfl (by kernel_rfl) (by kernel_rfl) (by kernel_rfl) (fun _ _ _ h=>h) (Or.inl ⟨by rfl,?_⟩) hHeld ?_
 ·intro w' hS'
  obtain⟨hA,hB,hC,hD⟩:=hS'
  go_simp
 (try simp only[Act.put,List.setIfInBounds_toArray,List.set_cons_zero,List.set_cons_succ])
 refine wpAnyH_take (i:=10) (v:=(.pointer (some ⟨R,1,none⟩))) rfl (by kernel_rfl) (by kernel_rfl) (by kernel_rfl) (fun _ _ _ h=>h) (Or.inl ⟨by rfl,?_⟩) hHeld ?_
 ·intro w' hS'
  obtain⟨hA,hB,hC,hD⟩:=hS'
  go_simp
 (try simp only[Act.put,List.setIfInBounds_toArray,List.set_cons_zero,List.set_cons_succ])
 refine wpAnyH_take (i:=11) (v:=(.int .i64 (at':Int))) rfl (by kernel_rfl) (by kernel_rfl) (by kernel_rfl) (fun _ _ _ h=>h) (Or.inl ⟨by rfl,?_⟩) hHeld ?_
 ·intro w' hS'
  obtain⟨hA,hB,hC,hD⟩:=hS'
  go_simp
 (try simp only[Act.put,List.setIfInBounds_toArray,List.set_cons_zero,List.set_cons_succ])
 refine wpAnyH_take (i:=12) (v:=(.pointer (some ⟨g,at',none⟩))) rfl (by kernel_rfl) (by kernel_rfl) (by kernel_rfl) (fun _ _ _ h=>h) (Or.inl ⟨by rfl,?_⟩) hHeld ?_
 ·intro w' hS'
  obtain⟨hA,hB,hC,hD⟩:=hS'
  go_simp
 (try simp only[Act.put,List.setIfInBounds_toArray,List.set_cons_zero,List.set_cons_succ])
 refine wpAnyH_take (i:=13) (v:=(.slice (some ⟨g2,0,none⟩) s.lists[at'].length vc)) rfl (by kernel_rfl) (by kernel_rfl) (by kernel_rfl) (fun _ _ _ h=>h) (Or.inl ⟨by rfl,?_⟩) hHeld ?_
 ·intro w' hS'
  obtain⟨hA,hB,hC,hD⟩:=hS'
  go_simp
 (try simp only[Act.put,List.setIfInBounds_toArray,List.set_cons_zero,List.set_cons_succ])
 refine wpAnyH_take (i:=14) (v:=(.int .i64 (i:Int))) rfl (by kernel_rfl) (by kernel_rfl) (by kernel_rfl) (fun _ _ _ h=>h) (Or.inl ⟨by rfl,?_⟩) hHeld ?_
 ·intro w' hS'
  obtain⟨hA,hB,hC,hD⟩:=hS'
  go_simp
 (try simp only[Act.put,List.setIfInBounds_toArray,List.set_cons_zero,List.set_cons_succ])
 refine wpAnyH_take (i:=15) (v:=(.pointer (some ⟨R,0,none⟩))) rfl (by kernel_rfl) (by kernel_rfl) (by kernel_rfl) (fun _ _ _ h=>h) (Or.inl ⟨by rfl,?_⟩) hHeld ?_
 ·intro w' hS'
  obtain⟨hA,hB,hC,hD⟩:=hS'
  go_simp
 (try simp only[Act.put,List.setIfInBounds_toArray,List.set_cons_zero,List.set_cons_succ])
 refine wpAnyH_take (i:=16) (v:=(.pointer (some ⟨R,0,none⟩))) rfl (by kernel_rfl) (by kernel_rfl) (by kernel_rfl) (fun _ _ _ h=>h) (Or.inl ⟨by rfl,?_⟩) hHeld ?_
 ·intro w' hS'
  obtain⟨hA,hB,hC,hD⟩:=hS'
  go_simp
 (try simp only[Act.put,List.setIfInBounds_toArray,List.set_cons_zero,List.set_cons_succ])
 refine wpAnyH_take (i:=17) (v:=(.pointer (some ⟨R,0,none⟩))) rfl (by kernel_rfl) (by kernel_rfl) (by kernel_rfl) (fun _ _ _ h=>h) (Or.inl ⟨by rfl,?_⟩) hHeld ?_
 ·intro w' hS'
  obtain⟨hA,hB,hC,hD⟩:=hS'
  go_simp
 (try simp only[Act.put,List.setIfInBounds_toArray,List.set_cons_zero,List.set_cons_succ])
 refine wpAnyH_take (i:=18) (v:=(.pointer (some ⟨Q,0,none⟩))) rfl (by kernel_rfl) (by kernel_rfl) (by kernel_rfl) (fun _ _ _ h=>h) (Or.inl ⟨by rfl,?_⟩) hHeld ?_
 ·intro w' hS'
  obtain⟨hA,hB,hC,hD⟩:=hS'
  go_simp
 (try simp only[Act.put,List.setIfInBounds_toArray,List.set_cons_zero,List.set_cons_succ])
 refine wpAnyH_take (i:=19) (v:=(.pointer (some ⟨Q,0,none⟩))) rfl (by kernel_rfl) (by kernel_rfl) (by kernel_rfl) (fun _ _ _ h=>h) (Or.inl ⟨by rfl,?_⟩) hHeld ?_
 ·intro w' hS'
  obtain⟨hA,hB,hC,hD⟩:=hS'
  go_simp
 (try simp only[Act.put,List.setIfInBounds_toArray,List.set_cons_zero,List.set_cons_succ])
 refine wpAnyH_take (i:=20) (v:=(.pointer (some ⟨Q,0,none⟩))) rfl (by kernel_rfl) (by kernel_rfl) (by kernel_rfl) (fun _ _ _ h=>h) (Or.inl ⟨by rfl,?_⟩) hHeld ?_
 ·intro w' hS'
  obtain⟨hA,hB,hC,hD⟩:=hS'
  go_simp
 (try simp only[Act.put,List.setIfInBounds_toArray,List.set_cons_zero,List.set_cons_succ])
 refine wpAnyH_take (i:=21) (v:=(.pointer (some ⟨Q,2,none⟩))) rfl (by kernel_rfl) (by kernel_rfl) (by kernel_rfl) (fun _ _ _ h=>h) (Or.inl ⟨by rfl,?_⟩) hHeld ?_
 ·intro w' hS'
  obtain⟨hA,hB,hC,hD⟩:=hS'
  go_simp
 (try simp only[Act.put,List.setIfInBounds_toArray,List.set_cons_zero,List.set_cons_succ])
 refine wpAnyH_take (i:=22) (v:=(.slice (some ⟨g,0,none⟩) s.lists.length cap)) rfl (by kernel_rfl) (by kernel_rfl) (by kernel_rfl) (fun _ _ _ h=>h) (Or.inl ⟨by rfl,?_⟩) hHeld ?_
 ·intro w' hS'
  obtain⟨hA,hB,hC,hD⟩:=hS'
  go_simp
 (try simp only[Act.put,List.setIfInBounds_toArray,List.set_cons_zero,List.set_cons_succ])
 refine wpAnyH_take (i:=23) (v:=(.pointer (some ⟨R,0,none⟩))) rfl (by kernel_rfl) (by kernel_rfl) (by kernel_rfl) (fun _ _ _ h=>h) (Or.inl ⟨by rfl,?_⟩) hHeld ?_
 ·intro w' hS'
  obtain⟨hA,hB,hC,hD⟩:=hS'
  go_simp
 (try simp only[Act.put,List.setIfInBounds_toArray,List.set_cons_zero,List.set_cons_succ])
 refine wpAnyH_take (i:=24) (v:=(.pointer (some ⟨R,0,none⟩))) rfl (by kernel_rfl) (by kernel_rfl) (by kernel_rfl) (fun _ _ _ h=>h) (Or.inl ⟨by rfl,?_⟩) hHeld ?_
 ·intro w' hS'
  obtain⟨hA,hB,hC,hD⟩:=hS'
  go_simp
 (try simp only[Act.put,List.setIfInBounds_toArray,List.set_cons_zero,List.set_cons_succ])
 refine wpAnyH_take (i:=25) (v:=(.pointer (some ⟨R,1,none⟩))) rfl (by kernel_rfl) (by kernel_rfl) (by kernel_rfl) (fun _ _ _ h=>h) (Or.inl ⟨by rfl,?_⟩) hHeld ?_
 ·intro w' hS'
  obtain⟨hA,hB,hC,hD⟩:=hS'
  go_simp
 (try simp only[Act.put,List.setIfInBounds_toArray,List.set_cons_zero,List.set_cons_succ])
 refine wpAnyH_take (i:=26) (v:=(.int .i64 (at':Int))) rfl (by kernel_rfl) (by kernel_rfl) (by kernel_rfl) (fun _ _ _ h=>h) (Or.inl ⟨by rfl,?_⟩) hHeld ?_
 ·intro w' hS'
  obtain⟨hA,hB,hC,hD⟩:=hS'
  go_simp
 (try simp only[Act.put,List.setIfInBounds_toArray,List.set_cons_zero,List.set_cons_succ])
 refine wpAnyH_take (i:=27) (v:=(.pointer (some ⟨g,at',none⟩))) rfl (by kernel_rfl) (by kernel_rfl) (by kernel_rfl) (fun _ _ _ h=>h) (Or.inl ⟨by rfl,?_⟩) hHeld ?_
 ·intro w' hS'
  obtain⟨hA,hB,hC,hD⟩:=hS'
  go_simp
 (try simp only[Act.put,List.setIfInBounds_toArray,List.set_cons_zero,List.set_cons_succ])
 refine wpAnyH_take (i:=28) (v:=(.slice (some ⟨g2,0,none⟩) s.lists[at'].length vc)) rfl (by kernel_rfl) (by kernel_rfl) (by kernel_rfl) (fun _ _ _ h=>h) (Or.inl ⟨by rfl,?_⟩) hHeld ?_
 ·intro w' hS'
  obtain⟨hA,hB,hC,hD⟩:=hS'
  go_simp
 (try simp only[Act.put,List.setIfInBounds_toArray,List.set_cons_zero,List.set_cons_succ])
 refine wpAnyH_take (i:=29) (v:=(.int .i64 (s.lists[at'].length:Int))) rfl (by kernel_rfl) (by kernel_rfl) (by kernel_rfl) (fun _ _ _ h=>h) (Or.inl ⟨by rfl,?_⟩) hHeld ?_
 ·intro w' hS'
  obtain⟨hA,hB,hC,hD⟩:=hS'
  go_simp
 (try simp only[Act.put,List.setIfInBounds_toArray,List.set_cons_zero,List.set_cons_succ])
 refine wpAnyH_take (i:=30) (v:=(.pointer (some ⟨g2,i*3,none⟩))) rfl (by kernel_rfl) (by kernel_rfl) (by kernel_rfl) (fun _ _ _ h=>h) (Or.inl ⟨by rfl,?_⟩) hHeld ?_
 ·intro w' hS'
  obtain⟨hA,hB,hC,hD⟩:=hS'
  go_simp
 (try simp only[Act.put,List.setIfInBounds_toArray,List.set_cons_zero,List.set_cons_succ])
 refine wpAnyH_take (i:=31) (v:=(.pointer (some ⟨g2,i*3+1,none⟩))) rfl (by kernel_rfl) (by kernel_rfl) (by kernel_rfl) (fun _ _ _ h=>h) (Or.inl ⟨by rfl,?_⟩) hHeld ?_
 ·intro w' hS'
  obtain⟨hA,hB,hC,hD⟩:=hS'
  go_simp
 (try simp only[Act.put,List.setIfInBounds_toArray,List.set_cons_zero,List.set_cons_succ])
 refine wpAnyH_ready (rs:=[32]) (by kernel_rfl) (by simp) ?_
 refine AllReadyH.cons rfl (fun K hK=>?_) AllReadyH.nil
 go_simp
 refine hK.out _ _ HNK.out (fun hHeld=>?_)
 clear hK K hHeld
 refine wpAnyH_done (by kernel_rfl) ?_ _
 go_wp2_with fail
 exact bodyPost_end (v:=.tuple #[]) (by simp[results,Tryz.results81,go_sem]) rfl ⟨rfl,vN,vl,HFIN.out.1.below (Zg _ _).drew,HFIN.out.2.trans (FrO.of_below (Zg _ _).drew) (Onto.refl _ _) (Onto.refl _ _),Onto.refl _ _,Onto.refl _ _⟩
end Go.Proofs.YtpfdgbalchmmfaaGreatDoor
