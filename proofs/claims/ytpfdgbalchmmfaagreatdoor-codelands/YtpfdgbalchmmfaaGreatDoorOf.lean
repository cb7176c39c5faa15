/- Texts in one. -/
import Derived.Test.YtpfdgbalchmmfaaGreatDoorOe
set_option linter.unusedVariables false
set_option maxHeartbeats 16000000
set_option maxRecDepth 20000
namespace Go.Proofs.YtpfdgbalchmmfaaGreatDoor
open Go.RowKit
theorem ClsF.snoc{w:World}{Q BB:Nat}{vC vS vM vs:Value}{L:List ClW}{c:ClW}{xs ss:List Value}(rowC:w.ownsRow (Q+1) 68 4 vC (L.length+1) (xs++[.string c.name,.int .i64 c.over,.int .i64 (c.slots.length:Int),vM]))(rowS:w.ownsRow (Q+1) 23 1 vS (L.length+1) (ss++[vs]))(lx:xs.length=L.length*4)(ls:ss.length=L.length)(old:∀i (h:i<L.length),∃vM vs,UW w Q BB L[i] xs i vM vs/\ss[i]?=some vs)(rM:w.ownsRow (Q+1) 72 3 vM c.meths.length (Cz c.meths))(rV:w.ownsRow (Q+1) 9 1 vs c.slots.length (B5 c.slots))(low:∀g,vs.ownBlock=some g->g<BB):ClsF w Q BB vC vS (L++[c]) (xs++[.string c.name,.int .i64 c.over,.int .i64 (c.slots.length:Int),vM]) (ss++[vs]):=by
 refine⟨by rw[Z1];exact rowC,by rw[Z1];exact rowS,fun i hi=>?_⟩
 rw[Z1]at hi
 by_cases hlt:i<L.length
 ·obtain⟨vM',vs',hI,e⟩:=old i hlt
  have e1:∀j,j<4->(xs++[.string c.name,.int .i64 c.over,.int .i64 (c.slots.length:Int),vM])[i*4+j]?=xs[i*4+j]?:=fun j hj=>List.getElem?_append_left (by omega)
  refine⟨vM',vs',?_,by rw[List.getElem?_append_left (by omega)];exact e⟩
  rw[Zb hlt]
  exact⟨(e1 0 (by decide)).trans hI.name,(e1 1 (by decide)).trans hI.over,(e1 2 (by decide)).trans hI.many,(e1 3 (by decide)).trans hI.meths,hI.rowM,hI.rowS,hI.low⟩
 ·have hi':i=L.length:=by simp at hi;omega
  subst hi'
  have e1:∀j,(xs++[.string c.name,.int .i64 c.over,.int .i64 (c.slots.length:Int),vM])[L.length*4+j]?=[Value.string c.name,.int .i64 c.over,.int .i64 (c.slots.length:Int),vM][j]?:=fun j=>by
   rw[List.getElem?_append_right (by omega),lx,Nat.add_sub_cancel_left]
  refine⟨vM,vs,?_,by rw[<-ls,List.getElem?_append_right (Z0 _),Nat.sub_self];rfl⟩
  rw[Zc (Z0 _)]
  simp only[Nat.sub_self,List.getElem_cons_zero]
  exact⟨e1 0,e1 1,e1 2,e1 3,rM,rV,low⟩
theorem ClsF.names{w:World}{Q BB:Nat}{vC vS:Value}{L:List ClW}{xs ss:List Value}(h:ClsF w Q BB vC vS L xs ss):ClsN w Q vC (L.map (·.name)):=by
 refine⟨xs,by rw[List.length_map];exact h.rowC,fun i hi=>?_⟩
 rw[List.length_map]at hi
 obtain⟨vM,vs,hI,_⟩:=h.each i hi
 obtain⟨ma,mc,rfl⟩:=Aq hI.rowM
 exact⟨_,_,_,_,_,by rw[List.getElem_map];exact hI.name,hI.over,hI.many,hI.meths⟩
theorem ClsF.mono{w:World}{Q BB BB':Nat}{vC vS:Value}{L:List ClW}{xs ss:List Value}(h:ClsF w Q BB vC vS L xs ss)(hb:BB<=BB'):ClsF w Q BB' vC vS L xs ss:=
 ⟨h.rowC,h.rowS,fun i hi=>by
  obtain⟨vM,vs,hI,e⟩:=h.each i hi
  exact⟨vM,vs,⟨hI.name,hI.over,hI.many,hI.meths,hI.rowM,hI.rowS,fun g e=>Z5 (hI.low g e) hb⟩,e⟩⟩
theorem TJ:(Tryz.prog.info? 72).map (fun i=>(i.zero,i.size,i.bytes))=some (some (.agg #[.string ⟨#[]⟩,.int .i64 0,.int .i64 0]),3,32):=by kernel_rfl
theorem Us:Ef 66 72 3 32:=by
 obtain⟨i,h1,h2⟩:=Option.map_eq_some_iff.1 TJ
 simp only[Prod.mk.injEq]at h2
 exact⟨by kernel_rfl,⟨i,_,h1,h2.1,h2.2.1,h2.2.2,by decide⟩,by decide,by decide⟩
theorem TK:(Tryz.prog.info? 68).map (fun i=>(i.zero,i.size,i.bytes))=some (some (.agg #[.string ⟨#[]⟩,.int .i64 0,.int .i64 0,.slice none 0 0]),4,56):=by kernel_rfl
theorem Ut:Ef 22 68 4 56:=by
 obtain⟨i,h1,h2⟩:=Option.map_eq_some_iff.1 TK
 simp only[Prod.mk.injEq]at h2
 exact⟨by kernel_rfl,⟨i,_,h1,h2.1,h2.2.1,h2.2.2,by decide⟩,by decide,by decide⟩
theorem TL:(Tryz.prog.info? 23).map (fun i=>(i.zero,i.size,i.bytes))=some (some (.slice none 0 0),1,24):=by kernel_rfl
theorem UX:Ef 43 23 1 24:=by
 obtain⟨i,h1,h2⟩:=Option.map_eq_some_iff.1 TL
 simp only[Prod.mk.injEq]at h2
 exact⟨by kernel_rfl,⟨i,_,h1,h2.1,h2.2.1,h2.2.2,by decide⟩,by decide,by decide⟩
theorem MkO.keep{w w':World}{c:CnO}{s:MW}(h:MkO w c s (.slice none 0 0))(hs:w.heap.size<=w'.heap.size)(hQ:w'.heap[c.Q]?=w.heap[c.Q]?)(hC:∀g,c.vC.ownBlock=some g->w'.heap[g]?=w.heap[g]?)(hM:∀k,Fj w k->w'.heap[k]?=w.heap[k]?):MkO w' c s (.slice none 0 0):=by
 obtain⟨vL,vK,vis,ho,hr,hc⟩:=h.obj
 exact⟨⟨vL,vK,vis,hQ.trans ho,hr.same fun k cc fz e hk ht=>hM k ⟨cc,e,fz,hk,by rcases ht with rfl | rfl;exact Or.inr (Or.inl rfl);exact Or.inr (Or.inr rfl)⟩,AF hc fun g e=>hM g (ET hc (Or.inl rfl) e)⟩,AF h.names fun g e=>(by cases e),h.cls.same hC,h.qb,Za h.size hs⟩
def CBox(w:World)(X:Nat)(x:ByteArray)(over many:Int)(vM:Value):Prop:=w.heap[X]?=some (.cells #[.string x,.int .i64 over,.int .i64 many,vM] 68)
theorem CBox.lt{w:World}{X:Nat}{x:ByteArray}{over many:Int}{vM:Value}(h:CBox w X x over many vM):X<w.heap.size:=(Array.getElem?_eq_some_iff.1 h).1
theorem CBox.facts{w:World}{X:Nat}{x:ByteArray}{over many:Int}{vM:Value}(h:CBox w X x over many vM):(w.cell? ⟨X,0,none⟩=some (.string x)/\w.cell? ⟨X,1,none⟩=some (.int .i64 over)/\w.cell? ⟨X,2,none⟩=some (.int .i64 many)/\w.cell? ⟨X,3,none⟩=some vM)/\∀j,w.frozen? ⟨X,j,none⟩=false:=
 ⟨⟨cell_of_row _ _ _ _ _ _ h,cell_of_row _ _ _ _ _ _ h,cell_of_row _ _ _ _ _ _ h,cell_of_row _ _ _ _ _ _ h⟩,fun _=>frozen_of_row _ _ _ _ _ h⟩
theorem CBox.setOver{w:World}{X:Nat}{x:ByteArray}{over many:Int}{vM:Value}(h:CBox w X x over many vM)(o:Int):CBox (w.setCell ⟨X,1,none⟩ (.int .i64 o)) X x o many vM:=heap_setCell_same _ _ _ _ _ _ h
theorem CBox.setMany{w:World}{X:Nat}{x:ByteArray}{over many:Int}{vM:Value}(h:CBox w X x over many vM)(o:Int):CBox (w.setCell ⟨X,2,none⟩ (.int .i64 o)) X x over o vM:=heap_setCell_same _ _ _ _ _ _ h
theorem CBox.setMeths{w:World}{X:Nat}{x:ByteArray}{over many:Int}{vM:Value}(h:CBox w X x over many vM)(v:Value):CBox (w.setCell ⟨X,3,none⟩ v) X x over many v:=heap_setCell_same _ _ _ _ _ _ h
structure InCl(w wr:World)(c:CnO)(X:Nat)(y:ClW×Nat)(vM vs:Value):Prop where
 mkr:MkO wr c (As y.2) (.slice none 0 0)
 box:CBox wr X y.1.name y.1.over 0 vM
 rowM:wr.ownsRow w.heap.size 72 3 vM y.1.meths.length (Cz y.1.meths)
 rowS:wr.ownsRow w.heap.size 9 1 vs y.1.slots.length (B5 y.1.slots)
 fr:FrO w wr c.Q c.Q (.slice none 0 0) (.slice none 0 0)
 xb:w.heap.size<=X
 q:c.Q<w.heap.size
 cls:∀g,c.vC.ownBlock=some g->g<w.heap.size
theorem InCl.grown{w wr wx:World}{c:CnO}{X:Nat}{y:ClW×Nat}{vM vs:Value}{m:Option Nat}(h:InCl w wr c X y vM vs)(hg:wr.grownBy wx m)(hm:∀k,m=some k->w.heap.size<=k/\¬Fj wr k):MkO wx c (As y.2) (.slice none 0 0)/\FrO w wx c.Q c.Q (.slice none 0 0) (.slice none 0 0):=by
 have hsz:=h.fr.size
 have hq:=h.q
 have hk:∀k,k<w.heap.size->wx.heap[k]?=wr.heap[k]?:=fun k hk=>hg.block k (by omega) (fun e=>by have:=(hm k e.symm).1;omega)
 refine⟨h.mkr.keep hg.size (hk _ hq) (fun g e=>hk g (h.cls g e)) (fun k hM=>?_),⟨hg.os.trans h.fr.os,hg.tape.trans h.fr.tape,hg.output.trans h.fr.output,Za hsz hg.size,fun k h1 h2 h3 h4 h5 h6=>(hk k h1).trans (h.fr.block k h1 h2 h3 h4 h5 h6)⟩⟩
 obtain⟨cc,e,fz,hc,_⟩:=id hM
 exact hg.block k (Array.getElem?_eq_some_iff.1 hc).1 (fun e'=>(hm k e'.symm).2 hM)
theorem InCl.below{w wr wx:World}{c:CnO}{X:Nat}{y:ClW×Nat}{vM vs:Value}(h:InCl w wr c X y vM vs)(hb:Below wr.heap.size wr wx):InCl w wx c X y vM vs:=
 ⟨h.mkr.below hb,(hb.block _ h.box.lt).trans h.box,AF h.rowM fun g e=>hb.block g (h.rowM.lt g e).2,AF h.rowS fun g e=>hb.block g (h.rowS.lt g e).2,h.fr.trans (FrO.of_below hb) (Onto.refl _ _) (Onto.refl _ _),h.xb,h.q,h.cls⟩
theorem InCl.clone{w wr wx:World}{c:CnO}{X:Nat}{y:ClW×Nat}{vM vs vs':Value}{l:List ByteArray}(h:InCl w wr c X y vM vs)(hb:Below wr.heap.size wr wx)(hr:wx.ownsRow wr.heap.size 9 1 vs' l.length (B5 l)):InCl w wx c X ({ y.1 with slots:=l },y.2) vM vs':=by
 have h1:=h.below hb
 exact⟨h1.mkr,h1.box,h1.rowM,DJ hr h.fr.size,h1.fr,h1.xb,h1.q,h1.cls⟩
theorem InCl.slot{w wr wx:World}{c:CnO}{X:Nat}{y:ClW×Nat}{vM vs vs':Value}{x:ByteArray}(h:InCl w wr c X y vM vs)(hg:wr.grownBy wx vs.ownBlock)(hr:wx.ownsRow w.heap.size 9 1 vs' (y.1.slots.length+1) (B5 y.1.slots++[.string x])):InCl w wx c X ({ y.1 with slots:=y.1.slots++[x] },y.2) vM vs':=by
 obtain⟨a1,a2⟩:=h.grown hg (fun k e=>⟨(h.rowS.lt k e).1,CB h.rowS (by decide) (by decide) (by decide) e⟩)
 refine⟨a1,(hg.block _ h.box.lt (fun e=>AJ h.rowS h.box (by decide) e.symm)).trans h.box,AF h.rowM fun g e=>hg.block g (h.rowM.lt g e).2 (fun e'=>BI h.rowM h.rowS (by decide) e e'.symm),?_,a2,h.xb,h.q,h.cls⟩
 show wx.ownsRow w.heap.size _ 1 vs' (y.1.slots++[x]).length (B5 (y.1.slots++[x]))
 rw[GF,Z1]
 exact hr
theorem InCl.overW{w wr:World}{c:CnO}{X:Nat}{y:ClW×Nat}{vM vs:Value}(h:InCl w wr c X y vM vs)(o:Int):InCl w (wr.setCell ⟨X,1,none⟩ (.int .i64 o)) c X ({ y.1 with over:=o },y.2) vM vs:=by
 have hg:wr.grownBy (wr.setCell ⟨X,1,none⟩ (.int .i64 o)) (some X):=Am wr X 1 _
 obtain⟨a1,a2⟩:=h.grown hg (fun k e=>by injection e with e;subst e;exact⟨h.xb,D4 h.box (by decide) (by decide) (by decide)⟩)
 exact⟨a1,h.box.setOver o,ownsRow_setCell_other h.rowM (a:=⟨X,1,none⟩) (AJ h.rowM h.box (by decide)) _,ownsRow_setCell_other h.rowS (a:=⟨X,1,none⟩) (AJ h.rowS h.box (by decide)) _,a2,h.xb,h.q,h.cls⟩
theorem InCl.meth{w wr w1 w7:World}{c:CnO}{X:Nat}{y:ClW×Nat}{vM vs vM':Value}{x:ByteArray}{m:Int}(h:InCl w wr c X y vM vs)(hm:MkO w1 c ((As y.2).begin 0) (.slice none 0 0))(hf:FrO wr w1 c.Q c.Q (.slice none 0 0) (.slice none 0 0))(hg:w1.grownBy w7 vM.ownBlock)(hr:w7.ownsRow w.heap.size 72 3 vM' (y.1.meths.length+1) (Cz y.1.meths++Ih (x,m,y.2))):InCl w (w7.setCell ⟨X,3,none⟩ vM') c X ({ y.1 with meths:=y.1.meths++[(x,m,y.2)] },y.2+1) vM' vs:=by
 have hxb:=h.xb
 have hq:=h.q
 have nn:∀k,(Value.slice none 0 0).ownBlock≠some k:=fun k e=>by cases e
 have row:∀ {B n size:Nat} {v:Value} {ys:List Value} {e:TypeId},wr.ownsRow B e size v n ys->w.heap.size<=B->e≠3->e≠33->e≠35->w1.ownsRow B e size v n ys:=fun hv hB h1 h2 h3=>AF hv fun g e=>hf.block g (hv.lt g e).2 (by have:=(hv.lt g e).1;omega) (by have:=(hv.lt g e).1;omega) (nn g) (nn g) (Or.inr (CB hv h1 h2 h3 e))
 have hbx:CBox w1 X y.1.name y.1.over 0 vM:=(hf.block X h.box.lt (by omega) (by omega) (nn X) (nn X) (Or.inr (D4 h.box (by decide) (by decide) (by decide)))).trans h.box
 have h1:InCl w w1 c X (y.1,y.2+1) vM vs:=⟨by rw[<-Jv];exact hm,hbx,row h.rowM (Z0 _) (by decide) (by decide) (by decide),row h.rowS (Z0 _) (by decide) (by decide) (by decide),h.fr.trans hf (Onto.refl _ _) (Onto.refl _ _),h.xb,h.q,h.cls⟩
 obtain⟨a1,a2⟩:=h1.grown hg (fun k e=>⟨(h1.rowM.lt k e).1,CB h1.rowM (by decide) (by decide) (by decide) e⟩)
 have hb7:CBox w7 X y.1.name y.1.over 0 vM:=(hg.block _ hbx.lt (fun e=>AJ h1.rowM hbx (by decide) e.symm)).trans hbx
 have hS7:w7.ownsRow w.heap.size 9 1 vs y.1.slots.length (B5 y.1.slots):=AF h1.rowS fun g e=>hg.block g (h1.rowS.lt g e).2 (fun e'=>BI h1.rowS h1.rowM (by decide) e e'.symm)
 have hr7:w7.ownsRow w.heap.size 72 3 vM' (y.1.meths++[(x,m,y.2)]).length (Cz (y.1.meths++[(x,m,y.2)])):=by rw[Oy,Z1];exact hr
 have hg2:w7.grownBy (w7.setCell ⟨X,3,none⟩ vM') (some X):=Am w7 X 3 _
 have hk:∀k,k≠X->(w7.setCell ⟨X,3,none⟩ vM').heap[k]?=w7.heap[k]?:=fun k hk=>Zm _ _ _ _ hk
 have hcl:=h.cls
 refine⟨a1.keep (by simp) (hk _ (by omega)) (fun g e=>hk g (by have:=hcl g e;omega)) (fun k hM=>hk k (fun e=>?_)),hb7.setMeths vM',ownsRow_setCell_other hr7 (a:=⟨X,3,none⟩) (AJ hr7 hb7 (by decide)) _,ownsRow_setCell_other hS7 (a:=⟨X,3,none⟩) (AJ hS7 hb7 (by decide)) _,⟨a2.os,a2.tape,a2.output,by have:=a2.size;simp;exact this,fun k h1 h2 h3 h4 h5 h6=>(hk k (by omega)).trans (a2.block k h1 h2 h3 h4 h5 h6)⟩,h.xb,h.q,h.cls⟩
 subst e
 exact D4 hb7 (by decide) (by decide) (by decide) hM
theorem M2{cls slots:List ByteArray}{hs:List (ByteArray×Int×Nat)}{ms:List Nd}{i:Nat}{s:MW}(h1:i<hs.length)(h2:i<ms.length):BO cls slots (hs.drop i) (ms.drop i) s=BO cls slots (hs.drop (i+1)) (ms.drop (i+1)) (Cc cls slots hs[i].2.2 ms[i] s):=by
 rw[Z4 h1,Z4 h2]
 conv=>lhs;unfold BO
theorem It{cls slots:List ByteArray}{hs:List (ByteArray×Int×Nat)}{ms:List Nd}{i:Nat}{s:MW}(h1:hs.length<=i):BO cls slots (hs.drop i) (ms.drop i) s=s:=by
 rw[Z9 h1]
 cases ms.drop i<;>rfl
theorem FrO.keepRow{w w':World}{Q BB n size:Nat}{vN v:Value}{ys:List Value}{e:TypeId}(hf:FrO w w' Q Q vN (.slice none 0 0))(hN:∀g,vN.ownBlock=some g->BB<=g/\∃c fz,w.heap[g]?=some (.cells c 9 fz))(hv:w.ownsRow (Q+1) e size v n ys)(h1:e≠3)(h2:e≠33)(h3:e≠35)(h4:e≠9\/∀g,v.ownBlock=some g->g<BB):w'.ownsRow (Q+1) e size v n ys:=
 AF hv fun g e'=>hf.block g (hv.lt g e').2 (by have:=(hv.lt g e').1;omega) (by have:=(hv.lt g e').1;omega) (fun e2=>by
  obtain⟨hb,c,fz,hc⟩:=hN g e2
  rcases h4 with h4 | h4
  ·exact AJ hv hc h4 e'
  ·have:=h4 g e';omega) (fun e=>by cases e) (Or.inr (CB hv h1 h2 h3 e'))
theorem OpsW.below2{w w':World}{c:CnO}{s:MW}{vN:Value}(h:OpsW w c.Q)(hm:MkO w c s vN)(hb:Below w.heap.size w w'):OpsW w' c.Q:=by
 have hqb:=hm.qb
 have hsz:=hm.size
 have h1:=h.1
 refine⟨h.1,fun k hk=>?_⟩
 rw[hb.cell (p:=⟨0,k,none⟩) (by show 0<_;omega)]
 exact h.2 k hk
theorem P0(c:CnO)(hcl:c.cls.length<=90000)(tx:List Int)(kids ms:List Nd)(d j:Nat)(L:List ClW)(xs ss:List Value)(hj:j<L.length)(hL9:L.length<=90000)(vN u:Value)(s:MW)(b:Nat)(w:World)(hm:MkO w c s vN)(hop:OpsW w c.Q)(hC:ClsF w c.Q c.BB c.vC c.vS L xs ss)(hd:d+L[j].meths.length=kids.length)(hms:kids.drop d=ms)(hwf:∀m∈ms,WfM m)(hat:∀i (h:i<L[j].meths.length),L[j].meths[i].2.2<s.lists.length)(hf:FewO s b)(hb:b+4*A2 ms<=80000)(hk9:kids.length<=90000)(hu:NodeV w (Ahd c.Q) u (.mk 2 tx 0 kids)) :
  Calls Tryz.prog 12 #[.pointer (some ⟨c.Q,0,none⟩),u,.int .i64 (j:Int)] w fun e w'=>e=.returned (.tuple #[])/\∃vN',MkO w' c (BO c.cls L[j].slots L[j].meths ms s) vN'/\OpsW w' c.Q/\FrO w w' c.Q c.Q vN (.slice none 0 0)/\Onto w vN vN':=by
 obtain⟨xk,hu1,ad,c0,hx1,hkk⟩:=hu
 obtain⟨cc,hcc⟩:∃cc,c0+kids.length=cc:=⟨_,rfl⟩
 have hx2:xk=.slice ad kids.length cc:=by rw[<-hcc];exact hx1
 subst hx2
 have hu2:u=.agg #[.int .i64 2,.string (strOfNums tx),.int .i64 0,.slice ad kids.length cc]:=hu1
 subst hu2
 have hlm:ms.length=L[j].meths.length:=by rw[<-hms,List.length_drop];omega
 obtain⟨vM,vs,hI,hss⟩:=hC.each j hj
 obtain⟨ca,ccp,eC⟩:=Aq hC.rowC
 obtain⟨sa,sc,eS⟩:=Aq hC.rowS
 obtain⟨ma,mc,eM⟩:=Aq hI.rowM
 obtain⟨va,vc,eV⟩:=Aq hI.rowS
 subst eM eV
 obtain⟨gC,eca⟩:∃gC,ca=some ⟨gC,0,none⟩:=by
  rcases hC.rowC.2 with⟨_,h0⟩ | ⟨g,cap,cur,e,_⟩
  ·omega
  ·rw[eC]at e;injection e with e;exact⟨g,e⟩
 obtain⟨gS,esa⟩:∃gS,sa=some ⟨gS,0,none⟩:=by
  rcases hC.rowS.2 with⟨_,h0⟩ | ⟨g,cap,cur,e,_⟩
  ·omega
  ·rw[eS]at e;injection e with e;exact⟨g,e⟩
 subst eca esa
 have hQb:=hm.qb
 have hsz:=hm.size
 obtain⟨vL,vK,vis,ho,_,_⟩:=hm.obj
 rw[eC]at ho
 rw[eS]at ho
 have hlq:=ho.lt
 obtain⟨⟨k0,_,_,_,k4⟩,_⟩:=ho.cells
 have hb0:Below w.heap.size w (w.alloc (.cells #[.int .i64 2,.string (strOfNums tx),.int .i64 0,.slice ad kids.length cc] 39)):=(Zg _ w).alloc (Z0 _) _
 have rC:w.ownsRow (c.Q+1) 68 4 (.slice (some ⟨gC,0,none⟩) L.length ccp) L.length xs:=by rw[<-eC];exact hC.rowC
 have rS:w.ownsRow (c.Q+1) 23 1 (.slice (some ⟨gS,0,none⟩) L.length sc) L.length ss:=by rw[<-eS];exact hC.rowS
 have q3:=(rC.cellAt (j*4+3) (by omega)).trans hI.meths
 have hgC:=(rC.lt gC rfl).2
 have hji:(j:Int)<(L.length:Int):=by omega
 have hsub:(kids.length:Int)-(L[j].meths.length:Int)=(d:Int):=by omega
 have hdi:(d:Int)<=(kids.length:Int):=by omega
 have hdc:(d:Int)<=(cc:Int):=by omega
 obtain⟨Z,hZ⟩:∃Z,BO c.cls L[j].slots L[j].meths ms s=Z:=⟨_,rfl⟩
 rw[hZ]
 have HZ:Hid (BO c.cls L[j].slots L[j].meths ms s=Z):=hZ
 have HM:Hid (MkO w c s vN):=hm
 have HOP:Hid (OpsW w c.Q):=hop
 have HCF:Hid (ClsF w c.Q c.BB c.vC c.vS L xs ss):=hC
 have rM:=hI.rowM
 have rV:=hI.rowS
 have hlow:=hI.low
 have HQ4:=(rS.cellAt j (by omega)).trans hss
 have hgS:=(rS.lt gS rfl).2
 generalize L[j].meths=meths at *
 generalize L[j].slots=slots at *
 have HF:Hid (FewO s b):=hf
 have HAT:Hid (∀i (h:i<meths.length),meths[i].2.2<s.lists.length):=hat
 have HBB:Hid (b+4*A2 ms<=80000):=hb
 have HMS:Hid (kids.drop d=ms):=hms
 have HWF:Hid (∀m∈ms,WfM m):=hwf
 have HKK:Hid (0<kids.length->∃b o,ad=some ⟨b,o,none⟩/\Ahd c.Q b/\b<w.heap.size/\NodesAt w (Ahd c.Q) b o kids):=hkk
 clear hm hop hC hx1 hu1 hZ hf hat hb hms hwf hkk hI
 by_cases h0:meths.length=0
 ·have hml:(meths.length:Int)=0:=by omega
  have HE:Hid (Z=s):=by
   show _=_
   rw[<-HZ.out]
   have:=It (cls:=c.cls) (slots:=slots) (hs:=meths) (ms:=ms) (i:=0) (s:=s) (by omega)
   exact this
  have HM2:=HM.out.below hb0
  have HO2:=HOP.out.below2 HM.out hb0
  have HFB:Hid (FrO w (w.alloc (.cells #[.int .i64 2,.string (strOfNums tx),.int .i64 0,.slice ad kids.length cc] 39)) c.Q c.Q vN (.slice none 0 0)):=FrO.of_below hb0
  have HMB:Hid (MkO (w.alloc (.cells #[.int .i64 2,.string (strOfNums tx),.int .i64 0,.slice ad kids.length cc] 39)) c s vN):=HM2
  have HOB:Hid (OpsW (w.alloc (.cells #[.int .i64 2,.string (strOfNums tx),.int .i64 0,.slice ad kids.length cc] 39)) c.Q):=HO2
  clear HM2 HO2 rM rV rS rC hlow HQ4 hss
  by_cases hcd:cc=d
  ·subst hcd
   go_enter Tryz.func12,Tryz.ntmps12
   go_wp2_with fail
   go_loopw [31] (fun s31 wr=>s31=.int .i64 0/\Hid (wr=w.alloc (.cells #[.int .i64 2,.string (strOfNums tx),.int .i64 0,.slice ad kids.length cc] 39))) (fun s31 _=>1)
   case atStart=>exact⟨rfl,rfl⟩
   case round=>
    obtain⟨rfl,HW⟩:=hrel
    have hl0:¬(0:Int)<(meths.length:Int):=by omega
    go_wp2_with fail
    refine bodyPost_end (v:=.tuple #[]) (by simp[results,Tryz.results12,go_sem]) rfl ?_
    rw[HE.out,HW.out]
    exact⟨rfl,vN,HMB.out,HOB.out,HFB.out,Onto.refl _ _⟩
  ·go_enter Tryz.func12,Tryz.ntmps12
   go_wp2_with fail
   go_loopw [31] (fun s31 wr=>s31=.int .i64 0/\Hid (wr=w.alloc (.cells #[.int .i64 2,.string (strOfNums tx),.int .i64 0,.slice ad kids.length cc] 39))) (fun s31 _=>1)
   case atStart=>exact⟨rfl,rfl⟩
   case round=>
    obtain⟨rfl,HW⟩:=hrel
    have hl0:¬(0:Int)<(meths.length:Int):=by omega
    go_wp2_with fail
    refine bodyPost_end (v:=.tuple #[]) (by simp[results,Tryz.results12,go_sem]) rfl ?_
    rw[HE.out,HW.out]
    exact⟨rfl,vN,HMB.out,HOB.out,HFB.out,Onto.refl _ _⟩
 ·obtain⟨kb,ko,ead,hMb,hbw,hnodes⟩:=HKK.out (by omega)
  subst ead
  have hne:¬cc=d:=by omega
  obtain⟨gM,ema⟩:∃gM,ma=some ⟨gM,0,none⟩:=by
   rcases rM.2 with⟨_,h1⟩ | ⟨g,cap,cur,e,_⟩
   ·omega
   ·injection e with e;exact⟨g,e⟩
  subst ema
  have HRM:Hid (w.ownsRow (c.Q+1) 72 3 (.slice (some ⟨gM,0,none⟩) meths.length mc) meths.length (Cz meths)):=rM
  have HRV:Hid (w.ownsRow (c.Q+1) 9 1 (.slice va slots.length vc) slots.length (B5 slots)):=rV
  have HLOW:Hid (∀g,(Value.slice va slots.length vc).ownBlock=some g->g<c.BB):=hlow
  have HNO:Hid (NodesAt w (Ahd c.Q) kb ko kids):=hnodes
  have HRS:Hid (w.ownsRow (c.Q+1) 23 1 (.slice (some ⟨gS,0,none⟩) L.length sc) L.length ss):=rS
  have HS4:Hid (w.cell? ⟨gS,j,none⟩=some (.slice va slots.length vc)):=HQ4
  clear rM rV hlow hnodes rS rC HQ4 hss
  go_enter Tryz.func12,Tryz.ntmps12
  go_wp2_with fail
  go_loopw [31] (fun s31 wr=>∃(i b1:Nat) (s1:MW) (vN1:Value),s31=.int .i64 i/\i<=meths.length/\Hid (BO c.cls slots (meths.drop i) (ms.drop i) s1=Z)/\Hid (b1+4*A2 (ms.drop i)<=80000)/\Hid (FewO s1 b1)/\Hid (s.lists.length<=s1.lists.length)/\Hid (MkO wr c s1 vN1)/\Hid (OpsW wr c.Q)/\Hid (FrO w wr c.Q c.Q vN (.slice none 0 0))/\Hid (Onto w vN vN1)) (fun s31 _=>90001-(intOf s31).toNat)
  case atStart=>exact⟨0,b,s,vN,rfl,Z3 _,HZ,HBB,HF,Z0 _,HM.out.below hb0,HOP.out.below2 HM.out hb0,FrO.of_below hb0,Onto.refl _ _⟩
  case round=>
   obtain⟨i,b1,s1,vN1,rfl,hi,HZ1,HN1,HF1,HT1,HM1,HO1,HK1,HON⟩:=hrel
   by_cases hlt:i<meths.length
   ·have hil:(i:Int)<(meths.length:Int):=by omega
    have hwi:=Ao (x:=(i:Int)+1) (by omega) (by omega)
    have hms:i<ms.length:=by omega
    have hdk:d+i<kids.length:=by omega
    have hCF:=HCF.out.fr HK1.out HM.out.rowN
    have emi:ms[i]=kids[d+i]:=by
     have:=HMS.out
     subst this
     rw[List.getElem_drop]
    obtain⟨x,ar,bn,em,_,_,hwb⟩:=HWF.out ms[i] (Z6 hms)
    have rM':=HK1.out.keepRow HM.out.rowN HRM.out (by decide) (by decide) (by decide) (Or.inl (by decide))
    have rS':=HK1.out.keepRow HM.out.rowN HRS.out (by decide) (by decide) (by decide) (Or.inl (by decide))
    have rV':=HK1.out.keepRow HM.out.rowN HRV.out (by decide) (by decide) (by decide) (Or.inr HLOW.out)
    obtain⟨p0,p1,p2⟩:=Mb meths i hlt
    have m0:=(rM'.cellAt (i*3) (by omega)).trans p0
    have m1:=(rM'.cellAt (i*3+1) (by omega)).trans p1
    have m2:=(rM'.cellAt (i*3+2) (by omega)).trans p2
    have m3:=(rM'.lt gM rfl).2
    have g1:wr.cell? ⟨gS,j,none⟩=some (.slice va slots.length vc):=(rS'.cellAt j (by omega)).trans ((HRS.out.cellAt j (by omega)).symm.trans HS4.out)
    have g2:=(rS'.lt gS rfl).2
    obtain⟨vL1,vK1,vis1,ho1,_,_⟩:=HM1.out.obj
    rw[eS]at ho1
    obtain⟨⟨_,_,_,_,k4'⟩,_⟩:=ho1.cells
    have hlq1:=ho1.lt
    have hkw:wr.heap[kb]?=w.heap[kb]?:=HK1.out.block kb hbw (by have:kb<c.Q:=hMb;omega) (by have:kb<c.Q:=hMb;omega) (fun e=>by have:=(HM.out.names.lt kb e).1;have:kb<c.Q:=hMb;omega) (fun e=>by cases e) (Or.inl (by have:kb<c.Q:=hMb;omega))
    obtain⟨xk,hkx,c0',c1',c2',c3'⟩:=CV HNO.out hdk
    rw[<-emi,em]at hkx c0' c1' c2'
    obtain⟨adx,cx0,hxx,_⟩:=id hkx
    subst hxx
    have ekl:(Nd.mk 4 x (ar.length:Int) (ar++[bn])).kids.length=ar.length+1:=by show(ar++[bn]).length=_;simp
    rw[ekl]at c3' hkx
    obtain⟨cx,hcx⟩:∃cx,cx0+(ar.length+1)=cx:=⟨_,rfl⟩
    rw[hcx]at c3' hkx
    have eo:ko+(d+i)*4=ko+d*4+i*4:=by omega
    rw[eo]at c0' c1' c2' c3'
    have d0:=(World.cell?_of_block (w:=w) (a:=⟨kb,ko+d*4+i*4,none⟩) hkw).trans c0'
    have d1:=(World.cell?_of_block (w:=w) (a:=⟨kb,ko+d*4+i*4+1,none⟩) hkw).trans c1'
    have d2:=(World.cell?_of_block (w:=w) (a:=⟨kb,ko+d*4+i*4+2,none⟩) hkw).trans c2'
    have d3:=(World.cell?_of_block (w:=w) (a:=⟨kb,ko+d*4+i*4+3,none⟩) hkw).trans c3'
    have d4:kb<wr.heap.size:=Z5 hbw HK1.out.size
    have hidx:(i:Int)<(kids.length:Int)-(d:Int):=by omega
    have hab:Above (Ahd c.Q) w wr:=⟨HK1.out.size,fun k h1 h2=>HK1.out.block k h2 (by have:k<c.Q:=h1;omega) (by have:k<c.Q:=h1;omega) (fun e=>by have:=(HM.out.names.lt k e).1;have:k<c.Q:=h1;omega) (fun e=>by cases e) (Or.inl (by have:k<c.Q:=h1;omega))⟩
    have hbA:Below wr.heap.size wr (wr.alloc (.cells #[.string meths[i].1,.int .i64 meths[i].2.1,.int .i64 (meths[i].2.2:Int)] 72)):=(Zg _ _).alloc (Z0 _) _
    have hnew:=Rv (at':=meths[i].2.2) (HM1.out.below hbA) (HO1.out.below2 HM1.out hbA) (AF rV' fun g e=>hbA.block g (rV'.lt g e).2) HLOW.out
    rw[show(wr.alloc (.cells #[.string meths[i].1,.int .i64 meths[i].2.1,.int .i64 (meths[i].2.2:Int)] 72)).heap.size=wr.heap.size+1 by simp]at hnew
    have hbW:Below wr.heap.size wr ((wr.alloc (.cells #[.string meths[i].1,.int .i64 meths[i].2.1,.int .i64 (meths[i].2.2:Int)] 72)).alloc (.cells #[.pointer (some ⟨c.Q,0,none⟩),.int .i64 (meths[i].2.2:Int),.slice va slots.length vc,.slice none 0 0] 51)).drew:=((hbA.alloc hbA.size _)).drew
    have hnew2:=hnew.below (Zg _ _).drew
    have hsm:=Md x ar bn
    have hdr:ms.drop i=ms[i]::ms.drop (i+1):=Z4 hms
    have hsz2:A2 (ms.drop i)=A0 ms[i]+A2 (ms.drop (i+1)):=by rw[hdr];conv=>lhs;unfold A2
    rw[em]at hsz2
    have hNb:=HN1.out
    have hcal:=QR c x ar bn (Me c hcl hwb) (wr.heap.size+1) meths[i].2.2 (.slice va slots.length vc) vN1 (.slice none 0 0) (.agg #[.int .i64 4,.string (strOfNums x),.int .i64 (ar.length:Int),.slice adx (ar.length+1) cx]) slots (s1.back []) b1 _ hnew2 (Z5 (HAT.out i hlt) HT1.out) (HF1.out.back (Z3 _)) (by omega) ⟨_,rfl,(hkx.above hab).above (Zk hbW)⟩
    rw[<-Mc]at hcal
    have hfm:=Lc c.cls slots meths[i].2.2 x ar bn s1 b1 HF1.out
    have HZ2:Hid (BO c.cls slots (meths.drop (i+1)) (ms.drop (i+1)) (Cc c.cls slots meths[i].2.2 (.mk 4 x (ar.length:Int) (ar++[bn])) s1)=Z):=by
     show _=_
     rw[<-HZ1.out,M2 hlt hms,em]
    have HF2:Hid (FewO (Cc c.cls slots meths[i].2.2 (.mk 4 x (ar.length:Int) (ar++[bn])) s1) (b1+4*A0 (.mk 4 x (ar.length:Int) (ar++[bn])))):=hfm.1
    have HN2:Hid (b1+4*A0 (.mk 4 x (ar.length:Int) (ar++[bn]))+4*A2 (ms.drop (i+1))<=80000):=by show _<=_;omega
    have HT2:Hid (s.lists.length<=(Cc c.cls slots meths[i].2.2 (.mk 4 x (ar.length:Int) (ar++[bn])) s1).lists.length):=Za HT1.out hfm.2
    have HBW:Hid (Below wr.heap.size wr ((wr.alloc (.cells #[.string meths[i].1,.int .i64 meths[i].2.1,.int .i64 (meths[i].2.2:Int)] 72)).alloc (.cells #[.pointer (some ⟨c.Q,0,none⟩),.int .i64 (meths[i].2.2:Int),.slice va slots.length vc,.slice none 0 0] 51)).drew):=hbW
    generalize Cc c.cls slots meths[i].2.2 (.mk 4 x (ar.length:Int) (ar++[bn])) s1=s2 at *
    generalize b1+4*A0 (.mk 4 x (ar.length:Int) (ar++[bn]))=b2 at *
    have e0:(Nd.mk 4 x (ar.length:Int) (ar++[bn])).kind=4:=rfl
    have e1:(Nd.mk 4 x (ar.length:Int) (ar++[bn])).text=x:=rfl
    have e2:(Nd.mk 4 x (ar.length:Int) (ar++[bn])).num=(ar.length:Int):=rfl
    rw[e0]at d0
    rw[e1]at d1
    rw[e2]at d2
    clear p0 p1 p2 c0' c1' c2' c3' hCF hbW hnew hnew2 hsm hdr hsz2 hNb hfm hbA hab e0 e1 e2 emi em ekl hkx rM' rS' rV' eo
    go_wp2_with fail
    go_region
    go_wp2_with (first | (go_at_call 21;refine hcal.mono ?_;rintro e w2 ⟨rfl,H2⟩))
    obtain⟨vN2,a1,a2,a3,a4⟩:=Pj HBW.out (by omega) H2
    exact⟨⟨i+1,b2,s2,vN2,by simp,by omega,HZ2,HN2,HF2,HT2,a1,a2,HK1.out.trans a3 HON.out (Onto.refl _ _),HON.out.trans a4 HK1.out.size⟩,by simp[intOf];omega⟩
   ·have hil:¬(i:Int)<(meths.length:Int):=by omega
    have HE:Hid (Z=s1):=by
     show _=_
     rw[<-HZ1.out]
     exact It (by omega)
    go_wp2_with fail
    refine bodyPost_end (v:=.tuple #[]) (by simp[results,Tryz.results12,go_sem]) rfl ?_
    rw[HE.out]
    exact⟨rfl,vN1,HM1.out,HO1.out,HK1.out,HON.out⟩
structure ClsEndO(w w':World)(Q:Nat)(L:List ClW)(z:ClW×Nat):Prop where
 is:∃vC vS xs ss,MkO w' ⟨Q,Q+1,vC,vS,(L++[z.1]).map (·.name)⟩ (As z.2) (.slice none 0 0)/\ClsF w' Q w'.heap.size vC vS (L++[z.1]) xs ss
 os:w'.os=w.os
 tape:w'.tape=w.tape
 output:w'.output=w.output
 size:w.heap.size<=w'.heap.size
 block:∀k,k<Q->w'.heap[k]?=w.heap[k]?
 node:∀(k:Nat) cc fz,k≠Q->w.heap[k]?=some (Obj.cells cc 39 fz)->w'.heap[k]?=w.heap[k]?
theorem Rw{w wr wB w7 wC w9:World}{Q X:Nat}{L:List ClW}{vC vS vC' vS' vM vs:Value}{y:ClW×Nat}{xs ss:List Value}(h:InCl w wr ⟨Q,Q+1,vC,vS,L.map (·.name)⟩ X y vM vs)(hC:ClsF w Q w.heap.size vC vS L xs ss)(hbB:Below (wr.setCell ⟨X,2,none⟩ (.int .i64 (y.1.slots.length:Int))).heap.size (wr.setCell ⟨X,2,none⟩ (.int .i64 (y.1.slots.length:Int))) wB)(hg7:wB.grownBy w7 vC.ownBlock)(O7:w7.ownsRow (Q+1) 68 4 vC' (L.length+1) (xs++[.string y.1.name,.int .i64 y.1.over,.int .i64 (y.1.slots.length:Int),vM]))(hbC:Below (w7.setCell ⟨Q,0,none⟩ vC').heap.size (w7.setCell ⟨Q,0,none⟩ vC') wC)(hg9:wC.grownBy w9 vS.ownBlock)(O9:w9.ownsRow (Q+1) 23 1 vS' (L.length+1) (ss++[vs])):ClsEndO w (w9.setCell ⟨Q,4,none⟩ vS') Q L y:=by
 have hq:Q<w.heap.size:=h.q
 have hxb:=h.xb
 have hfs:=h.fr.size
 have hs1:wr.heap.size<=wB.heap.size:=by have:=hbB.size;simp at this;exact this
 have hs7:=hg7.size
 have hs8:w7.heap.size<=wC.heap.size:=by have:=hbC.size;simp at this;exact this
 have hs9:=hg9.size
 have hT:∀k,k<wr.heap.size->k≠X->k≠Q->vC.ownBlock≠some k->vS.ownBlock≠some k->(w9.setCell ⟨Q,4,none⟩ vS').heap[k]?=wr.heap[k]?:=fun k h1 h2 h3 h4 h5=>
  (Zm _ _ _ _ h3).trans ((hg9.block k (by omega) (fun e=>h5 e.symm)).trans ((hbC.block k (by simp;omega)).trans ((Zm _ _ _ _ h3).trans ((hg7.block k (by omega) (fun e=>h4 e.symm)).trans ((hbB.block k (by simp;exact h1)).trans (Zm _ _ _ _ h2))))))
 obtain⟨vL,vK,vis,ho,hr,hc⟩:=h.mkr.obj
 have nn:∀g,(Value.slice none 0 0).ownBlock=some g->w.heap.size<=g/\∃cc fz,w.heap[g]?=some (.cells cc 9 fz):=fun g e=>(by cases e)
 have hCr:=hC.fr h.fr nn
 have hQX:Q≠X:=by omega
 have keep:∀ {B n size:Nat} {v:Value} {ys:List Value} {e:TypeId},wr.ownsRow B e size v n ys->68≠e->23≠e->45≠e->(w9.setCell ⟨Q,4,none⟩ vS').ownsRow B e size v n ys:=fun hv e1 e2 e3=>AF hv fun g e=>hT g (hv.lt g e).2 (fun e'=>AJ hv h.box (fun x=>e1 x.symm) (by rw[<-e'];exact e)) (fun e'=>AJ hv ho (fun x=>e3 x.symm) (by rw[<-e'];exact e)) (BI hv hCr.rowC (fun x=>e1 x.symm) e) (BI hv hCr.rowS (fun x=>e2 x.symm) e)
 have hQC:vC.ownBlock≠some Q:=AJ hCr.rowC ho (by decide)
 have hQS:vS.ownBlock≠some Q:=AJ hCr.rowS ho (by decide)
 have ho7:MkObj w7 Q vC (.slice none 0 0) vL vK vS:=(hg7.block Q (by omega) (fun e=>hQC e.symm)).trans ((hbB.block Q (by simp;omega)).trans ((Zm _ _ _ _ hQX).trans ho))
 have ho8:=ho7.setC vC'
 have ho9:MkObj w9 Q vC' (.slice none 0 0) vL vK vS:=(hg9.block Q (by omega) (fun e=>hQS e.symm)).trans ((hbC.block Q (by simp;omega)).trans ho8)
 have ho10:=ho9.setS vS'
 have hsz:wr.heap.size<=(w9.setCell ⟨Q,4,none⟩ vS').heap.size:=by simp;omega
 have rowC:(w9.setCell ⟨Q,4,none⟩ vS').ownsRow (Q+1) 68 4 vC' (L.length+1) (xs++[.string y.1.name,.int .i64 y.1.over,.int .i64 (y.1.slots.length:Int),vM]):=by
  have r8:=ownsRow_setCell_other O7 (a:=⟨Q,0,none⟩) (AJ O7 ho7 (by decide)) vC'
  have rCc:=AF (w':=wC) r8 fun g e=>hbC.block g (r8.lt g e).2
  have rSw:wC.ownsRow (Q+1) 23 1 vS L.length ss:=AF hCr.rowS fun g e=>(hbC.block g (by have:=(hCr.rowS.lt g e).2;simp;omega)).trans ((Zm _ _ _ _ (fun e'=>(by have e2:g=Q:=e';subst e2;exact hQS e))).trans ((hg7.block g (by have:=(hCr.rowS.lt g e).2;omega) (fun e'=>BI hCr.rowS hCr.rowC (by decide) e e'.symm)).trans ((hbB.block g (by have:=(hCr.rowS.lt g e).2;simp;exact this)).trans (Zm _ _ _ _ (fun e'=>(by have e2:g=X:=e';subst e2;exact AJ hCr.rowS h.box (by decide) e))))))
  have r9:=AF (w':=w9) rCc fun g e=>hg9.block g (rCc.lt g e).2 (fun e'=>BI rCc rSw (by decide) e e'.symm)
  exact ownsRow_setCell_other r9 (a:=⟨Q,4,none⟩) (AJ r9 ho9 (by decide)) _
 have rowS:(w9.setCell ⟨Q,4,none⟩ vS').ownsRow (Q+1) 23 1 vS' (L.length+1) (ss++[vs]):=ownsRow_setCell_other O9 (a:=⟨Q,4,none⟩) (AJ O9 ho9 (by decide)) _
 have rV:=DJ (keep h.rowS (by decide) (by decide) (by decide)) (B':=Q+1) hq
 have hF:ClsF (w9.setCell ⟨Q,4,none⟩ vS') Q (w9.setCell ⟨Q,4,none⟩ vS').heap.size vC' vS' (L++[y.1]) (xs++[.string y.1.name,.int .i64 y.1.over,.int .i64 (y.1.slots.length:Int),vM]) (ss++[vs]):=by
  refine ClsF.snoc rowC rowS hC.rowC.1 (by rw[hC.rowS.1,Nat.mul_one]) (fun i hi=>?_) (DJ (keep h.rowM (by decide) (by decide) (by decide)) hq) rV (fun g e=>(rV.lt g e).2)
  obtain⟨vMi,vsi,hI,e⟩:=hCr.each i hi
  exact⟨vMi,vsi,⟨hI.name,hI.over,hI.many,hI.meths,keep hI.rowM (by decide) (by decide) (by decide),keep hI.rowS (by decide) (by decide) (by decide),fun g e=>by have:=hI.low g e;omega⟩,e⟩
 refine⟨⟨vC',vS',_,_,⟨⟨vL,vK,vis,ho10,hr.same fun k cc fz e hk ht=>hT k (Array.getElem?_eq_some_iff.1 hk).1 (fun e'=>?_) (fun e'=>?_) (AJ hCr.rowC hk (by rcases ht with rfl | rfl<;>decide)) (AJ hCr.rowS hk (by rcases ht with rfl | rfl<;>decide)),keep hc (by decide) (by decide) (by decide)⟩,Zl _ _ _ _,hF.names,Nat.lt_succ_self Q,by show Q+1<=_;omega⟩,hF⟩,hg9.os.trans (hbC.os.trans (hg7.os.trans (hbB.os.trans h.fr.os))),hg9.tape.trans (hbC.tape.trans (hg7.tape.trans (hbB.tape.trans h.fr.tape))),hg9.output.trans (hbC.output.trans (hg7.output.trans (hbB.output.trans h.fr.output))),Za hfs hsz,fun k hk=>(hT k (by omega) (by omega) (by omega) (fun e=>by have:=(hCr.rowC.lt k e).1;omega) (fun e=>by have:=(hCr.rowS.lt k e).1;omega)).trans (h.fr.block k (by omega) (by show k≠Q;omega) (by show k≠Q;omega) (fun e=>by cases e) (fun e=>by cases e) (Or.inl (by show k<=Q;omega))),fun k cc fz hkQ hk=>?_⟩
 rotate_left 2
 ·have hkl:k<w.heap.size:=(Array.getElem?_eq_some_iff.1 hk).1
  have hkw:wr.heap[k]?=w.heap[k]?:=h.fr.block k hkl hkQ hkQ (fun e=>by cases e) (fun e=>by cases e) (Or.inr (D4 hk (by decide) (by decide) (by decide)))
  have hk':wr.heap[k]?=some (.cells cc 39 fz):=hkw.trans hk
  exact(hT k (by omega) (by omega) hkQ (AJ hCr.rowC hk' (by decide)) (AJ hCr.rowS hk' (by decide))).trans hkw
 ·subst e'
  have hb':wr.heap[k]?=some (.cells #[.string y.1.name,.int .i64 y.1.over,.int .i64 0,vM] 68):=h.box
  rw[hk]at hb'
  injection hb' with hb'
  injection hb' with _ hb' _
  rcases ht with rfl | rfl<;>cases hb'
 ·subst e'
  have hb':wr.heap[k]?=some (.cells #[vC,.slice none 0 0,vL,vK,vS] 45):=ho
  rw[hk]at hb'
  injection hb' with hb'
  injection hb' with _ hb' _
  rcases ht with rfl | rfl<;>cases hb'
end Go.Proofs.YtpfdgbalchmmfaaGreatDoor
