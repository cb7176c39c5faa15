/- Texts in one. -/
import Derived.Test.YtibeadcfgcfdbaaGreatDoorNi
namespace Go.Proofs.YtibeadcfgcfdbaaGreatDoor
open Go.RowKit
theorem CObj.setSlots{w:World}{Q:Nat}{vn vc vs vl:Value}{nx:Int}{ins ret:Bool}{f:Int×Int}(h:CObj w Q vn vc nx vs vl ins ret f)(v:Value):CObj (w.setCell ⟨Q,3,none⟩ v) Q vn vc nx v vl ins ret f:=heap_setCell_same _ _ _ _ _ _ h
theorem CObj.setIns{w:World}{Q:Nat}{vn vc vs vl:Value}{nx:Int}{ins ret:Bool}{f:Int×Int}(h:CObj w Q vn vc nx vs vl ins ret f)(b:Bool):CObj (w.setCell ⟨Q,5,none⟩ (.bool b)) Q vn vc nx vs vl b ret f:=heap_setCell_same _ _ _ _ _ _ h
theorem CObj.setNames{w:World}{Q:Nat}{vn vc vs vl:Value}{nx:Int}{ins ret:Bool}{f:Int×Int}(h:CObj w Q vn vc nx vs vl ins ret f)(v:Value):CObj (w.setCell ⟨Q,0,none⟩ v) Q v vc nx vs vl ins ret f:=heap_setCell_same _ _ _ _ _ _ h
theorem CObj.setClasses{w:World}{Q:Nat}{vn vc vs vl:Value}{nx:Int}{ins ret:Bool}{f:Int×Int}(h:CObj w Q vn vc nx vs vl ins ret f)(v:Value):CObj (w.setCell ⟨Q,1,none⟩ v) Q vn v nx vs vl ins ret f:=heap_setCell_same _ _ _ _ _ _ h
def Box3(w:World)(R:Nat)(a b c:Value):Prop:=w.heap[R]?=some (.cells #[a,b,c] 87)
theorem Box3.lt{w:World}{R:Nat}{a b c:Value}(h:Box3 w R a b c):R<w.heap.size:=(Array.getElem?_eq_some_iff.1 h).1
theorem Box3.facts{w:World}{R:Nat}{a b c:Value}(h:Box3 w R a b c):(w.cell? ⟨R,0,none⟩=some a/\w.cell? ⟨R,1,none⟩=some b/\w.cell? ⟨R,2,none⟩=some c)/\∀j,w.frozen? ⟨R,j,none⟩=false:=
 ⟨⟨cell_of_row _ _ _ _ _ _ h,cell_of_row _ _ _ _ _ _ h,cell_of_row _ _ _ _ _ _ h⟩,fun j=>frozen_of_row _ _ j _ _ h⟩
theorem Box3.setSlots{w:World}{R:Nat}{a b c:Value}(h:Box3 w R a b c)(v:Value):Box3 (w.setCell ⟨R,2,none⟩ v) R a b v:=heap_setCell_same _ _ _ _ _ _ h
theorem Box3.setOver{w:World}{R:Nat}{a b c:Value}(h:Box3 w R a b c)(v:Value):Box3 (w.setCell ⟨R,1,none⟩ v) R a v c:=heap_setCell_same _ _ _ _ _ _ h
structure InC(w wr:World)(Q Y:Nat)(vn vc:Value)(x:ByteArray)(xk:Value)(over:Int)(nx:Nat)(f:Int×Int)(slots:List ByteArray)(vS:Value):Prop where
 obj:∃vs vl ins ret,CObj wr Q vn vc (nx:Int) vs vl ins ret f
 box:Box4 wr w.heap.size (.int .i64 2) (.string x) (.int .i64 0) xk
 xb:Box3 wr Y (.string x) (.int .i64 over) vS
 row:wr.ownsRow (Y+1) 9 1 vS slots.length (BL slots)
 fr:FrQ w wr w.heap.size Q
 yb:w.heap.size<Y
 q:Q<w.heap.size
theorem InC.lt{w wr:World}{Q Y nx:Nat}{vn vc vS xk:Value}{x:ByteArray}{over:Int}{f:Int×Int}{slots:List ByteArray}(h:InC w wr Q Y vn vc x xk over nx f slots vS):w.heap.size<wr.heap.size:=h.box.lt
theorem InC.put{w wr wx:World}{Q Y nx nx':Nat}{vn vc vS xk vs vl:Value}{ins ret:Bool}{x:ByteArray}{over:Int}{f f':Int×Int}{slots:List ByteArray}(h:InC w wr Q Y vn vc x xk over nx f slots vS)(hg:wr.grownBy wx (some Q))(ho:CObj wx Q vn vc (nx':Int) vs vl ins ret f'):InC w wx Q Y vn vc x xk over nx' f' slots vS:=by
 have hq:=h.q
 have hy:=h.yb
 exact⟨⟨_,_,_,_,ho⟩,h.box.grown hg hq,(hg.block _ h.xb.lt (fun e=>by injection e with e;omega)).trans h.xb,C3 h.row fun g e=>hg.block g (h.row.lt g e).2 (fun e'=>by injection e' with e';have:=(h.row.lt g e).1;omega),h.fr.grown hg (Or.inl rfl) (Nat.le_of_lt h.lt),hy,hq⟩
theorem InC.below{w wr wx:World}{Q Y nx:Nat}{vn vc vS xk:Value}{x:ByteArray}{over:Int}{f:Int×Int}{slots:List ByteArray}(h:InC w wr Q Y vn vc x xk over nx f slots vS)(hb:Below wr.heap.size wr wx):InC w wx Q Y vn vc x xk over nx f slots vS:=by
 obtain⟨vs,vl,ins,ret,ho⟩:=h.obj
 exact⟨⟨_,_,_,_,(hb.block _ ho.lt).trans ho⟩,(hb.block _ h.box.lt).trans h.box,(hb.block _ h.xb.lt).trans h.xb,C3 h.row fun g e=>hb.block g (h.row.lt g e).2,h.fr.below hb (Nat.le_of_lt h.lt),h.yb,h.q⟩
structure InA(w wr:World)(Q:Nat)(vn vc:Value)(x:ByteArray)(xk:Value)(nx:Nat)(f:Int×Int):Prop where
 obj:∃vs vl ins ret,CObj wr Q vn vc (nx:Int) vs vl ins ret f
 box:Box4 wr w.heap.size (.int .i64 2) (.string x) (.int .i64 0) xk
 fr:FrQ w wr w.heap.size Q
 q:Q<w.heap.size
theorem InA.put{w wr wx:World}{Q nx nx':Nat}{vn vc xk vs vl:Value}{ins ret:Bool}{x:ByteArray}{f f':Int×Int}(h:InA w wr Q vn vc x xk nx f)(hg:wr.grownBy wx (some Q))(ho:CObj wx Q vn vc (nx':Int) vs vl ins ret f'):InA w wx Q vn vc x xk nx' f':=
 ⟨⟨_,_,_,_,ho⟩,h.box.grown hg h.q,h.fr.grown hg (Or.inl rfl) (Nat.le_of_lt h.box.lt),h.q⟩
theorem InA.below{w wr wx:World}{Q nx:Nat}{vn vc xk:Value}{x:ByteArray}{f:Int×Int}(h:InA w wr Q vn vc x xk nx f)(hb:Below wr.heap.size wr wx):InA w wx Q vn vc x xk nx f:=by
 obtain⟨vs,vl,ins,ret,ho⟩:=h.obj
 exact⟨⟨_,_,_,_,(hb.block _ ho.lt).trans ho⟩,(hb.block _ h.box.lt).trans h.box,h.fr.below hb (Nat.le_of_lt h.box.lt),h.q⟩
theorem InA.made{w wr:World}{Q nx:Nat}{vn vc xk:Value}{x:ByteArray}{f:Int×Int}(h:InA w wr Q vn vc x xk nx f):InC w (wr.alloc (.cells #[.string x,.int .i64 (-1),.slice none 0 0] 87)) Q wr.heap.size vn vc x xk (-1) nx f [] (.slice none 0 0):=by
 have hb:Below wr.heap.size wr (wr.alloc (.cells #[.string x,.int .i64 (-1),.slice none 0 0] 87)):=(Zg _ _).alloc (Z0 _) _
 have h2:=h.below hb
 exact⟨h2.obj,h2.box,heap_alloc_new wr _,Zl _ _ _ _,h2.fr,h.box.lt,h.q⟩
structure ClsP(w:World)(B:Nat)(vc:Value)(xs:List Value)(past:List (List ByteArray)):Prop where
 row:w.ownsRow B 87 3 vc past.length xs
 each:∀i (h:i<past.length),∃v,xs[i*3+2]?=some v/\w.ownsRow B 9 1 v past[i].length (BL past[i])
theorem JR{w wr:World}{Q B n size:Nat}{v:Value}{xs:List Value}{e:TypeId}(h:w.ownsRow B e size v n xs)(hf:FrQ w wr w.heap.size Q)(hq:Q<B):wr.ownsRow B e size v n xs:=C3 h fun g e=>hf.block g (h.lt g e).2 (by have:=(h.lt g e).1;omega)
theorem ClsP.fr{w wr:World}{Q B:Nat}{vc:Value}{xs:List Value}{past:List (List ByteArray)}(h:ClsP w B vc xs past)(hf:FrQ w wr w.heap.size Q)(hq:Q<B):ClsP wr B vc xs past:=
 ⟨JR h.row hf hq,fun i hi=>by
  obtain⟨v,e,hv⟩:=h.each i hi
  exact⟨v,e,JR hv hf hq⟩⟩
theorem StrsV.take{w:World}{M:Nat->Prop}{ad:Option Addr}{c:Nat}{l:List ByteArray}(h:StrsV w M (.slice ad l.length c) l){k:Nat}(hk:k<=l.length):StrsV w M (.slice ad k c) (l.take k):=by
 obtain⟨ad',c',e,h1,h2,h3,h4⟩:=h
 injection e with e1 _ e2
 subst e1 e2
 have hl:(l.take k).length=k:=by rw[List.length_take];omega
 refine⟨ad,c,by rw[hl],by rw[hl];omega,h2,h3,fun a ea=>?_⟩
 obtain⟨b,o,e2,hm,hb,hc⟩:=h4 a ea
 refine⟨b,o,e2,hm,hb,fun i hi=>?_⟩
 rw[hl]at hi
 rw[List.getElem_take]
 exact hc i (by omega)
theorem G8{w wr:World}{Q:Nat}{ad:Option Addr}{KS:List Nd}(hf:FrQ w wr w.heap.size Q)(hq:Q<w.heap.size)(hkk:0<KS.length->∃b o,ad=some ⟨b,o,none⟩/\b<Q/\b<w.heap.size/\NodesAt w (fun k=>k<Q) b o KS){i:Nat}(hi:i<KS.length) :
  ∃b o,ad=some ⟨b,o,none⟩/\b<wr.heap.size/\∃adx lx cx,(wr.cell? ⟨b,o+i*4,none⟩=some (.int .i64 KS[i].kind)/\wr.cell? ⟨b,o+i*4+1,none⟩=some (.string (strOfNums KS[i].text))/\wr.cell? ⟨b,o+i*4+2,none⟩=some (.int .i64 KS[i].num)/\wr.cell? ⟨b,o+i*4+3,none⟩=some (.slice adx lx cx))/\KidsV wr (fun k=>k<Q) (.slice adx lx cx) KS[i].kids:=by
 obtain⟨b,o,rfl,hMb,hbw,hn⟩:=hkk (by omega)
 have hab:Above (fun k=>k<Q) w wr:=⟨hf.size,fun k h1 _=>hf.block k (by omega) (by omega)⟩
 obtain⟨xx,hkx,c0,c1,c2,c3⟩:=D4 (NodesAt.above hab KS b o hMb hbw hn) hi
 obtain⟨adx,cx0,hxx,_⟩:=id hkx
 subst hxx
 exact⟨b,o,rfl,by have:=hab.size;omega,_,_,_,⟨c0,c1,c2,c3⟩,hkx⟩
theorem N8{t e:TypeId}{size bytes:Nat}(he:Hz t e size bytes){w:World}{ty:TypeId}{base n m:Nat}{v u:Value}{xs news:List Value}(hown:w.ownsRow base e size v n xs)(hn:news.length=m*size)(hu:(u=.slice none 0 0/\m=0)\/∃ad c,u=.slice (some ad) m c/\∀j x,news[j]?=some x->w.cell? (ad.add j)=some x)(h1:∀x∈news,x.oneCell'=true)(hb:n+m<=1000000)(hbase:base<=w.heap.size) :
  ∃v' w',(Builtin.append_ #[t,t] ty #[v,u]).run Tryz.prog w=.ok v' w'/\w'.ownsRow base e size v' (n+m) (xs++news)/\w.grownBy w' v.ownBlock:=by
 obtain⟨i,z,hi,hz0,hz1,hz2,hz3⟩:=he.info
 rcases hu with⟨rfl,rfl⟩ | ⟨ad,c,rfl,hc⟩
 ·have e0:news=[]:=Zd (by omega)
  subst e0
  refine⟨v,w,run_append_owned_none _ base t ty e i size he.under hi v n xs hown,by rw[List.append_nil];exact hown,⟨rfl,rfl,rfl,Z0 _,fun _ _ _=>rfl⟩⟩
 ·have hm:(n+m)*bytes<=140737488355328:=Za (Nat.mul_le_mul (show n+m<=1000001 by omega) he.few) (by decide)
  obtain⟨v',w',hr,r1,r2,_⟩:=run_append_own (P:=Tryz.prog) w base t ty e i _ size bytes he.under hi hz0 hz1 hz2 hz3 he.pos v n xs hown ad m c news hn hc h1 (by unfold maxLen;omega) hm hbase
  exact⟨v',w',hr,r1,r2⟩
theorem FS{t e:TypeId}{size bytes:Nat}(he:Hz t e size bytes){ops:Array Oper}{o:Oper}{a:Act}{w:World}{K:Act->World->Prop}{Q:Exit->Act->World->Prop}{E:Prop}(hg:o.guard=none)(s x:Operand)(hop:o.op=Op.call { callee:=Callee.builtin Builtin.append,args:=#[s,x],argTypes:=#[t,t] }){base n m:Nat}(v u:Value){xs news:List Value}(hs:a.eval s=v)(hx:a.eval x=u)(hown:w.ownsRow base e size v n xs)(hn:news.length=m*size)(hu:(u=.slice none 0 0/\m=0)\/∃ad c,u=.slice (some ad) m c/\∀j x,news[j]?=some x->w.cell? (ad.add j)=some x)(h1:∀x∈news,x.oneCell'=true)(hb:n+m<=1000000)(hbase:base<=w.heap.size)(hK:∀v' w',w'.ownsRow base e size v' (n+m) (xs++news)->w.grownBy w' v.ownBlock->K (a.put o.dst v') w') :
  if Region.wanted o (yielded ops a.tmps)=true then Oper.wp Tryz.prog o a w K Q else E:=by
 have hw:Region.wanted o (yielded ops a.tmps)=true:=by simp[Region.wanted,hg]
 rw[if_pos hw]
 obtain⟨v',w',hr,r1,r2⟩:=N8 he (ty:=o.type) hown hn hu h1 hb hbase
 unfold Oper.wp
 simp[execOp,hop,resolve,invoke,builtin,hs,hx,hr,Result.andThen]
 exact hK v' w' r1 r2
theorem Ve(l:List ByteArray):∀x∈BL l,x.oneCell'=true:=fun x hx=>by
 unfold BL at hx
 obtain⟨y,-,rfl⟩:=List.mem_map.1 hx
 rfl
theorem Vf{w:World}{B n:Nat}{e:TypeId}{v:Value}{xs:List Value}(h:w.ownsRow B e 1 v n xs):(v=.slice none 0 0/\n=0)\/∃ad c,v=.slice (some ad) n c/\∀j x,xs[j]?=some x->w.cell? (ad.add j)=some x:=by
 rcases id h.2 with h0 | ⟨g,cap,cur,rfl,_⟩
 ·exact Or.inl h0
 ·exact Or.inr ⟨_,_,rfl,h.cells rfl⟩
theorem Vg:(Tryz.prog.info? 87).map (fun i=>(i.zero,i.size,i.bytes))=some (some (.agg #[.string ⟨#[]⟩,.int .i64 0,.slice none 0 0]),3,48):=by kernel_rfl
theorem Wl:Hz 47 87 3 48:=by
 obtain⟨i,h1,h2⟩:=Option.map_eq_some_iff.1 Vg
 simp only[Prod.mk.injEq]at h2
 exact⟨by kernel_rfl,⟨i,_,h1,h2.1,h2.2.1,h2.2.2,by decide⟩,by decide,by decide⟩
theorem InC.slotsPut{w wr wx:World}{Q Y nx:Nat}{vn vc vS v' xk:Value}{x:ByteArray}{over:Int}{f:Int×Int}{slots slots':List ByteArray}(h:InC w wr Q Y vn vc x xk over nx f slots vS)(hg:wr.grownBy wx vS.ownBlock)(hr:wx.ownsRow (Y+1) 9 1 v' slots'.length (BL slots')):InC w (wx.setCell ⟨Y,2,none⟩ v') Q Y vn vc x xk over nx f slots' v':=by
 obtain⟨vs,vl,ins,ret,ho⟩:=h.obj
 have hq:=h.q
 have hy:=h.yb
 have nb:∀k,k<=Y->vS.ownBlock≠some k:=fun k hk e=>by have:=(h.row.lt k e).1;omega
 have hk:∀k,k<wr.heap.size->k<=Y->k≠Y->(wx.setCell ⟨Y,2,none⟩ v').heap[k]?=wr.heap[k]?:=fun k h1 h2 h3=>(Zm _ _ _ _ h3).trans (hg.block k h1 (fun e=>nb k h2 e.symm))
 have hxb:Box3 wx Y (.string x) (.int .i64 over) vS:=(hg.block Y h.xb.lt (fun e=>nb Y (Z0 _) e.symm)).trans h.xb
 have hfs:=h.fr.size
 refine⟨⟨vs,vl,ins,ret,(hk Q ho.lt (by omega) (by omega)).trans ho⟩,(hk _ h.box.lt (by omega) (by omega)).trans h.box,hxb.setSlots v',ownsRow_setCell_other hr (a:=⟨Y,2,none⟩) (fun e=>by have:=(hr.lt Y e).1;omega) _,⟨hg.os.trans h.fr.os,hg.tape.trans h.fr.tape,hg.output.trans h.fr.output,?_,fun k h1 h2=>(hk k (by omega) (by omega) (by omega)).trans (h.fr.block k h1 h2)⟩,hy,hq⟩
 have:=hg.size
 show _<=(wx.setCell ⟨Y,2,none⟩ v').heap.size
 simp
 omega
theorem InC.overPut{w wr:World}{Q Y nx:Nat}{vn vc vS xk:Value}{x:ByteArray}{over:Int}{f:Int×Int}{slots:List ByteArray}(h:InC w wr Q Y vn vc x xk over nx f slots vS)(over':Int):InC w (wr.setCell ⟨Y,1,none⟩ (.int .i64 over')) Q Y vn vc x xk over' nx f slots vS:=by
 obtain⟨vs,vl,ins,ret,ho⟩:=h.obj
 have hq:=h.q
 have hy:=h.yb
 have hfs:=h.fr.size
 have hk:∀k,k≠Y->(wr.setCell ⟨Y,1,none⟩ (.int .i64 over')).heap[k]?=wr.heap[k]?:=fun k h3=>Zm _ _ _ _ h3
 refine⟨⟨vs,vl,ins,ret,(hk Q (by omega)).trans ho⟩,(hk _ (by omega)).trans h.box,h.xb.setOver _,ownsRow_setCell_other h.row (a:=⟨Y,1,none⟩) (fun e=>by have:=(h.row.lt Y e).1;omega) _,⟨h.fr.os,h.fr.tape,h.fr.output,by simp;omega,fun k h1 h2=>(hk k (by omega)).trans (h.fr.block k h1 h2)⟩,hy,hq⟩
structure FrV(w w':World)(Q:Nat)(vc:Value):Prop where
 os:w'.os=w.os
 tape:w'.tape=w.tape
 output:w'.output=w.output
 size:w.heap.size<=w'.heap.size
 block:∀k,k<w.heap.size->k≠Q->vc.ownBlock≠some k->w'.heap[k]?=w.heap[k]?
def MR(w w':World)(Q:Nat)(vn vc:Value)(past:List (List ByteArray))(R:CsR):Prop:=
 (∃vc' xs' vs' vl' ins' ret',CObj w' Q vn vc' (R.next:Int) vs' vl' ins' ret' R.bad/\ClsP w' (Q+1) vc' xs' (past++[R.slots]))/\FrV w w' Q vc
theorem RF{n:Nd}{tx:List Int}{up ks ms KS:List Nd}(P:JQ n tx up ks ms)(h:up++ks++ms=KS)(h0:0<KS.length):(KS[0].kind==31)=!up.isEmpty:=by
 subst h
 rcases P.over with hu | ⟨y,-,hu⟩
 ·subst hu
  have hm:(([]:List Nd)++ks++ms)[0]∈ks++ms:=Z6 h0
  rcases List.mem_append.1 hm with h | h
  ·rw[P.slots _ h];rfl
  ·rw[(P.meths _ h).four];rfl
 ·subst hu;rfl
theorem Sq{l:List ByteArray}{x:ByteArray}(h:¬CD l x<0):∃i:Nat,CD l x=(i:Int)/\i<l.length:=by
 unfold CD at h⊢
 cases he:l.findIdx? (fun y=>decide (y=x))with
 | none=>rw[he]at h;exact absurd (by decide) h
 | some i=>
  rw[List.findIdx?_eq_some_iff_getElem]at he
  exact⟨i,rfl,he.1⟩
theorem N9(names:List ByteArray)(past:List (List ByteArray))(up:List Nd)(nx:Nat)(f:Int×Int)(hu:up=[]\/∃y,C8 y=true/\up=[.mk 31 y 0 []])(hf:∀l∈past,l.length<=nx):(upR names past up ⟨nx,[],f⟩).next=nx+up.length/\(upR names past up ⟨nx,[],f⟩).slots.length<=nx:=by
 rcases hu with rfl | ⟨y,-,rfl⟩
 ·exact⟨rfl,Z3 _⟩
 ·refine⟨rfl,?_⟩
  show(ite _ _ _:List ByteArray).length<=_
  split
  ·exact Z3 _
  ·rw[Z2]
   cases hi:past[(CD (names.take past.length) (Nd.mk 31 y 0 []).str).toNat]? with
   | none=>exact Z3 _
   | some l=>exact hf l (List.mem_of_getElem? hi)
theorem P7(names slots:List ByteArray)(ahead:List Nd)(x:List Int)(ka:List Nd)(b:Nd)(nx:Nat)(f:Int×Int):(Ct names slots ahead (.mk 4 x (ka.length:Int) (ka++[b])) nx f).1=nx+2+ka.length+A5 b.kids:=by
 unfold Ct Hi
 dsimp only
 rw[Fz]
 show(EM _ _).next+1+_=_
 rw[ML]
 have e:((Nd.mk 4 x (ka.length:Int) (ka++[b])).kids.take (Nd.mk 4 x (ka.length:Int) (ka++[b])).num.toNat)=ka:=by
  show(ka++[b]).take ((ka.length:Int).toNat)=ka
  rw[Int.toNat_natCast,List.take_left]
 have e2:(Nd.mk 4 x (ka.length:Int) (ka++[b])).kids.getD (Nd.mk 4 x (ka.length:Int) (ka++[b])).num.toNat (.mk 0 [] 0 [])=b:=by
  show(ka++[b]).getD ((ka.length:Int).toNat) _=b
  rw[Int.toNat_natCast,Z2,List.getElem?_append_right (Z0 _),Nat.sub_self]
  rfl
 rw[e,e2]
 show nx+1+ka.length+1+_=_
 omega
theorem RG(names slots:List ByteArray)(ahead:List Nd)(x:List Int)(ka:List Nd)(b:Nd)(nx:Nat)(f:Int×Int):Ct names slots ahead (.mk 4 x (ka.length:Int) (ka++[b])) nx f=Hi names slots b (EM ka ⟨nx+1,[],if F6 ahead (.mk 4 x (ka.length:Int) (ka++[b]))=true then Bg f 5 nx else f⟩):=by
 unfold Ct
 have e:((Nd.mk 4 x (ka.length:Int) (ka++[b])).kids.take (Nd.mk 4 x (ka.length:Int) (ka++[b])).num.toNat)=ka:=by
  show(ka++[b]).take ((ka.length:Int).toNat)=ka
  rw[Int.toNat_natCast,List.take_left]
 have e2:(Nd.mk 4 x (ka.length:Int) (ka++[b])).kids.getD (Nd.mk 4 x (ka.length:Int) (ka++[b])).num.toNat (.mk 0 [] 0 [])=b:=by
  show(ka++[b]).getD ((ka.length:Int).toNat) _=b
  rw[Int.toNat_natCast,Z2,List.getElem?_append_right (Z0 _),Nat.sub_self]
  rfl
 rw[e,e2]
structure InM(w wr:World)(Q Y XM:Nat)(vn vc:Value)(x:ByteArray)(xk:Value)(over:Int)(nx:Nat)(f:Int×Int)(slots:List ByteArray)(vS:Value)(mx:ByteArray)(mn:Int)(mk:Value):Prop where
 inC:InC w wr Q Y vn vc x xk over nx f slots vS
 mb:Box4 wr XM (.int .i64 4) (.string mx) (.int .i64 mn) mk
 xm:Y<XM
theorem InM.put{w wr wx:World}{Q Y XM nx nx':Nat}{vn vc vS xk vs vl mk:Value}{ins ret:Bool}{x mx:ByteArray}{over mn:Int}{f f':Int×Int}{slots:List ByteArray}(h:InM w wr Q Y XM vn vc x xk over nx f slots vS mx mn mk)(hg:wr.grownBy wx (some Q))(ho:CObj wx Q vn vc (nx':Int) vs vl ins ret f'):InM w wx Q Y XM vn vc x xk over nx' f' slots vS mx mn mk:=
 ⟨h.inC.put hg ho,h.mb.grown hg (by have:=h.xm;have:=h.inC.yb;have:=h.inC.q;omega),h.xm⟩
theorem InM.below{w wr wx:World}{Q Y XM nx:Nat}{vn vc vS xk mk:Value}{x mx:ByteArray}{over mn:Int}{f:Int×Int}{slots:List ByteArray}(h:InM w wr Q Y XM vn vc x xk over nx f slots vS mx mn mk)(hb:Below wr.heap.size wr wx):InM w wx Q Y XM vn vc x xk over nx f slots vS mx mn mk:=
 ⟨h.inC.below hb,(hb.block _ h.mb.lt).trans h.mb,h.xm⟩
structure InB(wb w4:World)(Q:Nat)(vn vc vS:Value)(s:StR)(vo:Value):Prop where
 obj:CObj w4 Q vn vc (s.next:Int) vS (.slice none 0 0) true true s.bad
 own:w4.ownsRow wb.heap.size 9 1 vo s.inn.length (BL s.inn)
 fr:FrQ wb w4 wb.heap.size Q
 q:Q<wb.heap.size
theorem InB.put{wb w4 w5:World}{Q:Nat}{vn vc vS vo:Value}{s:StR}(h:InB wb w4 Q vn vc vS s vo)(hg:w4.grownBy w5 (some Q))(s':StR)(ho:CObj w5 Q vn vc (s'.next:Int) vS (.slice none 0 0) true true s'.bad)(hi:s'.inn=s.inn):InB wb w5 Q vn vc vS s' vo:=
 ⟨ho,by rw[hi];exact C3 h.own fun g e=>hg.block g (h.own.lt g e).2 (fun e'=>by injection e' with e';have:=(h.own.lt g e).1;have:=h.q;omega),h.fr.grown hg (Or.inl rfl) h.fr.size,h.q⟩
theorem InB.below{wb w4 w5:World}{Q:Nat}{vn vc vS vo:Value}{s:StR}(h:InB wb w4 Q vn vc vS s vo)(hb:Below w4.heap.size w4 w5):InB wb w5 Q vn vc vS s vo:=
 ⟨(hb.block _ h.obj.lt).trans h.obj,C3 h.own fun g e=>hb.block g (h.own.lt g e).2,h.fr.below hb h.fr.size,h.q⟩
theorem InB.more{wb w4 w5:World}{Q m:Nat}{vn vc vS vo v':Value}{s:StR}{x:ByteArray}(h:InB wb w4 Q vn vc vS s vo)(hk:∀Q,Keeps w4 w5 Q vo m)(hr:w5.ownsRow wb.heap.size 9 1 v' (s.inn.length+1) (BL s.inn++[.string x])):InB wb w5 Q vn vc vS ⟨s.next,s.inn++[x],s.bad⟩ v':=by
 have hq:=h.q
 have hsz:=h.fr.size
 have nb:∀k,k<wb.heap.size->vo.ownBlock≠some k:=fun k hk e=>by have:=(h.own.lt k e).1;omega
 refine⟨((hk (Q+1)).block Q h.obj.lt (by omega) (nb Q hq)).trans h.obj,?_,⟨(hk 0).os.trans h.fr.os,(hk 0).tape.trans h.fr.tape,(hk 0).output.trans h.fr.output,Za h.fr.size (hk 0).size,fun k h1 h2=>((hk (k+1)).block k (by omega) (by omega) (nb k h1)).trans (h.fr.block k h1 h2)⟩,hq⟩
 show w5.ownsRow _ _ _ _ (s.inn++[x]).length _
 rw[Z1,GP]
 exact hr
theorem InC.fro{w wb w5:World}{Q Y nx nx':Nat}{vn vc vS xk vs vl:Value}{ins ret:Bool}{x:ByteArray}{over:Int}{f f':Int×Int}{slots:List ByteArray}(h:InC w wb Q Y vn vc x xk over nx f slots vS)(hf:FrQ wb w5 wb.heap.size Q)(ho:CObj w5 Q vn vc (nx':Int) vs vl ins ret f'):InC w w5 Q Y vn vc x xk over nx' f' slots vS:=by
 have hq:=h.q
 have hy:=h.yb
 have hfs:=h.fr.size
 exact⟨⟨_,_,_,_,ho⟩,(hf.block _ h.box.lt (by omega)).trans h.box,(hf.block _ h.xb.lt (by omega)).trans h.xb,C3 h.row fun g e=>hf.block g (h.row.lt g e).2 (by have:=(h.row.lt g e).1;omega),⟨hf.os.trans h.fr.os,hf.tape.trans h.fr.tape,hf.output.trans h.fr.output,Za h.fr.size hf.size,fun k h1 h2=>(hf.block k (by omega) h2).trans (h.fr.block k h1 h2)⟩,hy,hq⟩
theorem Sr{up ks ms:List Nd}{j:Nat}(h:j<ks.length):(up++ks++ms)[up.length+j]'(by rw[Z1,Z1];omega)=ks[j]:=by
 rw[Zb (by rw[Z1];omega),Zc (Nat.le_add_right _ _)]
 simp
theorem Qo{up ks ms:List Nd}{j:Nat}(h:j<ms.length):(up++ks++ms)[up.length+ks.length+j]'(by rw[Z1,Z1];omega)=ms[j]:=by
 rw[Zc (by rw[Z1];omega)]
 simp
theorem Qp{up ks ms KS:List Nd}(h:up++ks++ms=KS){j:Nat}(hj:j<ks.length)(h0:up.length+j<KS.length):KS[up.length+j]=ks[j]:=by
 subst h
 exact Sr hj
theorem P8{up ks ms KS:List Nd}(h:up++ks++ms=KS){j:Nat}(hj:j<ms.length)(h0:up.length+ks.length+j<KS.length):KS[up.length+ks.length+j]=ms[j]:=by
 subst h
 exact Qo hj
theorem UQ{n:Nd}{tx:List Int}{up ks ms KS:List Nd}(P:JQ n tx up ks ms)(h:up++ks++ms=KS){j:Nat}(hj:j<=ks.length)(h0:up.length+j<KS.length):(KS[up.length+j].kind==3)=decide (j<ks.length):=by
 subst h
 by_cases hl:j<ks.length
 ·rw[Sr hl,P.slots _ (Z6 hl),decide_eq_true hl];rfl
 ·have e:j=ks.length:=by omega
  subst e
  rw[Z1,Z1]at h0
  have e2:(up++ks++ms)[up.length+ks.length]'(by rw[Z1,Z1];omega)=ms[0]'(by omega):=Qo (j:=0) (by omega)
  rw[e2,(P.meths _ (Z6 _)).four,decide_eq_false (Nat.lt_irrefl _)];rfl
theorem WC{w wd:World}{Q Y nx pi:Nat}{vn vc vS xk:Value}{x:ByteArray}{over:Int}{f:Int×Int}{slots:List ByteArray}{xs:List Value}{past:List (List ByteArray)}(hI:InC w wd Q Y vn vc x xk over nx f slots vS)(hp:ClsP w (Q+1) vc xs past)(hpl:pi<past.length) :
  ∃cg ccap va vcp,vc=.slice (some ⟨cg,0,none⟩) past.length ccap/\cg<wd.heap.size/\¬cg=Y/\¬Q=Y/\wd.cell? ⟨cg,pi*3+2,none⟩=some (.slice va past[pi].length vcp)/\(wd.setCell ⟨Y,1,none⟩ (.int .i64 (pi:Int))).ownsRow (Q+1) 9 1 (.slice va past[pi].length vcp) past[pi].length (BL past[pi]):=by
 have hcp:=hp.fr hI.fr (Nat.lt_succ_self Q)
 obtain⟨v,ev,hv⟩:=hcp.each pi hpl
 have hI5:=hI.overPut (pi:Int)
 obtain⟨v2,ev2,hv2⟩:=(hp.fr hI5.fr (Nat.lt_succ_self Q)).each pi hpl
 rw[ev]at ev2
 injection ev2 with ev2
 subst ev2
 obtain⟨va,vcp,rfl,_,_⟩:=B2 hv
 have hy:=hI.yb
 have hq:=hI.q
 rcases id hcp.row.2 with⟨_,h0⟩ | ⟨g,cap,cur,rfl,_⟩
 ·omega
 ·have h1:=(hp.row.lt g rfl).2
  exact⟨g,cap,va,vcp,rfl,(hcp.row.lt g rfl).2,by omega,by omega,(hcp.row.cellAt (pi*3+2) (by omega)).trans ev,hv2⟩
theorem UR{wr:World}{M:Nat->Prop}{adx:Option Addr}{lx cx j nx:Nat}{ka ms:List Nd}{bn:Nd}{mx:List Int}(hk:KidsV wr M (.slice adx lx cx) (ka++[bn])){h:j<ms.length}(em:ms[j]=.mk 4 mx (ka.length:Int) (ka++[bn]))(hj:j<ms.length)(hn:nx+A5 (ms.drop j)<=90000):lx=ka.length+1/\ka.length<=90000/\nx<=90000:=by
 obtain⟨ad,c,e,_⟩:=hk
 injection e with _ e _
 rw[Z1]at e
 have hs:A5 (ms.drop j)=A4 ms[j]+A5 (ms.drop (j+1)):=by rw[Z4 hj];conv=>lhs;unfold A5
 rw[em,EB,CT]at hs
 have:=Ci ka
 exact⟨e,by omega,by omega⟩
theorem RH(b:Int×Int)(a:Nat):Bg (Bg b 5 a) 5 a=Bg b 5 a:=by
 unfold Bg
 by_cases h:b.1=0
 ·rw[if_pos h];exact if_neg (by show ¬(5:Int)=0;decide)
 ·rw[if_neg h,if_neg h]
theorem US{ms:List Nd}{j t nx:Nat}{fa:Int×Int}{FT:Nat->Int×Int}{hj:j<ms.length}(hft:∀t,(if F6 (ms.take t) ms[j]=true then Bg fa 5 nx else fa)=FT t){mx:List Int}{mt:ByteArray}{ka:List Nd}{bn:Nd}(em:ms[j]=.mk 4 mx (ka.length:Int) (ka++[bn])/\strOfNums mx=mt)(ht:t<ms.length){sb:Bool}(hsb:(decide (strOfNums ms[t].text=mt)&&(ms[t].num==(ka.length:Int)))=sb):(if sb=true then Bg (FT t) 5 nx else FT t)=FT (t+1):=by
 rw[<-hft t,<-hft (t+1)]
 have e:F6 (ms.take (t+1)) ms[j]=(F6 (ms.take t) ms[j]||sb):=by
  unfold F6
  rw[List.take_succ_eq_append_getElem ht,List.any_append,List.any_cons,List.any_nil,Bool.or_false,<-hsb,em.1,<-em.2]
  rfl
 rw[e]
 cases h1:F6 (ms.take t) ms[j]with
 | true=>
  rw[Bool.true_or,if_pos rfl,RH,ite_self]
 | false=>
  rw[Bool.false_or,if_neg (show ¬false=true by decide)]
theorem InM.begin{w wr:World}{Q Y XM nx:Nat}{vn vc vS xk vs vl mk:Value}{ins ret:Bool}{x mx:ByteArray}{over mn:Int}{f:Int×Int}{slots:List ByteArray}(h:InM w wr Q Y XM vn vc x xk over nx f slots vS mx mn mk)(ho:CObj wr Q vn vc (nx:Int) vs vl ins ret f) :
  ∃wb,wb=((((wr.setCell ⟨Q,2,none⟩ (.int .i64 ((nx:Int)+1))).setCell ⟨Q,3,none⟩ vS).setCell ⟨Q,5,none⟩ (.bool true)).setCell ⟨Q,6,none⟩ (.bool true)).setCell ⟨Q,4,none⟩ (.slice none 0 0)/\Hid (InM w wb Q Y XM vn vc x xk over (nx+1) f slots vS mx mn mk)/\Hid (InB wb wb Q vn vc vS ⟨nx+1,[],f⟩ (.slice none 0 0))/\wr.heap.size<=wb.heap.size:=by
 refine⟨_,rfl,?_⟩
 have hg:=((((AJ wr Q 2 (.int .i64 ((nx:Int)+1))).trans (AJ _ Q 3 vS)).trans (AJ _ Q 5 (.bool true))).trans (AJ _ Q 6 (.bool true))).trans (AJ _ Q 4 (.slice none 0 0))
 have ho2:CObj (((((wr.setCell ⟨Q,2,none⟩ (.int .i64 ((nx:Int)+1))).setCell ⟨Q,3,none⟩ vS).setCell ⟨Q,5,none⟩ (.bool true)).setCell ⟨Q,6,none⟩ (.bool true)).setCell ⟨Q,4,none⟩ (.slice none 0 0)) Q vn vc ((nx+1:Nat):Int) vS (.slice none 0 0) true true f:=((((ho.setNext ((nx:Int)+1)).setSlots vS).setIns true).setRet true).setLoc (.slice none 0 0)
 exact⟨h.put hg ho2,⟨ho2,Zl _ _ _ _,FrQ.refl _ _ _,ho2.lt⟩,hg.size⟩
theorem InB.ck{w wb w4:World}{Q Y XM nx:Nat}{vn vc vS xk vo mk:Value}{x mx:ByteArray}{over mn:Int}{f:Int×Int}{slots names:List ByteArray}{s:StR}(h:InB wb w4 Q vn vc vS s vo)(hm:InM w wb Q Y XM vn vc x xk over nx f slots vS mx mn mk)(hn:w.ownsRow (Q+1) 9 1 vn names.length (BL names)):Ck w4 Q wb.heap.size vn vc vS ⟨names,slots,true,true⟩ s.next [] s.bad (.slice none 0 0):=by
 have hq:=h.q
 have hsz:=h.fr.size
 have low:∀ {v:Value} {l:List ByteArray} {B:Nat},wb.ownsRow B 9 1 v l.length (BL l)->Q<B->StrsV w4 (Low wb.heap.size Q) v l:=fun{v l B} hr hB=>by
  have hr4:w4.ownsRow B 9 1 v l.length (BL l):=JR hr h.fr hB
  obtain⟨ad,c,e,h1,h2,h3,h4⟩:=Dp hr4
  refine⟨ad,c,e,h1,h2,h3,fun a ea=>?_⟩
  obtain⟨b,o,e2,hm,hb,hc⟩:=h4 a ea
  subst e ea e2
  have h5:=(hr.lt b rfl).2
  exact⟨b,o,rfl,⟨h5,by omega⟩,hb,hc⟩
 have hyb:=hm.inC.yb
 have hqw:=hm.inC.q
 refine⟨h.obj,low (JR hn hm.inC.fr (Nat.lt_succ_self Q)) (Nat.lt_succ_self Q),low hm.inC.row (by omega),⟨[],Zl _ _ _ _,fun i hi=>(by cases hi),fun i j u u' g _ hu=>(by cases hu)⟩,hq,hsz⟩
theorem Ss{names slots:List ByteArray}{ms:List Nd}{j nx:Nat}{fa fb:Int×Int}{h:j<ms.length}{mx:List Int}{ka:List Nd}{bn:Nd}{SA:StR}(em:ms[j]=.mk 4 mx (ka.length:Int) (ka++[bn]))(hj:j<ms.length)(hn:nx+A5 (ms.drop j)<=90000)(hfb:(if F6 (ms.take j) ms[j]=true then Bg fa 5 nx else fa)=fb)(hsa:EM ka ⟨nx+1,[],fb⟩=SA):Ct names slots (ms.take j) ms[j] nx fa=Hi names slots bn SA/\nx+2+ka.length+A5 bn.kids+A5 (ms.drop (j+1))<=90000:=by
 have hs:A5 (ms.drop j)=A4 ms[j]+A5 (ms.drop (j+1)):=by rw[Z4 hj];conv=>lhs;unfold A5
 rw[em]at hfb hs⊢
 refine⟨?_,?_⟩
 ·rw[RG,hfb,hsa]
 ·rw[EB,CT]at hs
  have h1:=Ci ka
  have h2:A5 [bn]=1+A5 bn.kids:=by
   cases bn with
   | mk a b c d=>show A4 _+0=_;rw[EB];rfl
  omega
theorem Qq{w:World}{Q lx cx:Nat}{adx:Option Addr}{l:List Nd}(h:KidsV w (fun k=>k<Q) (.slice adx lx cx) l):0<l.length->∃b o,adx=some ⟨b,o,none⟩/\b<Q/\b<w.heap.size/\NodesAt w (fun k=>k<Q) b o l:=by
 obtain⟨ad,c,e,hk⟩:=h
 injection e with e _ _
 subst e
 exact hk
def f1C(names:List ByteArray)(past:List (List ByteArray))(x:ByteArray)(nx:Nat)(f:Int×Int):Int×Int:=if CD names x<(past.length:Int)then Bg f 5 nx else f
def c1C(names:List ByteArray)(past:List (List ByteArray))(x:ByteArray)(up:List Nd)(nx:Nat)(f:Int×Int):CsR:=upR names past up ⟨nx+1,[],f1C names past x nx f⟩
structure ClsX(w:World)(Q:Nat)(sa:Option Addr)(sc:Nat)(vc:Value)(xs:List Value)(names:List ByteArray)(past:List (List ByteArray))(up ks ms KS:List Nd)(ad:Option Addr)(nx:Nat):Prop where
 is:up++ks++ms=KS
 pc:∃n tx,JQ n tx up ks ms
 kk:0<KS.length->∃b o,ad=some ⟨b,o,none⟩/\b<Q/\b<w.heap.size/\NodesAt w (fun k=>k<Q) b o KS
 sz:nx+1+A5 KS<=90000
 q:Q<w.heap.size
 cls:ClsP w (Q+1) vc xs past
 nm:w.ownsRow (Q+1) 9 1 (.slice sa names.length sc) names.length (BL names)
 nn:past.length<names.length
 nl:names.length<=90000
 few:∀l∈past,l.length<=nx
theorem MS{w:World}{B n size:Nat}{v:Value}{xs:List Value}{e:TypeId}(h:w.ownsRow B e size v n xs):∃ad c,v=.slice ad n c:=by
 rcases h.2 with⟨rfl,rfl⟩ | ⟨g,cap,cur,rfl,_⟩
 ·exact⟨none,0,rfl⟩
 ·exact⟨_,cap,rfl⟩
theorem St{w:World}{B B' n size:Nat}{v:Value}{xs:List Value}{e:TypeId}(h:w.ownsRow B e size v n xs)(hB:B'<=B):w.ownsRow B' e size v n xs:=by
 refine⟨h.1,?_⟩
 rcases h.2 with h0 | ⟨g,cap,cur,rfl,hb,r⟩
 ·exact Or.inl h0
 ·exact Or.inr ⟨g,cap,cur,rfl,Za hB hb,r⟩
theorem RI{names slots:List ByteArray}{ms:List Nd}{j nx:Nat}{fa:Int×Int}{RM y:Nat×(Int×Int)}(hj:j<ms.length)(e:Cj names slots (ms.take j) (ms.drop j) nx fa=RM)(hm:Ct names slots (ms.take j) ms[j] nx fa=y):Cj names slots (ms.take (j+1)) (ms.drop (j+1)) y.1 y.2=RM:=by
 rw[Z4 hj,Cj,hm]at e
 rw[List.take_succ_eq_append_getElem hj]
 exact e
theorem VI:(9:TypeId)≠87:=by decide
theorem Vh{w wr wa w7:World}{Q Y nx:Nat}{vn vc vc' vS xk:Value}{x:ByteArray}{over:Int}{f:Int×Int}{slots:List ByteArray}{xs:List Value}{past:List (List ByteArray)}(h:InC w wr Q Y vn vc x xk over nx f slots vS)(hp:ClsP w (Q+1) vc xs past)(hb:Below wr.heap.size wr wa)(hg:wa.grownBy w7 vc.ownBlock)(hr:w7.ownsRow (Q+1) 87 3 vc' (past.length+1) (xs++[.string x,.int .i64 over,vS])):MR w (w7.setCell ⟨Q,1,none⟩ vc') Q vn vc past ⟨nx,slots,f⟩:=by
 obtain⟨vs,vl,ins,ret,ho⟩:=h.obj
 have hq:=h.q
 have hy:=h.yb
 have hfs:=h.fr.size
 have hbs:=hb.size
 have hgs:=hg.size
 have hk:∀k,k<wr.heap.size->vc.ownBlock≠some k->w7.heap[k]?=wr.heap[k]?:=fun k h1 h2=>(hg.block k (by omega) (fun e=>h2 e.symm)).trans (hb.block k h1)
 have hk2:∀k,k<wr.heap.size->k≠Q->vc.ownBlock≠some k->(w7.setCell ⟨Q,1,none⟩ vc').heap[k]?=wr.heap[k]?:=fun k h1 h2 h3=>(Zm _ _ _ _ h2).trans (hk k h1 h3)
 have hq7:vc.ownBlock≠some Q:=fun e=>by have:=(hp.row.lt Q e).1;omega
 have hcp:=hp.fr h.fr (Nat.lt_succ_self Q)
 have str:∀(v:Value) (l:List ByteArray),wr.ownsRow (Q+1) 9 1 v l.length (BL l)->(w7.setCell ⟨Q,1,none⟩ vc').ownsRow (Q+1) 9 1 v l.length (BL l):=fun v l hv=>C3 hv fun g e=>hk2 g (hv.lt g e).2 (by have:=(hv.lt g e).1;omega) (FA hv hcp.row VI e)
 refine⟨⟨vc',xs++[.string x,.int .i64 over,vS],vs,vl,ins,ret,CObj.setClasses (vc:=vc) ((hk Q ho.lt hq7).trans ho) vc',⟨?_,?_⟩⟩,⟨hg.os.trans (hb.os.trans h.fr.os),hg.tape.trans (hb.tape.trans h.fr.tape),hg.output.trans (hb.output.trans h.fr.output),?_,fun k h1 h2 h3=>(hk2 k (by omega) h2 h3).trans (h.fr.block k h1 h2)⟩⟩
 ·show(w7.setCell ⟨Q,1,none⟩ vc').ownsRow _ _ _ _ (past++[slots]).length _
  rw[Z1]
  exact ownsRow_setCell_other hr (a:=⟨Q,1,none⟩) (fun e=>by have:=(hr.lt Q e).1;omega) _
 ·show ∀i (hi:i<(past++[slots]).length),∃v,(xs++[.string x,.int .i64 over,vS])[i*3+2]?=some v/\(w7.setCell ⟨Q,1,none⟩ vc').ownsRow (Q+1) 9 1 v (past++[slots])[i].length (BL (past++[slots])[i])
  intro i hi
  have hxl:=hp.row.1
  rw[Z1]at hi
  by_cases hlt:i<past.length
  ·obtain⟨v,e,hv⟩:=hcp.each i hlt
   refine⟨v,by rw[List.getElem?_append_left (by omega)];exact e,?_⟩
   rw[Zb hlt]
   exact str _ _ hv
  ·have hi':i=past.length:=by simp at hi;omega
   subst hi'
   refine⟨vS,by rw[List.getElem?_append_right (by omega),hxl,Nat.add_sub_cancel_left];rfl,?_⟩
   rw[Zc (Z0 _)]
   simp only[Nat.sub_self,List.getElem_cons_zero]
   exact str _ _ (St h.row (by omega))
 ·show _<=(w7.setCell ⟨Q,1,none⟩ vc').heap.size
  simp
  omega
theorem ClsX.len{w:World}{Q sc nx:Nat}{sa ad:Option Addr}{vc:Value}{xs:List Value}{names:List ByteArray}{past:List (List ByteArray)}{up ks ms KS:List Nd}(h:ClsX w Q sa sc vc xs names past up ks ms KS ad nx):KS.length=up.length+ks.length+ms.length/\KS.length<=90000/\nx<=90000/\nx+1+up.length+ks.length+A5 ms<=90000:=by
 have e:=congrArg List.length h.is
 rw[Z1,Z1]at e
 have e2:=congrArg A5 h.is
 rw[CT,CT]at e2
 have h1:=Ci up
 have h2:=Ci ks
 have h3:=Ci KS
 have h4:=h.sz
 exact⟨e.symm,by omega,by omega,by omega⟩
theorem Su{w:World}{Q nx:Nat}{vn vc vs vl xk:Value}{ins ret:Bool}{f:Int×Int}{x:ByteArray}(ho:CObj w Q vn vc (nx:Int) vs vl ins ret f) :
  ∃w1,w1=(w.setCell ⟨Q,2,none⟩ (.int .i64 ((nx:Int)+1))).alloc (.cells #[.int .i64 2,.string x,.int .i64 0,xk] 24)/\Hid (InA w w1 Q vn vc x xk (nx+1) f):=by
 refine⟨_,rfl,?_⟩
 have hs0:(w.setCell ⟨Q,2,none⟩ (.int .i64 ((nx:Int)+1))).heap.size=w.heap.size:=by simp
 have hg1:w.grownBy (w.setCell ⟨Q,2,none⟩ (.int .i64 ((nx:Int)+1))) (some Q):=AJ w Q 2 _
 have hb1:=(Zg _ (w.setCell ⟨Q,2,none⟩ (.int .i64 ((nx:Int)+1)))).alloc (Z0 _) (.cells #[.int .i64 2,.string x,.int .i64 0,xk] 24)
 have e:=Box4.new (w.setCell ⟨Q,2,none⟩ (.int .i64 ((nx:Int)+1))) (.int .i64 2) (.string x) (.int .i64 0) xk
 rw[hs0]at e
 exact⟨⟨vs,vl,ins,ret,(hb1.block _ (by rw[hs0];exact ho.lt)).trans (ho.setNext ((nx:Int)+1))⟩,e,((FrQ.refl w _ Q).grown hg1 (Or.inl rfl) (Z0 _)).below hb1 (by rw[hs0];exact Z0 _),ho.lt⟩
theorem CObj.cell2{w:World}{Q:Nat}{vn vc vs vl:Value}{nx:Int}{ins ret:Bool}{f:Int×Int}(h:CObj w Q vn vc nx vs vl ins ret f):w.cell? ⟨Q,2,none⟩=some (.int .i64 nx):=h.cells.1.2.2.1
end Go.Proofs.YtibeadcfgcfdbaaGreatDoor
