/- Texts in one. -/
import Derived.Test.YtibeadcfgcfdbaaGreatDoorCk8X
import Derived.Test.YtibeadcfgcfdbaaGreatDoorMv
import Derived.Test.YtibeadcfgcfdbaaGreatDoorNf
namespace Go.Proofs.YtibeadcfgcfdbaaGreatDoor
open Go.RowKit
theorem LS(names slots:List ByteArray):∀(ms ahead:List Nd) (nx:Nat) (b:Int×Int),(∀c∈ms,WfM c)->nx<=(Cj names slots ahead ms nx b).1/\(Cj names slots ahead ms nx b).1<=nx+A5 ms
 | [],_,nx,_,_=>⟨Z0 _,Z0 _⟩
 | m::ms,ahead,nx,b,h=>by
  obtain⟨x,ka,bn,em,-⟩:=h m (Z7 ..)
  have ih:=LS names slots ms (ahead++[m]) (Ct names slots ahead m nx b).1 (Ct names slots ahead m nx b).2 (fun c hc=>h c (Z8 _ hc))
  unfold Cj
  have e:(Ct names slots ahead m nx b).1=nx+2+ka.length+A5 bn.kids:=by rw[em];exact P7 ..
  have hs:A5 (m::ms)=A4 m+A5 ms:=by conv=>lhs;unfold A5
  have h2:A5 [bn]=1+A5 bn.kids:=by
   cases bn with
   | mk a b c d=>show A4 _+0=_;rw[EB];rfl
  have hs2:A4 m=1+(A5 ka+A5 [bn]):=by rw[em,EB,CT]
  have h1:=Ci ka
  rw[e]at ih⊢
  constructor<;>omega
theorem Tm(names:List ByteArray)(past:List (List ByteArray))(x:ByteArray)(up ks ms:List Nd)(nx:Nat)(f:Int×Int)(hu:up=[]\/∃y,C8 y=true/\up=[.mk 31 y 0 []])(hm:∀c∈ms,WfM c)(hf:∀l∈past,l.length<=nx):(EG names past x up ks ms nx f).slots.length<=(EG names past x up ks ms nx f).next/\nx<=(EG names past x up ks ms nx f).next/\(EG names past x up ks ms nx f).next<=nx+1+up.length+ks.length+A5 ms:=by
 have h1:=N9 names past up (nx+1) (f1C names past x nx f) hu (fun l hl=>Nat.le_succ_of_le (hf l hl))
 have h2:(D5 names past x up ks nx f).next=nx+1+up.length+ks.length:=by
  unfold D5
  rw[JA]
  exact congrArg (·+ks.length) h1.1
 have h3:(D5 names past x up ks nx f).slots.length<=nx+1+ks.length:=by
  unfold D5
  rw[MM]
  exact Nat.add_le_add_right h1.2 _
 have h4:=LS names (D5 names past x up ks nx f).slots ms [] (D5 names past x up ks nx f).next (D5 names past x up ks nx f).bad hm
 unfold EG
 dsimp only
 refine⟨?_,?_,?_⟩<;>omega
theorem Tn(Q:Nat)(vn vc vs vl:Value)(ins ret:Bool)(names:List ByteArray)(past:List (List ByteArray))(xs:List Value)(n:Nd)(hc:WfC n)(nx:Nat)(f:Int×Int)(u:Value)(w:World)(ho:CObj w Q vn vc (nx:Int) vs vl ins ret f)(hp:ClsP w (Q+1) vc xs past)(hn:w.ownsRow (Q+1) 9 1 vn names.length (BL names))(hu:NodeV w (fun k=>k<Q) u n)(hN:nx+A4 n<=90000)(hnn:past.length<names.length)(hnl:names.length<=90000)(hfew:∀l∈past,l.length<=nx) :
  (Calls Tryz.prog 15 #[.pointer (some ⟨Q,0,none⟩),u,.int .i64 (past.length:Int)] w fun e w'=>e=.returned (.tuple #[])/\MR w w' Q vn vc past (Cq names past n nx f))/\(Cq names past n nx f).slots.length<=(Cq names past n nx f).next/\nx<=(Cq names past n nx f).next/\(Cq names past n nx f).next<=nx+A4 n:=by
 obtain⟨tx,up,ks,ms,P⟩:=hc.parts
 have eN:Cq names past n nx f=EG names past (strOfNums tx) up ks ms nx f:=by
  unfold Cq
  rw[P.pUp,P.pSlots,P.pMeths]
  have e:n.str=strOfNums tx:=by rw[P.is];rfl
  rw[e]
 rw[eN]
 obtain⟨sa,sc,rfl,_,_⟩:=B2 hn
 have P2:=P
 have hn2:=P.is
 subst hn2
 have hsz:=hN
 rw[EB]at hsz
 obtain⟨xk,rfl,ad,c0,hx1,hkk⟩:=hu
 have hx2:xk=.slice ad (up++ks++ms).length (c0+(up++ks++ms).length):=hx1
 subst hx2
 refine⟨RJ Q sc nx (c0+(up++ks++ms).length) sa ad vc vs vl ins ret names past xs (strOfNums tx) up ks ms (up++ks++ms) f w ⟨rfl,⟨_,_,P2⟩,hkk,by omega,ho.lt,hp,hn,hnn,hnl,hfew⟩ ho,?_⟩
 have hle:=Tm names past (strOfNums tx) up ks ms nx f P.over P.meths hfew
 have h1:=Ci up
 have h2:=Ci ks
 rw[EB,CT,CT]
 exact⟨hle.1,hle.2.1,by omega⟩
structure InK(w2 wr:World)(Q:Nat)(vn vc:Value)(names:List ByteArray)(xs:List Value)(past:List (List ByteArray))(nx:Nat)(f:Int×Int):Prop where
 obj:∃vs vl ins ret,CObj wr Q vn vc (nx:Int) vs vl ins ret f
 nm:wr.ownsRow (Q+1) 9 1 vn names.length (BL names)
 cls:ClsP wr (Q+1) vc xs past
 fr:Below Q w2 wr
theorem R2(w:World)(B:Nat):ClsP w B (.slice none 0 0) [] []:=⟨Zl _ _ _ _,fun i h=>by cases h⟩
theorem InK.first(w2:World):InK w2 (w2.alloc (.cells #[.slice none 0 0,.slice none 0 0,.int .i64 1,.slice none 0 0,.slice none 0 0,.bool false,.bool false,.int .i64 0,.int .i64 0] 50)) w2.heap.size (.slice none 0 0) (.slice none 0 0) [] [] [] 1 (0,0):=
 ⟨⟨_,_,_,_,heap_alloc_new w2 _⟩,Zl _ _ _ _,R2 _ _,(Zg _ _).alloc (Z0 _) _⟩
theorem InK.name{w2 wr wa w7:World}{Q nx:Nat}{vn v':Value}{names:List ByteArray}{x:ByteArray}{f:Int×Int}(h:InK w2 wr Q vn (.slice none 0 0) names [] [] nx f)(hb:Below wr.heap.size wr wa)(hg:wa.grownBy w7 vn.ownBlock)(hr:w7.ownsRow (Q+1) 9 1 v' (names.length+1) (BL names++[.string x])):InK w2 (w7.setCell ⟨Q,0,none⟩ v') Q v' (.slice none 0 0) (names++[x]) [] [] nx f:=by
 obtain⟨vs,vl,ins,ret,ho⟩:=h.obj
 have hq:=ho.lt
 have hbs:=hb.size
 have nb:∀k,k<=Q->vn.ownBlock≠some k:=fun k hk e=>by have:=(h.nm.lt k e).1;omega
 have hk:∀k,k<=Q->w7.heap[k]?=wr.heap[k]?:=fun k h1=>(hg.block k (by omega) (fun e=>nb k h1 e.symm)).trans (hb.block k (by omega))
 refine⟨⟨vs,vl,ins,ret,CObj.setNames (vn:=vn) ((hk Q (Z0 _)).trans ho) v'⟩,?_,R2 _ _,⟨hg.os.trans (hb.os.trans h.fr.os),hg.tape.trans (hb.tape.trans h.fr.tape),hg.output.trans (hb.output.trans h.fr.output),?_,fun k h1=>(Zm _ _ _ _ (by dsimp only;omega)).trans ((hk k (by omega)).trans (h.fr.block k h1))⟩⟩
 ·rw[Z1,GP]
  exact ownsRow_setCell_other hr (a:=⟨Q,0,none⟩) (fun e=>by have:=(hr.lt Q e).1;omega) _
 ·have h1:=h.fr.size
  have h2:=hg.size
  show _<=(w7.setCell ⟨Q,0,none⟩ v').heap.size
  simp
  omega
theorem InK.class{w2 wr w':World}{Q nx:Nat}{vn vc:Value}{names:List ByteArray}{xs:List Value}{past:List (List ByteArray)}{f:Int×Int}{R:CsR}(h:InK w2 wr Q vn vc names xs past nx f)(he:MR wr w' Q vn vc past R):∃vc' xs',InK w2 w' Q vn vc' names xs' (past++[R.slots]) R.next R.bad:=by
 obtain⟨⟨vc',xs',vs',vl',ins',ret',ho',hc'⟩,hf⟩:=he
 obtain⟨vs,vl,ins,ret,ho⟩:=h.obj
 have hq:=ho.lt
 refine⟨vc',xs',⟨_,_,_,_,ho'⟩,C3 h.nm fun g e=>hf.block g (h.nm.lt g e).2 (by have:=(h.nm.lt g e).1;omega) (FA h.nm h.cls.row VI e),hc',⟨hf.os.trans h.fr.os,hf.tape.trans h.fr.tape,hf.output.trans h.fr.output,Za h.fr.size hf.size,fun k h1=>(hf.block k (by omega) (by omega) (fun e=>by have:=(h.cls.row.lt k e).1;omega)).trans (h.fr.block k h1)⟩⟩
theorem InK.main{w2 wr:World}{Q nx:Nat}{vn vc vs vl:Value}{ins ret:Bool}{names:List ByteArray}{xs:List Value}{past:List (List ByteArray)}{f:Int×Int}(h:InK w2 wr Q vn vc names xs past nx f)(ho:CObj wr Q vn vc (nx:Int) vs vl ins ret f) :
  ∃wb,wb=(((wr.setCell ⟨Q,3,none⟩ (.slice none 0 0)).setCell ⟨Q,5,none⟩ (.bool false)).setCell ⟨Q,6,none⟩ (.bool false)).setCell ⟨Q,4,none⟩ (.slice none 0 0)/\Hid (Ck wb Q wb.heap.size vn vc (.slice none 0 0) ⟨names,[],false,false⟩ nx [] f (.slice none 0 0))/\Hid (Below Q w2 wb):=by
 refine⟨_,rfl,?_⟩
 have hg:=(((AJ wr Q 3 (.slice none 0 0)).trans (AJ _ Q 5 (.bool false))).trans (AJ _ Q 6 (.bool false))).trans (AJ _ Q 4 (.slice none 0 0))
 have ho2:=(((ho.setSlots (.slice none 0 0)).setIns false).setRet false).setLoc (.slice none 0 0)
 generalize (((wr.setCell ⟨Q,3,none⟩ (.slice none 0 0)).setCell ⟨Q,5,none⟩ (.bool false)).setCell ⟨Q,6,none⟩ (.bool false)).setCell ⟨Q,4,none⟩ (.slice none 0 0)=wb at *
 have hn:=C3 h.nm (w':=wb) fun g e=>hg.block g (h.nm.lt g e).2 (fun e'=>by injection e' with e';have:=(h.nm.lt g e).1;omega)
 refine⟨⟨ho2,?_,⟨none,0,rfl,Z0 _,by unfold maxLen;omega,fun _=>rfl,fun a e=>by cases e⟩,⟨[],Zl _ _ _ _,fun i hi=>(by cases hi),fun i j u u' g _ hu=>(by cases hu)⟩,ho2.lt,Z0 _⟩,⟨hg.os.trans h.fr.os,hg.tape.trans h.fr.tape,hg.output.trans h.fr.output,Za h.fr.size hg.size,fun k h1=>(hg.block k (by have:=ho.lt;omega) (fun e=>by injection e with e;omega)).trans (h.fr.block k h1)⟩⟩
 obtain⟨ad,c,e,h1,h2,h3,h4⟩:=Dp hn
 refine⟨ad,c,e,h1,h2,h3,fun a ea=>?_⟩
 obtain⟨b,o,e2,hm,hb,hc⟩:=h4 a ea
 exact⟨b,o,e2,⟨hb,by have hm':Q+1<=b:=hm;omega⟩,hb,hc⟩
theorem To{w:World}{M:Nat->Prop}{u:Value}{k nm:Int}{tx:List Int}{l:List Nd}(h:NodeV w M u (.mk k tx nm l)):∃ad c,u=.agg #[.int .i64 k,.string (strOfNums tx),.int .i64 nm,.slice ad l.length c]/\(0<l.length->∃b o,ad=some ⟨b,o,none⟩/\M b/\b<w.heap.size/\NodesAt w M b o l):=by
 obtain⟨xk,rfl,ad,c0,hx,hkk⟩:=h
 have hx2:xk=.slice ad l.length (c0+l.length):=hx
 subst hx2
 exact⟨ad,_,rfl,hkk⟩
structure Pre(w w2:World)(Q XN:Nat)(x0:ByteArray)(ad:Option Addr)(KS:List Nd)(c:Nat):Prop where
 b0:Below w.heap.size w w2
 rn:Box4 w2 w.heap.size (.int .i64 0) (.string ⟨#[]⟩) (.int .i64 0) (.slice none 0 0)
 rf:Box2 w2 (w.heap.size+1) (.int .i64 0) (.int .i64 0)
 nb:Box4 w2 XN (.int .i64 1) (.string x0) (.int .i64 0) (.slice ad KS.length c)
 xn:w.heap.size+1<XN
 q:XN<Q
 sz:w2.heap.size=Q
 nv:NodeV w2 (fun k=>w.heap.size+2<=k/\k<XN) (.agg #[.int .i64 1,.string x0,.int .i64 0,.slice ad KS.length c]) (.mk 1 [] 0 KS)
 kk:0<KS.length->∃b o,ad=some ⟨b,o,none⟩/\(w.heap.size+2<=b/\b<XN)/\b<w2.heap.size/\NodesAt w2 (fun k=>w.heap.size+2<=k/\k<XN) b o KS
theorem Pre.below{w w2 wr:World}{Q XN c:Nat}{x0:ByteArray}{ad:Option Addr}{KS:List Nd}(h:Pre w w2 Q XN x0 ad KS c)(hb:Below Q w2 wr):Below w.heap.size w wr/\Box4 wr w.heap.size (.int .i64 0) (.string ⟨#[]⟩) (.int .i64 0) (.slice none 0 0)/\Box2 wr (w.heap.size+1) (.int .i64 0) (.int .i64 0)/\Box4 wr XN (.int .i64 1) (.string x0) (.int .i64 0) (.slice ad KS.length c):=by
 have h1:=h.xn
 have h2:=h.q
 have h3:=h.sz
 exact⟨h.b0.trans (hb.mono (by omega)),h.rn.below hb (by omega),h.rf.below hb (by omega),h.nb.below hb h.q⟩
theorem Pre.above{w w2 wr:World}{Q XN c:Nat}{x0:ByteArray}{ad:Option Addr}{KS:List Nd}(h:Pre w w2 Q XN x0 ad KS c)(hb:Below Q w2 wr):Above (fun k=>w.heap.size+2<=k/\k<XN) w2 wr:=⟨hb.size,fun k hk _=>hb.block k (Nat.lt_trans hk.2 h.q)⟩
theorem Pre.kid{w w2 wr:World}{Q XN c i:Nat}{x0:ByteArray}{ad:Option Addr}{KS:List Nd}(h:Pre w w2 Q XN x0 ad KS c)(hb:Below Q w2 wr)(hi:i<KS.length) :
  ∃b o,ad=some ⟨b,o,none⟩/\b<wr.heap.size/\∃adx lx cx,(wr.cell? ⟨b,o+i*4,none⟩=some (.int .i64 KS[i].kind)/\wr.cell? ⟨b,o+i*4+1,none⟩=some (.string (strOfNums KS[i].text))/\wr.cell? ⟨b,o+i*4+2,none⟩=some (.int .i64 KS[i].num)/\wr.cell? ⟨b,o+i*4+3,none⟩=some (.slice adx lx cx))/\NodeV wr (fun k=>k<Q) (.agg #[.int .i64 KS[i].kind,.string (strOfNums KS[i].text),.int .i64 KS[i].num,.slice adx lx cx]) KS[i]:=by
 obtain⟨b,o,rfl,hMb,hbw,hn⟩:=h.kk (by omega)
 obtain⟨xx,hkx,c0,c1,c2,c3⟩:=D4 (NodesAt.above (h.above hb) KS b o hMb hbw hn) hi
 obtain⟨adx,cx0,hxx,_⟩:=id hkx
 subst hxx
 exact⟨b,o,rfl,by have:=hb.size;omega,_,_,_,⟨c0,c1,c2,c3⟩,_,rfl,hkx.mono (fun k hk _=>Nat.lt_trans hk.2 h.q)⟩
theorem VB{w w0 w1:World}{x0:ByteArray}{ad:Option Addr}{KS:List Nd}{c:Nat}(hsz:w0.heap.size=w.heap.size+2)(hb0:Below w.heap.size w w0)(hN:Box4 w0 w.heap.size (.int .i64 0) (.string ⟨#[]⟩) (.int .i64 0) (.slice none 0 0))(hF:Box2 w0 (w.heap.size+1) (.int .i64 0) (.int .i64 0))(hb1:Below (w.heap.size+2) w0 w1)(hv:NodeV w1 (AZ (w.heap.size+2)) (.agg #[.int .i64 1,.string x0,.int .i64 0,.slice ad KS.length c]) (.mk 1 [] 0 KS))(hkk:0<KS.length->∃b o,ad=some ⟨b,o,none⟩/\AZ (w.heap.size+2) b/\b<w1.heap.size/\NodesAt w1 (AZ (w.heap.size+2)) b o KS) :
  Pre w ((w1.alloc (.cells #[.int .i64 1,.string x0,.int .i64 0,.slice ad KS.length c] 24)).alloc (.cells #[.int .i64 0,.int .i64 0] 27)) (w1.heap.size+1+1) w1.heap.size x0 ad KS c:=by
 have hs:=hb1.size
 have hbp:=CF w1 (.cells #[.int .i64 1,.string x0,.int .i64 0,.slice ad KS.length c] 24) (.cells #[.int .i64 0,.int .i64 0] 27)
 refine⟨(hb0.trans (hb1.mono (by omega))).trans (hbp.mono (by omega)),((hN.below hb1 (by omega)).alloc _).alloc _,(hF.below hb1 (by omega)).below hbp (by omega),(Box4.new w1 _ _ _ _).alloc _,by omega,by omega,by simp,NodeV.above (Zi hv (fun k hk hl=>⟨hk,hl⟩)) (Zk hbp),fun h0=>?_⟩
 obtain⟨b,o,e,hm,hb,hn⟩:=hkk h0
 have hm':w.heap.size+2<=b:=hm
 refine⟨b,o,e,⟨hm',hb⟩,by have:=hbp.size;omega,NodesAt.above (Zk hbp) KS b o ⟨hm',hb⟩ hb (NodesAt.mono (fun k hk hl=>⟨hk,hl⟩) KS b o hn)⟩
end Go.Proofs.YtibeadcfgcfdbaaGreatDoor
