/- Texts in one. -/
import Derived.Test.YtpfdgbalchmmfaaGreatDoorCd22X
import Derived.Test.YtpfdgbalchmmfaaGreatDoorNf
set_option linter.unusedVariables false
set_option maxHeartbeats 16000000
set_option maxRecDepth 20000
namespace Go.Proofs.YtpfdgbalchmmfaaGreatDoor
open Go.RowKit
theorem KB(cls slots:List ByteArray):∀(hs:List (ByteArray×Int×Nat)) (ms:List Nd) (s:MW) (b:Nat),(∀m∈ms,WfM m)->FewO s b->FewO (BO cls slots hs ms s) (b+4*A2 ms)/\s.lists.length<=(BO cls slots hs ms s).lists.length
 | [],ms,s,b,_,hf=>by
  have e:BO cls slots [] ms s=s:=by cases ms<;>rfl
  rw[e]
  exact⟨hf.mono (Nat.le_add_right _ _),Z0 _⟩
 | h::hs,[],s,b,_,hf=>⟨hf.mono (Nat.le_add_right _ _),Z0 _⟩
 | h::hs,m::ms,s,b,hw,hf=>by
  obtain⟨x,ar,bn,em,_,_,_⟩:=hw m (Z7 ..)
  obtain⟨a1,a2⟩:=Lc cls slots h.2.2 x ar bn s b hf
  rw[<-em]at a1 a2
  obtain⟨b1,b2⟩:=KB cls slots hs ms _ _ (fun m hm=>hw m (Z8 _ hm)) a1
  rw[Ab]
  unfold BO
  exact⟨b1.mono (by omega),Za a2 b2⟩
structure LowO(w w':World)(Q:Nat):Prop where
 os:w'.os=w.os
 tape:w'.tape=w.tape
 output:w'.output=w.output
 size:w.heap.size<=w'.heap.size
 block:∀k,k<Q->w'.heap[k]?=w.heap[k]?
 node:∀(k:Nat) cc fz,k≠Q->w.heap[k]?=some (Obj.cells cc 39 fz)->w'.heap[k]?=w.heap[k]?
theorem LowO.trans{w w1 w2:World}{Q:Nat}(h:LowO w w1 Q)(h1:LowO w1 w2 Q):LowO w w2 Q:=
 ⟨h1.os.trans h.os,h1.tape.trans h.tape,h1.output.trans h.output,Za h.size h1.size,fun k hk=>(h1.block k hk).trans (h.block k hk),fun k cc fz hk hc=>by
  have e:=h.node k cc fz hk hc
  exact(h1.node k cc fz hk (e.trans hc)).trans e⟩
theorem LowO.of_below{w w':World}{Q:Nat}(hb:Below w.heap.size w w')(hq:Q<=w.heap.size):LowO w w' Q:=
 ⟨hb.os,hb.tape,hb.output,hb.size,fun k hk=>hb.block k (by omega),fun k _ _ _ hc=>hb.block k (Array.getElem?_eq_some_iff.1 hc).1⟩
theorem LowO.of_fr{w w':World}{c:CnO}{s:MW}{vN:Value}(hm:MkO w c s vN)(hf:FrO w w' c.Q c.Q vN (.slice none 0 0)):LowO w w' c.Q:=by
 have hqb:=hm.qb
 have hsz:=hm.size
 refine⟨hf.os,hf.tape,hf.output,hf.size,fun k hk=>hf.block k (by omega) (by omega) (by omega) (fun e=>by have:=(hm.names.lt k e).1;omega) (fun e=>by cases e) (Or.inl (by omega)),fun k cc fz hk hc=>hf.block k (Array.getElem?_eq_some_iff.1 hc).1 hk hk (AJ hm.names hc (by decide)) (fun e=>by cases e) (Or.inr (D4 hc (by decide) (by decide) (by decide)))⟩
theorem LowO.above{w w':World}{Q:Nat}(h:LowO w w' Q):Above (Ahd Q) w w':=⟨h.size,fun k h1 _=>h.block k h1⟩
theorem LowO.ops{w w':World}{Q:Nat}(h:LowO w w' Q)(ho:OpsW w Q):OpsW w' Q:=
 ⟨ho.1,fun k hk=>by rw[World.cell?_of_block (w:=w) (a:=⟨0,k,none⟩) (h.block _ ho.1)];exact ho.2 k hk⟩
theorem ClsEndO.low{w w':World}{Q:Nat}{L:List ClW}{z:ClW×Nat}(h:ClsEndO w w' Q L z):LowO w w' Q:=⟨h.os,h.tape,h.output,h.size,h.block,h.node⟩
structure Gy(w wr:World)(Q:Nat)(ks:List Nd)(i:Nat)(L:List ClW)(n1:Nat):Prop where
 is:∃past nl vC vS xs ss,past.length=i/\GoodCls (ks.drop i) past nl/\B6 (ks.drop i) past nl=(L,n1)/\MkO wr ⟨Q,Q+1,vC,vS,past.map (·.name)⟩ (As nl) (.slice none 0 0)/\ClsF wr Q wr.heap.size vC vS past xs ss
 low:LowO w wr Q
theorem ClsF.belowC{w w':World}{Q:Nat}{vC vS:Value}{L:List ClW}{xs ss:List Value}(h:ClsF w Q w.heap.size vC vS L xs ss)(hb:Below w.heap.size w w'):ClsF w' Q w'.heap.size vC vS L xs ss:=(h.fr (FrO.of_below (vN:=.slice none 0 0) hb) (fun g e=>(by cases e))).mono hb.size
theorem QU{w wr wx:World}{Q:Nat}{ks:List Nd}{i:Nat}{L:List ClW}{n1:Nat}{u:Value}(h:Gy w wr Q ks i L n1)(hi:i<ks.length)(hks:ks.length<=90000)(hb:Below wr.heap.size wr wx)(hu:NodeV w (Ahd Q) u ks[i]) :
  Calls Tryz.prog 10 #[.pointer (some ⟨Q,0,none⟩),u] wx fun e w'=>e=.returned (.tuple #[])/\Gy w w' Q ks (i+1) L n1:=by
 obtain⟨past,nl,vC,vS,xs,ss,hl,hg,hc,hm,hC⟩:=h.is
 obtain⟨g1,g2,g3,⟨x,g4⟩,g5⟩:=hg.next hi
 have hq:Q<=wr.heap.size:=by have:=hm.qb;have:=hm.size;simp only at *;omega
 have hlx:=h.low.trans (LowO.of_below hb hq)
 have hu2:=hu.above hlx.above
 rw[g4]at hu2
 refine(Rx Q nl past vC vS xs ss x ks[i].kids u wx (hm.below hb) (hC.belowC hb) g1 (by omega) g3 (fun j hj=>g2 _ (Z6 hj)) hu2).mono ?_
 rintro e w' ⟨rfl,he⟩
 refine⟨rfl,?_,hlx.trans he.low⟩
 rw[<-g4]at he
 obtain⟨vC',vS',xs',ss',h1,h2⟩:=he.is
 exact⟨_,_,vC',vS',xs',ss',by rw[Z1,hl];rfl,g5,by rw[<-M4 hi];exact hc,h1,h2⟩
structure HH(w wr:World)(Q:Nat)(ks:List Nd)(i:Nat)(L:List ClW)(n1:Nat)(Z:MW):Prop where
 is:∃BB vC vS s b vN xs ss,DR (L.map (·.name)) (L.drop i) (ks.drop i) s=Z/\b+4*A2 (ks.drop i)<=80000/\FewO s b/\n1<=s.lists.length/\MkO wr ⟨Q,BB,vC,vS,L.map (·.name)⟩ s vN/\OpsW wr Q/\ClsF wr Q BB vC vS L xs ss
 low:LowO w wr Q
theorem Ry{w wr wx:World}{Q:Nat}{ks:List Nd}{i:Nat}{L:List ClW}{n1:Nat}{Z:MW}{u:Value}(h:HH w wr Q ks i L n1 Z)(hi:i<ks.length)(hks:ks.length<=90000)(hL:L.length=ks.length)(hok:∀i (h1:i<L.length) (h2:i<ks.length),La (L.map (·.name)) L[i] ks[i] 1 n1)(h2k:∃x,ks[i]=.mk 2 x 0 ks[i].kids)(hb:Below wr.heap.size wr wx)(hu:NodeV w (Ahd Q) u ks[i]) :
  Calls Tryz.prog 12 #[.pointer (some ⟨Q,0,none⟩),u,.int .i64 (i:Int)] wx fun e w'=>e=.returned (.tuple #[])/\HH w w' Q ks (i+1) L n1 Z:=by
 obtain⟨BB,vC,vS,s,b,vN,xs,ss,hZ,hbd,hf,hn,hm,hop,hC⟩:=h.is
 have hj:i<L.length:=by omega
 have hok1:=hok i hj hi
 obtain⟨nl,ms,m1,m2,m3,m4,m5⟩:=hok1.meths
 have hqb:Q<BB:=hm.qb
 have hsz:BB<=wr.heap.size:=hm.size
 have hlx:=h.low.trans (LowO.of_below hb (by omega))
 have hu2:=hu.above hlx.above
 obtain⟨x,g4⟩:=h2k
 rw[g4]at hu2
 have hlm:L[i].meths.length=ms.length:=by rw[m1,ER]
 have hml:ms.length=ks[i].kids.length-(ks[i].kids.length-L[i].meths.length):=by rw[<-List.length_drop,m4]
 have hdr:A2 (ks.drop i)=A0 ks[i]+A2 (ks.drop (i+1)):=by rw[Z4 hi,Ab]
 have hsa:=Ii ks[i]
 have hms:A2 ms<=A2 ks[i].kids:=by rw[<-m4];exact Ld _ _
 have hkl:=GM ks[i].kids
 have hmx:=hm.below hb
 have hopx:OpsW wx Q:=hop.below2 hm hb
 have hCx:=hC.fr (FrO.of_below hb) hm.rowN
 have hwf:∀m∈ms,WfM m:=fun m hm=>(m5 m hm).1
 have hcall:=P0 ⟨Q,BB,vC,vS,L.map (·.name)⟩ (by show(L.map (·.name)).length<=90000;rw[List.length_map];omega) x ks[i].kids ms (ks[i].kids.length-L[i].meths.length) i L xs ss hj (by omega) vN u s b wx hmx hopx hCx (by omega) m4 hwf (fun j h=>by
  have e:∀(l:List (ByteArray×Int×Nat)) (hl:L[i].meths=l) (hj:j<l.length),L[i].meths[j]=l[j]:=fun l hl hj=>by subst hl;rfl
  rw[e _ m1 (by rw[ER];omega),Mf]
  omega) hf (by omega) (by omega) hu2
 refine hcall.mono ?_
 rintro e w' ⟨rfl,vN',a1,a2,a3,a4⟩
 have hlow:=LowO.of_fr hmx a3
 obtain⟨f1,f2⟩:=KB (L.map (·.name)) L[i].slots L[i].meths ms s b hwf hf
 refine⟨rfl,⟨BB,vC,vS,_,_,vN',xs,ss,?_,?_,f1,by omega,a1,a2,hCx.fr a3 hmx.rowN⟩,hlx.trans hlow⟩
 ·rw[<-hZ,Mv hj hi,m4]
 ·omega
structure PrEndO(w w':World)(Q:Nat)(s:MW)(nc:Nat):Prop where
 is:∃vC vS vN BB cls,(cls:List ByteArray).length=nc/\MkO w' ⟨Q,BB,vC,vS,cls⟩ s vN
 low:LowO w w' Q
 few:FewO s 80000
abbrev Bx:Value:=.slice none 0 0
theorem TM{w:World}{Q:Nat}(ho:MkObj w Q Bx Bx Bx Bx Bx):MkO w ⟨Q,Q+1,Bx,Bx,[]⟩ (As 0) Bx/\ClsF w Q w.heap.size Bx Bx [] [] []:=by
 have hq:=ho.lt
 refine⟨⟨⟨Bx,Bx,[],ho,⟨Zl _ _ _ _,fun i h=>(by cases h),fun i j v v' g _ h=>(by cases h)⟩,Zl _ _ _ _⟩,Zl _ _ _ _,⟨[],Zl _ _ _ _,fun i h=>(by cases h)⟩,Nat.lt_succ_self _,hq⟩,⟨Zl _ _ _ _,Zl _ _ _ _,fun i h=>(by cases h)⟩⟩
theorem QV{w wx:World}{Q:Nat}{ks:List Nd}{bn:Nd}{L:List ClW}{n1:Nat}(hP:Le ks bn L n1)(ho:MkObj w Q Bx Bx Bx Bx Bx)(hb:Below w.heap.size w wx) :
  Calls Tryz.prog 9 #[.pointer (some ⟨Q,0,none⟩),.int .i64 0] wx fun e w'=>e=.returned (.int .i64 0)/\Gy wx w' Q ks 0 L n1:=by
 obtain⟨hm,hC⟩:=TM ho
 have hmx:=hm.below hb
 have hCx:=hC.belowC hb
 have h:=JF ⟨Q,Q+1,Bx,Bx,[]⟩ Bx (As 0) 0 wx hmx (by decide) (by decide)
 refine h.mono ?_
 rintro e w' ⟨rfl,a1,a2⟩
 rw[Jv]at a1
 have hfs:=a2.size
 refine⟨rfl,⟨[],1,Bx,Bx,[],[],rfl,hP.cls,hP.is,a1,?_⟩,LowO.of_fr hmx a2⟩
 exact(hCx.fr a2 (fun g e=>by cases e)).mono hfs
theorem Rz{w wr wx:World}{Q:Nat}{ks:List Nd}{bn:Nd}{L:List ClW}{n1:Nat}{u:Value}(hP:Le ks bn L n1)(hsz:A2 ks+A0 bn<=600)(hwb:WfR 2 bn)(h:Gy w wr Q ks ks.length L n1)(hop:OpsW w Q)(hb:Below wr.heap.size wr wx)(hu:NodeV w (Ahd Q) u bn) :
  Calls Tryz.prog 11 #[.pointer (some ⟨wx.heap.size,0,none⟩),u] (wx.alloc (.cells #[.pointer (some ⟨Q,0,none⟩),.int .i64 0,.slice none 0 0,.slice none 0 0] 51)) fun e w'=>e=.returned (.tuple #[])/\HH w w' Q ks 0 L n1 (Bk ks bn).2:=by
 obtain⟨past,nl,vC,vS,xs,ss,hl,-,hc,hm,hC⟩:=h.is
 rw[List.drop_length]at hc
 have hc2:(past,nl)=(L,n1):=hc
 injection hc2 with e1 e2
 subst e1 e2
 have hq1:Q<Q+1:=hm.qb
 have hq2:Q+1<=wr.heap.size:=hm.size
 have hlx:=h.low.trans (LowO.of_below hb (by omega))
 have hmx:=hm.below hb
 have hCx:=hC.belowC hb
 obtain⟨vL,vK,vis,ho,hr,hk⟩:=hmx.obj
 have hqx:Q<wx.heap.size:=ho.lt
 have hM:MkO wx ⟨Q,wx.heap.size,vC,vS,past.map (·.name)⟩ (As nl) (.slice none 0 0):=⟨⟨vL,vK,vis,ho,hr,hk⟩,Zl _ _ _ _,hmx.cls,hqx,Z0 _⟩
 have hopx:=hlx.ops hop
 have hnew:WrP (wx.alloc (.cells #[.pointer (some ⟨Q,0,none⟩),.int .i64 0,.slice none 0 0,.slice none 0 0] 51)) ⟨Q,wx.heap.size,vC,vS,past.map (·.name)⟩ wx.heap.size 0 (.slice none 0 0) [] ((As nl).back []) (.slice none 0 0) (.slice none 0 0):=Rv (at':=0) (slots:=[]) hM hopx (Zl _ _ _ _) (fun g e=>by cases e)
 have hbn:Below wx.heap.size wx (wx.alloc (.cells #[.pointer (some ⟨Q,0,none⟩),.int .i64 0,.slice none 0 0,.slice none 0 0] 51)):=(Zg _ _).alloc (Z0 _) _
 have hu2:=hu.above (hlx.trans (LowO.of_below hbn (by omega))).above
 have hfew:=hP.few
 have hone:=hP.one
 have hcl:(past.map (·.name)).length<=90000:=by rw[List.length_map,hP.len];have:=GM ks;omega
 have hfl:(As nl).lists.length=nl:=by unfold As;simp
 have hBl:=G3 (n:=bn) (u:=u) (b:=nl) (Me ⟨Q,wx.heap.size,vC,vS,past.map (·.name)⟩ hcl hwb) hnew.wr (OutP.first hnew) (by show 0<(As nl).lists.length;omega) ((Mg nl).back (Z3 _)) (by omega) hu2
 refine hBl.mono ?_
 rintro e w' ⟨rfl,H⟩
 obtain⟨vN',b1,b2,b3,b4⟩:=Pj hbn (Z0 _) H
 have hfn:=Bl (past.map (·.name)) [] bn 0 ((As nl).back []) nl ((Mg nl).back (Z3 _))
 have hth:=B3 (past.map (·.name)) [] bn 0 ((As nl).back [])
 have hthl:((As nl).back []).lists.length=nl:=hfl
 refine⟨rfl,⟨wx.heap.size,vC,vS,_,_,vN',xs,ss,?_,?_,hfn,by omega,b1,b2,hCx.fr b3 (fun g e=>by cases e)⟩,hlx.trans (LowO.of_fr hM b3)⟩
 ·rw[List.drop_zero,List.drop_zero]
  unfold Bk
  rw[hP.is]
  rfl
 ·rw[List.drop_zero]
  omega
theorem S0{w wr:World}{Q:Nat}{ks:List Nd}{L:List ClW}{n1:Nat}{Z:MW}(hL:L.length=ks.length)(h:HH w wr Q ks ks.length L n1 Z):PrEndO w wr Q Z ks.length:=by
 obtain⟨BB,vC,vS,s,b,vN,xs,ss,hZ,hb,hf,-,hm,-,-⟩:=h.is
 rw[Ny (by omega)]at hZ
 subst hZ
 exact⟨⟨vC,vS,vN,BB,L.map (·.name),by rw[List.length_map];exact hL,hm⟩,h.low,hf.mono (by omega)⟩
theorem QW{w:World}{Q:Nat}{ad:Option Addr}{ks:List Nd}{bn:Nd}(hkk:0<(ks++[bn]).length->∃b o,ad=some ⟨b,o,none⟩/\Ahd Q b/\b<w.heap.size/\NodesAt w (Ahd Q) b o (ks++[bn])):∃kb ko,ad=some ⟨kb,ko,none⟩/\kb<Q/\kb<w.heap.size/\(∀i (h:i<ks.length),∃adx lx cx,NT w Q (some ⟨kb,ko,none⟩) i ks[i] kb ko adx lx cx)/\∃adx lx cx,NT w Q (some ⟨kb,ko,none⟩) ks.length bn kb ko adx lx cx:=by
 have hl:(ks++[bn]).length=ks.length+1:=by simp
 obtain⟨kb,ko,e,h1,h2,_⟩:=hkk (by omega)
 subst e
 have key:∀i (h:i<(ks++[bn]).length),∃adx lx cx,NT w Q (some ⟨kb,ko,none⟩) i (ks++[bn])[i] kb ko adx lx cx:=fun i h=>by
  obtain⟨b',o',adx,lx,cx,hK⟩:=Dy hkk h
  have e:=hK.is
  injection e with e
  injection e with e1 e2 _
  subst e1 e2
  exact⟨adx,lx,cx,hK⟩
 refine⟨kb,ko,rfl,h1,h2,fun i h=>?_,?_⟩
 ·have:=key i (by omega)
  rw[Zb h]at this
  exact this
 ·have:=key ks.length (by omega)
  rw[Zc (Z0 _)]at this
  simp only[Nat.sub_self,List.getElem_cons_zero]at this
  exact this
theorem LowO.low{w w':World}{Q:Nat}(h:LowO w w' Q){k j:Nat}(hk:k<Q):w'.cell? ⟨k,j,none⟩=w.cell? ⟨k,j,none⟩:=World.cell?_of_block (h.block k hk)
theorem P2(Q:Nat)(tx:List Int)(ks:List Nd)(bn:Nd)(L:List ClW)(n1:Nat)(hP:Le ks bn L n1)(hwb:WfR 2 bn)(h2k:∀i (h:i<ks.length),∃x,ks[i]=.mk 2 x 0 ks[i].kids)(hsz:A2 ks+A0 bn<=600)(u:Value)(w:World)(ho:MkObj w Q Bx Bx Bx Bx Bx)(hop:OpsW w Q)(hu:NodeV w (Ahd Q) u (.mk 1 tx 0 (ks++[bn]))) :
  Calls Tryz.prog 6 #[.pointer (some ⟨Q,0,none⟩),u] w fun e w'=>e=.returned (.tuple #[])/\PrEndO w w' Q (Bk ks bn).2 ks.length:=by
 obtain⟨xk,hu1,ad,c0,hx1,hkk⟩:=hu
 have hlen:(ks++[bn]).length=ks.length+1:=by simp
 obtain⟨cc,hcc⟩:∃cc,c0+(ks.length+1)=cc:=⟨_,rfl⟩
 have hx2:xk=.slice ad (ks.length+1) cc:=by rw[<-hcc,<-hlen];exact hx1
 subst hx2
 have hu2:u=.agg #[.int .i64 1,.string (strOfNums tx),.int .i64 0,.slice ad (ks.length+1) cc]:=hu1
 subst hu2
 obtain⟨kb,ko,e1,hkQ,hkw,hR,adm,lm,cm,hK⟩:=QW hkk
 subst e1
 have hkl:=GM ks
 have hq:=ho.lt
 have hlc:ks.length+1<=cc:=by omega
 obtain⟨m0,m1,m2,m3⟩:w.cell? ⟨kb,ko+ks.length*4,none⟩=some (.int .i64 bn.kind)/\w.cell? ⟨kb,ko+ks.length*4+1,none⟩=some (.string (strOfNums bn.text))/\w.cell? ⟨kb,ko+ks.length*4+2,none⟩=some (.int .i64 bn.num)/\w.cell? ⟨kb,ko+ks.length*4+3,none⟩=some (.slice adm lm cm):=⟨hK.kind,hK.text,hK.num,hK.kids⟩
 have hi1:(ks.length:Int)<((ks.length+1:Nat):Int):=by omega
 have hi2:(ks.length:Int)<=(cc:Int):=by omega
 have hi3:((ks.length+1:Nat):Int)-1=(ks.length:Int):=by omega
 have hwr:=Ao (x:=(ks.length:Int)) (by omega) (by omega)
 have HR:Hid (∀i (h:i<ks.length),∃adx lx cx,NT w Q (some ⟨kb,ko,none⟩) i ks[i] kb ko adx lx cx):=hR
 have HP:Hid (Le ks bn L n1):=hP
 have HO:Hid (MkObj w Q Bx Bx Bx Bx Bx):=ho
 have HOP:Hid (OpsW w Q):=hop
 have HWB:Hid (WfR 2 bn):=hwb
 have H2K:Hid (∀i (h:i<ks.length),∃x,ks[i]=.mk 2 x 0 ks[i].kids):=h2k
 have HMN:Hid (NodeV w (Ahd Q) (.agg #[.int .i64 bn.kind,.string (strOfNums bn.text),.int .i64 bn.num,.slice adm lm cm]) bn):=hK.node
 have HSZ:Hid (A2 ks+A0 bn<=600):=hsz
 have HB:Hid (Below w.heap.size w ((w.alloc (.cells #[.int .i64 1,.string (strOfNums tx),.int .i64 0,.slice (some ⟨kb,ko,none⟩) (ks.length+1) cc] 39)).alloc (.cells #[.int .i64 bn.kind,.string (strOfNums bn.text),.int .i64 bn.num,.slice adm lm cm] 39)).drew):=(Au w _ _).drew
 have HM:Hid (((w.alloc (.cells #[.int .i64 1,.string (strOfNums tx),.int .i64 0,.slice (some ⟨kb,ko,none⟩) (ks.length+1) cc] 39)).alloc (.cells #[.int .i64 bn.kind,.string (strOfNums bn.text),.int .i64 bn.num,.slice adm lm cm] 39)).drew.heap[w.heap.size+1]?=some (.cells #[.int .i64 bn.kind,.string (strOfNums bn.text),.int .i64 bn.num,.slice adm lm cm] 39)):=by
  have h:=heap_alloc_new (w.alloc (.cells #[.int .i64 1,.string (strOfNums tx),.int .i64 0,.slice (some ⟨kb,ko,none⟩) (ks.length+1) cc] 39)) (.cells #[.int .i64 bn.kind,.string (strOfNums bn.text),.int .i64 bn.num,.slice adm lm cm] 39)
  rw[show(w.alloc (.cells #[.int .i64 1,.string (strOfNums tx),.int .i64 0,.slice (some ⟨kb,ko,none⟩) (ks.length+1) cc] 39)).heap.size=w.heap.size+1 by simp]at h
  exact h
 have hbeg:=QV (wx:=((w.alloc (.cells #[.int .i64 1,.string (strOfNums tx),.int .i64 0,.slice (some ⟨kb,ko,none⟩) (ks.length+1) cc] 39)).alloc (.cells #[.int .i64 bn.kind,.string (strOfNums bn.text),.int .i64 bn.num,.slice adm lm cm] 39)).drew) hP ho HB.out
 clear hkk hx1 hu1 hR hK hP ho hop hwb h2k hcc hlen
 go_enter Tryz.func6,Tryz.ntmps6
 go_wp2_with fail
 go_region
 go_wp2_with (first | (go_at_call 9;refine hbeg.mono ?_;clear hbeg;rintro e w1 ⟨rfl,H1⟩))
 generalize ((w.alloc (.cells #[.int .i64 1,.string (strOfNums tx),.int .i64 0,.slice (some ⟨kb,ko,none⟩) (ks.length+1) cc] 39)).alloc (.cells #[.int .i64 bn.kind,.string (strOfNums bn.text),.int .i64 bn.num,.slice adm lm cm] 39)).drew=wB at *
 have H1':Hid (Gy wB w1 Q ks 0 L n1):=H1
 clear H1
 go_loopw [28] (fun s28 wr=>∃i:Nat,s28=.int .i64 i/\i<=ks.length/\Hid (Gy wB wr Q ks i L n1)) (fun s28 _=>90001-(intOf s28).toNat)
 case atStart=>exact⟨0,rfl,Z3 _,H1'⟩
 case round=>
  obtain⟨i,rfl,hi,HC⟩:=hrel
  have hlow:=HC.out.low
  by_cases hlt:i<ks.length
  ·have hil:(i:Int)<(ks.length:Int):=by omega
   have hwi:=Ao (x:=(i:Int)+1) (by omega) (by omega)
   obtain⟨adx,lx,cx,hKi⟩:=HR.out i hlt
   have hbB:=HB.out
   have hqB:Q<=w.heap.size:=by omega
   have hlB:=(LowO.of_below hbB hqB).trans hlow
   have d0:=(hlB.low hkQ).trans hKi.kind
   have d1:=(hlB.low hkQ).trans hKi.text
   have d2:=(hlB.low hkQ).trans hKi.num
   have d3:=(hlB.low hkQ).trans hKi.kids
   have d4:kb<wr.heap.size:=Z5 hkw hlB.size
   have hcal:=QU (wx:=wr.alloc (.cells #[.int .i64 ks[i].kind,.string (strOfNums ks[i].text),.int .i64 ks[i].num,.slice adx lx cx] 39)) HC.out hlt (by omega) ((Zg _ _).alloc (Z0 _) _) (hKi.node.above (LowO.of_below hbB hqB).above)
   clear hKi hbB hlB hlow
   go_wp2_with (first | (go_at_call 10;refine hcal.mono ?_;clear hcal;rintro e w2 ⟨rfl,H2⟩))
   exact⟨⟨i+1,by simp,by omega,H2⟩,by simp[intOf];omega⟩
  ·have hil:¬(i:Int)<(ks.length:Int):=by omega
   have hie:i=ks.length:=by omega
   have HC2:Hid (Gy wB wr Q ks ks.length L n1):=by rw[<-hie];exact HC
   have hmb:=(hlow.node (w.heap.size+1) _ _ (by omega) HM.out).trans HM.out
   have hlB:=LowO.of_below HB.out (Nat.le_of_lt hq)
   have c0:wr.cell? ⟨w.heap.size+1,0,none⟩=_:=cell_of_row _ _ _ _ _ _ hmb
   have c1:wr.cell? ⟨w.heap.size+1,1,none⟩=_:=cell_of_row _ _ _ _ _ _ hmb
   have c2:wr.cell? ⟨w.heap.size+1,2,none⟩=_:=cell_of_row _ _ _ _ _ _ hmb
   have c3:wr.cell? ⟨w.heap.size+1,3,none⟩=_:=cell_of_row _ _ _ _ _ _ hmb
   have c4:w.heap.size+1<wr.heap.size:=(Array.getElem?_eq_some_iff.1 hmb).1
   have hcal:=Rz HP.out HSZ.out HWB.out HC2.out (hlB.ops HOP.out) (Zg _ wr) (HMN.out.above hlB.above)
   clear hmb hlB hlow hie
   go_wp2_with (first | (go_at_call 11;refine hcal.mono ?_;clear hcal;rintro e w2 ⟨rfl,H2⟩))
   have H2':Hid (HH wB w2 Q ks 0 L n1 (Bk ks bn).2):=H2
   clear H2
   go_loopw [43] (fun s43 wr=>∃j:Nat,s43=.int .i64 j/\j<=ks.length/\Hid (HH wB wr Q ks j L n1 (Bk ks bn).2)) (fun s43 _=>90001-(intOf s43).toNat)
   case atStart=>exact⟨0,rfl,Z3 _,H2'⟩
   case round=>
    obtain⟨j,rfl,hj,HD⟩:=hrel
    have hlow:=HD.out.low
    by_cases hlt2:j<ks.length
    ·have hil2:(j:Int)<(ks.length:Int):=by omega
     have hwi:=Ao (x:=(j:Int)+1) (by omega) (by omega)
     obtain⟨adx,lx,cx,hKi⟩:=HR.out j hlt2
     have hbB:=HB.out
     have hqB:Q<=w.heap.size:=by omega
     have hlB:=(LowO.of_below hbB hqB).trans hlow
     have d0:=(hlB.low hkQ).trans hKi.kind
     have d1:=(hlB.low hkQ).trans hKi.text
     have d2:=(hlB.low hkQ).trans hKi.num
     have d3:=(hlB.low hkQ).trans hKi.kids
     have d4:kb<wr.heap.size:=Z5 hkw hlB.size
     have hcal:=Ry (wx:=wr.alloc (.cells #[.int .i64 ks[j].kind,.string (strOfNums ks[j].text),.int .i64 ks[j].num,.slice adx lx cx] 39)) HD.out hlt2 (by omega) HP.out.len HP.out.each (H2K.out j hlt2) ((Zg _ _).alloc (Z0 _) _) (hKi.node.above (LowO.of_below hbB hqB).above)
     clear hKi hbB hlB hlow
     go_wp2_with (first | (go_at_call 12;refine hcal.mono ?_;clear hcal;rintro e w3 ⟨rfl,H3⟩))
     exact⟨⟨j+1,by simp,by omega,H3⟩,by simp[intOf];omega⟩
    ·have hil2:¬(j:Int)<(ks.length:Int):=by omega
     have hje:j=ks.length:=by omega
     have HD2:Hid (HH wB wr Q ks ks.length L n1 (Bk ks bn).2):=by rw[<-hje];exact HD
     clear hje
     go_wp2_with fail
     refine bodyPost_end (v:=.tuple #[]) (by simp[results,Tryz.results6,go_sem]) rfl ⟨rfl,?_⟩
     have hE:=S0 HP.out.len HD2.out
     exact⟨hE.is,(LowO.of_below HB.out (Nat.le_of_lt hq)).trans hE.low,hE.few⟩
structure MkdO(w:World)(B:Nat)(vC vN vL vK:Value)(s:MW)(nc:Nat):Prop where
 cls:∃xs,w.ownsRow B 68 4 vC nc xs
 names:w.ownsRow B 9 1 vN s.names.length (B5 s.names)
 lists:∃vis,RowsO w B vL vis s.lists
 counts:w.ownsRow B 3 1 vK s.counts.length (CE s.counts)
 few:FewO s 80000
theorem RowsO.sameB{w w':World}{B:Nat}{vL:Value}{vis:List Value}{LL:List (List Ord)}(h:RowsO w B vL vis LL)(hb:∀g,B<=g->g<w.heap.size->w'.heap[g]?=w.heap[g]?):RowsO w' B vL vis LL:=
 ⟨AF h.row fun g e=>hb g (h.row.lt g e).1 (h.row.lt g e).2,fun i hi=>by
  obtain⟨v,e,hv⟩:=h.inner i hi
  exact⟨v,e,AF hv fun g e=>hb g (hv.lt g e).1 (hv.lt g e).2⟩,h.apart⟩
theorem RowsO.base{w:World}{B B':Nat}{vL:Value}{vis:List Value}{LL:List (List Ord)}(h:RowsO w B vL vis LL)(hb:B'<=B):RowsO w B' vL vis LL:=
 ⟨DJ h.row hb,fun i hi=>by
  obtain⟨v,e,hv⟩:=h.inner i hi
  exact⟨v,e,DJ hv hb⟩,h.apart⟩
theorem MkdO.same{w w':World}{B:Nat}{vC vN vL vK:Value}{s:MW}{nc:Nat}(h:MkdO w B vC vN vL vK s nc)(hb:∀g,B<=g->g<w.heap.size->w'.heap[g]?=w.heap[g]?):MkdO w' B vC vN vL vK s nc:=by
 obtain⟨xs,h1⟩:=h.cls
 obtain⟨vis,h3⟩:=h.lists
 exact⟨⟨xs,AF h1 fun g e=>hb g (h1.lt g e).1 (h1.lt g e).2⟩,AF h.names fun g e=>hb g (h.names.lt g e).1 (h.names.lt g e).2,⟨vis,h3.sameB hb⟩,AF h.counts fun g e=>hb g (h.counts.lt g e).1 (h.counts.lt g e).2,h.few⟩
theorem MkdO.base{w:World}{B B':Nat}{vC vN vL vK:Value}{s:MW}{nc:Nat}(h:MkdO w B vC vN vL vK s nc)(hb:B'<=B):MkdO w B' vC vN vL vK s nc:=by
 obtain⟨xs,h1⟩:=h.cls
 obtain⟨vis,h3⟩:=h.lists
 exact⟨⟨xs,DJ h1 hb⟩,DJ h.names hb,⟨vis,h3.base hb⟩,DJ h.counts hb,h.few⟩
theorem PrEndO.made{w w':World}{Q:Nat}{s:MW}{nc:Nat}(h:PrEndO w w' Q s nc):∃aC cC aN cN aL cL aK cK vS,MkObj w' Q (.slice aC nc cC) (.slice aN s.names.length cN) (.slice aL s.lists.length cL) (.slice aK s.lists.length cK) vS/\MkdO w' (Q+1) (.slice aC nc cC) (.slice aN s.names.length cN) (.slice aL s.lists.length cL) (.slice aK s.lists.length cK) s nc:=by
 obtain⟨vC,vS,vN,BB,cls,hl,hm⟩:=h.is
 obtain⟨vL,vK,vis,ho,hr,hc⟩:=hm.obj
 obtain⟨xs,hx,_⟩:=hm.cls.row
 have hq:Q<BB:=hm.qb
 have hx2:w'.ownsRow (Q+1) 68 4 vC nc xs:=by rw[<-hl];exact hx
 have hn:=hm.names
 obtain⟨aC,cC,rfl⟩:=Aq hx2
 obtain⟨aN,cN,rfl⟩:=Aq hn
 obtain⟨aL,cL,rfl⟩:=Aq hr.row
 obtain⟨aK,cK,rfl⟩:=Aq hc
 have hf:=h.few
 have ho':MkObj w' Q (.slice aC nc cC) (.slice aN s.names.length cN) (.slice aL s.lists.length cL) (.slice aK s.counts.length cK) vS:=ho
 rw[hf.same]at ho'
 refine⟨aC,cC,aN,cN,aL,cL,aK,cK,vS,ho',⟨xs,hx2⟩,DJ hn (by show Q+1<=BB;omega),⟨vis,hr⟩,?_,h.few⟩
 rw[<-hf.same]
 exact hc
def BoxP(w:World)(R:Nat)(a b c d:Value):Prop:=w.heap[R]?=some (.cells #[a,b,c,d] 27)
theorem BoxP.lt{w:World}{R:Nat}{a b c d:Value}(h:BoxP w R a b c d):R<w.heap.size:=(Array.getElem?_eq_some_iff.1 h).1
theorem BoxP.facts{w:World}{R:Nat}{a b c d:Value}(h:BoxP w R a b c d):(w.cell? ⟨R,0,none⟩=some a/\w.cell? ⟨R,1,none⟩=some b/\w.cell? ⟨R,2,none⟩=some c/\w.cell? ⟨R,3,none⟩=some d)/\(w.frozen? ⟨R,0,none⟩=false/\w.frozen? ⟨R,1,none⟩=false/\w.frozen? ⟨R,2,none⟩=false/\w.frozen? ⟨R,3,none⟩=false):=
 ⟨⟨cell_of_row _ _ _ _ _ _ h,cell_of_row _ _ _ _ _ _ h,cell_of_row _ _ _ _ _ _ h,cell_of_row _ _ _ _ _ _ h⟩,frozen_of_row _ _ _ _ _ h,frozen_of_row _ _ _ _ _ h,frozen_of_row _ _ _ _ _ h,frozen_of_row _ _ _ _ _ h⟩
theorem BoxP.put{w:World}{R:Nat}{a b c d:Value}(h:BoxP w R a b c d)(a' b' c' d':Value):BoxP ((((w.setCell ⟨R,0,none⟩ a').setCell ⟨R,1,none⟩ b').setCell ⟨R,2,none⟩ c').setCell ⟨R,3,none⟩ d') R a' b' c' d':=
 heap_setCell_same _ _ _ _ _ _ (heap_setCell_same _ _ _ _ _ _ (heap_setCell_same _ _ _ _ _ _ (heap_setCell_same _ _ _ _ _ _ h)))
theorem BoxP.setAt{w:World}{R N j:Nat}{a b c d:Value}(h:BoxP w R a b c d)(hn:R≠N)(x:Value):BoxP (w.setCell ⟨N,j,none⟩ x) R a b c d:=(Zm _ _ _ _ hn).trans h
theorem BoxP.below{w w':World}{R n:Nat}{a b c d:Value}(h:BoxP w R a b c d)(hb:Below n w w')(hn:R<n):BoxP w' R a b c d:=(hb.block R hn).trans h
theorem BoxP.alloc{w:World}{R:Nat}{a b c d:Value}(h:BoxP w R a b c d)(o:Obj):BoxP (w.alloc o) R a b c d:=(((Zg _ w).alloc (Z0 _) o).block R h.lt).trans h
abbrev GP:Obj:=.cells #[.slice none 0 0,.slice none 0 0,.slice none 0 0,.slice none 0 0] 27
theorem Im{W:World}{R:Nat}{a b c d x y:Value}(hN:BoxP W R a b c d)(hF:Box2 W (R+1) x y)(a' b' c' d' x' y':Value):BoxP ((((((W.setCell ⟨R,0,none⟩ a').setCell ⟨R,1,none⟩ b').setCell ⟨R,2,none⟩ c').setCell ⟨R,3,none⟩ d').setCell ⟨R+1,0,none⟩ x').setCell ⟨R+1,1,none⟩ y') R a' b' c' d'/\Box2 ((((((W.setCell ⟨R,0,none⟩ a').setCell ⟨R,1,none⟩ b').setCell ⟨R,2,none⟩ c').setCell ⟨R,3,none⟩ d').setCell ⟨R+1,0,none⟩ x').setCell ⟨R+1,1,none⟩ y') (R+1) x' y':=
 ⟨((hN.put a' b' c' d').setAt (by omega) _).setAt (by omega) _,((((hF.setAt (by omega) _).setAt (by omega) _).setAt (by omega) _).setAt (by omega) _).put _ _⟩
theorem OK{W:World}{R:Nat}(a' b' c' d' x' y':Value):∀g,R+2<=g->((((((W.setCell ⟨R,0,none⟩ a').setCell ⟨R,1,none⟩ b').setCell ⟨R,2,none⟩ c').setCell ⟨R,3,none⟩ d').setCell ⟨R+1,0,none⟩ x').setCell ⟨R+1,1,none⟩ y').heap[g]?=W.heap[g]?:=fun g hg=>
 (Zm _ _ _ _ (by dsimp only;omega)).trans ((Zm _ _ _ _ (by dsimp only;omega)).trans ((Zm _ _ _ _ (by dsimp only;omega)).trans ((Zm _ _ _ _ (by dsimp only;omega)).trans ((Zm _ _ _ _ (by dsimp only;omega)).trans (Zm _ _ _ _ (by dsimp only;omega))))))
theorem Mr{T:List Int}{f:Int×Int}(h:Ee T=.error f):f.1≠0:=by
 unfold Ee at h
 cases hp:CD T with
 | error e=>rw[hp]at h;injection h with h;subst h;exact Mq hp
 | ok n=>
  rw[hp]at h
  dsimp only at h
  cases hz:DX n with
  | error e=>rw[hz]at h;injection h with h;subst h;exact Mk n _ hz
  | ok y=>rw[hz]at h;cases h
theorem Ll{T:List Int}{n:Nd}(h:Ee T=.ok n):∃ks b,n=.mk 1 [] 0 (ks++[b])/\(∀c∈ks,WfC c)/\WfR 2 b/\A2 ks+A0 b<=600/\DX (.mk 1 [] 0 (ks++[b]))=.ok ():=by
 unfold Ee at h
 cases hp:CD T with
 | error e=>rw[hp]at h;cases h
 | ok m=>
  rw[hp]at h
  dsimp only at h
  cases hz:DX m with
  | error e=>rw[hz]at h;cases h
  | ok y=>
   rw[hz]at h
   injection h with h
   subst h
   obtain⟨⟨ks,b,rfl,h1,h2⟩,h3⟩:=Sh hp
   refine⟨ks,b,rfl,h1,h2,?_,hz⟩
   have e:=Ii (.mk 1 [] 0 (ks++[b]))
   have e2:(Nd.mk 1 [] 0 (ks++[b])).kids=ks++[b]:=rfl
   have e3:∀l:List Nd,A2 (l++[b])=A2 l+A0 b:=fun l=>by
    induction l with
    | nil=>rw[List.nil_append,Ab];exact Nat.add_comm _ _
    | cons a l ih=>rw[List.cons_append,Ab,Ab,ih];omega
   rw[e2,e3]at e
   omega
def Gj(w:World)(T:List Int)(e:Ending)(w':World):Prop:=Below w.heap.size w w'/\match Ee T with
 | .ok n=>∀ks b,n=.mk 1 [] 0 (ks++[b])->∃aC cC aN cN aL cL aK cK,e=.returned (.tuple #[.agg #[.slice aC ks.length cC,.slice aN (Bk ks b).2.names.length cN,.slice aL (Bk ks b).2.lists.length cL,.slice aK (Bk ks b).2.lists.length cK],.agg #[.int .i64 0,.int .i64 0]])/\MkdO w' w.heap.size (.slice aC ks.length cC) (.slice aN (Bk ks b).2.names.length cN) (.slice aL (Bk ks b).2.lists.length cL) (.slice aK (Bk ks b).2.lists.length cK) (Bk ks b).2 ks.length
 | .error f=>e=.returned (.tuple #[.agg #[.slice none 0 0,.slice none 0 0,.slice none 0 0,.slice none 0 0],.agg #[.int .i64 f.1,.int .i64 f.2]])
theorem TY(w:World)(x y:Obj):MkObj (((w.alloc x).alloc y).alloc (.cells #[.slice none 0 0,.slice none 0 0,.slice none 0 0,.slice none 0 0,.slice none 0 0] 45)) (w.heap.size+2) Bx Bx Bx Bx Bx:=by
 have h:=heap_alloc_new ((w.alloc x).alloc y) (.cells #[.slice none 0 0,.slice none 0 0,.slice none 0 0,.slice none 0 0,.slice none 0 0] 45)
 rw[show((w.alloc x).alloc y).heap.size=w.heap.size+2 by simp]at h
 exact h
theorem Io(t:ByteArray)(w:World)(he:Errs w)(hop:OpsW w w.heap.size)(hm:t.size<=maxLen) :
  Calls Tryz.prog 4 #[.string t] w fun e w'=>Gj w (A7 t) e w':=by
 have hb0:Below w.heap.size w ((w.alloc GP).alloc AV):=((Zg _ w).alloc (Z0 _) _).alloc (by simp) _
 have hps:=Qj t ((w.alloc GP).alloc AV) (he.lasts hb0) hm
 have HN:Hid (BoxP ((w.alloc GP).alloc AV) w.heap.size (.slice none 0 0) (.slice none 0 0) (.slice none 0 0) (.slice none 0 0)):=BoxP.alloc (show BoxP (w.alloc GP) w.heap.size _ _ _ _ from heap_alloc_new w _) _
 have HF:Hid (Box2 ((w.alloc GP).alloc AV) (w.heap.size+1) (.int .i64 0) (.int .i64 0)):=by
  show Box2 _ _ _ _
  have:=heap_alloc_new (w.alloc GP) AV
  rw[show(w.alloc GP).heap.size=w.heap.size+1 by simp]at this
  exact this
 have hsz0:((w.alloc GP).alloc AV).heap.size=w.heap.size+2:=by simp
 unfold Km at hps
 rw[hsz0]at hps
 unfold Gj
 cases hp:Ee (A7 t)with
 | error f=>
  have hc:=Mr hp
  rw[hp]at hps
  obtain⟨c,a⟩:=f
  have hc0:¬c=0:=hc
  clear hp hc hsz0 hop
  go_enter Tryz.func4,Tryz.ntmps4
  go_wp2_with (first | (go_at_call 5;refine hps.mono ?_;rintro e w1 ⟨hb1,rfl⟩;have hN1:=HN.out.below hb1 (by omega);have hF1:=HF.out.below hb1 (by omega);obtain⟨⟨n0,n1,n2,n3⟩,m0,m1,m2,m3⟩:=hN1.facts;obtain⟨hl1,⟨c1,c3⟩,z1,z2⟩:=hF1.facts;have hl0:=hN1.lt))
  have e1:¬w.heap.size=w1.heap.size:=by omega
  have e2:¬w.heap.size+1=w1.heap.size:=by omega
  have e3:¬w.heap.size=w1.heap.size+1:=by omega
  have e4:¬w.heap.size+1=w1.heap.size+1:=by omega
  go_region
  all_goals go_wp2_with fail
  obtain⟨hN6,hF6⟩:=Im hN1 hF1 (.slice none 0 0) (.slice none 0 0) (.slice none 0 0) (.slice none 0 0) (.int .i64 c) (.int .i64 a)
  have hbA:=Dr (hb0.trans (hb1.mono (by omega))) (.slice none 0 0) (.slice none 0 0) (.slice none 0 0) (.slice none 0 0) (.int .i64 c) (.int .i64 a)
  obtain⟨⟨k0,k1,k2,k3⟩,_⟩:=((hN6.alloc (.cells #[.int .i64 0,.string ⟨#[]⟩,.int .i64 0,.slice none 0 0] 39)).alloc (.cells #[.int .i64 c,.int .i64 a] 30)).facts
  obtain⟨_,⟨k4,k5⟩,_⟩:=(hF6.below (Au _ (.cells #[.int .i64 0,.string ⟨#[]⟩,.int .i64 0,.slice none 0 0] 39) (.cells #[.int .i64 c,.int .i64 a] 30)) hF6.facts.1).facts
  refine bodyPost_ret (v:=.tuple #[.agg #[.slice none 0 0,.slice none 0 0,.slice none 0 0,.slice none 0 0],.agg #[.int .i64 c,.int .i64 a]]) (by simp[results,Tryz.results4,go_sem,k0,k1,k2,k3,k4,k5]) rfl ⟨?_,rfl⟩
  exact(hbA.trans ((Au _ (.cells #[.int .i64 0,.string ⟨#[]⟩,.int .i64 0,.slice none 0 0] 39) (.cells #[.int .i64 c,.int .i64 a] 30)).mono hbA.size)).drew
 | ok n=>
  rw[hp]at hps
  obtain⟨ks,bn,hn,h1,h2,h3,h4⟩:=Ll hp
  obtain⟨L,n1,hP⟩:=UY h1 (by omega) h4
  have h2k:∀i (h:i<ks.length),∃x,ks[i]=.mk 2 x 0 ks[i].kids:=fun i h=>by
   obtain⟨x,up,kk,ms,e,_⟩:=h1 ks[i] (Z6 h)
   exact⟨x,by rw[e];rfl⟩
  subst hn
  have hpr:=fun Q u w=>P2 Q [] ks bn L n1 hP h2 h2k h3 u w
  have HOP:Hid (OpsW w w.heap.size):=hop
  clear hp hsz0 hop h1 h2 h3 h4 hP h2k
  go_enter Tryz.func4,Tryz.ntmps4
  go_wp2_with (first
   | (go_at_call 5;refine hps.mono ?_;rintro e w1 ⟨hb1,u1,rfl,hv1⟩;obtain⟨a1,b1,c1,ad1,nn1,cc1,hu1⟩:=hv1.any;subst hu1)
   | (go_at_call 6;have hbT:Below w1.heap.size w1 (((w1.alloc (.cells #[.int .i64 a1,.string b1,.int .i64 c1,.slice ad1 nn1 cc1] 39)).alloc (.cells #[.int .i64 0,.int .i64 0] 30)).alloc (.cells #[.slice none 0 0,.slice none 0 0,.slice none 0 0,.slice none 0 0,.slice none 0 0] 45)):=((Au w1 _ _).alloc (by simp;omega) _);have hsb1:=hb1.size;have hsb:w.heap.size+2<=w1.heap.size:=(by simp at hsb1;omega);have hwT:=hb0.trans ((hb1.mono (by omega)).trans (hbT.mono (by omega)));refine(hpr (w1.heap.size+1+1) _ _ (TY w1 _ _) ⟨by have:=HOP.out.1;omega,fun k hk=>by rw[hwT.cell (p:=⟨0,k,none⟩) HOP.out.1];exact HOP.out.2 k hk⟩ ((Zi hv1 (M':=Ahd (w1.heap.size+1+1)) (fun j _ hl=>by show j<_;omega)).above (Zk hbT))).mono ?_;rintro e w4 ⟨rfl,H4⟩;obtain⟨aC,cC,aN,cN,aL,cL,aK,cK,vS,hO4,hM4⟩:=H4.made;obtain⟨⟨y0,y1,y2,y3,_⟩,_⟩:=hO4.cells;have hlq:=hO4.lt;have hN4:BoxP w4 w.heap.size (.slice none 0 0) (.slice none 0 0) (.slice none 0 0) (.slice none 0 0):=(H4.low.block _ (by omega)).trans ((HN.out.below hb1 (by omega)).below hbT (by omega));have hF4:Box2 w4 (w.heap.size+1) (.int .i64 0) (.int .i64 0):=(H4.low.block _ (by omega)).trans ((HF.out.below hb1 (by omega)).below hbT (by omega));obtain⟨⟨n0,n1,n2,n3⟩,m0,m1,m2,m3⟩:=hN4.facts;obtain⟨hl1,⟨q1,q3⟩,z1,z2⟩:=hF4.facts;have hl0:=hN4.lt))
  have hw4:Below w.heap.size w w4:=⟨H4.low.os.trans hwT.os,H4.low.tape.trans hwT.tape,H4.low.output.trans hwT.output,Za hwT.size H4.low.size,fun k hk=>(H4.low.block k (by omega)).trans (hwT.block k hk)⟩
  obtain⟨hN6,hF6⟩:=Im hN4 hF4 (.slice aC ks.length cC) (.slice aN (Bk ks bn).2.names.length cN) (.slice aL (Bk ks bn).2.lists.length cL) (.slice aK (Bk ks bn).2.lists.length cK) (.int .i64 0) (.int .i64 0)
  have hbA:=Dr hw4 (.slice aC ks.length cC) (.slice aN (Bk ks bn).2.names.length cN) (.slice aL (Bk ks bn).2.lists.length cL) (.slice aK (Bk ks bn).2.lists.length cK) (.int .i64 0) (.int .i64 0)
  obtain⟨⟨k0,k1,k2,k3⟩,_⟩:=hN6.facts
  obtain⟨_,⟨k4,k5⟩,_⟩:=hF6.facts
  refine bodyPost_ret (v:=.tuple #[.agg #[.slice aC ks.length cC,.slice aN (Bk ks bn).2.names.length cN,.slice aL (Bk ks bn).2.lists.length cL,.slice aK (Bk ks bn).2.lists.length cK],.agg #[.int .i64 0,.int .i64 0]]) (by simp[results,Tryz.results4,go_sem,k0,k1,k2,k3,k4,k5]) rfl ⟨hbA,fun ks' b' en=>?_⟩
  injection en with _ _ _ en
  obtain⟨e1,e2⟩:=List.append_inj' en rfl
  injection e2 with e2
  subst e1 e2
  exact⟨aC,cC,aN,cN,aL,cL,aK,cK,rfl,(hM4.same fun g hg _=>OK _ _ _ _ _ _ g (by omega)).base (by omega)⟩
end Go.Proofs.YtpfdgbalchmmfaaGreatDoor
