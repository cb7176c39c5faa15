/- Texts in one. -/
import Derived.Test.YtpfdgbalchmmfaaGreatDoorOb
import Derived.RangeFuncNested
import Derived.RangeFuncBound
import Derived.RangeFuncCalls
import Derived.RangeFuncLeaves
import Derived.Shelf.Abstract
import Derived.Shelf.RegionOpen
import Derived.Stop.RegionWithIn
import Derived.OwnWalkIn
import Derived.TacticsInMore
import Derived.LoopNIn
import Derived.LoopIn
set_option linter.unusedVariables false
set_option maxHeartbeats 16000000
set_option maxRecDepth 100000
namespace Go.Proofs.YtpfdgbalchmmfaaGreatDoor
open Go.RowKit
theorem Pd(l:List ByteArray)(x:ByteArray)(M:Nat->Prop)(v:Value)(w:World)(hv:StrsV w M v l) :
  Calls Tryz.prog 99 #[v,.string x] w fun e w'=>e=.returned (.int .i64 (AX l x))/\w'=w:=(MG l x M v w hv).mono fun e w' ⟨h1,h2⟩=>⟨by
 rw[h1]
 unfold AX
 cases l.findIdx? (fun y=>decide (y=x))<;>rfl,h2⟩
theorem MkO.nameW{w w7:World}{c:CnO}{s:MW}{vN vL vK v':Value}{vis:List Value}{x:ByteArray}(h:MkO w c s vN)(ho:MkObj w c.Q c.vC vN vL vK c.vS)(hr:RowsO w (c.Q+1) vL vis s.lists)(hc:w.ownsRow (c.Q+1) 3 1 vK s.counts.length (CE s.counts))(hg:w.grownBy w7 vN.ownBlock)(h7:w7.ownsRow c.BB 9 1 v' (s.names.length+1) (B5 s.names++[.string x])) :
  MkO (w7.setCell ⟨c.Q,1,none⟩ v') c { s with names:=s.names++[x] } v'/\MkObj (w7.setCell ⟨c.Q,1,none⟩ v') c.Q c.vC v' vL vK c.vS/\FrO w (w7.setCell ⟨c.Q,1,none⟩ v') c.Q c.Q vN (.slice none 0 0):=by
 have hqb:=h.qb
 have hb:∀k,k<w.heap.size->k≠c.Q->vN.ownBlock≠some k->(w7.setCell ⟨c.Q,1,none⟩ v').heap[k]?=w.heap[k]?:=fun k h1 h2 h3=>(Zm _ _ _ _ h2).trans (hg.block k h1 (fun e=>h3 e.symm))
 have hsz:w.heap.size<=(w7.setCell ⟨c.Q,1,none⟩ v').heap.size:=by have:=hg.size;simp;exact this
 have hQ7:MkObj w7 c.Q c.vC vN vL vK c.vS:=(hg.block _ ho.lt (fun e=>AJ h.names ho (by decide) e.symm)).trans ho
 have hR8:RowsO (w7.setCell ⟨c.Q,1,none⟩ v') (c.Q+1) vL vis s.lists:=hr.same fun k cc fz e hk ht=>hb k (Array.getElem?_eq_some_iff.1 hk).1 (fun e'=>by
  have hQ':w.heap[k]?=some (.cells #[c.vC,vN,vL,vK,c.vS] 45):=by rw[e'];exact ho
  rw[hk]at hQ'
  injection hQ' with hQ'
  injection hQ' with _ hQ' _
  rcases ht with rfl | rfl<;>cases hQ') (AJ h.names hk (by rcases ht with rfl | rfl<;>decide))
 have hc8:(w7.setCell ⟨c.Q,1,none⟩ v').ownsRow (c.Q+1) 3 1 vK s.counts.length (CE s.counts):=AF hc fun g e=>hb g (hc.lt g e).2 (fun e'=>by have:=(hc.lt g e).1;omega) (BI hc h.names (by decide) e)
 obtain⟨xs,hx,hxs⟩:=h.cls.row
 refine⟨⟨⟨vL,vK,vis,hQ7.setN v',hR8,hc8⟩,?_,⟨xs,AF hx fun g e=>hb g (hx.lt g e).2 (fun e'=>by have:=(hx.lt g e).1;omega) (BI hx h.names (by decide) e),hxs⟩,h.qb,Za h.size hsz⟩,hQ7.setN v',⟨hg.os,hg.tape,hg.output,hsz,fun k h1 h2 _ h4 _ _=>hb k h1 h2 h4⟩⟩
 show(w7.setCell ⟨c.Q,1,none⟩ v').ownsRow c.BB _ 1 v' (s.names++[x]).length (B5 (s.names++[x]))
 rw[GF,Z1]
 exact ownsRow_setCell_other h7 (a:=⟨c.Q,1,none⟩) (fun e=>by have:=(h7.lt c.Q e).1;omega) _
theorem QH(c:CnO)(vN:Value)(s:MW)(x:ByteArray)(w:World)(h:MkO w c s vN)(hfew:s.names.length<=900000) :
  Calls Tryz.prog 82 #[.pointer (some ⟨c.Q,0,none⟩),.string x] w fun e w'=>e=.returned (.int .i64 (s.nameNo x))/\∃vN',MkO w' c (s.known x) vN'/\FrO w w' c.Q c.Q vN (.slice none 0 0)/\Onto w vN vN'/\(∀k,k<w.heap.size->k≠c.Q->vN.ownBlock≠some k->w'.heap[k]?=w.heap[k]?)/\∀vL vK,MkObj w c.Q c.vC vN vL vK c.vS->MkObj w' c.Q c.vC vN' vL vK c.vS:=by
 obtain⟨vL,vK,vis,ho,hr,hc⟩:=h.obj
 obtain⟨na,nc,rfl,_,_⟩:=BS h.names
 have hix:=Pd s.names x (fun k=>c.BB<=k) (.slice na s.names.length nc) w (EH h.names)
 have hb0:Below w.heap.size w (w.alloc (.cells #[.string x] 9)):=(Zg _ _).alloc (Z0 _) _
 have HA:Hid (MkO (w.alloc (.cells #[.string x] 9)) c s (.slice na s.names.length nc)):=h.below hb0
 have HM:Hid (MkO w c s (.slice na s.names.length nc)):=h
 have HO:Hid (MkObj (w.alloc (.cells #[.string x] 9)) c.Q c.vC (.slice na s.names.length nc) vL vK c.vS):=(hb0.block _ ho.lt).trans ho
 have HR:Hid (RowsO (w.alloc (.cells #[.string x] 9)) (c.Q+1) vL vis s.lists):=hr.same fun k _ _ _ hc _=>hb0.block k (Array.getElem?_eq_some_iff.1 hc).1
 have HC:Hid ((w.alloc (.cells #[.string x] 9)).ownsRow (c.Q+1) 3 1 vK s.counts.length (CE s.counts)):=AF hc fun g e=>hb0.block g (hc.lt g e).2
 have HB:Hid (Below w.heap.size w (w.alloc (.cells #[.string x] 9))):=hb0
 obtain⟨⟨_,k1,_,_,_⟩,kz⟩:=ho.cells
 have z1:=kz 1
 have hlq:=ho.lt
 have hrow:=HA.out.names
 have hQN:(Value.slice na s.names.length nc).ownBlock≠some c.Q:=AJ h.names ho (by decide)
 have hn1:=EA w [.string x] 9
 have hq1:c.BB<=(w.alloc (.cells #[.string x] 9)).heap.size:=by have:=hb0.size;have:=h.size;omega
 have HWR:Hid (wrap64 (s.names.length:Int)=(s.names.length:Int)):=by show _=_;unfold wrap64;omega
 have hpb:=J9 s.names x
 have HNO:Hid (s.nameNo x=if 0<=AX s.names x then AX s.names x else(s.names.length:Int)):=rfl
 have HKN:Hid (s.known x=if 0<=AX s.names x then s else{ s with names:=s.names++[x] }):=rfl
 generalize AX s.names x=p at *
 clear h ho hr hc hb0
 by_cases hp:0<=p
 ·rw[HNO.out,HKN.out,if_pos hp,if_pos hp]
  go_enter Tryz.func82,Tryz.ntmps82
  go_wp2_with (first | (go_at_call 99;refine hix.mono ?_;rintro e w1 ⟨rfl,hw1⟩;rw[hw1];clear hw1 w1))
  go_ret
  exact⟨by first | rfl | simp,_,HM.out,FrO.refl _ _ _ _ _,Onto.refl _ _,fun _ _ _ _=>rfl,fun _ _ h=>h⟩
 ·rw[HNO.out,HKN.out,if_neg hp,if_neg hp]
  go_enter Tryz.func82,Tryz.ntmps82
  go_wp2_with (first
   | (go_at_call 99;refine hix.mono ?_;rintro e w1 ⟨rfl,hw1⟩;rw[hw1];clear hw1 w1)
   | (at_builtin;refine Az Hw rfl (.tmp 21) (.tmp 23) rfl c.BB s.names.length 1 (.slice na s.names.length nc) (B5 s.names) [.string x] rfl hrow ⟨w.heap.size,0,none⟩ rfl rfl hn1 (Lr [x]) (by omega) hq1 ?_;intro g7 cap7 w7 O7 hg7 hw7;have hl7:c.Q<w7.heap.size:=(by have:=hg7.size;simp at this;omega);have hQ7:=hg7.block c.Q (by simp;omega) (fun e=>hQN e.symm);have ho7:MkObj w7 c.Q c.vC (.slice na s.names.length nc) vL vK c.vS:=hQ7.trans HO.out;obtain⟨⟨_,y1,_,_,_⟩,yz⟩:=ho7.cells;have y4:=yz 1;have H8:=HA.out.nameW (x:=x) HO.out HR.out HC.out hg7 O7))
  go_ret
  refine⟨by first | rfl | simp[HWR.out],_,H8.1,(FrO.of_below HB.out).trans H8.2.2 (Onto.refl _ _) (Onto.refl _ _),(Onto.refl _ _).trans ?_ HB.out.size,fun k h1 h2 h3=>(Zm _ _ _ _ h2).trans ((hg7.block k (Z5 h1 HB.out.size) (fun e=>h3 e.symm)).trans (HB.out.block k h1)),fun vL' vK' h'=>?_⟩
  rotate_left
  ·have e1:=(HB.out.block _ hlq).trans h'
   rw[HO.out]at e1
   injection e1 with e1
   injection e1 with e1 _ _
   simp only[Array.mk.injEq,List.cons.injEq,and_true,true_and]at e1
   obtain⟨rfl,rfl⟩:=e1
   exact H8.2.1
  rcases hw7 with hw7 | hw7
  ·exact Or.inl hw7.symm
  ·exact Or.inr fun k e=>by injection e with e;rw[<-hw7];exact Nat.le_of_eq e
theorem RZ{l:List ByteArray}{x:ByteArray}{i:Nat}(h:∀j,j<i->∀hj:j<l.length,l[j]≠x)(hi:i<l.length)(e:l[i]=x):AX l x=(i:Int):=by
 unfold AX
 have hf:l.findIdx? (fun y=>decide (y=x))=some i:=by
  rw[List.findIdx?_eq_some_iff_getElem]
  refine⟨hi,by simp[e],fun j hj=>?_⟩
  have:=h j hj (by omega)
  simp[this]
 rw[hf]
theorem U2{l:List ByteArray}{x:ByteArray}(h:∀j,∀hj:j<l.length,l[j]≠x):AX l x=-1:=by
 unfold AX
 have hf:l.findIdx? (fun y=>decide (y=x))=none:=by
  rw[List.findIdx?_eq_none_iff]
  intro y hy
  obtain⟨j,hj,rfl⟩:=List.mem_iff_getElem.1 hy
  simp[h j hj]
 rw[hf]
theorem Oj(B:Nat)(x y:ByteArray)(u1 u2:Int)(ma:Option Addr)(mn mc:Nat)(w:World)(hx:w.cell? ⟨B,0,none⟩=some (.string x))(hB:B<w.heap.size) :
  Calls Tryz.prog 32 #[.agg #[.string y,.int .i64 u1,.int .i64 u2,.slice ma mn mc],.pointer (some ⟨B,0,none⟩)] w fun e w'=>e=.returned (.bool (decide (x=y)))/\Below w.heap.size w w':=by
 have hbe:(y.toList==x.toList)=decide (x=y):=IV y x
 go_enter Tryz.func32,Tryz.ntmps32
 go_wp2_with fail
 go_ret
 exact⟨by first | rfl | simp[hbe] | (rw[<-hbe];rfl),(Zg _ _).alloc (Z0 _) _⟩
theorem Ms(Q B:Nat)(x:ByteArray)(cls:List ByteArray)(vC:Value)(w:World)(hc:ClsN w Q vC cls)(hl:cls.length<=900000)(hx:w.cell? ⟨B,0,none⟩=some (.string x))(hB:B<w.heap.size) :
  Calls Tryz.prog 31 #[vC,.func (.func 32) #[] #[.pointer (some ⟨B,0,none⟩)]] w fun e w'=>e=.returned (.int .i64 (AX cls x))/\Below w.heap.size w w':=by
 obtain⟨xs,hr,hxs⟩:=hc.row
 obtain⟨ad,cp,rfl⟩:=Aq hr
 have HR:Hid (w.ownsRow (Q+1) 68 4 (.slice ad cls.length cp) cls.length xs):=hr
 have HXS:Hid (∀i (h:i<cls.length),∃u1 u2 ma mn mc,xs[i*4]?=some (.string cls[i])/\xs[i*4+1]?=some (.int .i64 u1)/\xs[i*4+2]?=some (.int .i64 u2)/\xs[i*4+3]?=some (.slice ma mn mc)):=hxs
 have HX:Hid (w.cell? ⟨B,0,none⟩=some (.string x)):=hx
 have HAD:Hid (0<cls.length->∃g,ad=some ⟨g,0,none⟩):=fun h0=>by
  rcases hr.2 with⟨_,h1⟩ | ⟨g,cap,cur,e,_⟩
  ·omega
  ·injection e with e;exact⟨g,e⟩
 clear hr hxs hx hc
 go_enter Tryz.func31,Tryz.ntmps31
 go_wp2_with fail
 go_loopw [8] (fun s8 wr=>∃i:Nat,s8=.int .i64 i/\i<=cls.length/\Hid (∀j,j<i->∀hj:j<cls.length,cls[j]≠x)/\Hid (Below w.heap.size w wr)) (fun s8 _=>900001-(intOf s8).toNat)
 case atStart=>exact⟨0,rfl,Z3 _,fun j hj=>by omega,Zg _ _⟩
 case round=>
  obtain⟨i,rfl,hi,HN,HBW⟩:=hrel
  by_cases hlt:i<cls.length
  ·have hil:(i:Int)<(cls.length:Int):=by omega
   have hwi:=Ao (x:=(i:Int)+1) (by omega) (by omega)
   obtain⟨g,rfl⟩:=HAD.out (by omega)
   obtain⟨u1,u2,ma,mn,mc,p0,p1,p2,p3⟩:=HXS.out i hlt
   have hgl:=(HR.out.lt g rfl).2
   have c0:=((HBW.out.cell (p:=⟨g,i*4,none⟩) hgl).trans (HR.out.cellAt (i*4) (by omega))).trans p0
   have c1:=((HBW.out.cell (p:=⟨g,i*4+1,none⟩) hgl).trans (HR.out.cellAt (i*4+1) (by omega))).trans p1
   have c2:=((HBW.out.cell (p:=⟨g,i*4+2,none⟩) hgl).trans (HR.out.cellAt (i*4+2) (by omega))).trans p2
   have c3:=((HBW.out.cell (p:=⟨g,i*4+3,none⟩) hgl).trans (HR.out.cellAt (i*4+3) (by omega))).trans p3
   have hgr:g<wr.heap.size:=Z5 hgl HBW.out.size
   have hcl:=Oj B x cls[i] u1 u2 ma mn mc wr ((HBW.out.cell (p:=⟨B,0,none⟩) hB).trans HX.out) (Z5 hB HBW.out.size)
   have HE:Hid (decide (x=cls[i])=true->AX cls x=(i:Int)):=fun h=>RZ HN.out hlt (of_decide_eq_true h).symm
   have HF:Hid (decide (x=cls[i])=false->∀j,j<i+1->∀hj:j<cls.length,cls[j]≠x):=fun h j hj hj'=>by
    by_cases e:j=i
    ·subst e;exact fun e'=>of_decide_eq_false h e'.symm
    ·exact HN.out j (by omega) hj'
   generalize decide (x=cls[i])=t at *
   generalize cls[i]=y at *
   clear p0 p1 p2 p3
   cases t with
   | true=>
    have HE2:Hid (AX cls x=(i:Int)):=HE.out rfl
    clear HE HF
    go_wp2_with (first | (go_at_call 32;refine hcl.mono ?_;rintro e w2 ⟨rfl,hb2⟩))
    go_ret
    exact⟨by rw[HE2.out];first | rfl | simp,HBW.out.trans (hb2.mono HBW.out.size)⟩
   | false=>
    have HF2:Hid (∀j,j<i+1->∀hj:j<cls.length,cls[j]≠x):=HF.out rfl
    clear HE HF
    go_wp2_with (first | (go_at_call 32;refine hcl.mono ?_;rintro e w2 ⟨rfl,hb2⟩))
    exact⟨⟨i+1,by simp,by omega,HF2,HBW.out.trans (hb2.mono HBW.out.size)⟩,by simp[intOf];omega⟩
  ·have hil:¬(i:Int)<(cls.length:Int):=by omega
   have HE:Hid (AX cls x=-1):=U2 fun j hj=>HN.out j (by omega) hj
   go_wp2_with fail
   go_ret
   exact⟨by rw[HE.out];first | rfl | simp,HBW.out⟩
theorem K2(Q:Nat)(x:ByteArray)(cls:List ByteArray)(vC vN vL vK vS:Value)(w:World)(ho:MkObj w Q vC vN vL vK vS)(hc:ClsN w Q vC cls)(hl:cls.length<=900000) :
  Calls Tryz.prog 18 #[.pointer (some ⟨Q,0,none⟩),.string x] w fun e w'=>e=.returned (.int .i64 (AX cls x))/\Below w.heap.size w w':=by
 have hb0:Below w.heap.size w (w.alloc (.cells #[.string x] 9)):=(Zg _ _).alloc (Z0 _) _
 obtain⟨xs,hr,hxs⟩:=id hc.row
 obtain⟨ad,cp,rfl⟩:=Aq hr
 have hcl:=Ms Q w.heap.size x cls _ (w.alloc (.cells #[.string x] 9)) (hc.same fun g e=>hb0.block g (hr.lt g e).2) hl (cell_of_row _ _ _ _ _ _ (heap_alloc_new w (.cells #[.string x] 9))) (by simp)
 obtain⟨⟨k0,_⟩,_⟩:=ho.cells
 have hlq:=ho.lt
 clear hr hxs hc ho
 go_enter Tryz.func18,Tryz.ntmps18
 go_wp2_with (first | (go_at_call 31;refine hcl.mono ?_;rintro e w2 ⟨rfl,hb2⟩))
 go_ret
 exact⟨by first | rfl | simp,GT hb2⟩
open Go.RowKit Go.Shelf
attribute [local go_sem] Oper.semAt_some
def FL(n k:Nat):List Nat:=(List.range k).map fun i=>n-1-i
theorem Id(n k:Nat):FL n (k+1)=FL n k++[n-1-k]:=by simp[FL,List.range_succ]
theorem Nm(n k:Nat):(FL n k).length=k:=by simp[FL]
theorem MY{n k i:Nat}(h:i<k):n-1-i∈FL n k:=List.mem_map.2 ⟨i,List.mem_range.2 h,rfl⟩
def Cg(l:List ByteArray)(k:Nat):ByteArray:=(l[k]?).getD ⟨#[]⟩
theorem Hp{l:List ByteArray}{k:Nat}(h:k<l.length):l[k]?=some (Cg l k):=by
 unfold Cg
 rw[List.getElem?_eq_getElem h]
 rfl
theorem LU{l:List ByteArray}{x:ByteArray}{k:Nat}(hk:l[k]?=some x):∀(n:Nat),k<n->(∀j,k<j->j<n->l[j]?≠some x)->DC l x n=some k
 | 0,h,_=>by omega
 | n+1,h,ha=>by
  unfold DC
  by_cases e:k=n
  ·subst e
   rw[if_pos hk]
  ·rw[if_neg (ha n (by omega) (by omega))]
   exact LU hk n (by omega) fun j h1 h2=>ha j h1 (by omega)
theorem Ph{l:List ByteArray}{x:ByteArray}:∀(n:Nat),(∀j,j<n->l[j]?≠some x)->DC l x n=none
 | 0,_=>rfl
 | n+1,ha=>by
  unfold DC
  rw[if_neg (ha n (by omega))]
  exact Ph n fun j h=>ha j (by omega)
abbrev QO (l:List ByteArray) (k:Nat):Array Value:=#[.int .i64 (k:Int),.string (Cg l k)]
theorem Oo(n k c:Nat)(ad:Option Addr)(w:World) :
  CallsIn Fence.wide n Tryz.prog 100 #[.slice ad k c] w fun e w'=>e=.returned (.func (.func 112) #[] #[.pointer (some ⟨w.heap.size,0,none⟩)])/\w'=w.alloc (.cells #[.slice ad k c] 23):=by
 refine callsIn_of_wp Tryz.func100 rfl trivial ?_ rfl
 simp only[Tryz.ntmps100,List.size_toArray,List.length_cons,List.length_nil,Nat.reduceAdd,Nat.reduceSub,Array.replicate_succ,Array.replicate_zero,List.push_toArray,List.append_toArray,List.nil_append,List.cons_append]
 gi_wp2
 go_ret
 exact⟨rfl,rfl⟩
theorem Nn(n:Nat)(hn:1<=n)(l Bs n₀ c:Nat)(ad:Option Addr)(xs:List ByteArray)(hl:xs.length<=900000)(J Jx:List Nat->World->Prop)(hY:∀pre (x:Nat) W,J pre W->pre.length<xs.length->YieldAt Fence.wide (n-1) Tryz.prog l (QO xs x) W fun e W'=>
   (e=.returned (.bool true)/\J (pre++[x]) W'/\Below n₀ W W')\/(e=.returned (.bool false)/\Jx (pre++[x]) W'))(W:World)(hct:W.cell? ⟨Bs,0,none⟩=some (.slice ad xs.length c))(hBs:Bs<n₀)(hx:0<xs.length->∃g,ad=some ⟨g,0,none⟩/\g<n₀/\∀k,k<xs.length->W.cell? ⟨g,k,none⟩=some (.string (Cg xs k)))(h0:J [] W) :
  CallsIn Fence.wide n Tryz.prog 112 #[.func (.yield l) #[] #[],.pointer (some ⟨Bs,0,none⟩)] W fun e W'=>(∃v,e=.returned v) /\
   ((∃ys,ys=FL xs.length xs.length/\J ys W')\/(∃pre,(∃k,k<xs.length/\pre=FL xs.length (k+1))/\Jx pre W')):=by
 have HX:Hid (0<xs.length->∃g,ad=some ⟨g,0,none⟩/\g<n₀/\∀k,k<xs.length->W.cell? ⟨g,k,none⟩=some (.string (Cg xs k))):=hx
 clear hx
 have hw0:=Ao (x:=(xs.length:Int)-1) (by omega) (by omega)
 refine callsIn_of_wp Tryz.func112 rfl trivial ?_ rfl
 simp only[Tryz.ntmps112,List.size_toArray,List.length_cons,List.length_nil,Nat.reduceAdd,Nat.reduceSub,Array.replicate_succ,Array.replicate_zero,List.push_toArray,List.append_toArray,List.nil_append,List.cons_append]
 gi_wp2
 gi_loopw [3] (fun i wr=>∃(k:Nat) (I:Int),k<=xs.length/\i=.int .i64 I/\Hid (I=(xs.length:Int)-1-(k:Int))/\J (FL xs.length k) wr/\Below n₀ W wr)
  (fun i _=>(intOf i+1).toNat)
 case atStart=>exact⟨0,_,Z3 _,rfl,by show(xs.length:Int)-1=_;omega,h0,Zg _ _⟩
 case round=>
  obtain⟨k,I,hk,rfl,HI,hJs,hnx⟩:=hrel
  have hct':wr.cell? ⟨Bs,0,none⟩=some (.slice ad xs.length c):=(hnx.cell (p:=⟨Bs,0,none⟩) hBs).trans hct
  by_cases hlt:k<xs.length
  ·obtain⟨q,hq⟩:∃q,q=xs.length-1-k:=⟨_,rfl⟩
   have eI:I=(q:Int):=by have:=HI.out;omega
   subst eI
   obtain⟨g,rfl,hg,hcx⟩:=HX.out (by omega)
   have hq0:q<xs.length:=by omega
   have hcq:wr.cell? ⟨g,q,none⟩=some (.string (Cg xs q)):=(hnx.cell (p:=⟨g,q,none⟩) hg).trans (hcx q hq0)
   have hw2:=Ao (x:=(q:Int)-1) (by omega) (by omega)
   have hqi:(q:Int)<(xs.length:Int):=by omega
   obtain⟨fn,tmps,assign,body,hy,hR⟩:=hY _ q wr hJs (by rw[Nm];exact hlt)
   dsimp only[QO]at hy
   have HQ:Hid (q=xs.length-1-k):=hq
   clear hq hcx
   gi_wp2
   refine hR.mono ?_
   rintro e W3 (⟨rfl,hJ3,hk3⟩ | ⟨rfl,hJx3⟩)
   ·gi_wp2
    go_roundw
    case rel=>exact⟨k+1,_,by omega,rfl,by show(q:Int)-1=_;have:=HQ.out;omega,by rw[Id,<-HQ.out];exact hJ3,hnx.trans hk3⟩
    case measure=>first | (simp[intOf];done) | (simp[intOf];omega)
   ·gi_wp2
    refine bodyPost_ret (results_none rfl _ _ _) rfl ?_
    exact⟨⟨_,rfl⟩,.inr ⟨_,⟨k,hlt,by rw[Id,<-HQ.out]⟩,hJx3⟩⟩
  ·have ek:k=xs.length:=by omega
   have hI0:¬ 0<=I:=by have:=HI.out;omega
   have hJ':J (FL xs.length xs.length) wr:=by have:=hJs;rw[ek]at this;exact this
   gi_wp2
   go_end0
   exact⟨⟨_,rfl⟩,.inl hJ'⟩
theorem Ly(n:Nat)(hn:1<=n)(Bs c:Nat)(ad:Option Addr)(xs:List ByteArray)(hl:xs.length<=900000)(w:World)(hct:w.cell? ⟨Bs,0,none⟩=some (.slice ad xs.length c))(hx:0<xs.length->∃g,ad=some ⟨g,0,none⟩/\g<w.heap.size/\∀k,k<xs.length->w.cell? ⟨g,k,none⟩=some (.string (Cg xs k))) :
  SeqStopsK Fence.wide n Tryz.prog 112 #[.pointer (some ⟨Bs,0,none⟩)] (QO xs) (Below w.heap.size) (fun ys=>ys=FL xs.length xs.length) (fun pre=>∃k,k<xs.length/\pre=FL xs.length (k+1)) xs.length w:=fun l J Jx W hW hJ hJx hY h0=>by
 have b2:=World.block_lt_of_cell? w _ hct
 refine Nn n hn l Bs w.heap.size c ad xs hl J Jx hY W ((hW.cell b2).trans hct) b2 (fun h0=>?_) h0
 obtain⟨g,e,hg,hc⟩:=hx h0
 exact⟨g,e,hg,fun k hk=>(hW.cell (p:=⟨g,k,none⟩) hg).trans (hc k hk)⟩
theorem F2{w:World}(o:Obj){a:Addr}(h:a.block<w.heap.size):(w.alloc o).cell? a=w.cell? a:=World.cell?_of_block (Below.heap_alloc _ _ _ h)
theorem Np{w:World}(o:Obj){a:Addr}(h:a.block<w.heap.size):(w.alloc o).frozen? a=w.frozen? a:=World.frozen?_of_block (Below.heap_alloc _ _ _ h)
theorem Hq{w:World}{cs:Array Value}{t:TypeId}{g j:Nat}(h:g=w.heap.size):(w.alloc (.cells cs t)).cell? ⟨g,j,none⟩=cs[j]?:=by
 subst h;exact cell_of_row _ _ _ cs t (0,0) (heap_alloc_new w _)
theorem Oq{w:World}{cs:Array Value}{t:TypeId}{g j:Nat}(h:g=w.heap.size):(w.alloc (.cells cs t)).frozen? ⟨g,j,none⟩=false:=by
 subst h;exact frozen_of_row _ _ _ cs t (heap_alloc_new w _)
theorem OBox.setAll{w:World}{X:Nat}{a b d:Int}(h:OBox w X a b d)(p q r:Int):OBox (((w.setCell ⟨X,0,none⟩ (.int .i64 p)).setCell ⟨X,1,none⟩ (.int .i64 q)).setCell ⟨X,2,none⟩ (.int .i64 r)) X p q r:=heap_setCell_same _ _ _ _ _ _ (heap_setCell_same _ _ _ _ _ _ (heap_setCell_same _ _ _ _ _ _ h))
theorem OBox.drew{w:World}{X:Nat}{a b d:Int}(h:OBox w X a b d):OBox w.drew X a b d:=h
theorem K5(w:World)(X:Nat)(a b d:Value):KeepsOthers w (((w.setCell ⟨X,0,none⟩ a).setCell ⟨X,1,none⟩ b).setCell ⟨X,2,none⟩ d):=((KeepsOthers.setCell _ _ _).trans (KeepsOthers.setCell _ _ _)).trans (KeepsOthers.setCell _ _ _)
theorem K6{w w':World}{B X:Nat}(h:Below B w w')(hX:B<=X)(a b d:Value):Below B w (((w'.setCell ⟨X,0,none⟩ a).setCell ⟨X,1,none⟩ b).setCell ⟨X,2,none⟩ d):=((h.setCell (p:=⟨X,0,none⟩) hX a).setCell (p:=⟨X,1,none⟩) hX b).setCell (p:=⟨X,2,none⟩) hX d
def Kd(xs slots:List ByteArray)(x:ByteArray)(loc slot:Int):Ord:=match DC xs x xs.length with
 | some i=>(loc,(i:Int),0)
 | none=>(slot,AX slots x,0)
theorem Rk{xs slots:List ByteArray}{x:ByteArray}{loc slot:Int}{i:Nat}(h:DC xs x xs.length=some i):Kd xs slots x loc slot=(loc,(i:Int),0):=by unfold Kd;rw[h]
theorem Rl{xs slots:List ByteArray}{x:ByteArray}{loc slot:Int}(h:DC xs x xs.length=none):Kd xs slots x loc slot=(slot,AX slots x,0):=by unfold Kd;rw[h]
theorem TB(slots:List ByteArray)(s:MW)(x:ByteArray)(loc slot:Int):FK slots s x loc slot=Kd s.locals slots x loc slot:=by
 unfold FK Kd
 cases DC s.locals x s.locals.length<;>rfl
theorem Rm(R Q at':Nat)(vs:Value)(la:Option Addr)(lc:Nat)(loc slot:Int)(x:ByteArray)(xs slots:List ByteArray)(BB B2:Nat)(w:World)(ho:WrObj w R Q at' vs (.slice la xs.length lc))(hr:w.ownsRow BB 9 1 (.slice la xs.length lc) xs.length (B5 xs))(hs:w.ownsRow B2 9 1 vs slots.length (B5 slots))(hl:xs.length<=900000)(o1 o2 o3:Int)(HO:Hid (Kd xs slots x loc slot=(o1,o2,o3))) :
  Calls Tryz.prog 83 #[.pointer (some ⟨R,0,none⟩),.string x,.int .i64 loc,.int .i64 slot] w fun e w'=>e=.returned (.agg #[.int .i64 o1,.int .i64 o2,.int .i64 o3])/\Below w.heap.size w w':=by
 obtain⟨sa,sc,rfl⟩:=Aq hs
 obtain⟨⟨_,_,k2,k3⟩,_⟩:=ho.cells
 have hlr:=ho.lt
 have HX:Hid (0<xs.length->∃g,la=some ⟨g,0,none⟩/\g<w.heap.size/\∀k,k<xs.length->w.cell? ⟨g,k,none⟩=some (.string (Cg xs k))):=fun h0=>by
  rcases hr.2 with⟨_,h1⟩ | ⟨g,cap,cur,e,_⟩
  ·omega
  ·injection e with e1 e2 e3
   subst e1 e3
   refine⟨g,rfl,(hr.lt g rfl).2,fun k hk=>?_⟩
   rw[hr.cellAt k (by omega)]
   unfold B5
   rw[List.getElem?_map,Hp hk]
   rfl
 have HS:Hid (w.ownsRow B2 9 1 (.slice sa slots.length sc) slots.length (B5 slots)):=hs
 have hb3:Below w.heap.size w (((w.alloc (.cells #[.string x] 9)).alloc (.cells #[.int .i64 loc] 3)).alloc (.cells #[.int .i64 0,.int .i64 0,.int .i64 0] 35)):=(((Zg _ w).alloc (Z0 _) _).alloc (by simp) _).alloc (by simp;omega) _
 have kk3:((((w.alloc (.cells #[.string x] 9)).alloc (.cells #[.int .i64 loc] 3)).alloc (.cells #[.int .i64 0,.int .i64 0,.int .i64 0] 35))).cell? ⟨R,3,none⟩=some (.slice la xs.length lc):=(hb3.cell (p:=⟨R,3,none⟩) hlr).trans k3
 clear hr hs ho
 refine(callsIn_wide (n:=3)).1 ?_
 refine callsIn_of_wp_marks Tryz.func83 rfl trivial ?_ rfl
 simp only[Tryz.ntmps83,List.size_toArray,List.length_cons,List.length_nil,Nat.reduceAdd,Nat.reduceSub,Array.replicate_succ,Array.replicate_zero,List.push_toArray,List.append_toArray,List.nil_append,List.cons_append]
 gi_wp2_with (refine⟨trivial,?_⟩;gi_at_call 100;refine(Oo _ xs.length lc la _).mono ?_;rintro e w' ⟨rfl,rfl⟩)
 obtain⟨W0,hW0⟩:∃W0,(((w.alloc (.cells #[.string x] 9)).alloc (.cells #[.int .i64 loc] 3)).alloc (.cells #[.int .i64 0,.int .i64 0,.int .i64 0] 35)).alloc (.cells #[.slice la xs.length lc] 23)=W0:=⟨_,rfl⟩
 have hs0:W0.heap.size=w.heap.size+4:=by rw[<-hW0];simp
 have hB0:Below w.heap.size w W0:=by rw[<-hW0];exact hb3.alloc hb3.size _
 have cT:W0.cell? ⟨w.heap.size,0,none⟩=some (.string x):=by
  rw[<-hW0,F2 _ (by simp<;>omega),F2 _ (by simp<;>omega),F2 _ (by simp),Hq rfl];rfl
 have cL:W0.cell? ⟨w.heap.size+1,0,none⟩=some (.int .i64 loc):=by
  rw[<-hW0,F2 _ (by simp<;>omega),F2 _ (by simp),Hq (by simp)];rfl
 have cR:∀j,j<3->W0.cell? ⟨w.heap.size+1+1,j,none⟩=some (.int .i64 0):=fun j hj=>by
  rw[<-hW0,F2 _ (by simp),Hq (by simp)]
  match j,hj with
  | 0,_=>rfl
  | 1,_=>rfl
  | 2,_=>rfl
 have fR:∀j,W0.frozen? ⟨w.heap.size+1+1,j,none⟩=false:=fun j=>by
  rw[<-hW0,Np _ (by simp),Oq (by simp)]
 have bR:OBox W0 (w.heap.size+1+1) 0 0 0:=by
  have h1:=heap_alloc_new ((w.alloc (.cells #[.string x] 9)).alloc (.cells #[.int .i64 loc] 3)) (.cells #[.int .i64 0,.int .i64 0,.int .i64 0] 35)
  rw[show((w.alloc (.cells #[.string x] 9)).alloc (.cells #[.int .i64 loc] 3)).heap.size=w.heap.size+1+1 by simp]at h1
  rw[<-hW0]
  exact(Below.heap_alloc _ _ _ (by simp)).trans h1
 have cA:W0.cell? ⟨w.heap.size+1+1+1,0,none⟩=some (.slice la xs.length lc):=by
  rw[<-hW0,Hq (by simp)];rfl
 rw[hW0]
 clear hW0
 refine wpIn_rangeFunc_ownF (F:=Fence.wide) (n:=3) rfl (by omega) (gf:=112) (lb:=#[.pointer (some ⟨w.heap.size+1+1+1,0,none⟩)]) rfl trivial (enters_of Tryz.func112 (by kernel_rfl) rfl)
  (Ly 2 (by omega) _ lc la xs hl W0 cA (fun h0=>by obtain⟨g,e,hg,hc⟩:=HX.out h0;exact⟨g,e,by omega,fun k hk=>(hB0.cell (p:=⟨g,k,none⟩) hg).trans (hc k hk)⟩)) belowK_t (belowK_b (Z0 _)) (Zg _ _) (fun _=>rfl)
  (fun pre W'=>(∀k∈pre,Cg xs k≠x)/\Below W0.heap.size W0 W')
  (fun cd pre W'=>(cd=.ret/\∃(pre':List Nat) (k:Nat),pre=pre'++[k]/\(∀j∈pre',Cg xs j≠x)/\Cg xs k=x/\W'.cell? ⟨w.heap.size+1+1,0,none⟩=some (.int .i64 loc)/\W'.cell? ⟨w.heap.size+1+1,1,none⟩=some (.int .i64 (k:Int))/\W'.cell? ⟨w.heap.size+1+1,2,none⟩=some (.int .i64 0))/\Below w.heap.size w W')
  (OwnFrom.and (ownFrom_pure _ _) (ownFrom_below (Z0 _) (Z0 _)))
  (fun cd=>OwnFrom.and (Own.from (fun pre A B row hs hg hr=>⟨hs.1,let ⟨p',k,e1,e2,e3,e4,e5,e6⟩:=hs.2;⟨p',k,e1,e2,e3,cell_kept e4 hg hr,cell_kept e5 hg hr,cell_kept e6 hg hr⟩⟩) _) (ownFrom_below (Z0 _) (by omega)))
  ⟨by simp,Zg _ _⟩
  (fun y=>{ tmps:=#[.pointer (some ⟨R,0,none⟩),.string x,.int .i64 loc,.int .i64 slot,undef,.pointer (some ⟨w.heap.size,0,none⟩),.pointer (some ⟨w.heap.size+1,0,none⟩),undef,.pointer (some ⟨w.heap.size+1+1,0,none⟩),.int .i64 (y:Int),.string (Cg xs y),.pointer (some ⟨R,0,none⟩),.pointer (some ⟨R,0,none⟩),.pointer (some ⟨R,3,none⟩),.slice la xs.length lc,.func (.func 112) #[] #[.pointer (some ⟨w.heap.size+1+1+1,0,none⟩)],.int .i64 (y:Int),.string (Cg xs y),undef,undef,undef,undef,undef,undef,undef,undef,undef,undef,undef,undef,undef,undef],defers:=[] }) ?assign ?body ?done ?stop
 case assign=>
  intro l y W' K hK
  gi_wp2
  exact hK
 case body=>
  rintro l pre y W' ⟨hp,hB⟩ _
  have hz:=hB.size
  have dT:=(hB.cell (p:=⟨w.heap.size,0,none⟩) (by dsimp only;omega)).trans cT
  have dL:=(hB.cell (p:=⟨w.heap.size+1,0,none⟩) (by dsimp only;omega)).trans cL
  have dR:=fun j hj=>(hB.cell (p:=⟨w.heap.size+1+1,j,none⟩) (by dsimp only;omega)).trans (cR j hj)
  have d0:=dR 0 (by decide)
  have d1:=dR 1 (by decide)
  have d2:=dR 2 (by decide)
  have gR:=fun j=>(hB.frozen (p:=⟨w.heap.size+1+1,j,none⟩) (by dsimp only;omega)).trans (fR j)
  have g0:=gR 0
  have g1:=gR 1
  have g2:=gR 2
  have hbe:((Cg xs y).toList==x.toList)=decide (x=Cg xs y):=IV _ _
  have HP:Hid (∀k∈pre,Cg xs k≠x):=hp
  have hBW:Below w.heap.size w W':=hB0.trans (hB.mono (by omega))
  clear dR gR hp
  cases hd:decide (x=Cg xs y)with
  | true=>
   have HE:Hid (Cg xs y=x):=(of_decide_eq_true hd).symm
   rw[hd]at hbe
   clear hd
   gi_wp2
   have hbx:=(show OBox W' (w.heap.size+1+1) 0 0 0 from(hB.block _ (by omega)).trans bR).setAll loc (y:Int) 0
   exact⟨K5 _ _ _ _ _,⟨rfl,pre,y,rfl,HP.out,HE.out,hbx.facts.1,hbx.facts.2.1,hbx.facts.2.2⟩,K6 hBW (by omega) _ _ _⟩
  | false=>
   have HE:Hid (Cg xs y≠x):=fun e=>of_decide_eq_false hd e.symm
   rw[hd]at hbe
   clear hd
   gi_wp2
   exact⟨KeepsOthers.refl _,Zg _ _,fun k hk=>(List.mem_append.1 hk).elim (HP.out k) (fun e=>by simp at e;subst e;exact HE.out),hB⟩
 case done=>
  rintro D ys W' hD rfl ⟨hp,hB⟩ hK
  have hz:=hB.size
  have hBW:Below w.heap.size w W':=hB0.trans (hB.mono (by omega))
  have dT:=(hB.cell (p:=⟨w.heap.size,0,none⟩) (by dsimp only;omega)).trans cT
  have dR:=fun j hj=>(hB.cell (p:=⟨w.heap.size+1+1,j,none⟩) (by dsimp only;omega)).trans (cR j hj)
  have d0:=dR 0 (by decide)
  have d1:=dR 1 (by decide)
  have d2:=dR 2 (by decide)
  have gR:=fun j=>(hB.frozen (p:=⟨w.heap.size+1+1,j,none⟩) (by dsimp only;omega)).trans (fR j)
  have g0:=gR 0
  have g1:=gR 1
  have g2:=gR 2
  have m2:=(hBW.cell (p:=⟨R,2,none⟩) hlr).trans k2
  have hlr':R<W'.heap.size:=by omega
  have HE:Hid ((slot,AX slots x,0)=((o1,o2,o3):Ord)):=(Rl (Ph _ fun j hj e=>by
   have hm:=hp (xs.length-1-(xs.length-1-j)) (MY (by omega))
   rw[show xs.length-1-(xs.length-1-j)=j by omega]at hm
   rw[Hp hj]at e
   injection e with e
   exact hm e)).symm.trans HO.out
  have hix:=Pd slots x (fun k=>B2<=k) (.slice sa slots.length sc) W'.drew (EH (AF HS.out fun g e=>hBW.block g (HS.out.lt g e).2))
  have HBX:Hid (OBox W' (w.heap.size+1+1) 0 0 0):=(hB.block _ (by omega)).trans bR
  have hmx:Tryz.prog.follows .mixedOrders=true:=by kernel_rfl
  generalize AX slots x=p at *
  have hE:=HE.out
  simp only[Prod.mk.injEq]at hE
  obtain⟨rfl,rfl,rfl⟩:=hE
  clear hp dR gR HE
  gi_wp2
  first | gi_region_with (first | (refine⟨trivial,?_⟩;gi_at_call 99;refine(callsIn_wide.2 hix).mono ?_;rintro e w2 ⟨rfl,hw2⟩;rw[hw2];clear hw2 w2)) | fail
  all_goals gi_wp2
  all_goals (have hK':=((K5 W' (w.heap.size+1+1) (.int .i64 slot) (.int .i64 p) (.int .i64 0)).trans (KeepsOthers.drew _)).same D _ hK rfl)
  all_goals (refine⟨by simp,.inl ⟨_,_,rfl,run_takeDeferred hK',?_⟩⟩)
  all_goals (have q0:=cell_kept (HBX.out.setAll slot p 0).drew.facts.1 (grownBy_putObj' _ D (.deferred none)) (fun r e=>by cases e;exact⟨_,hK',rfl⟩))
  all_goals (have q1:=cell_kept (HBX.out.setAll slot p 0).drew.facts.2.1 (grownBy_putObj' _ D (.deferred none)) (fun r e=>by cases e;exact⟨_,hK',rfl⟩))
  all_goals (have q2:=cell_kept (HBX.out.setAll slot p 0).drew.facts.2.2 (grownBy_putObj' _ D (.deferred none)) (fun r e=>by cases e;exact⟨_,hK',rfl⟩))
  all_goals (refine⟨.agg #[.int .i64 slot,.int .i64 p,.int .i64 0],?_,rfl,((K6 hBW (by omega) _ _ _).drew).trans (belowK_b (w:=w) (Z0 _) _ D _ _ (by omega) hK' rfl rfl)⟩)
  all_goals (simp[results,Tryz.f83,go_sem,q0,q1,q2])
 case stop=>
  rintro D cd pre W' hD ⟨m,hm,hpre⟩ ⟨⟨rfl,pre',k,e1,e2,e3,e4,e5,e6⟩,hBW⟩ hK
  have HE:Hid ((loc,(k:Int),0)=((o1,o2,o3):Ord)):=(Rk (by
   rw[Id]at hpre
   rw[hpre]at e1
   obtain⟨ep,ek⟩:=List.append_inj' e1 rfl
   simp only[List.cons.injEq,and_true]at ek
   have hkl:k<xs.length:=by omega
   refine LU (by rw[Hp hkl,e3]) _ hkl fun j h1 h2 e=>?_
   have hmm:=e2 j (by rw[<-ep,show j=xs.length-1-(xs.length-1-j) by omega];exact MY (by omega))
   rw[Hp h2]at e
   injection e with e
   exact hmm e)).symm.trans HO.out
  have hE:=HE.out
  simp only[Prod.mk.injEq]at hE
  obtain⟨rfl,rfl,rfl⟩:=hE
  clear e1 e2 e3 hpre HE
  gi_wp2
  refine⟨by simp,.inl ⟨_,_,rfl,run_takeDeferred hK,?_⟩⟩
  have q0:=cell_kept e4 (grownBy_putObj' _ D (.deferred none)) (fun r e=>by cases e;exact⟨_,hK,rfl⟩)
  have q1:=cell_kept e5 (grownBy_putObj' _ D (.deferred none)) (fun r e=>by cases e;exact⟨_,hK,rfl⟩)
  have q2:=cell_kept e6 (grownBy_putObj' _ D (.deferred none)) (fun r e=>by cases e;exact⟨_,hK,rfl⟩)
  refine⟨.agg #[.int .i64 loc,.int .i64 (k:Int),.int .i64 0],?_,rfl,hBW.trans (belowK_b (w:=w) (Z0 _) W' D _ _ (by omega) hK rfl rfl)⟩
  simp[results,Tryz.f83,go_sem,q0,q1,q2]
end Go.Proofs.YtpfdgbalchmmfaaGreatDoor
