/- Texts in one. -/
import Derived.Test.YtbglpanjpadldaaGreatDoorMd
import Derived.Test.YtbglpanjpadldaaGreatDoorMc
import Derived.RegionDies
import Derived.Deep.RegionWith
import Derived.Carry
set_option maxHeartbeats 16000000
set_option maxRecDepth 20000
namespace Go.Proofs.YtbglpanjpadldaaGreatDoor
open Go.RowKit
def RdObj(w:World)(Q:Nat)(v:Value)(tok fin deep:Int):Prop:=
 w.heap[Q]?=some (.cells #[v,.int .i64 tok,.int .i64 fin,.int .i64 deep] 53)
theorem RdObj.lt{w:World}{Q:Nat}{v:Value}{tok fin deep:Int}(h:RdObj w Q v tok fin deep):Q<w.heap.size:=(Array.getElem?_eq_some_iff.1 h).1
theorem RdObj.cells{w:World}{Q:Nat}{v:Value}{tok fin deep:Int}(h:RdObj w Q v tok fin deep) :
  w.cell? ⟨Q,0,none⟩=some v/\w.cell? ⟨Q,1,none⟩=some (.int .i64 tok)/\w.cell? ⟨Q,2,none⟩=some (.int .i64 fin)/\w.cell? ⟨Q,3,none⟩=some (.int .i64 deep):=
 ⟨cell_of_row _ _ _ _ _ _ h,cell_of_row _ _ _ _ _ _ h,cell_of_row _ _ _ _ _ _ h,cell_of_row _ _ _ _ _ _ h⟩
theorem RdObj.frozen{w:World}{Q:Nat}{v:Value}{tok fin deep:Int}(h:RdObj w Q v tok fin deep)(j:Nat):w.frozen? ⟨Q,j,none⟩=false:=frozen_of_row _ _ _ _ _ h
theorem RdObj.setTok{w:World}{Q:Nat}{v:Value}{tok fin deep:Int}(h:RdObj w Q v tok fin deep)(x:Int):RdObj (w.setCell ⟨Q,1,none⟩ (.int .i64 x)) Q v x fin deep:=heap_setCell_same _ _ _ _ _ _ h
theorem RdObj.setDeep{w:World}{Q:Nat}{v:Value}{tok fin deep:Int}(h:RdObj w Q v tok fin deep)(x:Int):RdObj (w.setCell ⟨Q,3,none⟩ (.int .i64 x)) Q v tok fin x:=heap_setCell_same _ _ _ _ _ _ h
theorem RdObj.keep{w w':World}{Q:Nat}{v:Value}{tok fin deep:Int}(h:RdObj w Q v tok fin deep)(hb:w'.heap[Q]?=w.heap[Q]?):RdObj w' Q v tok fin deep:=hb.trans h
structure Rdr(w:World)(Q B:Nat)(v:Value)(S:Src9)(s:PS):Prop where
 base:ParB w Q B v S
 obj:RdObj w Q v s.tok S.fin s.deep
 tok:s.tok<=S.L.length
 lo:-(s.tok:Int)<=s.deep
 hi:s.deep<=20
theorem Rdr.below{w w':World}{Q B:Nat}{v:Value}{S:Src9}{s:PS}(h:Rdr w Q B v S s)(hb:Below w.heap.size w w'):Rdr w' Q B v S s:=
 ⟨h.base.grown (A3 Q hb),h.obj.keep (hb.block Q h.obj.lt),h.tok,h.lo,h.hi⟩
theorem Rdr.apart{w w':World}{Q B:Nat}{v:Value}{S:Src9}{s:PS}(h:Rdr w Q B v S s)(hb:Below B w w'):Rdr w' Q B v S s:=by
 have hq:=h.base.qb
 refine⟨⟨hq,Za h.base.size hb.size,?_,h.base.few,h.base.bytes⟩,h.obj.keep (hb.block Q hq),h.tok,h.lo,h.hi⟩
 obtain⟨ad,c,hv,hr⟩:=h.base.toks
 refine⟨ad,c,hv,fun h0=>?_⟩
 obtain⟨b,off,he,hlt,hbq,hc⟩:=hr h0
 refine⟨b,off,he,by have:=hb.size;omega,hbq,fun k hk=>?_⟩
 obtain⟨c1,c2,c3⟩:=hc k hk
 exact⟨by rw[hb.cell (p:=⟨b,off+k*3,none⟩) (by dsimp only;omega)];exact c1,by rw[hb.cell (p:=⟨b,off+k*3+1,none⟩) (by dsimp only;omega)];exact c2,by rw[hb.cell (p:=⟨b,off+k*3+2,none⟩) (by dsimp only;omega)];exact c3⟩
theorem Rdr.qb{w:World}{Q B:Nat}{v:Value}{S:Src9}{s:PS}(h:Rdr w Q B v S s):Q<B:=h.base.qb
theorem Rdr.size{w:World}{Q B:Nat}{v:Value}{S:Src9}{s:PS}(h:Rdr w Q B v S s):B<=w.heap.size:=h.base.size
theorem Rdr.few{w:World}{Q B:Nat}{v:Value}{S:Src9}{s:PS}(h:Rdr w Q B v S s):S.L.length<=4000:=h.base.few
theorem Rdr.many{w:World}{Q B:Nat}{v:Value}{S:Src9}{s:PS}(h:Rdr w Q B v S s)(m:Int):Rdr w Q B v S { s with many:=m }:=⟨h.base,h.obj,h.tok,h.lo,h.hi⟩
def upV(f:Int×Int):Value:=.iface 50 (.agg #[.int .i64 f.1,.int .i64 f.2])
def Qq(f:Int×Int)(Q:Nat)(w:World)(e:Ending)(w':World):Prop:=e=.panicked [{ v:=upV f,recovered:=false }]/\w.grownBy w' (some Q)
def Src9.kind(S:Src9)(s:PS):Int:=if s.tok<S.L.length then(S.at s.tok).1 else 0
def Cr(S:Src9)(s:PS):Value:=.agg #[.int .i64 (S.kind s),.string (strOfNums (S.text s)),.int .i64 (S.byte s)]
theorem GW(a b c:Value)(w:World):(Instr.field 48 (.agg #[a,b,c]) 0).run Tryz.prog w=.ok a w:=by kernel_rfl
theorem Ji(a b c:Value)(w:World):(Instr.field 48 (.agg #[a,b,c]) 1).run Tryz.prog w=.ok b w:=by kernel_rfl
theorem Tx(a b c:Value)(w:World):(Instr.field 48 (.agg #[a,b,c]) 2).run Tryz.prog w=.ok c w:=by kernel_rfl
theorem C6(Q B:Nat)(v:Value)(S:Src9)(s:PS)(w:World)(hp:Rdr w Q B v S s) :
  Calls Tryz.prog 54 #[.pointer (some ⟨Q,0,none⟩)] w fun e w'=>e=.returned (Cr S s)/\Below w.heap.size w w':=by
 obtain⟨k0,k1,k2,k3⟩:=hp.obj.cells
 have hql:=hp.obj.lt
 have hle:=hp.tok
 obtain⟨ad,c,hv,hrow⟩:=hp.base.toks
 subst hv
 by_cases ht:s.tok<S.L.length
 ·obtain⟨b,off,rfl,hb,hbq,hcl⟩:=hrow (by omega)
  obtain⟨x1,x2,x3⟩:=hcl s.tok ht
  have hil:(s.tok:Int)<(S.L.length:Int):=by omega
  have hne:((s.tok:Int)==(S.L.length:Int))=false:=by rw[beq_eq_false_iff_ne];omega
  have HB:Hid (Cr S s=.agg #[.int .i64 (EH S.L s.tok).1,.string (strOfNums (EH S.L s.tok).2.1),.int .i64 ((EH S.L s.tok).2.2:Int)]):=by
   show _=_
   unfold Cr Src9.kind Src9.text Src9.byte
   rw[if_pos ht,if_pos ht,if_pos ht]
   rfl
  clear hrow hcl hp
  go_enter Tryz.func54,Tryz.ntmps54
  go_wp2
  go_region
  go_wp2
  go_region
  go_wp2
  refine bodyPost_ret (v:=.agg #[.int .i64 (EH S.L s.tok).1,.string (strOfNums (EH S.L s.tok).2.1),.int .i64 ((EH S.L s.tok).2.2:Int)]) (by simp[results,Tryz.results54,go_sem]) rfl ⟨by rw[HB.out],((Zg _ w).alloc (Z0 _) _).drew.drew⟩
 ·have htl:s.tok=S.L.length:=by omega
  have hne:((s.tok:Int)==(S.L.length:Int))=true:=by rw[beq_iff_eq];omega
  have HB:Hid (Cr S s=.agg #[.int .i64 0,.string ⟨#[]⟩,.int .i64 (S.fin:Int)]):=by
   show _=_
   unfold Cr Src9.kind Src9.text Src9.byte
   rw[if_neg ht,if_neg ht,if_neg ht]
   rfl
  clear hrow hp htl
  go_enter Tryz.func54,Tryz.ntmps54
  go_wp2
  go_region
  go_wp2
  refine bodyPost_ret (v:=.agg #[.int .i64 0,.string ⟨#[]⟩,.int .i64 (S.fin:Int)]) (by simp[results,Tryz.results54,go_sem]) rfl ⟨by rw[HB.out],((Zg _ w).alloc (Z0 _) _).drew⟩
theorem GH(Q B:Nat)(v:Value)(S:Src9)(s:PS)(code:Int)(w:World)(hp:Rdr w Q B v S s) :
  Calls Tryz.prog 36 #[.pointer (some ⟨Q,0,none⟩),.int .i64 code] w fun e w'=>Qq (code,S.byte s) Q w e w':=by
 have hn:=C6 Q B v S s w hp
 unfold Cr at hn
 have hf2:=Tx
 clear hp
 go_enter Tryz.func36,Tryz.ntmps36
 go_wp2_with (first | (go_at_call 54;refine hn.mono ?_;rintro e w1 ⟨rfl,hb1⟩))
 exact⟨rfl,rfl,A3 Q hb1⟩
def BW{α:Type}(Q B:Nat)(v:Value)(S:Src9)(w:World)(P:α->Value->World->Prop)(g:Got α)(e:Ending)(w':World):Prop:=match g with
 | .ok (a,s')=>∃u,e=.returned u/\P a u w'/\Rdr w' Q B v S s'/\w.grownBy w' (some Q)
 | .error f=>Qq f Q w e w'
theorem Rdr.text_bytes{w:World}{Q B:Nat}{v:Value}{S:Src9}{s:PS}(h:Rdr w Q B v S s):A7 (strOfNums (S.text s))=S.text s:=by
 refine I8 ?_
 unfold Src9.text
 split
 ·rename_i ht
  intro c hc
  refine h.base.bytes (S.at s.tok) ?_ c hc
  unfold Src9.at
  rw[Z2,List.getElem?_eq_getElem ht]
  exact Z6 ht
 ·intro c hc;cases hc
theorem FH{xs:ByteArray}{l:List UInt8}(h:¬xs=⟨l.toArray⟩):(xs.toList==l)=false:=by
 refine beq_eq_false_iff_ne.2 fun e=>h ?_
 rw[ByteArray.toList_eq]at e
 cases xs with
 | mk d=>
  simp only at e
  rw[<-e]
theorem Hc{xs:ByteArray}{l:List UInt8}(h:¬xs=⟨l.toArray⟩):A7 xs≠l.map fun x=>(x.toNat:Int):=fun e=>h (by
 have:=Fs xs
 rw[e]at this
 rw[<-this]
 unfold strOfNums
 rw[List.map_map]
 have e:(fun n:Int=>UInt8.ofNat n.toNat) ∘ (fun x:UInt8=>(x.toNat:Int))=id:=by funext x;simp
 rw[e,List.map_id])
theorem Rdr.step{w w1:World}{Q B:Nat}{v:Value}{S:Src9}{s s':PS}(h:Rdr w Q B v S s)(hb:Below w.heap.size w w1)(e1:s'.tok=s.tok+1)(e2:s'.deep=s.deep)(ht:s.tok<S.L.length):Rdr (w1.setCell ⟨Q,1,none⟩ (.int .i64 ((s.tok:Int)+1))) Q B v S s'/\w.grownBy (w1.setCell ⟨Q,1,none⟩ (.int .i64 ((s.tok:Int)+1))) (some Q):=by
 have h1:=h.below hb
 have lo:=h.lo
 refine⟨⟨h1.base.grown (D4 _ Q 1 _),?_,by omega,by omega,by rw[e2];exact h.hi⟩,(A3 Q hb).trans (D4 _ Q 1 _)⟩
 have:=h1.obj.setTok ((s.tok:Int)+1)
 rw[e1,e2]
 exact this
theorem Rdr.stepD{w w1:World}{Q B:Nat}{v:Value}{S:Src9}{s s':PS}(h:Rdr w Q B v S s)(hb:Below w.heap.size w w1)(d:Int)(e1:s'.tok=s.tok+1)(e2:s'.deep=d)(hd:s.deep-1<=d)(hd2:d<=20)(ht:s.tok<S.L.length):Rdr ((w1.setCell ⟨Q,3,none⟩ (.int .i64 d)).setCell ⟨Q,1,none⟩ (.int .i64 ((s.tok:Int)+1))) Q B v S s'/\w.grownBy ((w1.setCell ⟨Q,3,none⟩ (.int .i64 d)).setCell ⟨Q,1,none⟩ (.int .i64 ((s.tok:Int)+1))) (some Q):=by
 have h1:=h.below hb
 have lo:=h.lo
 have hg:=(D4 w1 Q 3 (.int .i64 d)).trans (D4 _ Q 1 (.int .i64 ((s.tok:Int)+1)))
 refine⟨⟨h1.base.grown hg,?_,by omega,by omega,by omega⟩,(A3 Q hb).trans hg⟩
 have:=(h1.obj.setDeep d).setTok ((s.tok:Int)+1)
 rw[e1,e2]
 exact this
theorem Hd(Q B:Nat)(v:Value)(S:Src9)(s:PS)(ht:s.tok<S.L.length)(w:World)(hp:Rdr w Q B v S s) :
  Calls Tryz.prog 70 #[.pointer (some ⟨Q,0,none⟩)] w fun e w'=>BW Q B v S w (fun x u _=>u=.string (strOfNums x)) (Bx S s) e w':=by
 have hn:=C6 Q B v S s w hp
 unfold Cr at hn
 have hf1:=Ji
 have htx:=hp.text_bytes
 have hlo:=hp.lo
 have hhi:=hp.hi
 have hfew:=hp.few
 have HP:Hid (Rdr w Q B v S s):=hp
 have hw:=C4 (x:=(s.tok:Int)+1) (by omega) (by omega)
 obtain⟨X,HS⟩:∃X,strOfNums (S.text s)=X:=⟨_,rfl⟩
 rw[HS]at hn htx
 clear hp
 by_cases hx:X=⟨#[123]⟩
 ·subst hx
  have HE:Hid (Bx S s=if 20<s.deep+1 then Bu S 13 s else .ok (S.text s,{ s with tok:=s.tok+1,deep:=s.deep+1 })):=by
   show _=_
   unfold Bx
   rw[if_pos (by rw[<-htx];decide)]
  by_cases hd:s.deep=20
  ·have hd':(s.deep==20)=true:=by rw[beq_iff_eq];exact hd
   rw[if_pos (by omega)]at HE
   have hgv:=fun w' (h':Rdr w' Q B v S s)=>GH Q B v S s 13 w' h'
   clear hd htx hlo hhi
   go_enter Tryz.func70,Tryz.ntmps70
   go_wp2_with (first | (go_at_call 54;refine hn.mono ?_;rintro e w1 ⟨rfl,hb1⟩;have hp1:=HP.out.below hb1;obtain⟨k0,k1,k2,k3⟩:=hp1.obj.cells;have z1:=hp1.obj.frozen 1;have z3:=hp1.obj.frozen 3;have hql:=hp1.obj.lt) | (go_at_call 36;refine(hgv _ hp1).mono ?_;rintro e w2 ⟨rfl,hg2⟩))
   exact⟨rfl,by rw[HE.out];exact⟨rfl,(A3 Q hb1).trans hg2⟩⟩
  ·have hd':(s.deep==20)=false:=by rw[beq_eq_false_iff_ne];exact hd
   rw[if_neg (by omega)]at HE
   have hw2:=C4 (x:=s.deep+1) (by omega) (by omega)
   have H2:Hid (s.deep-1<=s.deep+1/\s.deep+1<=20/\strOfNums (S.text s)=⟨#[123]⟩):=⟨by omega,by omega,HS⟩
   clear hd htx hlo hhi HS
   go_enter Tryz.func70,Tryz.ntmps70
   go_wp2_with (first | (go_at_call 54;refine hn.mono ?_;rintro e w1 ⟨rfl,hb1⟩;have hp1:=HP.out.below hb1;obtain⟨k0,k1,k2,k3⟩:=hp1.obj.cells;have z1:=hp1.obj.frozen 1;have z3:=hp1.obj.frozen 3;have hql:=hp1.obj.lt))
   obtain⟨r1,r2⟩:=HP.out.stepD (s':={ s with tok:=s.tok+1,deep:=s.deep+1 }) hb1 (s.deep+1) rfl rfl H2.out.1 H2.out.2.1 ht
   go_ret
   rw[HE.out]
   exact⟨_,rfl,(congrArg Value.string H2.out.2.2).symm,r1,r2⟩
 have n1:=FH (l:=[123]) hx
 have m1:=Hc (l:=[123]) hx
 clear hx
 by_cases hx:X=⟨#[40]⟩
 ·subst hx
  have HE:Hid (Bx S s=if 20<s.deep+1 then Bu S 13 s else .ok (S.text s,{ s with tok:=s.tok+1,deep:=s.deep+1 })):=by
   show _=_
   unfold Bx
   rw[if_pos (by rw[<-htx];decide)]
  by_cases hd:s.deep=20
  ·have hd':(s.deep==20)=true:=by rw[beq_iff_eq];exact hd
   rw[if_pos (by omega)]at HE
   have hgv:=fun w' (h':Rdr w' Q B v S s)=>GH Q B v S s 13 w' h'
   clear hd htx hlo hhi
   go_enter Tryz.func70,Tryz.ntmps70
   go_wp2_with (first | (go_at_call 54;refine hn.mono ?_;rintro e w1 ⟨rfl,hb1⟩;have hp1:=HP.out.below hb1;obtain⟨k0,k1,k2,k3⟩:=hp1.obj.cells;have z1:=hp1.obj.frozen 1;have z3:=hp1.obj.frozen 3;have hql:=hp1.obj.lt) | (go_at_call 36;refine(hgv _ hp1).mono ?_;rintro e w2 ⟨rfl,hg2⟩))
   exact⟨rfl,by rw[HE.out];exact⟨rfl,(A3 Q hb1).trans hg2⟩⟩
  ·have hd':(s.deep==20)=false:=by rw[beq_eq_false_iff_ne];exact hd
   rw[if_neg (by omega)]at HE
   have hw2:=C4 (x:=s.deep+1) (by omega) (by omega)
   have H2:Hid (s.deep-1<=s.deep+1/\s.deep+1<=20/\strOfNums (S.text s)=⟨#[40]⟩):=⟨by omega,by omega,HS⟩
   clear hd htx hlo hhi HS
   go_enter Tryz.func70,Tryz.ntmps70
   go_wp2_with (first | (go_at_call 54;refine hn.mono ?_;rintro e w1 ⟨rfl,hb1⟩;have hp1:=HP.out.below hb1;obtain⟨k0,k1,k2,k3⟩:=hp1.obj.cells;have z1:=hp1.obj.frozen 1;have z3:=hp1.obj.frozen 3;have hql:=hp1.obj.lt))
   obtain⟨r1,r2⟩:=HP.out.stepD (s':={ s with tok:=s.tok+1,deep:=s.deep+1 }) hb1 (s.deep+1) rfl rfl H2.out.1 H2.out.2.1 ht
   go_ret
   rw[HE.out]
   exact⟨_,rfl,(congrArg Value.string H2.out.2.2).symm,r1,r2⟩
 have n2:=FH (l:=[40]) hx
 have m2:=Hc (l:=[40]) hx
 clear hx
 by_cases hx:X=⟨#[125]⟩
 ·subst hx
  have HE:Hid (Bx S s=.ok (S.text s,{ s with tok:=s.tok+1,deep:=s.deep-1 })):=by
   show _=_
   unfold Bx
   rw[if_neg (by rw[<-htx];decide),if_pos (by rw[<-htx];decide)]
  have hw2:=C4 (x:=s.deep-1) (by omega) (by omega)
  have H2:Hid (s.deep-1<=s.deep-1/\s.deep-1<=20/\strOfNums (S.text s)=⟨#[125]⟩):=⟨by omega,by omega,HS⟩
  clear htx hlo hhi HS
  go_enter Tryz.func70,Tryz.ntmps70
  go_wp2_with (first | (go_at_call 54;refine hn.mono ?_;rintro e w1 ⟨rfl,hb1⟩;have hp1:=HP.out.below hb1;obtain⟨k0,k1,k2,k3⟩:=hp1.obj.cells;have z1:=hp1.obj.frozen 1;have z3:=hp1.obj.frozen 3;have hql:=hp1.obj.lt))
  obtain⟨r1,r2⟩:=HP.out.stepD (s':={ s with tok:=s.tok+1,deep:=s.deep-1 }) hb1 (s.deep-1) rfl rfl H2.out.1 H2.out.2.1 ht
  go_ret
  rw[HE.out]
  exact⟨_,rfl,(congrArg Value.string H2.out.2.2).symm,r1,r2⟩
 have n3:=FH (l:=[125]) hx
 have m3:=Hc (l:=[125]) hx
 clear hx
 by_cases hx:X=⟨#[41]⟩
 ·subst hx
  have HE:Hid (Bx S s=.ok (S.text s,{ s with tok:=s.tok+1,deep:=s.deep-1 })):=by
   show _=_
   unfold Bx
   rw[if_neg (by rw[<-htx];decide),if_pos (by rw[<-htx];decide)]
  have hw2:=C4 (x:=s.deep-1) (by omega) (by omega)
  have H2:Hid (s.deep-1<=s.deep-1/\s.deep-1<=20/\strOfNums (S.text s)=⟨#[41]⟩):=⟨by omega,by omega,HS⟩
  clear htx hlo hhi HS
  go_enter Tryz.func70,Tryz.ntmps70
  go_wp2_with (first | (go_at_call 54;refine hn.mono ?_;rintro e w1 ⟨rfl,hb1⟩;have hp1:=HP.out.below hb1;obtain⟨k0,k1,k2,k3⟩:=hp1.obj.cells;have z1:=hp1.obj.frozen 1;have z3:=hp1.obj.frozen 3;have hql:=hp1.obj.lt))
  obtain⟨r1,r2⟩:=HP.out.stepD (s':={ s with tok:=s.tok+1,deep:=s.deep-1 }) hb1 (s.deep-1) rfl rfl H2.out.1 H2.out.2.1 ht
  go_ret
  rw[HE.out]
  exact⟨_,rfl,(congrArg Value.string H2.out.2.2).symm,r1,r2⟩
 have n4:=FH (l:=[41]) hx
 have m4:=Hc (l:=[41]) hx
 clear hx
 have HE:Hid (Bx S s=.ok (S.text s,s.step)):=by
  show _=_
  unfold Bx
  rw[<-htx,if_neg (by rintro(h | h);exact m2 h;exact m1 h),if_neg (by rintro(h | h);exact m4 h;exact m3 h)]
 have H2:Hid (strOfNums (S.text s)=X):=HS
 clear htx hlo hhi HS m1 m2 m3 m4
 go_enter Tryz.func70,Tryz.ntmps70
 go_wp2_with (first | (go_at_call 54;refine hn.mono ?_;rintro e w1 ⟨rfl,hb1⟩;have hp1:=HP.out.below hb1;obtain⟨k0,k1,k2,k3⟩:=hp1.obj.cells;have z1:=hp1.obj.frozen 1;have z3:=hp1.obj.frozen 3;have hql:=hp1.obj.lt))
 obtain⟨r1,r2⟩:=HP.out.step (s':=s.step) hb1 rfl rfl ht
 go_ret
 rw[HE.out]
 exact⟨_,rfl,(congrArg Value.string H2.out).symm,r1,r2⟩
mutual
def G8:Nd->Int->Int
 | .mk _ _ _ ks,many=>Fg ks (many-1)
def Fg:List Nd->Int->Int
 | [],many=>many
 | k::ks,many=>if 0<=many then Fg ks (G8 k many)else many
end
mutual
theorem KV:∀(n:Nd) (many:Int),0<=many->G8 n many=if(A1 n:Int)<=many then many-A1 n else -1
 | .mk kd tx nm ks,many,h=>by
  unfold G8
  rw[KW ks (many-1) (by omega)]
  have e:A1 (.mk kd tx nm ks)=1+AA ks:=by conv=>lhs;unfold A1
  rw[e]
  push_cast
  split<;>split<;>omega
theorem KW:∀(ks:List Nd) (many:Int),-1<=many->Fg ks many=if(AA ks:Int)<=many then many-AA ks else -1
 | [],many,h=>by
  unfold Fg
  have e:AA []=0:=by unfold AA;rfl
  rw[e]
  split<;>omega
 | k::ks,many,h=>by
  unfold Fg
  have e:AA (k::ks)=A1 k+AA ks:=by conv=>lhs;unfold AA
  have hk:1<=A1 k:=by cases k with | mk a b c d=>unfold A1;omega
  rw[e]
  split
  ·rename_i h0
   rw[KV k many h0]
   split
   ·rw[KW ks _ (by omega)]
    push_cast
    split<;>split<;>omega
   ·rw[KW ks _ (by omega)]
    push_cast
    split<;>split<;>omega
  ·push_cast
   split<;>omega
end
theorem JE{w:World}{M:Nat->Prop}{b o:Nat}{ks:List Nd}(h:NodesAt w M b o ks){i:Nat}(hi:i<ks.length):∃x,KidsV w M x ks[i].kids/\w.cell? ⟨b,o+i*4,none⟩=some (.int .i64 ks[i].kind)/\w.cell? ⟨b,o+i*4+1,none⟩=some (.string (strOfNums ks[i].text))/\w.cell? ⟨b,o+i*4+2,none⟩=some (.int .i64 ks[i].num)/\w.cell? ⟨b,o+i*4+3,none⟩=some x:=by
 obtain⟨x,hk,hc⟩:=(EI _ _ _ _ _).1 (Ev h i hi)
 rw[show o+4*i=o+i*4 by omega]at hc
 exact⟨x,hk,hc 0 _ rfl,hc 1 _ rfl,hc 2 _ rfl,hc 3 _ rfl⟩
theorem Ot{ks:List Nd}{i:Nat}(hi:i<ks.length):A1 ks[i]<=AA ks:=by
 induction ks generalizing i with
 | nil=>cases hi
 | cons k ks ih=>
  have e:AA (k::ks)=A1 k+AA ks:=by conv=>lhs;unfold AA
  rw[e]
  cases i with
  | zero=>show A1 k<=_;omega
  | succ i=>
   have:=ih (i:=i) (by simp at hi;omega)
   rw[List.getElem_cons_succ]
   omega
theorem SF:∀(N:Nat) (n:Nd),A1 n<=N->∀(M:Nat->Prop) (u:Value) (many:Int) (w:World),0<=many->many<=1000->NodeV w M u n ->
  Calls Tryz.prog 17 #[u,.int .i64 many] w fun e w'=>e=.returned (.int .i64 (G8 n many))/\Below w.heap.size w w':=by
 intro N
 induction N with
 | zero=>intro n hn;cases n with | mk a b c d=>unfold A1 at hn;omega
 | succ N ih=>
  intro n hn M u many w h0 h1 hv
  cases n with
  | mk kd tx nm ks=>
   obtain⟨x,hu,ad,c0,hx,hk⟩:=hv
   obtain⟨c,hcc⟩:∃c,c0+ks.length=c:=⟨_,rfl⟩
   have hx':x=.slice ad ks.length c:=by rw[<-hcc];exact hx
   clear hcc hx
   subst hx'
   have hu':u=.agg #[.int .i64 kd,.string (strOfNums tx),.int .i64 nm,.slice ad ks.length c]:=hu
   subst hu'
   have hsz:AA ks<=N:=by unfold A1 at hn;omega
   have HK:Hid (0<ks.length->∃b o,ad=some ⟨b,o,none⟩/\M b/\b<w.heap.size/\NodesAt w M b o ks):=hk
   have HI:Hid (∀(n:Nd),A1 n<=N->∀(M:Nat->Prop) (u:Value) (many:Int) (w:World),0<=many->many<=1000->NodeV w M u n->Calls Tryz.prog 17 #[u,.int .i64 many] w fun e w'=>e=.returned (.int .i64 (G8 n many))/\Below w.heap.size w w'):=ih
   obtain⟨R,HR⟩:∃R,Hid (Fg ks (many-1)=R):=⟨_,rfl⟩
   have HR2:Hid (G8 (.mk kd tx nm ks) many=R):=by show _=_;unfold G8;exact HR.out
   rw[HR2.out]
   have hw:=C4 (x:=many-1) (by omega) (by omega)
   clear hk ih hn HR2
   go_enter Tryz.func17,Tryz.ntmps17
   go_wp2_with fail
   go_loopw [1,5] (fun s1 s5 wr=>∃(i:Nat) (t:Int),s1=.int .i64 t/\s5=.int .i64 i/\i<=ks.length/\-1<=t/\Hid ((i:Int)+t<=many-1)/\Hid (Fg (ks.drop i) t=R)/\Below (w.alloc (.cells #[.int .i64 kd,.string (strOfNums tx),.int .i64 nm,.slice ad ks.length c] 24)).heap.size (w.alloc (.cells #[.int .i64 kd,.string (strOfNums tx),.int .i64 nm,.slice ad ks.length c] 24)) wr) (fun _ s5 _=>1002-(intOf s5).toNat)
   case atStart=>exact⟨0,many-1,by first | rfl | simp,rfl,by omega,by omega,(show((0:Nat):Int)+(many-1)<=many-1 by omega),HR,Zg _ _⟩
   case round=>
    rename_i wr
    obtain⟨i,t,rfl,rfl,hi,ht,HT,HL,hB⟩:=hrel
    have hcell:wr.cell? ⟨w.heap.size,3,none⟩=some (.slice ad ks.length c):=by
     rw[hB.cell (p:=⟨w.heap.size,3,none⟩) (by simp)]
     exact cell_of_row _ _ _ _ _ _ (heap_alloc_new w _)
    have hbl:w.heap.size<wr.heap.size:=by have:=hB.size;simp at this;omega
    have hBw:Below w.heap.size w wr:=GR hB
    by_cases hlt:i<ks.length
    ·have hil:(i:Int)<(ks.length:Int):=by omega
     by_cases htn:0<=t
     ·obtain⟨b,o,rfl,hMb,hbw,hks⟩:=HK.out (by omega)
      have hkw:NodesAt wr M b o ks:=NodesAt.above (Zk hBw) ks b o hMb hbw hks
      obtain⟨x,hkx,c0,c1,c2,c3⟩:=JE hkw hlt
      have hkx2:=hkx
      obtain⟨adx,cx0,hxx,_⟩:=hkx2
      obtain⟨cx,hcx⟩:∃cx,cx0+ks[i].kids.length=cx:=⟨_,rfl⟩
      rw[hcx]at hxx
      clear hcx
      have hbr:b<wr.heap.size:=by have:=hBw.size;omega
      have hiw:=C4 (x:=(i:Int)+1) (by have:=HT.out;omega) (by have:=HT.out;omega)
      have hcl:=HI.out ks[i] (by have:=Ot hlt;omega) M (.agg (D8 ks[i] x).toArray) t wr htn (by have:=HT.out;omega) ⟨x,rfl,hkx⟩
      have hun:(D8 ks[i] x).toArray=#[.int .i64 ks[i].kind,.string (strOfNums ks[i].text),.int .i64 ks[i].num,x]:=rfl
      rw[hun]at hcl
      have hlp:Hid (Fg (ks.drop (i+1)) (G8 ks[i] t)=R/\G8 ks[i] t=(if(A1 ks[i]:Int)<=t then t-A1 ks[i]else -1)/\1<=A1 ks[i]):=by
       refine⟨?_,KV _ _ htn,?_⟩
       ·have:=HL.out
        rw[Z4 hlt,Fg,if_pos htn]at this
        exact this
       ·cases ks[i]with | mk a b c d=>unfold A1;omega
      subst hxx
      generalize G8 ks[i] t=t' at *
      generalize ks[i].kind=y0 at *
      generalize strOfNums ks[i].text=y1 at *
      generalize ks[i].num=y2 at *
      clear HL hkw hks
      go_wp2_with (first | (go_at_call 17;refine hcl.mono ?_;rintro e w2 ⟨rfl,hb2⟩))
      go_roundw
      case rel=>exact⟨i+1,t',rfl,by simp,by omega,by have:=hlp.out.2;split at this<;>omega,(show((i+1:Nat):Int)+t'<=many-1 by have h1:=hlp.out.2;have h2:=HT.out;push_cast;have:=h1.1;split at this<;>omega),hlp.out.1,hB.trans (hb2.mono hB.size)⟩
      case measure=>have:=HT.out;simp[intOf];omega
     ·have htf:(decide (0<=t))=false:=decide_eq_false htn
      have HE:Hid (t=R):=by
       show _=_
       rw[<-HL.out,Z4 hlt,Fg,if_neg htn]
      go_wp2_with fail
      go_ret
      exact⟨by rw[HE.out];rfl,hBw⟩
    ·have hil:¬(i:Int)<(ks.length:Int):=by omega
     have HE:Hid (t=R):=by
      show _=_
      rw[<-HL.out,Z9 (by omega),Fg]
     go_wp2_with fail
     go_ret
     exact⟨by rw[HE.out];rfl,hBw⟩
theorem JF(n:Nd)(M:Nat->Prop)(u:Value)(w:World)(hv:NodeV w M u n) :
  Calls Tryz.prog 9 #[u] w fun e w'=>e=.returned (.bool (decide (600<A1 n)))/\Below w.heap.size w w':=by
 obtain⟨a,b,c,ad,ln,cp,hu⟩:=NodeV.any hv
 subst hu
 have hl:=SF (A1 n) n (Z0 _) M _ 600 (w.alloc (.cells #[.int .i64 a,.string b,.int .i64 c,.slice ad ln cp] 24)) (by decide) (by decide) (hv.above (Zh (Zf _ _ none) (fun k e=>by cases e)))
 rw[KV _ _ (by decide)]at hl
 by_cases h:600<A1 n
 ·rw[if_neg (by omega)]at hl
  rw[decide_eq_true h]
  clear hv
  go_enter Tryz.func9,Tryz.ntmps9
  go_wp2_with (first | (go_at_call 17;refine hl.mono ?_;rintro e w2 ⟨rfl,hb2⟩))
  go_ret
  exact⟨rfl,GR hb2⟩
 ·rw[if_pos (by omega)]at hl
  rw[decide_eq_false h]
  have hnn:¬(600:Int)-(A1 n:Int)<0:=by omega
  clear hv
  go_enter Tryz.func9,Tryz.ntmps9
  go_wp2_with (first | (go_at_call 17;refine hl.mono ?_;rintro e w2 ⟨rfl,hb2⟩))
  go_ret
  exact⟨congrArg (fun b=>Ending.returned (.bool b)) (decide_eq_false (by omega)),GR hb2⟩
def CP(S:Src9)(x:List Int)(s:PS):Got Bool:=if S.text s=x then(Bx S s).then fun _ s=>.ok (true,s)else .ok (false,s)
theorem Ou{S:Src9}{s:PS}(h:S.text s≠[]):s.tok<S.L.length:=by
 unfold Src9.text at h
 by_cases ht:s.tok<S.L.length
 ·exact ht
 ·rw[if_neg ht]at h;exact absurd rfl h
theorem Td{a b:ByteArray}(h:¬a=b):(a.toList==b.toList)=false:=by
 refine beq_eq_false_iff_ne.2 fun e=>h ?_
 rw[ByteArray.toList_eq,ByteArray.toList_eq]at e
 cases a;cases b
 simp only at e
 rw[Array.ext' e]
theorem Fh(Q B:Nat)(v:Value)(S:Src9)(s:PS)(x:ByteArray)(hx:A7 x≠[])(w:World)(hp:Rdr w Q B v S s) :
  Calls Tryz.prog 49 #[.pointer (some ⟨Q,0,none⟩),.string x] w fun e w'=>BW Q B v S w (fun b u _=>u=.bool b) (CP S (A7 x) s) e w':=by
 have hn:=C6 Q B v S s w hp
 unfold Cr at hn
 have hf1:=Ji
 have htx:=hp.text_bytes
 have HP:Hid (Rdr w Q B v S s):=hp
 by_cases he:strOfNums (S.text s)=x
 ·have e1:S.text s=A7 x:=by rw[<-he,htx]
  have ht:s.tok<S.L.length:=Ou (by rw[e1];exact hx)
  have htk:=fun w' (h':Rdr w' Q B v S s)=>Hd Q B v S s ht w' h'
  have HE:Hid (CP S (A7 x) s=(Bx S s).then fun _ s=>.ok (true,s)):=by show _=_;unfold CP;rw[if_pos e1]
  clear hp e1 ht htx
  rw[he]at hn
  clear he
  cases hg:Bx S s with
  | error f=>
   rw[hg]at htk HE
   have HE2:Hid (CP S (A7 x) s=.error f):=HE.out
   clear HE hg
   go_enter Tryz.func49,Tryz.ntmps49
   go_wp2_with (first | (go_at_call 54;refine hn.mono ?_;rintro e w1 ⟨rfl,hb1⟩) | (go_at_call 70;refine(htk _ (HP.out.below hb1)).mono ?_;rintro e w2 ⟨rfl,hg2⟩))
   exact⟨rfl,by rw[HE2.out];exact⟨rfl,(A3 Q hb1).trans hg2⟩⟩
  | ok y=>
   obtain⟨t,s'⟩:=y
   rw[hg]at htk HE
   have HE2:Hid (CP S (A7 x) s=.ok (true,s')):=HE.out
   clear HE hg
   go_enter Tryz.func49,Tryz.ntmps49
   go_wp2_with (first | (go_at_call 54;refine hn.mono ?_;rintro e w1 ⟨rfl,hb1⟩) | (go_at_call 70;refine(htk _ (HP.out.below hb1)).mono ?_;rintro e w2 ⟨u,rfl,hu,hp2,hg2⟩))
   go_ret
   rw[HE2.out]
   exact⟨_,rfl,rfl,hp2,(A3 Q hb1).trans hg2⟩
 ·have hne:=Td he
  have HE:Hid (CP S (A7 x) s=.ok (false,s)):=by
   show _=_
   unfold CP
   rw[if_neg (fun e=>he (by rw[e,Fs]))]
  clear he hp htx
  go_enter Tryz.func49,Tryz.ntmps49
  go_wp2_with (first | (go_at_call 54;refine hn.mono ?_;rintro e w1 ⟨rfl,hb1⟩))
  go_ret
  rw[HE.out]
  exact⟨_,rfl,rfl,HP.out.below hb1,A3 Q hb1⟩
def Do(S:Src9):List (List Int)->PS->Got Unit
 | [],s=>.ok ((),s)
 | x::xs,s=>(A8 S x s).then fun _ s=>Do S xs s
def TD(w:World)(Q:Nat)(v:Value)(xs:List ByteArray):Prop:=∃b c,v=.slice (some ⟨b,0,none⟩) xs.length c/\b<w.heap.size/\b≠Q/\∀k (h:k<xs.length),w.cell? ⟨b,k,none⟩=some (.string xs[k])
theorem Pe{S:Src9}{xs:List ByteArray}{k:Nat}{sk:PS}(hk:k<xs.length):Do S ((xs.drop k).map A7) sk=(A8 S (A7 xs[k]) sk).then fun _ s=>Do S ((xs.drop (k+1)).map A7) s:=by
 rw[Z4 hk]
 rfl
theorem MH(Q B:Nat)(v:Value)(S:Src9)(hl:AP S)(s:PS)(xs:List ByteArray)(hx:∀x∈xs,D2 (A7 x)=true)(h4:xs.length<=4)(u:Value)(w:World)(hu:TD w Q u xs)(hp:Rdr w Q B v S s) :
  Calls Tryz.prog 34 #[.pointer (some ⟨Q,0,none⟩),u] w fun e w'=>BW Q B v S w (fun _ u _=>u=.tuple #[]) (Do S (xs.map A7) s) e w':=by
 obtain⟨b,c,rfl,hb,hbq,hc⟩:=hu
 have HP:Hid (Rdr w Q B v S s):=hp
 have HC:Hid (∀k (h:k<xs.length),w.cell? ⟨b,k,none⟩=some (.string xs[k])):=hc
 have HX:Hid (∀x∈xs,D2 (A7 x)=true):=hx
 obtain⟨g,HG⟩:∃g,Hid (Do S (xs.map A7) s=g):=⟨_,rfl⟩
 rw[HG.out]
 clear hp hc hx
 go_enter Tryz.func34,Tryz.ntmps34
 go_wp2_with fail
 go_loopw [8] (fun s8 wr=>∃(k:Nat) (sk:PS),s8=.int .i64 k/\k<=xs.length/\Hid (Rdr wr Q B v S sk)/\Hid (w.grownBy wr (some Q))/\Hid (Do S ((xs.drop k).map A7) sk=g)) (fun s8 _=>5-(intOf s8).toNat)
 case atStart=>exact⟨0,s,rfl,by omega,HP,Kz _ _,HG⟩
 case round=>
  rename_i wr
  obtain⟨k,sk,rfl,hk,HR,HW,HN⟩:=hrel
  by_cases hlt:k<xs.length
  ·have hil:(k:Int)<(xs.length:Int):=by omega
   have hc0:wr.cell? ⟨b,k,none⟩=some (.string xs[k]):=by rw[GV HW.out hb hbq];exact HC.out k hlt
   have hpx:=HX.out _ (Z6 hlt)
   have hne:A7 xs[k]≠[]:=fun e=>by rw[e]at hpx;exact absurd hpx (by decide)
   have hts:=Fh Q B v S sk xs[k] hne wr HR.out
   rw[Pe hlt,QR hl hpx]at HN
   have hbw:b<wr.heap.size:=Z5 hb HW.out.size
   generalize xs[k]=x at *
   unfold CP at hts
   clear hpx hne
   by_cases he:S.text sk=A7 x
   ·rw[if_pos he]at hts HN
    cases hg:Bx S sk with
    | error f=>
     rw[hg]at hts HN
     clear he hg
     go_wp2_with (first | (go_at_call 49;refine hts.mono ?_;rintro e w2 ⟨rfl,hg2⟩))
     refine⟨rfl,?_⟩
     rw[<-HN.out]
     exact⟨rfl,HW.out.trans hg2⟩
    | ok y=>
     obtain⟨t,s'⟩:=y
     rw[hg]at hts HN
     have HN2:Hid (Do S ((xs.drop (k+1)).map A7) s'=g):=HN.out
     clear he hg HN
     go_wp2_with (first | (go_at_call 49;refine hts.mono ?_;rintro e w2 ⟨u,rfl,rfl,hp2,hg2⟩))
     go_roundw
     ·exact⟨k+1,s',by simp,by omega,hp2,HW.out.trans hg2,HN2⟩
     ·simp[intOf];omega
   ·rw[if_neg he]at hts HN
    have HN2:Hid (Bu S 12 sk=g):=HN.out
    have hgv:=fun w' (h':Rdr w' Q B v S sk)=>GH Q B v S sk 12 w' h'
    clear he HN
    go_wp2_with (first | (go_at_call 49;refine hts.mono ?_;rintro e w2 ⟨u,rfl,rfl,hp2,hg2⟩) | (go_at_call 36;refine(hgv _ hp2).mono ?_;rintro e w3 ⟨rfl,hg3⟩))
    refine⟨rfl,?_⟩
    rw[<-HN2.out]
    exact⟨rfl,(HW.out.trans hg2).trans hg3⟩
  ·have hil:¬(k:Int)<(xs.length:Int):=by omega
   have HN2:Hid (g=.ok ((),sk)):=by
    show _=_
    rw[<-HN.out,Z9 (by omega)]
    rfl
   clear HN
   go_wp2_with fail
   rw[HN2.out]
   exact bodyPost_end (v:=.tuple #[]) (by simp[results,Tryz.results34,go_sem]) rfl ⟨_,rfl,rfl,HR.out,HW.out⟩
theorem Qr(Q B:Nat)(v:Value)(S:Src9)(hl:AP S)(s:PS)(w:World)(hp:Rdr w Q B v S s) :
  Calls Tryz.prog 71 #[.pointer (some ⟨Q,0,none⟩)] w fun e w'=>BW Q B v S w (fun x u _=>u=.string (strOfNums x)) (Ae S s) e w':=by
 have hn:=C6 Q B v S s w hp
 unfold Cr at hn
 have hf0:=GW
 have HP:Hid (Rdr w Q B v S s):=hp
 by_cases hi:isB S 1 s=true
 ·have HE:Hid (Ae S s=Bx S s):=by show _=_;rw[Lv hl,if_pos hi]
  have hk:S.kind s=1:=by
   unfold isB at hi
   simp only[Bool.and_eq_true,decide_eq_true_eq,beq_iff_eq]at hi
   unfold Src9.kind
   rw[if_pos hi.1]
   exact hi.2
  have ht:s.tok<S.L.length:=by
   unfold isB at hi
   simp only[Bool.and_eq_true,decide_eq_true_eq]at hi
   exact hi.1
  have htk:=fun w' (h':Rdr w' Q B v S s)=>Hd Q B v S s ht w' h'
  rw[hk]at hn
  rw[HE.out]
  clear hi hk hp ht HE
  cases hg:Bx S s with
  | error f=>
   rw[hg]at htk
   clear hg
   go_enter Tryz.func71,Tryz.ntmps71
   go_wp2_with (first | (go_at_call 54;refine hn.mono ?_;rintro e w1 ⟨rfl,hb1⟩) | (go_at_call 70;refine(htk _ (HP.out.below hb1)).mono ?_;rintro e w2 ⟨rfl,hg2⟩))
   exact⟨rfl,rfl,(A3 Q hb1).trans hg2⟩
  | ok y=>
   obtain⟨t,s'⟩:=y
   rw[hg]at htk
   clear hg
   go_enter Tryz.func71,Tryz.ntmps71
   go_wp2_with (first | (go_at_call 54;refine hn.mono ?_;rintro e w1 ⟨rfl,hb1⟩) | (go_at_call 70;refine(htk _ (HP.out.below hb1)).mono ?_;rintro e w2 ⟨u,rfl,rfl,hp2,hg2⟩))
   go_ret
   exact⟨_,rfl,rfl,hp2,(A3 Q hb1).trans hg2⟩
 ·have HE:Hid (Ae S s=Bu S 12 s):=by show _=_;rw[Lv hl,if_neg hi]
  have hk:(S.kind s != 1)=true:=by
   rw[bne_iff_ne]
   intro hk
   unfold Src9.kind at hk
   by_cases ht:s.tok<S.L.length
   ·rw[if_pos ht]at hk
    exact hi (by unfold isB;rw[decide_eq_true ht,hk];rfl)
   ·rw[if_neg ht]at hk
    exact absurd hk (by decide)
  have hgv:=fun w' (h':Rdr w' Q B v S s)=>GH Q B v S s 12 w' h'
  rw[HE.out]
  generalize S.kind s=kd at *
  clear hi hp HE
  go_enter Tryz.func71,Tryz.ntmps71
  go_wp2_with (first | (go_at_call 54;refine hn.mono ?_;rintro e w1 ⟨rfl,hb1⟩) | (go_at_call 36;refine(hgv _ (HP.out.below hb1)).mono ?_;rintro e w2 ⟨rfl,hg2⟩))
  exact⟨rfl,rfl,(A3 Q hb1).trans hg2⟩
def Bo(w0:World)(n:Nd)(u:Value)(w':World):Prop:=NodeV w' (Be w0.heap.size) u n
def AM(K:Nat)(X:PS->Got Nd)(Q B:Nat)(v:Value)(S:Src9)(s:PS):Prop:=∀w,Rdr w Q B v S s ->
 Calls Tryz.prog K #[.pointer (some ⟨Q,0,none⟩)] w fun e w'=>BW Q B v S w (Bo w) (X s) e w'
abbrev A6:Obj:=.cells #[.int .i64 0,.string ⟨#[]⟩,.int .i64 0,.slice none 0 0] 24
theorem G1{w:World}{Q B R:Nat}{v:Value}{S:Src9}{s:PS}(h:Rdr w Q B v S s)(hR:B<=R)(a b c d:Value):Rdr ((((w.setCell ⟨R,0,none⟩ a).setCell ⟨R,1,none⟩ b).setCell ⟨R,2,none⟩ c).setCell ⟨R,3,none⟩ d) Q B v S s:=
 h.apart (((((Zg _ _).setCell hR _).setCell hR _).setCell hR _).setCell hR _)
theorem B5{w w3:World}{Q B:Nat}{v:Value}{S:Src9}{s':PS}{n:Nd}{a b c d:Value}(hv:NodeV w3 (Be (w.heap.size+1)) (.agg #[a,b,c,d]) n)(hp:Rdr w3 Q B v S s')(hg:w.grownBy w3 (some Q))(hB:B<=w.heap.size) :
  BW Q B v S w (Bo w) (.ok (n,s')) (.returned (.agg #[a,b,c,d])) ((((w3.setCell ⟨w.heap.size,0,none⟩ a).setCell ⟨w.heap.size,1,none⟩ b).setCell ⟨w.heap.size,2,none⟩ c).setCell ⟨w.heap.size,3,none⟩ d):=by
 refine⟨_,rfl,?_,G1 hp hB _ _ _ _,Bf hg (Eg (Z0 _) _ _ _ _)⟩
 exact(hv.above (Ef (R:=w.heap.size) (by show ¬w.heap.size+1<=w.heap.size;omega) _ _ _ _)).mono (fun k hk _=>by have hk':w.heap.size+1<=k:=hk;show w.heap.size<=k;omega)
theorem CY(kind:Int)(ad:Option Addr)(n c:Nat)(w:World) :
  Calls Tryz.prog 37 #[.int .i64 kind,.slice ad n c] w fun e w'=>e=.returned (.agg #[.int .i64 kind,.string ⟨#[]⟩,.int .i64 0,.slice ad n c])/\Below w.heap.size w w':=by
 go_enter Tryz.func37,Tryz.ntmps37
 go_wp2
 exact bodyPost_ret (v:=.agg #[.int .i64 kind,.string ⟨#[]⟩,.int .i64 0,.slice ad n c]) (by simp[results,Tryz.results37,go_sem]) rfl ⟨rfl,(Zg _ w).alloc (Z0 _) _⟩
theorem DM(Q B:Nat)(v:Value)(S:Src9)(hl:AP S)(s:PS)(kind:Int)(w:World)(hp:Rdr w Q B v S s) :
  Calls Tryz.prog 50 #[.pointer (some ⟨Q,0,none⟩),.int .i64 kind] w fun e w'=>BW Q B v S w (fun x u _=>u=.agg #[.int .i64 kind,.string (strOfNums x),.int .i64 0,.slice none 0 0]) (Ae S s) e w':=by
 have hB:=hp.size
 have hqb:=hp.qb
 have HPA:Hid (Rdr (w.alloc A6) Q B v S s):=hp.below ((Zg _ w).alloc (Z0 _) _)
 have HX:Hid (Box4 (w.alloc A6) w.heap.size (.int .i64 0) (.string ⟨#[]⟩) (.int .i64 0) (.slice none 0 0)):=Box4.new _ _ _ _ _
 have hn:=fun w' (h':Rdr w' Q B v S s)=>Qr Q B v S hl s w' h'
 clear hp
 cases hg:Ae S s with
 | error f=>
  rw[hg]at hn
  clear hg
  go_enter Tryz.func50,Tryz.ntmps50
  go_wp2_with (first | (go_at_call 71;refine(hn _ HPA.out).mono ?_;rintro e w1 ⟨rfl,hg1⟩))
  exact⟨rfl,rfl,(Zf w A6 (some Q)).trans hg1⟩
 | ok y=>
  obtain⟨x,s'⟩:=y
  rw[hg]at hn
  clear hg
  go_enter Tryz.func50,Tryz.ntmps50
  go_wp2_with (first | (go_at_call 71;refine(hn _ HPA.out).mono ?_;rintro e w1 ⟨u,rfl,rfl,hp1,hg1⟩;obtain⟨⟨x0,x1,x2,x3⟩,f0,f1,f2,f3⟩:=(HX.out.grown hg1 (by omega)).facts))
  refine bodyPost_ret (v:=.agg #[.int .i64 kind,.string (strOfNums x),.int .i64 0,.slice none 0 0]) (by simp[results,Tryz.results50,go_sem,x0,x1,x2,x3]) rfl ⟨_,rfl,rfl,G1 hp1 hB _ _ _ _,Bf ((Zf w A6 (some Q)).trans hg1) (Eg (Z0 _) _ _ _ _)⟩
def DY(M:List (ByteArray×Int))(i:Nat):List MapEntry:=match M with
 | []=>[]
 | p::r=>{ key:=.string p.1,val:=.int .i64 p.2,born:=i }::DY r (i+1)
def CM(M:List (ByteArray×Int)):Obj:=.map (DY M 0).toArray M.length
def CS(M:List (ByteArray×Int))(x:ByteArray):Option Int:=match M with
 | []=>none
 | p::r=>if x=p.1 then some p.2 else CS r x
theorem Ov(a b:ByteArray):(a==b)=decide (a=b):=by
 cases a with
 | mk x=>
  cases b with
  | mk y=>
   show(x==y)=_
   by_cases h:x=y
   ·subst h;simp
   ·rw[decide_eq_false (by simpa using h)];exact beq_eq_false_iff_ne.2 h
theorem IV(x:ByteArray):∀(M:List (ByteArray×Int)) (i j:Nat),Instr.findNow .string (.string x) (DY M i) j=some ((CS M x).map fun k=>(j+(M.findIdx fun p=>x==p.1),.int .i64 k))
 | [],i,j=>rfl
 | p::r,i,j=>by
  unfold DY CS
  rw[Instr.findNow]
  simp only[Instr.sameNow,List.findIdx_cons]
  by_cases h:x=p.1
  ·rw[if_pos h,Ov,decide_eq_true h]
   rfl
  ·rw[if_neg h,Ov,decide_eq_false h]
   simp only[cond_false]
   rw[IV x r (i+1) (j+1)]
   cases CS r x with
   | none=>rfl
   | some k=>simp only[Option.map_some];congr 3;omega
theorem IW:Tryz.prog.underlying 111=some (.map 9 3):=by kernel_rfl
theorem He:Tryz.prog.underlying 9=some .string:=by kernel_rfl
theorem Ty(w:World):(zeroValue 3).run Tryz.prog w=.ok (.int .i64 0) w:=by kernel_rfl
theorem NN{M:List (ByteArray×Int)}{m:Nat}{w:World}(h:w.heap[m]?=some (CM M))(x:ByteArray):(Instr.lookup 111 (.map (some m)) (.string x) true).run Tryz.prog w=.ok (.tuple #[.int .i64 ((CS M x).getD 0),.bool (CS M x).isSome]) w:=by
 have hf:=IV x M 0 0
 have hc:∀em,(Instr.checkKey em 10000 9 (.string x)).run Tryz.prog w=.ok () w:=fun em=>MapKept.run_checkKey (P:=Tryz.prog) He (by constructor) em 9999
 have h3:=Ty w
 unfold CM at h
 have h2:(Instr.findKey 9 (.string x) (DY M 0).toArray.toList).run Tryz.prog w=.ok _ w:=MapKept.run_findKey He hf
 generalize (DY M 0).toArray=es at *
 cases hm:CS M x with
 | none=>
  rw[hm,Option.map_none]at h2
  simp[Instr.lookup,run_underlying IW,MapKept.run_getObj_map h,hc,h2,h3,Result.andThen]
 | some k=>
  rw[hm,Option.map_some]at h2
  simp[Instr.lookup,run_underlying IW,MapKept.run_getObj_map h,hc,h2,Result.andThen]
theorem MI:∀(M N:List (ByteArray×Int)) (i:Nat),DY (M++N) i=DY M i++DY N (i+M.length)
 | [],N,i=>rfl
 | p::r,N,i=>by
  show _::DY (r++N) (i+1)=_::(DY r (i+1)++DY N (i+(r.length+1)))
  rw[MI r N (i+1),show i+1+r.length=i+(r.length+1) by omega]
theorem SG(h:Array Obj)(o o':Obj):(h.push o).setIfInBounds h.size o'=h.push o':=by
 apply Array.ext
 ·simp
 ·intro j h1 h2
  simp only[Array.size_setIfInBounds,Array.size_push]at h1
  by_cases hj:j=h.size
  ·subst hj;simp
  ·rw[Array.getElem_setIfInBounds_ne (by simp;omega) (by omega),Array.getElem_push_lt (by omega),Array.getElem_push_lt (by omega)]
theorem Qs(w:World)(o o':Obj):{ w.alloc o with heap:=(w.alloc o).heap.setIfInBounds w.heap.size o' }=w.alloc o':=by
 show World.mk ((w.heap.push o).setIfInBounds w.heap.size o') _ _ _ _=World.mk (w.heap.push o') _ _ _ _
 rw[SG]
 rfl
theorem Gu{M:List (ByteArray×Int)}{x:ByteArray}{k:Int}(h:CS M x=none)(w:World):(Instr.mapUpdate 111 (.map (some w.heap.size)) (.string x) (.int .i64 k)).run Tryz.prog (w.alloc (CM M))=.ok () (w.alloc (CM (M++[(x,k)]))):=by
 have hb:(w.alloc (CM M)).heap[w.heap.size]?=some (CM M):=(MapKept.heap_alloc w _).1
 have hf:=IV x M 0 0
 rw[h,Option.map_none]at hf
 have hc:∀em,(Instr.checkKey em 10000 9 (.string x)).run Tryz.prog (w.alloc (CM M))=.ok () (w.alloc (CM M)):=fun em=>MapKept.run_checkKey (P:=Tryz.prog) He (by constructor) em 9999
 have h2:(Instr.findKey 9 (.string x) (DY M 0).toArray.toList).run Tryz.prog (w.alloc (CM M))=.ok none (w.alloc (CM M)):=MapKept.run_findKey He hf
 have e:CM (M++[(x,k)])=.map ((DY M 0).toArray.push { key:=.string x,val:=.int .i64 k,born:=M.length }) (M.length+1):=by
  have e1:DY (M++[(x,k)]) 0=DY M 0++[{ key:=.string x,val:=.int .i64 k,born:=M.length }]:=by rw[MI,Nat.zero_add];rfl
  unfold CM
  rw[e1,Z1,List.push_toArray]
  rfl
 rw[e]
 have hs:=fun o=>Qs w (CM M) o
 have hb':(w.alloc (CM M)).heap[w.heap.size]?=some (.map (DY M 0).toArray M.length):=hb
 clear hf e hb
 generalize w.alloc (CM M)=w1 at *
 generalize (DY M 0).toArray=es at *
 simp[Instr.mapUpdate,run_underlying IW,MapKept.run_getObj_map hb',hc,h2,MapKept.run_setObj_map _ hb',Result.andThen]
 exact hs _
theorem ZC(w:World):Hid (Box4 (w.alloc A6) w.heap.size (.int .i64 0) (.string ⟨#[]⟩) (.int .i64 0) (.slice none 0 0)):=Box4.new _ _ _ _ _
def Cj(S:Src9)(X:PS->Got Nd)(M:List (ByteArray×Int))(n:Nd)(s:PS):Got (Nd×Bool):=match CS M (strOfNums (S.text s))with
 | none=>.ok ((n,false),s)
 | some kd=>(Bx S s).then fun _ s=>(X s).then fun k s=>.ok ((.mk kd [] 0 [n,k],true),s.node)
structure Part(K:Nat)(X:PS->Got Nd)(Q B:Nat)(v:Value)(S:Src9)(lo:Nat):Prop where
 enters:∀(args:Array Value) (w:World),Sem.run Tryz.prog (callFunc K args) w=.ok (.enter K args) w
 reads:∀s:PS,lo<=s.tok->s.tok<=S.L.length->AM K X Q B v S s
def Sl(M0:Nat->Prop)(r:Nd×Bool)(u:Value)(w':World):Prop:=∃u0,u=.tuple #[u0,.bool r.2]/\NodeV w' M0 u0 r.1
theorem TE{M:List (ByteArray×Int)}{S:Src9}{s:PS}{kd:Int}(hM:∀p∈M,p.1≠⟨#[]⟩)(h:CS M (strOfNums (S.text s))=some kd):s.tok<S.L.length:=by
 refine Ou fun e=>?_
 rw[e]at h
 have key:∀M:List (ByteArray×Int),(∀p∈M,p.1≠⟨#[]⟩)->CS M (strOfNums [])=none:=by
  intro M
  induction M with
  | nil=>intro _;rfl
  | cons p r ih=>
   intro h
   unfold CS
   rw[if_neg (fun e=>h p (Z7 ..) e.symm)]
   exact ih fun q hq=>h q (Z8 _ hq)
 rw[key M hM]at h
 cases h
theorem NO{S:Src9}{s s1:PS}{x:List Int}(h:Bx S s=.ok (x,s1)):s1.tok=s.tok+1:=by
 unfold Bx at h
 split at h
 ·split at h
  ·cases h
  ·cases h;rfl
 ·split at h
  ·cases h;rfl
  ·cases h;rfl
theorem NodeV.kept{w w':World}{M0:Nat->Prop}{Q:Nat}{u:Value}{n:Nd}(h:NodeV w M0 u n)(hg:w.grownBy w' (some Q))(hq:¬M0 Q):NodeV w' M0 u n:=
 h.above (Zh hg (fun k e=>by injection e with e;subst e;exact hq))
theorem MJ(K:Nat)(X:PS->Got Nd)(Q B:Nat)(M0:Nat->Prop)(v:Value)(S:Src9)(M:List (ByteArray×Int))(hM:∀p∈M,p.1≠⟨#[]⟩)(m:Nat)(s:PS)(hX:Part K X Q B v S (s.tok+1))(n:Nd)(a b c:Value)(ad:Option Addr)(ln cp:Nat)(w:World)(hv:NodeV w M0 (.agg #[a,b,c,.slice ad ln cp]) n)(hMq:¬M0 Q)(hMn:∀j,w.heap.size<=j->M0 j)(hm:w.heap[m]?=some (CM M))(hp:Rdr w Q B v S s) :
  Calls Tryz.prog 95 #[.pointer (some ⟨Q,0,none⟩),.agg #[a,b,c,.slice ad ln cp],.func (.func K) #[.pointer (some ⟨Q,0,none⟩)] #[],.map (some m)] w fun e w'=>BW Q B v S w (Sl M0) (Cj S X M n s) e w':=by
 obtain⟨ka,tb,nc,hABC⟩:∃ka tb nc,a=.int .i64 ka/\b=.string tb/\c=.int .i64 nc:=by
  obtain⟨k,t,m',ad',n',c',h⟩:=hv.any
  simp only[Value.agg.injEq]at h
  have:=congrArg Array.toList h
  simp at this
  exact⟨k,t,m',this.1,this.2.1,this.2.2.1⟩
 obtain⟨rfl,rfl,rfl⟩:=hABC
 have hB:=hp.size
 have hqb:=hp.qb
 have htok:=hp.tok
 have hmlt:m<w.heap.size:=(Array.getElem?_eq_some_iff.1 hm).1
 obtain⟨w0,HW0⟩:∃w0,Hid (w0=(w.alloc (.cells #[.int .i64 ka,.string tb,.int .i64 nc,.slice ad ln cp] 24)).alloc A6):=⟨_,rfl⟩
 have hb0:Below w.heap.size w w0:=by rw[HW0.out];exact((Zg _ w).alloc (Z0 _) _).alloc (by simp) _
 have HP0:Hid (Rdr w0 Q B v S s):=hp.below hb0
 have HN0:Hid (Box4 w0 w.heap.size (.int .i64 ka) (.string tb) (.int .i64 nc) (.slice ad ln cp)):=by show Box4 _ _ _ _ _ _;rw[HW0.out];exact(Box4.new _ _ _ _ _).alloc _
 have HX0:Hid (Box4 w0 (w.heap.size+1) (.int .i64 0) (.string ⟨#[]⟩) (.int .i64 0) (.slice none 0 0)):=by show Box4 _ _ _ _ _ _;rw[HW0.out];have:=Box4.new (w.alloc (.cells #[.int .i64 ka,.string tb,.int .i64 nc,.slice ad ln cp] 24)) (.int .i64 0) (.string ⟨#[]⟩) (.int .i64 0) (.slice none 0 0);simpa using this
 have HV:Hid (NodeV w M0 (.agg #[.int .i64 ka,.string tb,.int .i64 nc,.slice ad ln cp]) n):=hv
 have hs0:w0.heap.size=w.heap.size+2:=by rw[HW0.out];simp
 have hn:=C6 Q B v S s w0 HP0.out
 unfold Cr at hn
 have hf1:=Ji
 have hent:=hX.enters
 cases hfm:CS M (strOfNums (S.text s))with
 | none=>
  have HE:Hid (Cj S X M n s=.ok ((n,false),s)):=by show _=_;unfold Cj;rw[hfm]
  have hlk:∀w1,Below w0.heap.size w0 w1->(Instr.lookup 111 (.map (some m)) (.string (strOfNums (S.text s))) true).run Tryz.prog w1=.ok (.tuple #[.int .i64 0,.bool false]) w1:=fun w1 hb1=>by
   have:=NN (w:=w1) (m:=m) (M:=M) (by rw[hb1.block m (by omega),hb0.block m hmlt];exact hm) (strOfNums (S.text s))
   rw[hfm]at this
   exact this
  rw[HE.out]
  generalize strOfNums (S.text s)=tx at *
  clear HE hfm hp hv hm hX hs0
  have ew:=HW0.out
  clear HW0
  subst ew
  go_enter Tryz.func95,Tryz.ntmps95
  go_wp2_with (first | (go_at_call 54;refine hn.mono ?_;rintro e w1 ⟨rfl,hb1⟩;have hlk1:=hlk w1 hb1;obtain⟨⟨n0,n1,n2,n3⟩,g0,g1,g2,g3⟩:=(HN0.out.grown (A3 Q hb1) (by omega)).facts;obtain⟨⟨x0,x1,x2,x3⟩,f0,f1,f2,f3⟩:=(HX0.out.grown (A3 Q hb1) (by omega)).facts))
  have hg1:w.grownBy w1 (some Q):=A3 Q (hb0.trans (hb1.mono hb0.size))
  have hgw:=Bf hg1 (Eg (w:=w1) (B:=w.heap.size) (R:=w.heap.size+1) (by omega) (.int .i64 ka) (.string tb) (.int .i64 nc) (.slice ad ln cp))
  exact bodyPost_ret (v:=.tuple #[.agg #[.int .i64 ka,.string tb,.int .i64 nc,.slice ad ln cp],.bool false]) (by simp[results,Tryz.results95,go_sem,x0,x1,x2,x3]) rfl ⟨_,rfl,⟨_,rfl,HV.out.kept hgw hMq⟩,G1 (HP0.out.below hb1) (by omega) _ _ _ _,hgw⟩
 | some kd=>
  have ht:=TE hM hfm
  have hlk:∀w1,Below w0.heap.size w0 w1->(Instr.lookup 111 (.map (some m)) (.string (strOfNums (S.text s))) true).run Tryz.prog w1=.ok (.tuple #[.int .i64 kd,.bool true]) w1:=fun w1 hb1=>by
   have:=NN (w:=w1) (m:=m) (M:=M) (by rw[hb1.block m (by omega),hb0.block m hmlt];exact hm) (strOfNums (S.text s))
   rw[hfm]at this
   exact this
  have htk:=fun w' (h':Rdr w' Q B v S s)=>Hd Q B v S s ht w' h'
  cases hg:Bx S s with
  | error f=>
   have HE:Hid (Cj S X M n s=.error f):=by show _=_;unfold Cj;rw[hfm];dsimp only;rw[hg];rfl
   rw[hg]at htk
   rw[HE.out]
   generalize strOfNums (S.text s)=tx at *
   clear HE hfm hp hv hm hX hs0 hg
   have ew:=HW0.out
   clear HW0
   subst ew
   go_enter Tryz.func95,Tryz.ntmps95
   go_wp2_with (first | (go_at_call 54;refine hn.mono ?_;rintro e w1 ⟨rfl,hb1⟩;have hlk1:=hlk w1 hb1) | (go_at_call 70;refine(htk _ (HP0.out.below hb1)).mono ?_;rintro e w2 ⟨rfl,hg2⟩))
   exact⟨rfl,rfl,(A3 Q (hb0.trans (hb1.mono hb0.size))).trans hg2⟩
  | ok y=>
   obtain⟨t,s1⟩:=y
   have e1:=NO hg
   rw[hg]at htk
   have hr:=hX.reads s1 (by omega) (by omega)
   unfold AM at hr
   cases hx1:X s1 with
   | error f=>
    have HE:Hid (Cj S X M n s=.error f):=by show _=_;unfold Cj;rw[hfm];dsimp only;rw[hg,then_ok,hx1];rfl
    rw[hx1]at hr
    rw[HE.out]
    generalize strOfNums (S.text s)=tx at *
    clear HE hfm hp hv hm hX hs0 hg hx1 e1
    have ew:=HW0.out
    clear HW0
    subst ew
    go_enter Tryz.func95,Tryz.ntmps95
    go_wp2_with (first | (go_at_call 54;refine hn.mono ?_;rintro e w1 ⟨rfl,hb1⟩;have hlk1:=hlk w1 hb1;have hN1:=HN0.out.grown (A3 Q hb1) (by omega)) | (go_at_call 70;refine(htk _ (HP0.out.below hb1)).mono ?_;rintro e w2 ⟨u,rfl,rfl,hp2,hg2⟩;obtain⟨⟨n0,n1,n2,n3⟩,g0,g1,g2,g3⟩:=(hN1.grown hg2 (by omega)).facts;have hltn:=(hN1.grown hg2 (by omega)).lt))
    go_region_dies
    all_goals (refine(hr _ (hp2.below (Zg _ _).drew)).mono ?_;rintro e w3 ⟨rfl,hg3⟩;exact⟨rfl,rfl,((A3 Q (hb0.trans (hb1.mono hb0.size))).trans hg2).trans ((A3 Q (Zg _ _).drew).trans hg3)⟩)
   | ok z=>
    obtain⟨k,s2⟩:=z
    have HE:Hid (Cj S X M n s=.ok ((.mk kd [] 0 [n,k],true),s2.node)):=by show _=_;unfold Cj;rw[hfm];dsimp only;rw[hg,then_ok,hx1];rfl
    rw[hx1]at hr
    rw[HE.out]
    generalize strOfNums (S.text s)=tx at *
    clear HE hfm hp hv hm hX hs0 hg hx1 e1
    have ew:=HW0.out
    clear HW0
    subst ew
    go_enter Tryz.func95,Tryz.ntmps95
    go_wp2_with (first | (go_at_call 54;refine hn.mono ?_;rintro e w1 ⟨rfl,hb1⟩;have hlk1:=hlk w1 hb1;have hN1:=HN0.out.grown (A3 Q hb1) (by omega);have hX1:=HX0.out.grown (A3 Q hb1) (by omega)) | (go_at_call 70;refine(htk _ (HP0.out.below hb1)).mono ?_;rintro e w2 ⟨u,rfl,rfl,hp2,hg2⟩;have hN2:=hN1.grown hg2 (by omega);have hX2:=hX1.grown hg2 (by omega);obtain⟨⟨n0,n1,n2,n3⟩,g0,g1,g2,g3⟩:=hN2.facts;have hltn:=hN2.lt))
    go_region_with (first | (go_at_call 37;refine(CY _ _ _ _ _).mono ?_;rintro e w4 ⟨rfl,hb4⟩;obtain⟨⟨x0,x1,x2,x3⟩,f0,f1,f2,f3⟩:=((hX3.alloc _).grown (A3 Q hb4) (by omega)).facts) | (refine(hr _ (hp2.below (Zg _ _).drew)).mono ?_;rintro e w3 ⟨u3,rfl,hv3,hp3,hg3⟩;obtain⟨a',b',c',ad',n',cc',hu'⟩:=NodeV.any hv3;subst hu';have hg3':=(A3 Q (Zg w2.heap.size w2).drew).trans hg3;have hX3:=hX2.grown hg3' (by omega);obtain⟨⟨m0,m1,m2,m3⟩,_⟩:=(hN2.grown hg3' (by omega)).facts))
    all_goals go_wp2_with fail
    all_goals
     have hlt2:=hX2.lt
     have hl3:=hg3'.size
     have hga:w.grownBy w3 (some Q):=((A3 Q (hb0.trans (hb1.mono hb0.size))).trans hg2).trans hg3'
     have hn3:NodeV w3 (fun j=>M0 j/\j≠w.heap.size+1) (.agg #[.int .i64 ka,.string tb,.int .i64 nc,.slice ad ln cp]) n:=(HV.out.mono (M':=fun j=>M0 j/\j≠w.heap.size+1) (fun j hj hlt=>⟨hj,by omega⟩)).above (Zh hga (fun k e=>by injection e with e;subst e;rintro⟨h,_⟩;exact hMq h))
     have hk3:NodeV w3 (fun j=>M0 j/\j≠w.heap.size+1) (.agg #[.int .i64 a',.string b',.int .i64 c',.slice ad' n' cc']) k:=Zi hv3 (fun j hj _=>by have hj':w2.heap.size<=j:=hj;exact⟨hMn j (by omega),by omega⟩)
     have hkk:=Gt (kind:=kd) (tx:=[]) (Pf (T:=24) hn3 hk3 ⟨hMn _ (by omega),by omega⟩ 2)
     have hgb:w.grownBy w4 (some Q):=(hga.trans (Zf _ _ _)).trans (A3 Q hb4)
     refine bodyPost_ret (v:=.tuple #[.agg #[.int .i64 kd,.string ⟨#[]⟩,.int .i64 0,.slice (some ⟨w3.heap.size,0,none⟩) 2 2],.bool true]) (by simp[results,Tryz.results95,go_sem,x0,x1,x2,x3]) rfl ⟨_,rfl,⟨_,rfl,?_⟩,(G1 ((hp3.below ((Zg _ _).alloc (Z0 _) _)).below hb4) (by omega) _ _ _ _).many _,Bf hgb (Eg (R:=w.heap.size+1) (by omega) _ _ _ _)⟩
     exact((hkk.above (Zk hb4)).above (Ef (R:=w.heap.size+1) (by rintro⟨_,h⟩;exact h rfl) _ _ _ _)).mono (fun j hj _=>hj.1)
def tokOf(w:World)(Q:Nat):Nat:=match w.cell? ⟨Q,1,none⟩with
 | some (.int _ t)=>t.toNat
 | _=>0
def Tz(v:Value):Nat:=match v with
 | .bool true=>1
 | _=>0
theorem Rdr.tokOf{w:World}{Q B:Nat}{v:Value}{S:Src9}{s:PS}(h:Rdr w Q B v S s):tokOf w Q=s.tok:=by
 unfold Go.Proofs.YtbglpanjpadldaaGreatDoor.tokOf
 rw[h.obj.cells.2.1]
 simp
theorem Part.less{K:Nat}{X:PS->Got Nd}{Q B:Nat}{v:Value}{S:Src9}{lo lo':Nat}(h:Part K X Q B v S lo)(hl:lo<=lo'):Part K X Q B v S lo':=⟨h.enters,fun s h1 h2=>h.reads s (by omega) h2⟩
theorem SH{S:Src9}{X:PS->Got Nd}(hat:∀s n s',X s=.ok (n,s')->s.tok+1<=s'.tok){M:List (ByteArray×Int)}{n n':Nd}{s s':PS}{b:Bool}(h:Cj S X M n s=.ok ((n',b),s')):s.tok<=s'.tok/\(b=true->s.tok+1<=s'.tok):=by
 unfold Cj at h
 split at h
 ·cases h;exact⟨Z0 _,fun e=>by cases e⟩
 ·cases hg:Bx S s with
  | error f=>rw[hg]at h;cases h
  | ok y=>
   obtain⟨t,s1⟩:=y
   rw[hg,then_ok]at h
   have e1:=NO hg
   cases hx:X s1 with
   | error f=>rw[hx]at h;cases h
   | ok z=>
    obtain⟨k,s2⟩:=z
    rw[hx,then_ok]at h
    have e2:=hat _ _ _ hx
    cases h
    have e3:s2.node.tok=s2.tok:=rfl
    exact⟨by omega,fun _=>by omega⟩
theorem L4(K:Nat)(X:PS->Got Nd)(Q B:Nat)(v:Value)(S:Src9)(M:List (ByteArray×Int))(hM:∀p∈M,p.1≠⟨#[]⟩)(m:Nat)(L:Nd->PS->Got Nd)(hL:∀n s,L n s=(Cj S X M n s).then fun r s=>if r.2=true then L r.1 s else .ok (r.1,s))(hat:∀s n s',X s=.ok (n,s')->s.tok+1<=s'.tok)(s:PS)(hX:Part K X Q B v S s.tok)(w:World)(hm:w.heap[m]?=some (CM M))(hmq:m≠Q)(hp:Rdr w Q B v S s) :
  Calls Tryz.prog 110 #[.pointer (some ⟨Q,0,none⟩),.func (.func K) #[.pointer (some ⟨Q,0,none⟩)] #[],.map (some m)] w fun e w'=>BW Q B v S w (Bo w) ((X s).then L) e w':=by
 have hB:=hp.size
 have hqb:=hp.qb
 have htok:=hp.tok
 have hmlt:m<w.heap.size:=(Array.getElem?_eq_some_iff.1 hm).1
 have HPA:Hid (Rdr (w.alloc A6) Q B v S s):=hp.below ((Zg _ w).alloc (Z0 _) _)
 have HX:=ZC w
 have HM:Hid (w.heap[m]?=some (CM M)):=hm
 have HPt:Hid (Part K X Q B v S s.tok):=hX
 have hent:=hX.enters
 have hr:=hX.reads s (Z0 _) htok
 unfold AM at hr
 clear hp hm hX
 cases hx1:X s with
 | error f=>
  rw[hx1]at hr
  clear hx1
  go_enter Tryz.func110,Tryz.ntmps110
  go_wp2_with (first | (refine(hr _ HPA.out).mono ?_;rintro e w1 ⟨rfl,hg1⟩))
  exact⟨rfl,rfl,(Zf w A6 (some Q)).trans hg1⟩
 | ok y=>
  obtain⟨n0,s0⟩:=y
  rw[hx1]at hr
  have hs0:=hat _ _ _ hx1
  rw[then_ok]
  obtain⟨g,HG⟩:∃g,Hid (L n0 s0=g):=⟨_,rfl⟩
  rw[HG.out]
  clear hx1
  go_enter Tryz.func110,Tryz.ntmps110
  go_wp2_with (first | (refine(hr _ HPA.out).mono ?_;rintro e w1 ⟨u,rfl,hv1,hp1,hg1⟩;obtain⟨a,b,c,ad,ln,cp,hu⟩:=NodeV.any hv1;subst hu))
  have hX1:=HX.out.grown hg1 (by omega)
  have hwl:=hX1.lt
  have HP1:Hid (Rdr (w1.alloc (.cells #[.int .i64 a,.string b,.int .i64 c,.slice ad ln cp] 24)) Q B v S s0):=hp1.below ((Zg _ _).alloc (Z0 _) _)
  have HX1:Hid (Box4 (w1.alloc (.cells #[.int .i64 a,.string b,.int .i64 c,.slice ad ln cp] 24)) w.heap.size (.int .i64 0) (.string ⟨#[]⟩) (.int .i64 0) (.slice none 0 0)):=hX1.alloc _
  have HR1:Hid (Box4 (w1.alloc (.cells #[.int .i64 a,.string b,.int .i64 c,.slice ad ln cp] 24)) w1.heap.size (.int .i64 a) (.string b) (.int .i64 c) (.slice ad ln cp)):=Box4.new _ _ _ _ _
  have HN1:Hid (NodeV (w1.alloc (.cells #[.int .i64 a,.string b,.int .i64 c,.slice ad ln cp] 24)) (fun j=>w.heap.size+1<=j/\j≠w1.heap.size) (.agg #[.int .i64 a,.string b,.int .i64 c,.slice ad ln cp]) n0):=
   (Zi hv1 (M':=fun j=>w.heap.size+1<=j/\j≠w1.heap.size) (fun j hj hlt=>⟨by have hj':(w.alloc A6).heap.size<=j:=hj;simp at hj';omega,by omega⟩)).above (Zh (Zf _ _ none) (fun k e=>by cases e))
  have HW1:Hid (w.grownBy (w1.alloc (.cells #[.int .i64 a,.string b,.int .i64 c,.slice ad ln cp] 24)) (some Q)):=((Zf w A6 (some Q)).trans hg1).trans (Zf _ _ _)
  clear hX1 hv1 hp1 hg1 hr
  go_loopw [8] (fun s8 wr=>∃(is:Bool) (nk:Nd) (sk:PS) (a:Int) (b:ByteArray) (c:Int) (ad:Option Addr) (ln cp:Nat),s8=.bool is/\Hid (Rdr wr Q B v S sk)/\Hid (Box4 wr w1.heap.size (.int .i64 a) (.string b) (.int .i64 c) (.slice ad ln cp))/\Hid (NodeV wr (fun j=>w.heap.size+1<=j/\j≠w1.heap.size) (.agg #[.int .i64 a,.string b,.int .i64 c,.slice ad ln cp]) nk)/\Hid (w.grownBy wr (some Q))/\Hid (Box4 wr w.heap.size (.int .i64 0) (.string ⟨#[]⟩) (.int .i64 0) (.slice none 0 0))/\Hid (s.tok<=sk.tok)/\Hid (if is=true then L nk sk=g else g=.ok (nk,sk))) (fun s8 wr=>2*(4001-tokOf wr Q)+Tz s8)
  case atStart=>exact⟨true,n0,s0,a,b,c,ad,ln,cp,rfl,HP1,HR1,HN1,HW1,HX1,(show s.tok<=s0.tok by omega),HG⟩
  case round=>
   clear HP1 HR1 HN1 HW1 HX1 HG
   rename_i wr
   obtain⟨is,nk,sk,a,b,c,ad,ln,cp,rfl,HR,HO,HN,HW,HZ,HT,HE⟩:=hrel
   cases is with
   | false=>
    have HE2:Hid (g=.ok (nk,sk)):=HE.out
    clear HE
    obtain⟨⟨r0,r1,r2,r3⟩,_⟩:=HO.out.facts
    obtain⟨⟨x0,x1,x2,x3⟩,f0,f1,f2,f3⟩:=HZ.out.facts
    go_wp2_with fail
    refine bodyPost_ret (v:=.agg #[.int .i64 a,.string b,.int .i64 c,.slice ad ln cp]) (by simp[results,Tryz.results110,go_sem,x0,x1,x2,x3]) rfl ?_
    rw[HE2.out]
    exact B5 (Zi HN.out (fun j hj _=>hj.1)) HR.out HW.out hB
   | true=>
    have HE2:L nk sk=g:=HE.out
    rw[hL]at HE2
    have HE3:Hid (((Cj S X M nk sk).then fun r s=>if r.2=true then L r.1 s else .ok (r.1,s))=g):=HE2
    have hzl:=HZ.out.lt
    have hlk:=MJ K X Q B (fun j=>w.heap.size+1<=j/\j≠w1.heap.size) v S M hM m sk (HPt.out.less (by have:=HT.out;omega)) nk (.int .i64 a) (.string b) (.int .i64 c) ad ln cp wr HN.out (by rintro⟨h,_⟩;omega) (fun j hj=>⟨by have:=HW.out.size;omega,by have:=HO.out.lt;omega⟩) (by rw[HW.out.block m hmlt (fun e=>hmq (by injection e))];exact HM.out) HR.out
    have HTK:Hid (tokOf wr Q=sk.tok):=HR.out.tokOf
    have HFW:Hid (S.L.length<=4000):=HR.out.few
    obtain⟨⟨r0,r1,r2,r3⟩,_⟩:=HO.out.facts
    clear HE HE2 HN
    cases hg:Cj S X M nk sk with
    | error f=>
     rw[hg]at hlk HE3
     have HE4:Hid (g=.error f):=HE3.out.symm
     clear HE3 hg
     go_wp2_with (first | (go_at_call 95;refine hlk.mono ?_;rintro e w2 ⟨rfl,hg2⟩))
     refine⟨rfl,?_⟩
     rw[HE4.out]
     exact⟨rfl,HW.out.trans hg2⟩
    | ok z=>
     obtain⟨⟨n',b'⟩,s'⟩:=z
     rw[hg]at hlk HE3
     have HT2:Hid (sk.tok<=s'.tok/\(b'=true->sk.tok+1<=s'.tok)):=SH hat hg
     have HE4:Hid (if b'=true then L n' s'=g else g=.ok (n',s')):=by
      show if b'=true then L n' s'=g else g=.ok (n',s')
      have:=HE3.out
      rw[then_ok]at this
      cases b' with
      | true=>exact this
      | false=>exact this.symm
     clear HE3 hg
     go_wp2_with (first | (go_at_call 95;refine hlk.mono ?_;rintro e w2 ⟨u,rfl,⟨u0,rfl,hv2⟩,hp2,hg2⟩;obtain⟨a',b'',c',ad',n'',cc',hu'⟩:=NodeV.any hv2;subst hu';have hO2:=HO.out.grown hg2 (by omega);obtain⟨⟨q0,q1,q2,q3⟩,f0,f1,f2,f3⟩:=hO2.facts))
     go_roundw
     case rel=>
      refine⟨b',n',s',a',b'',c',ad',n'',cc',rfl,G1 hp2 (by omega) _ _ _ _,hO2.put _ _ _ _,?_,?_,?_,(show s.tok<=s'.tok by have:=HT.out;have:=HT2.out.1;omega),HE4⟩
      ·exact hv2.above (Ef (R:=w1.heap.size) (by rintro⟨_,h⟩;exact h rfl) _ _ _ _)
      ·exact Bf (HW.out.trans hg2) (Eg (by omega) _ _ _ _)
      ·exact(HZ.out.grown hg2 (by omega)).other (by omega) _ _ _ _
     case measure=>
      have e1:tokOf ((((w2.setCell ⟨w1.heap.size,0,none⟩ (.int .i64 a')).setCell ⟨w1.heap.size,1,none⟩ (.string b'')).setCell ⟨w1.heap.size,2,none⟩ (.int .i64 c')).setCell ⟨w1.heap.size,3,none⟩ (.slice ad' n'' cc')) Q=s'.tok:=(G1 hp2 (by omega) _ _ _ _).tokOf
      have h1:=HT2.out
      have h2:=HTK.out
      have h3:=hp2.tok
      have h4:=HFW.out
      rw[e1,h2]
      cases b' with
      | true=>have:=h1.2 rfl;show 2*(4001-s'.tok)+1<2*(4001-sk.tok)+1;omega
      | false=>have:=h1.1;show 2*(4001-s'.tok)+0<2*(4001-sk.tok)+1;omega
theorem Fi{S:Src9}{s:PS}{x:List Int}(h:S.text s=x)(h1:¬(x=AD\/x=Ai))(h2:¬(x=A9\/x=Au)):Bx S s=.ok (x,s.step):=by
 unfold Bx
 rw[h,if_neg h1,if_neg h2]
theorem I4{S:Src9}(hb:DV S.L){s:PS}{x:ByteArray}(h:strOfNums (S.text s)=x):S.text s=A7 x:=by
 rw[<-h,I8]
 unfold Src9.text
 split
 ·rename_i ht
  intro c hc
  refine hb (S.at s.tok) ?_ c hc
  unfold Src9.at
  rw[Z2,List.getElem?_eq_getElem ht]
  exact Z6 ht
 ·intro c hc;cases hc
abbrev Ml:List (ByteArray×Int):=[(⟨#[43]⟩,20),(⟨#[45]⟩,21)]
abbrev L5:List (ByteArray×Int):=[(⟨#[42]⟩,22)]
abbrev Jj:List (ByteArray×Int):=[(⟨#[60]⟩,18),(⟨#[61,61]⟩,19)]
theorem NP{S:Src9}(hl:AP S)(hb:DV S.L){X:PS->Got Nd}{x y:ByteArray}{k k':Int}(hx:D2 (A7 x)=true)(hy:D2 (A7 y)=true)(qx:¬(A7 x=AD\/A7 x=Ai)/\¬(A7 x=A9\/A7 x=Au))(qy:¬(A7 y=AD\/A7 y=Ai)/\¬(A7 y=A9\/A7 y=Au))(n:Nd)(s:PS) :
  Cj S X [(x,k),(y,k')] n s=if A2 S (A7 x) s=true then(X s.step).then fun m s=>.ok ((.mk k [] 0 [n,m],true),s.node)else if A2 S (A7 y) s=true then(X s.step).then fun m s=>.ok ((.mk k' [] 0 [n,m],true),s.node)else .ok ((n,false),s):=by
 rw[Co hl hx,Co hl hy]
 unfold Cj
 by_cases h1:strOfNums (S.text s)=x
 ·have e:=I4 hb h1
  have hm:CS [(x,k),(y,k')] (strOfNums (S.text s))=some k:=by unfold CS;rw[if_pos h1]
  rw[hm,if_pos (show(S.text s==A7 x)=true by rw[e];simp)]
  dsimp only
  rw[Fi e qx.1 qx.2,then_ok]
 ·have e:¬S.text s=A7 x:=fun e=>h1 (by rw[e,Fs])
  rw[if_neg (show ¬(S.text s==A7 x)=true by simpa using e)]
  by_cases h2:strOfNums (S.text s)=y
  ·have e2:=I4 hb h2
   have hm:CS [(x,k),(y,k')] (strOfNums (S.text s))=some k':=by unfold CS;rw[if_neg h1];unfold CS;rw[if_pos h2]
   rw[hm,if_pos (show(S.text s==A7 y)=true by rw[e2];simp)]
   dsimp only
   rw[Fi e2 qy.1 qy.2,then_ok]
  ·have e2:¬S.text s=A7 y:=fun e=>h2 (by rw[e,Fs])
   have hm:CS [(x,k),(y,k')] (strOfNums (S.text s))=none:=by unfold CS;rw[if_neg h1];unfold CS;rw[if_neg h2];rfl
   rw[hm,if_neg (show ¬(S.text s==A7 y)=true by simpa using e2)]
theorem SI{S:Src9}(hl:AP S)(hb:DV S.L){X:PS->Got Nd}{x:ByteArray}{k:Int}(hx:D2 (A7 x)=true)(qx:¬(A7 x=AD\/A7 x=Ai)/\¬(A7 x=A9\/A7 x=Au))(n:Nd)(s:PS) :
  Cj S X [(x,k)] n s=if A2 S (A7 x) s=true then(X s.step).then fun m s=>.ok ((.mk k [] 0 [n,m],true),s.node)else .ok ((n,false),s):=by
 rw[Co hl hx]
 unfold Cj
 by_cases h1:strOfNums (S.text s)=x
 ·have e:=I4 hb h1
  have hm:CS [(x,k)] (strOfNums (S.text s))=some k:=by unfold CS;rw[if_pos h1]
  rw[hm,if_pos (show(S.text s==A7 x)=true by rw[e];simp)]
  dsimp only
  rw[Fi e qx.1 qx.2,then_ok]
 ·have e:¬S.text s=A7 x:=fun e=>h1 (by rw[e,Fs])
  have hm:CS [(x,k)] (strOfNums (S.text s))=none:=by unfold CS;rw[if_neg h1];rfl
  rw[hm,if_neg (show ¬(S.text s==A7 x)=true by simpa using e)]
theorem SJ{S:Src9}(hl:AP S)(hb:DV S.L)(n:Nd)(s:PS):E9 S n s=(Cj S (CR S) Ml n s).then fun r s=>if r.2=true then E9 S r.1 s else .ok (r.1,s):=by
 rw[NP hl hb (by decide) (by decide) (by decide) (by decide),JW]
 have e1:A7 ⟨#[43]⟩=GP:=by decide
 have e2:A7 ⟨#[45]⟩=CC:=by decide
 rw[e1,e2]
 split
 ·cases CR S s.step with
  | error f=>rfl
  | ok y=>rfl
 ·split
  ·cases CR S s.step with
   | error f=>rfl
   | ok y=>rfl
  ·rfl
theorem Qt{S:Src9}(hl:AP S)(hb:DV S.L)(n:Nd)(s:PS):Dh S n s=(Cj S (BS S) L5 n s).then fun r s=>if r.2=true then Dh S r.1 s else .ok (r.1,s):=by
 rw[SI hl hb (by decide) (by decide),IA]
 have e1:A7 ⟨#[42]⟩=FX:=by decide
 rw[e1]
 split
 ·cases BS S s.step with
  | error f=>rfl
  | ok y=>rfl
 ·rfl
theorem Qu{S:Src9}(hl:AP S)(hb:DV S.L)(s:PS):Ao S s=(Ce S s).then fun n s=>(Cj S (Ce S) Jj n s).then fun r s=>.ok (r.1,s):=by
 rw[Hu]
 refine A4 rfl fun n s1 _=>?_
 rw[NP hl hb (by decide) (by decide) (by decide) (by decide)]
 have e1:A7 ⟨#[60]⟩=Gx:=by decide
 have e2:A7 ⟨#[61,61]⟩=Gy:=by decide
 rw[e1,e2]
 split
 ·cases Ce S s1.step with
  | error f=>rfl
  | ok y=>rfl
 ·split
  ·cases Ce S s1.step with
   | error f=>rfl
   | ok y=>rfl
  ·rfl
theorem Pg(Q B:Nat)(v:Value)(S:Src9)(hl:AP S)(s:PS)(hX:Part 111 (CR S) Q B v S s.tok):AM 96 (Ce S) Q B v S s:=by
 intro w hp
 have hB:=hp.size
 have hqb:=hp.qb
 have HX:=ZC w
 obtain⟨o1,ho1⟩:∃o1,o1=CM [(⟨#[43]⟩,20)]:=⟨_,rfl⟩
 obtain⟨o2,ho2⟩:∃o2,o2=CM Ml:=⟨_,rfl⟩
 have hi1:(Instr.mapUpdate 111 (.map (some (w.heap.size+1))) (.string ⟨#[43]⟩) (.int .i64 20)).run Tryz.prog ((w.alloc A6).alloc (.map #[] 0))=.ok () ((w.alloc A6).alloc o1):=by
  have:=Gu (M:=[]) (x:=⟨#[43]⟩) (k:=20) rfl (w.alloc A6)
  rw[show(w.alloc A6).heap.size=w.heap.size+1 by simp]at this
  rw[ho1]
  exact this
 have hi2:(Instr.mapUpdate 111 (.map (some (w.heap.size+1))) (.string ⟨#[45]⟩) (.int .i64 21)).run Tryz.prog ((w.alloc A6).alloc o1)=.ok () ((w.alloc A6).alloc o2):=by
  have:=Gu (M:=[(⟨#[43]⟩,20)]) (x:=⟨#[45]⟩) (k:=21) (by decide) (w.alloc A6)
  rw[show(w.alloc A6).heap.size=w.heap.size+1 by simp]at this
  rw[ho1,ho2]
  exact this
 have hbA:Below w.heap.size w ((w.alloc A6).alloc o2):=((Zg _ w).alloc (Z0 _) _).alloc (by simp) _
 have hch:=L4 111 (CR S) Q B v S Ml (by decide) (w.heap.size+1) (E9 S) (SJ hl hp.base.bytes) (fun s n s' e=>(JU e).1) s hX ((w.alloc A6).alloc o2) (by rw[ho2];have:=(MapKept.heap_alloc (w.alloc A6) (CM Ml)).1;simpa using this) (by omega) (hp.below hbA)
 rw[Kc]
 have hmm:=@run_makeMap Tryz.prog
 generalize ((CR S s).then fun n s=>E9 S n s)=g at *
 clear ho1 ho2 hp hX
 match g,hch with
 | .error f,hch=>
  go_enter Tryz.func96,Tryz.ntmps96
  go_wp2_with (first | (go_at_call 110;refine hch.mono ?_;rintro e w2 ⟨rfl,hg2⟩))
  exact⟨rfl,rfl,(A3 Q hbA).trans hg2⟩
 | .ok (n,s'),hch=>
  go_enter Tryz.func96,Tryz.ntmps96
  go_wp2_with (first | (go_at_call 110;refine hch.mono ?_;rintro e w2 ⟨u,rfl,hv2,hp2,hg2⟩;obtain⟨a,b,c,ad,ln,cp,hu⟩:=NodeV.any hv2;subst hu;obtain⟨⟨x0,x1,x2,x3⟩,f0,f1,f2,f3⟩:=((HX.out.alloc o2).grown hg2 (by omega)).facts))
  exact bodyPost_ret (v:=.agg #[.int .i64 a,.string b,.int .i64 c,.slice ad ln cp]) (by simp[results,Tryz.results96,go_sem,x0,x1,x2,x3]) rfl (B5 (Zi hv2 (fun j hj _=>by have hj':((w.alloc A6).alloc o2).heap.size<=j:=hj;simp at hj';show w.heap.size+1<=j;omega)) hp2 ((A3 Q hbA).trans hg2) hB)
theorem O9(Q B:Nat)(v:Value)(S:Src9)(hl:AP S)(s:PS)(hX:Part 120 (BS S) Q B v S s.tok):AM 111 (CR S) Q B v S s:=by
 intro w hp
 have hB:=hp.size
 have hqb:=hp.qb
 have HX:=ZC w
 obtain⟨o2,ho2⟩:∃o2,o2=CM L5:=⟨_,rfl⟩
 have hi1:(Instr.mapUpdate 111 (.map (some (w.heap.size+1))) (.string ⟨#[42]⟩) (.int .i64 22)).run Tryz.prog ((w.alloc A6).alloc (.map #[] 0))=.ok () ((w.alloc A6).alloc o2):=by
  have:=Gu (M:=[]) (x:=⟨#[42]⟩) (k:=22) rfl (w.alloc A6)
  rw[show(w.alloc A6).heap.size=w.heap.size+1 by simp]at this
  rw[ho2]
  exact this
 have hbA:Below w.heap.size w ((w.alloc A6).alloc o2):=((Zg _ w).alloc (Z0 _) _).alloc (by simp) _
 have hch:=L4 120 (BS S) Q B v S L5 (by decide) (w.heap.size+1) (Dh S) (Qt hl hp.base.bytes) (fun s n s' e=>(KE e).1) s hX ((w.alloc A6).alloc o2) (by rw[ho2];have:=(MapKept.heap_alloc (w.alloc A6) (CM L5)).1;simpa using this) (by omega) (hp.below hbA)
 rw[JX]
 have hmm:=@run_makeMap Tryz.prog
 generalize ((BS S s).then fun n s=>Dh S n s)=g at *
 clear ho2 hp hX
 match g,hch with
 | .error f,hch=>
  go_enter Tryz.func111,Tryz.ntmps111
  go_wp2_with (first | (go_at_call 110;refine hch.mono ?_;rintro e w2 ⟨rfl,hg2⟩))
  exact⟨rfl,rfl,(A3 Q hbA).trans hg2⟩
 | .ok (n,s'),hch=>
  go_enter Tryz.func111,Tryz.ntmps111
  go_wp2_with (first | (go_at_call 110;refine hch.mono ?_;rintro e w2 ⟨u,rfl,hv2,hp2,hg2⟩;obtain⟨a,b,c,ad,ln,cp,hu⟩:=NodeV.any hv2;subst hu;obtain⟨⟨x0,x1,x2,x3⟩,f0,f1,f2,f3⟩:=((HX.out.alloc o2).grown hg2 (by omega)).facts))
  exact bodyPost_ret (v:=.agg #[.int .i64 a,.string b,.int .i64 c,.slice ad ln cp]) (by simp[results,Tryz.results111,go_sem,x0,x1,x2,x3]) rfl (B5 (Zi hv2 (fun j hj _=>by have hj':((w.alloc A6).alloc o2).heap.size<=j:=hj;simp at hj';show w.heap.size+1<=j;omega)) hp2 ((A3 Q hbA).trans hg2) hB)
theorem SK{w w':World}{Q B:Nat}{v:Value}{S:Src9}{n:Nd}{s':PS}{e:Ending}(h:BW Q B v S w (Bo w) (.ok (n,s')) e w')(o:Obj):BW Q B v S w (Bo w) (.ok (n,s')) e (w'.alloc o):=by
 obtain⟨u,e1,h1,h2,h3⟩:=h
 exact⟨u,e1,NodeV.above h1 (Zh (Zf _ _ none) (fun k e=>by cases e)),h2.below ((Zg _ _).alloc (Z0 _) _),h3.trans (Zf _ _ _)⟩
theorem OA(Q B:Nat)(v:Value)(S:Src9)(hl:AP S)(s:PS)(hX:Part 96 (Ce S) Q B v S s.tok):AM 79 (Ao S) Q B v S s:=by
 intro w hp
 have hB:=hp.size
 have hqb:=hp.qb
 have htok:=hp.tok
 have HPA:Hid (Rdr (w.alloc A6) Q B v S s):=hp.below ((Zg _ w).alloc (Z0 _) _)
 have HX:=ZC w
 have hr:=hX.reads s (Z0 _) htok
 unfold AM at hr
 rw[Qu hl hp.base.bytes]
 obtain⟨o1,ho1⟩:∃o1,o1=CM [(⟨#[60]⟩,18)]:=⟨_,rfl⟩
 obtain⟨o2,ho2⟩:∃o2,o2=CM Jj:=⟨_,rfl⟩
 have hi1:∀w1:World,(Instr.mapUpdate 111 (.map (some w1.heap.size)) (.string ⟨#[60]⟩) (.int .i64 18)).run Tryz.prog (w1.alloc (.map #[] 0))=.ok () (w1.alloc o1):=fun w1=>by
  have:=Gu (M:=[]) (x:=⟨#[60]⟩) (k:=18) rfl w1
  rw[ho1]
  exact this
 have hi2:∀w1:World,(Instr.mapUpdate 111 (.map (some w1.heap.size)) (.string ⟨#[61,61]⟩) (.int .i64 19)).run Tryz.prog (w1.alloc o1)=.ok () (w1.alloc o2):=fun w1=>by
  have:=Gu (M:=[(⟨#[60]⟩,18)]) (x:=⟨#[61,61]⟩) (k:=19) (by decide) w1
  rw[ho1,ho2]
  exact this
 have hmm:=@run_makeMap Tryz.prog
 cases hx1:Ce S s with
 | error f=>
  rw[hx1]at hr
  clear hx1 hp hX ho1 ho2
  go_enter Tryz.func79,Tryz.ntmps79
  go_wp2_with (first | (go_at_call 96;refine(hr _ HPA.out).mono ?_;rintro e w1 ⟨rfl,hg1⟩))
  exact⟨rfl,rfl,(Zf w A6 (some Q)).trans hg1⟩
 | ok y=>
  obtain⟨n0,s0⟩:=y
  have hs0:=(Q8 hx1).1
  have HS:Hid (s.tok+1<=s0.tok):=hs0
  rw[hx1]at hr
  rw[then_ok]
  have hlk:∀(w1:World) (a:Int) (b:ByteArray) (c:Int) (ad:Option Addr) (ln cp:Nat),Rdr w1 Q B v S s0->w.heap.size<w1.heap.size->NodeV w1 (Be (w.heap.size+1)) (.agg #[.int .i64 a,.string b,.int .i64 c,.slice ad ln cp]) n0 ->
    Calls Tryz.prog 95 #[.pointer (some ⟨Q,0,none⟩),.agg #[.int .i64 a,.string b,.int .i64 c,.slice ad ln cp],.func (.func 96) #[.pointer (some ⟨Q,0,none⟩)] #[],.map (some w1.heap.size)] (w1.alloc o2) fun e w'=>BW Q B v S (w1.alloc o2) (Sl (Be (w.heap.size+1))) (Cj S (Ce S) Jj n0 s0) e w':=fun w1 a b c ad ln cp h1 h2 h3=>
   MJ _ (Ce S) Q B (Be (w.heap.size+1)) v S Jj (by decide) w1.heap.size s0 (hX.less (by omega)) n0 _ _ _ ad ln cp (w1.alloc o2) (h3.above (Zh (Zf _ _ none) (fun k e=>by cases e))) (by show ¬w.heap.size+1<=Q;omega) (fun j hj=>by simp at hj;show w.heap.size+1<=j;omega) (by rw[ho2];exact(MapKept.heap_alloc w1 (CM Jj)).1) (h1.below ((Zg _ _).alloc (Z0 _) _))
  clear hp hX ho1 ho2 hx1
  cases hg:Cj S (Ce S) Jj n0 s0 with
  | error f=>
   rw[hg]at hlk
   clear hg
   go_enter Tryz.func79,Tryz.ntmps79
   go_wp2_with (first | (go_at_call 96;refine(hr _ HPA.out).mono ?_;rintro e w1 ⟨u,rfl,hv1,hp1,hg1⟩;obtain⟨a,b,c,ad,ln,cp,hu⟩:=NodeV.any hv1;subst hu;have hlt:=(HX.out.grown hg1 (by omega)).lt) | (go_at_call 95;refine(hlk w1 a b c ad ln cp hp1 hlt (Zi hv1 (fun j hj _=>by have hj':(w.alloc A6).heap.size<=j:=hj;simp at hj';show w.heap.size+1<=j;omega))).mono ?_;rintro e w2 ⟨rfl,hg2⟩))
   exact⟨rfl,rfl,(((Zf w A6 (some Q)).trans hg1).trans (Zf _ _ _)).trans hg2⟩
  | ok z=>
   obtain⟨⟨n',b'⟩,s'⟩:=z
   rw[hg]at hlk
   rw[then_ok]
   clear hg
   go_enter Tryz.func79,Tryz.ntmps79
   go_wp2_with (first | (go_at_call 96;refine(hr _ HPA.out).mono ?_;rintro e w1 ⟨u,rfl,hv1,hp1,hg1⟩;obtain⟨a,b,c,ad,ln,cp,hu⟩:=NodeV.any hv1;subst hu;have hX1:=HX.out.grown hg1 (by omega);have hlt:=hX1.lt) | (go_at_call 95;refine(hlk w1 a b c ad ln cp hp1 hlt (Zi hv1 (fun j hj _=>by have hj':(w.alloc A6).heap.size<=j:=hj;simp at hj';show w.heap.size+1<=j;omega))).mono ?_;rintro e w2 ⟨u2,rfl,⟨u0,rfl,hv2⟩,hp2,hg2⟩;obtain⟨a2,b2,c2,ad2,ln2,cp2,hu2⟩:=NodeV.any hv2;subst hu2;have hX2:=(hX1.alloc o2).grown hg2 (by omega);have hlt2:=hX2.lt;obtain⟨⟨x0,x1,x2,x3⟩,f0,f1,f2,f3⟩:=hX2.facts))
   have hgw:w.grownBy w2 (some Q):=(((Zf w A6 (some Q)).trans hg1).trans (Zf _ _ _)).trans hg2
   obtain⟨⟨y0,y1,y2,y3⟩,_⟩:=((hX2.put (.int .i64 a2) (.string b2) (.int .i64 c2) (.slice ad2 ln2 cp2)).alloc (.cells #[.int .i64 a2,.string b2,.int .i64 c2,.slice ad2 ln2 cp2] 24)).facts
   refine bodyPost_ret (v:=.agg #[.int .i64 a2,.string b2,.int .i64 c2,.slice ad2 ln2 cp2]) (by simp[results,Tryz.results79,go_sem,y0,y1,y2,y3]) rfl ?_
   exact SK (B5 hv2 hp2 hgw hB) _
theorem OB{S:Src9}(hl:AP S){x:List Int}(hx:D2 x=true)(h1:¬(x=AD\/x=Ai))(h2:¬(x=A9\/x=Au))(s:PS):(A2 S x s=true->CP S x s=.ok (true,s.step))/\(A2 S x s=false->CP S x s=.ok (false,s)):=by
 rw[Co hl hx]
 unfold CP
 refine⟨fun h=>?_,fun h=>?_⟩
 ·have e:S.text s=x:=by simpa using h
  rw[if_pos e,Fi e h1 h2,then_ok]
 ·have e:¬S.text s=x:=by simpa using h
  rw[if_neg e]
theorem BC{Q B:Nat}{v:Value}{S:Src9}(hl:AP S){s:PS}{x:ByteArray}{l:List Int}(e:A7 x=l)(hx:D2 l=true)(h1:¬(l=AD\/l=Ai))(h2:¬(l=A9\/l=Au))(hs:A2 S l s=true)(w:World)(hp:Rdr w Q B v S s) :
  Calls Tryz.prog 49 #[.pointer (some ⟨Q,0,none⟩),.string x] w fun e w'=>e=.returned (.bool true)/\Rdr w' Q B v S s.step/\w.grownBy w' (some Q):=by
 have h:=Fh Q B v S s x (fun e'=>by rw[<-e,e']at hx;exact absurd hx (by decide)) w hp
 rw[e,(OB hl hx h1 h2 s).1 hs]at h
 refine h.mono fun e' w' h'=>?_
 obtain⟨u,rfl,rfl,h2,h3⟩:=h'
 exact⟨rfl,h2,h3⟩
theorem Az{Q B:Nat}{v:Value}{S:Src9}(hl:AP S){s:PS}{x:ByteArray}{l:List Int}(e:A7 x=l)(hx:D2 l=true)(hs:A2 S l s=false)(w:World)(hp:Rdr w Q B v S s) :
  Calls Tryz.prog 49 #[.pointer (some ⟨Q,0,none⟩),.string x] w fun e w'=>e=.returned (.bool false)/\Rdr w' Q B v S s/\w.grownBy w' (some Q):=by
 have h:=Fh Q B v S s x (fun e'=>by rw[<-e,e']at hx;exact absurd hx (by decide)) w hp
 have e2:CP S l s=.ok (false,s):=by
  rw[Co hl hx]at hs
  unfold CP
  rw[if_neg (by simpa using hs)]
 rw[e,e2]at h
 refine h.mono fun e' w' h'=>?_
 obtain⟨u,rfl,rfl,h2,h3⟩:=h'
 exact⟨rfl,h2,h3⟩
theorem Dx{w w5 w4:World}{Q B:Nat}{v:Value}{S:Src9}{s':PS}{kind:Int}{ks:List Nd}{u:Value}(hk:KidsV w5 (Be (w.heap.size+1)) u ks)(hb:Below w5.heap.size w5 w4)(hp:Rdr w5 Q B v S s')(hg:w.grownBy w5 (some Q))(hB:B<=w.heap.size) :
  BW Q B v S w (Bo w) (.ok (.mk kind [] 0 ks,s'.node)) (.returned (.agg #[.int .i64 kind,.string ⟨#[]⟩,.int .i64 0,u])) ((((w4.setCell ⟨w.heap.size,0,none⟩ (.int .i64 kind)).setCell ⟨w.heap.size,1,none⟩ (.string ⟨#[]⟩)).setCell ⟨w.heap.size,2,none⟩ (.int .i64 0)).setCell ⟨w.heap.size,3,none⟩ u):=
 B5 (Gt (tx:=[]) (hk.above (Zk hb))) ((hp.below hb).many _) (hg.trans (A3 Q hb)) hB
theorem Jx(Q B:Nat)(v:Value)(S:Src9)(hl:AP S)(s:PS)(kind:Int)(hk:(A2 S CC s=true/\kind=23)\/(A2 S CC s=false/\A2 S Fq s=true/\kind=24))(hun:AM 120 (BS S) Q B v S s.step)(w:World)(hp:Rdr w Q B v S s) :
  Calls Tryz.prog 120 #[.pointer (some ⟨Q,0,none⟩)] w fun e w'=>BW Q B v S w (Bo w) ((BS S s.step).then fun k s=>AJ kind [] 0 [k] s) e w':=by
 have hB:=hp.size
 have hqb:=hp.qb
 have HPA:Hid (Rdr (w.alloc A6) Q B v S s):=hp.below ((Zg _ w).alloc (Z0 _) _)
 have HX:=ZC w
 unfold AM at hun
 have e1:A7 ⟨#[45]⟩=CC:=by decide
 have e2:A7 ⟨#[33]⟩=Fq:=by decide
 rcases hk with⟨hs,rfl⟩ | ⟨hs,hs2,rfl⟩
 ·have ht:=fun w' (h':Rdr w' Q B v S s)=>BC hl e1 (by decide) (by decide) (by decide) hs w' h'
  clear hp hs
  cases hx:BS S s.step with
  | error f=>
   rw[hx]at hun
   clear hx
   go_enter Tryz.func120,Tryz.ntmps120
   go_wp2_with (first | (go_at_call 49;refine(ht _ HPA.out).mono ?_;rintro e w1 ⟨rfl,hp1,hg1⟩) | (go_at_call 120;refine(hun _ hp1).mono ?_;rintro e w2 ⟨rfl,hg2⟩))
   exact⟨rfl,rfl,((Zf w A6 (some Q)).trans hg1).trans hg2⟩
  | ok y=>
   obtain⟨k,s'⟩:=y
   rw[hx]at hun
   clear hx
   go_enter Tryz.func120,Tryz.ntmps120
   go_wp2_with (first | (go_at_call 49;refine(ht _ HPA.out).mono ?_;rintro e w1 ⟨rfl,hp1,hg1⟩;have hX1:=HX.out.grown hg1 (by omega);have hl1:=hX1.lt) | (go_at_call 120;refine(hun _ hp1).mono ?_;rintro e w2 ⟨u,rfl,hv2,hp2,hg2⟩;obtain⟨a,b,c,ad,ln,cp,hu⟩:=NodeV.any hv2;subst hu;have hX2:=hX1.grown hg2 (by omega);have hl2:=hX2.lt) | (go_at_call 37;refine(CY _ _ _ _ _).mono ?_;rintro e w4 ⟨rfl,hb4⟩;obtain⟨⟨x0,x1,x2,x3⟩,f0,f1,f2,f3⟩:=((hX2.alloc _).grown (A3 Q hb4) (by omega)).facts))
   have hga:w.grownBy w2 (some Q):=((Zf w A6 (some Q)).trans hg1).trans hg2
   refine bodyPost_ret (v:=.agg #[.int .i64 23,.string ⟨#[]⟩,.int .i64 0,.slice (some ⟨w2.heap.size,0,none⟩) 1 1]) (by simp[results,Tryz.results120,go_sem,x0,x1,x2,x3]) rfl ?_
   exact Dx (L3 (T:=24) (Zi hv2 (fun j hj _=>by have hj':w1.heap.size<=j:=hj;show w.heap.size+1<=j;omega)) (by show w.heap.size+1<=w2.heap.size;omega) 1) hb4 (hp2.below ((Zg _ _).alloc (Z0 _) _)) (hga.trans (Zf _ _ _)) hB
 ·have ht:=fun w' (h':Rdr w' Q B v S s)=>Az hl e1 (by decide) hs w' h'
  have ht2:=fun w' (h':Rdr w' Q B v S s)=>BC hl e2 (by decide) (by decide) (by decide) hs2 w' h'
  clear hp hs hs2
  cases hx:BS S s.step with
  | error f=>
   rw[hx]at hun
   clear hx
   go_enter Tryz.func120,Tryz.ntmps120
   go_wp2_with (first | (go_at_call_of 49 (Value.string ⟨#[45]⟩);refine(ht _ HPA.out).mono ?_;rintro e w0 ⟨rfl,hp0,hg0⟩) | (go_at_call_of 49 (Value.string ⟨#[33]⟩);refine(ht2 _ hp0).mono ?_;rintro e w1 ⟨rfl,hp1,hg1⟩) | (go_at_call 120;refine(hun _ hp1).mono ?_;rintro e w2 ⟨rfl,hg2⟩))
   exact⟨rfl,rfl,(((Zf w A6 (some Q)).trans hg0).trans hg1).trans hg2⟩
  | ok y=>
   obtain⟨k,s'⟩:=y
   rw[hx]at hun
   clear hx
   go_enter Tryz.func120,Tryz.ntmps120
   go_wp2_with (first | (go_at_call_of 49 (Value.string ⟨#[45]⟩);refine(ht _ HPA.out).mono ?_;rintro e w0 ⟨rfl,hp0,hg0⟩) | (go_at_call_of 49 (Value.string ⟨#[33]⟩);refine(ht2 _ hp0).mono ?_;rintro e w1 ⟨rfl,hp1,hgx⟩;have hg1:=hg0.trans hgx;have hX1:=HX.out.grown hg1 (by omega);have hl1:=hX1.lt) | (go_at_call 120;refine(hun _ hp1).mono ?_;rintro e w2 ⟨u,rfl,hv2,hp2,hg2⟩;obtain⟨a,b,c,ad,ln,cp,hu⟩:=NodeV.any hv2;subst hu;have hX2:=hX1.grown hg2 (by omega);have hl2:=hX2.lt) | (go_at_call 37;refine(CY _ _ _ _ _).mono ?_;rintro e w4 ⟨rfl,hb4⟩;obtain⟨⟨x0,x1,x2,x3⟩,f0,f1,f2,f3⟩:=((hX2.alloc _).grown (A3 Q hb4) (by omega)).facts))
   have hga:w.grownBy w2 (some Q):=((Zf w A6 (some Q)).trans hg1).trans hg2
   refine bodyPost_ret (v:=.agg #[.int .i64 24,.string ⟨#[]⟩,.int .i64 0,.slice (some ⟨w2.heap.size,0,none⟩) 1 1]) (by simp[results,Tryz.results120,go_sem,x0,x1,x2,x3]) rfl ?_
   exact Dx (L3 (T:=24) (Zi hv2 (fun j hj _=>by have hj':w1.heap.size<=j:=hj;show w.heap.size+1<=j;omega)) (by show w.heap.size+1<=w2.heap.size;omega) 1) hb4 (hp2.below ((Zg _ _).alloc (Z0 _) _)) (hga.trans (Zf _ _ _)) hB
theorem NQ(Q B:Nat)(v:Value)(S:Src9)(hl:AP S)(s:PS)(hcl:AM 125 (Eo S) Q B v S s)(hun:s.tok<S.L.length->AM 120 (BS S) Q B v S s.step):AM 120 (BS S) Q B v S s:=by
 intro w hp
 rw[Gl]
 cases h1:A2 S CC s with
 | true=>
  rw[if_pos rfl]
  exact Jx Q B v S hl s 23 (Or.inl ⟨h1,rfl⟩) (hun (AG h1)) w hp
 | false=>
  rw[if_neg (by decide)]
  cases h2:A2 S Fq s with
  | true=>
   rw[if_pos rfl]
   exact Jx Q B v S hl s 24 (Or.inr ⟨h1,h2,rfl⟩) (hun (AG h2)) w hp
  | false=>
   rw[if_neg (by decide)]
   have hB:=hp.size
   have hqb:=hp.qb
   have HPA:Hid (Rdr (w.alloc A6) Q B v S s):=hp.below ((Zg _ w).alloc (Z0 _) _)
   have HX:=ZC w
   have e1:A7 ⟨#[45]⟩=CC:=by decide
   have e2:A7 ⟨#[33]⟩=Fq:=by decide
   have ht:=fun w' (h':Rdr w' Q B v S s)=>Az hl e1 (by decide) h1 w' h'
   have ht2:=fun w' (h':Rdr w' Q B v S s)=>Az hl e2 (by decide) h2 w' h'
   unfold AM at hcl
   clear hp h1 h2 hun
   cases hx:Eo S s with
   | error f=>
    rw[hx]at hcl
    clear hx
    go_enter Tryz.func120,Tryz.ntmps120
    go_wp2_with (first | (go_at_call_of 49 (Value.string ⟨#[45]⟩);refine(ht _ HPA.out).mono ?_;rintro e w0 ⟨rfl,hp0,hg0⟩) | (go_at_call_of 49 (Value.string ⟨#[33]⟩);refine(ht2 _ hp0).mono ?_;rintro e w1 ⟨rfl,hp1,hg1⟩) | (go_at_call 125;refine(hcl _ hp1).mono ?_;rintro e w2 ⟨rfl,hg2⟩))
    exact⟨rfl,rfl,(((Zf w A6 (some Q)).trans hg0).trans hg1).trans hg2⟩
   | ok y=>
    obtain⟨k,s'⟩:=y
    rw[hx]at hcl
    clear hx
    go_enter Tryz.func120,Tryz.ntmps120
    go_wp2_with (first | (go_at_call_of 49 (Value.string ⟨#[45]⟩);refine(ht _ HPA.out).mono ?_;rintro e w0 ⟨rfl,hp0,hg0⟩) | (go_at_call_of 49 (Value.string ⟨#[33]⟩);refine(ht2 _ hp0).mono ?_;rintro e w1 ⟨rfl,hp1,hgx⟩;have hg1:=hg0.trans hgx;have hX1:=HX.out.grown hg1 (by omega);have hl1:=hX1.lt) | (go_at_call 125;refine(hcl _ hp1).mono ?_;rintro e w2 ⟨u,rfl,hv2,hp2,hg2⟩;obtain⟨a,b,c,ad,ln,cp,hu⟩:=NodeV.any hv2;subst hu;obtain⟨⟨x0,x1,x2,x3⟩,f0,f1,f2,f3⟩:=(hX1.grown hg2 (by omega)).facts))
    have hga:w.grownBy w2 (some Q):=((Zf w A6 (some Q)).trans hg1).trans hg2
    refine bodyPost_ret (v:=.agg #[.int .i64 a,.string b,.int .i64 c,.slice ad ln cp]) (by simp[results,Tryz.results120,go_sem,x0,x1,x2,x3]) rfl ?_
    exact B5 (Zi hv2 (fun j hj _=>by have hj':w1.heap.size<=j:=hj;show w.heap.size+1<=j;omega)) hp2 hga hB
end Go.Proofs.YtbglpanjpadldaaGreatDoor
