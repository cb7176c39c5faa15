/- CodeLands holds for every text that can come in, with no condition: each jump leads to an order of its list or behind the last one, each local, list, class and name that is named is there. What the listed variables hold at the start is tied to the program's text. -/
import Derived.Test.YtpfdgbalchmmfaaGreatDoorOh
import Derived.Test.YtpfdgbalchmmfaaGreatDoorTie
import Derived.Test.YtpfdgbalchmmfaaGreatDoorCards
import Derived.ProofKit
import Derived.LaidMore
import Derived.OpenShut
import Derived.Stop.Joined
import Derived.Stop.LaidErr
import Derived.SevenTiedAt
import Derived.ChangeMaps5
import Derived.Lib.LaidTab
set_option maxHeartbeats 32000000
set_option maxRecDepth 100000
namespace Go.Proofs.YtpfdgbalchmmfaaGreatDoor.codeLands
open Go.ChangeShapes Go.WideShapes Go.ChangeAt Go.RowKit
abbrev tinyS:ByteArray:=⟨#[109,97,105,110,32,123,32,112,114,105,110,116,40,49,32,43,32,50,41,59,32,125]⟩
theorem tiny_nums:A7 tinyS=Qk:=by decide
theorem list_read{w:World}{B n cL:Nat}{aL:Option Addr}{vis:List Value}{LL:List (List Ord)}(h:RowsO w B (.slice aL n cL) vis LL){k:Nat}(hk:k<LL.length):∃gL ak ck,aL=some ⟨gL,0,none⟩/\gL<w.heap.size/\w.cell? ⟨gL,k,none⟩=some (.slice ak LL[k].length ck)/\w.ownsRow B 35 3 (.slice ak LL[k].length ck) LL[k].length (DY LL[k]):=by
 obtain⟨v,e,hv⟩:=h.inner k hk
 obtain⟨ak,ck,rfl⟩:=Aq hv
 obtain⟨gL,rfl⟩:∃gL,aL=some ⟨gL,0,none⟩:=by
  rcases h.row.2 with⟨_,h0⟩ | ⟨g,cap,cur,e,_⟩
  ·omega
  ·injection e with e;exact⟨g,e⟩
 obtain⟨a',c',e'⟩:=Aq h.row
 injection e' with e1 e2 e3
 subst e2
 have hrow:=h.row
 exact⟨gL,ak,ck,rfl,(hrow.lt gL rfl).2,(hrow.cellAt k (by omega)).trans e,hv⟩
theorem ord_read{w:World}{B c:Nat}{a:Option Addr}{l:List Ord}(h:w.ownsRow B 35 3 (.slice a l.length c) l.length (DY l)){i:Nat}(hi:i<l.length):∃g,a=some ⟨g,0,none⟩/\g<w.heap.size/\w.cell? ⟨g,i*3,none⟩=some (.int .i64 l[i].1)/\w.cell? ⟨g,i*3+1,none⟩=some (.int .i64 l[i].2.1)/\w.cell? ⟨g,i*3+2,none⟩=some (.int .i64 l[i].2.2):=by
 obtain⟨g,rfl⟩:∃g,a=some ⟨g,0,none⟩:=by
  rcases h.2 with⟨_,h0⟩ | ⟨g,cap,cur,e,_⟩
  ·omega
  ·injection e with e;exact⟨g,e⟩
 obtain⟨p0,p1,p2⟩:=KV l i hi
 exact⟨g,rfl,(h.lt g rfl).2,(h.cellAt (i*3) (by omega)).trans p0,(h.cellAt (i*3+1) (by omega)).trans p1,(h.cellAt (i*3+2) (by omega)).trans p2⟩
theorem made_tiny{w w1:World}{e:Ending}(h:Gj w (A7 tinyS) e w1):Below w.heap.size w w1/\∃aC cC aN nN cN gL cL aK cK a0 c0,e=.returned (.tuple #[.agg #[.slice aC 0 cC,.slice aN nN cN,.slice (some ⟨gL,0,none⟩) 1 cL,.slice aK 1 cK],.agg #[.int .i64 0,.int .i64 0]])/\gL<w1.heap.size/\w1.cell? ⟨gL,0,none⟩=some (.slice a0 4 c0):=by
 unfold Gj at h
 rw[tiny_nums,Qm]at h
 obtain⟨hb,h⟩:=h
 obtain⟨aC,cC,aN,cN,aL,cL,aK,cK,he,hM⟩:=h [] Lm rfl
 obtain⟨vis,hr⟩:=hM.lists
 rw[SI]at hr he
 obtain⟨gL,ak,ck,rfl,h1,h2,-⟩:=list_read hr (k:=0) (by decide)
 exact⟨hb,aC,cC,aN,_,cN,gL,cL,aK,cK,ak,ck,he,h1,h2⟩
theorem ops_lasts{w w':World}(h:OpsW w w.heap.size)(hb:Below w.heap.size w w'):OpsW w' w'.heap.size:=
 ⟨Z5 h.1 hb.size,fun k hk=>by rw[hb.cell (p:=⟨0,k,none⟩) h.1];exact h.2 k hk⟩
structure InL(w wr:World)(P B:Nat)(vC vN vL vK:Value)(s:MW)(nc:Nat):Prop where
 box:BoxP wr P vC vN vL vK
 made:MkdO wr B vC vN vL vK s nc
 bel:Below w.heap.size w wr
theorem InL.alloc{w wr:World}{P B:Nat}{vC vN vL vK:Value}{s:MW}{nc:Nat}(h:InL w wr P B vC vN vL vK s nc)(o:Obj):InL w (wr.alloc o) P B vC vN vL vK s nc:=
 ⟨h.box.alloc o,h.made.same fun g _ hg=>((Zg _ wr).alloc (Z0 _) o).block g hg,h.bel.alloc h.bel.size o⟩
theorem cnt_read{w:World}{B c:Nat}{a:Option Addr}{l:List Nat}{n:Nat}(h:w.ownsRow B 3 1 (.slice a n c) l.length (CE l)){k:Nat}(hk:k<l.length):∃g,a=some ⟨g,0,none⟩/\g<w.heap.size/\w.cell? ⟨g,k,none⟩=some (.int .i64 (l[k]:Int)):=by
 obtain⟨g,rfl⟩:∃g,a=some ⟨g,0,none⟩:=by
  rcases h.2 with⟨_,h0⟩ | ⟨g,cap,cur,e,_⟩
  ·omega
  ·injection e with e;exact⟨g,e⟩
 obtain⟨a',c',e'⟩:=Aq h
 injection e' with e1 e2 e3
 subst e2
 have hrow:=h
 refine⟨g,rfl,(hrow.lt g rfl).2,(hrow.cellAt k (by omega)).trans ?_⟩
 unfold CE
 rw[List.getElem?_map,List.getElem?_eq_getElem hk]
 rfl
theorem prog_new(w:World)(a b c d:Value)(o:Obj):BoxP ((w.alloc (.cells #[a,b,c,d] 27)).alloc o) w.heap.size a b c d:=BoxP.alloc (show BoxP (w.alloc _) w.heap.size a b c d from heap_alloc_new w _) o
theorem six_below{w W:World}{N R:Nat}(hb:Below N w W)(hN:N<=R)(a' b' c' d' x' y':Value):Below N w ((((((W.setCell ⟨R,0,none⟩ a').setCell ⟨R,1,none⟩ b').setCell ⟨R,2,none⟩ c').setCell ⟨R,3,none⟩ d').setCell ⟨R+1,0,none⟩ x').setCell ⟨R+1,1,none⟩ y'):=
 (((((hb.setCell hN _).setCell hN _).setCell hN _).setCell hN _).setCell (by dsimp only;omega) _).setCell (by dsimp only;omega) _
theorem walk_bad(t:ByteArray)(w:World)(he:Errs w)(hop:OpsW w w.heap.size)(c a:Int)(hc:¬c=0)(h2:∀w',Errs w'->OpsW w' w'.heap.size->Calls Tryz.prog 4 #[.string t] w' fun e w2=>Below w'.heap.size w' w2/\e=.returned (.tuple #[.agg #[.slice none 0 0,.slice none 0 0,.slice none 0 0,.slice none 0 0],.agg #[.int .i64 c,.int .i64 a]])) :
  Calls Tryz.prog 3 #[.string t] w fun e w'=>e=.returned (.bool true)/\Below w.heap.size w w':=by
 have h1:=(Io tinyS w he hop (by decide)).mono (fun e w' h=>made_tiny h)
 have HE:Hid (Errs w):=he
 have HO:Hid (OpsW w w.heap.size):=hop
 clear he hop
 go_enter Tryz.func3,Tryz.ntmps3
 go_wp2_with (first
  | (go_at_call 4;refine(h2 _ (HE.out.lasts hb2) (ops_lasts HO.out hb2)).mono ?_;rintro e w2 ⟨hbb,rfl⟩;have hP2:=(prog_new w1 (.slice aC1 0 cC1) (.slice aN1 nN1 cN1) (.slice (some ⟨gL,0,none⟩) 1 cL) (.slice aK1 1 cK1) (.cells #[.int .i64 0,.int .i64 0] 30)).below hbb (by simp;omega);have hF2:=Box2.below (Il w1 (.cells #[.slice aC1 0 cC1,.slice aN1 nN1 cN1,.slice (some ⟨gL,0,none⟩) 1 cL,.slice aK1 1 cK1] 27) (.int .i64 0) (.int .i64 0)) hbb (by simp);obtain⟨⟨p0,p1,p2,p3⟩,f0,f1,f2,f3⟩:=hP2.facts;obtain⟨hlf,⟨q0,q1⟩,z0,z1⟩:=hF2.facts;have hlp:=hP2.lt)
  | (go_at_call 4;refine h1.mono ?_;rintro e w1 ⟨hb1,aC1,cC1,aN1,nN1,cN1,gL,cL,aK1,cK1,a0,c0,rfl,hgl,hcell⟩;have hsz1:=hb1.size;have hb2:Below w.heap.size w ((w1.alloc (.cells #[.slice aC1 0 cC1,.slice aN1 nN1 cN1,.slice (some ⟨gL,0,none⟩) 1 cL,.slice aK1 1 cK1] 27)).alloc (.cells #[.int .i64 0,.int .i64 0] 30)):=hb1.trans ((Au w1 _ _).mono hsz1)))
 go_ret
 refine⟨by first | rfl | simp,?_⟩
 exact six_below (hb2.trans (hbb.mono (by have:=hb2.size;simp at this⊢;omega))) (by omega) _ _ _ _ _ _
theorem walk_ok(t:ByteArray)(w:World)(he:Errs w)(hop:OpsW w w.heap.size)(s:MW)(nc:Nat)(hL:CX nc s)(h3:∀w',Errs w'->OpsW w' w'.heap.size->Calls Tryz.prog 4 #[.string t] w' fun e w2=>Below w'.heap.size w' w2/\∃aC cC aN cN aL cL aK cK,e=.returned (.tuple #[.agg #[.slice aC nc cC,.slice aN s.names.length cN,.slice aL s.lists.length cL,.slice aK s.lists.length cK],.agg #[.int .i64 0,.int .i64 0]])/\MkdO w2 w'.heap.size (.slice aC nc cC) (.slice aN s.names.length cN) (.slice aL s.lists.length cL) (.slice aK s.lists.length cK) s nc) :
  Calls Tryz.prog 3 #[.string t] w fun e w'=>e=.returned (.bool true)/\Below w.heap.size w w':=by
 have h1:=(Io tinyS w he hop (by decide)).mono (fun e w' h=>made_tiny h)
 have HE:Hid (Errs w):=he
 have HO:Hid (OpsW w w.heap.size):=hop
 have HL:Hid (CX nc s):=hL
 clear he hop hL
 go_enter Tryz.func3,Tryz.ntmps3
 go_wp2_with (first
  | (go_at_call 4;refine(h3 _ (HE.out.lasts hb2) (ops_lasts HO.out hb2)).mono ?_;rintro e w2 ⟨hbb,aC,cC,aN,cN,aL,cL2,aK,cK,rfl,hM⟩;have hP2:=(prog_new w1 (.slice aC1 0 cC1) (.slice aN1 nN1 cN1) (.slice (some ⟨gL,0,none⟩) 1 cL) (.slice aK1 1 cK1) (.cells #[.int .i64 0,.int .i64 0] 30)).below hbb (by simp;omega);have hF2:=Box2.below (Il w1 (.cells #[.slice aC1 0 cC1,.slice aN1 nN1 cN1,.slice (some ⟨gL,0,none⟩) 1 cL,.slice aK1 1 cK1] 27) (.int .i64 0) (.int .i64 0)) hbb (by simp);obtain⟨⟨p0,p1,p2,p3⟩,f0,f1,f2,f3⟩:=hP2.facts;obtain⟨hlf,⟨q0,q1⟩,z0,z1⟩:=hF2.facts;have hlp:=hP2.lt)
  | (go_at_call 4;refine h1.mono ?_;rintro e w1 ⟨hb1,aC1,cC1,aN1,nN1,cN1,gL,cL,aK1,cK1,a0,c0,rfl,hgl,hcell⟩;have hsz1:=hb1.size;have hb2:Below w.heap.size w ((w1.alloc (.cells #[.slice aC1 0 cC1,.slice aN1 nN1 cN1,.slice (some ⟨gL,0,none⟩) 1 cL,.slice aK1 1 cK1] 27)).alloc (.cells #[.int .i64 0,.int .i64 0] 30)):=hb1.trans ((Au w1 _ _).mono hsz1)))
 have hin:InL w ((((((w2.setCell ⟨w1.heap.size,0,none⟩ (.slice aC nc cC)).setCell ⟨w1.heap.size,1,none⟩ (.slice aN s.names.length cN)).setCell ⟨w1.heap.size,2,none⟩ (.slice aL s.lists.length cL2)).setCell ⟨w1.heap.size,3,none⟩ (.slice aK s.lists.length cK)).setCell ⟨w1.heap.size+1,0,none⟩ (.int .i64 0)).setCell ⟨w1.heap.size+1,1,none⟩ (.int .i64 0)) w1.heap.size (w1.heap.size+2) (.slice aC nc cC) (.slice aN s.names.length cN) (.slice aL s.lists.length cL2) (.slice aK s.lists.length cK) s nc:=by
  refine⟨(Im hP2 hF2 _ _ _ _ _ _).1,?_,six_below (hb2.trans (hbb.mono (by have:=hb2.size;simp at this⊢;omega))) (by omega) _ _ _ _ _ _⟩
  rw[show((w1.alloc (.cells #[.slice aC1 0 cC1,.slice aN1 nN1 cN1,.slice (some ⟨gL,0,none⟩) 1 cL,.slice aK1 1 cK1] 27)).alloc (.cells #[.int .i64 0,.int .i64 0] 30)).heap.size=w1.heap.size+2 by simp]at hM
  exact hM.same fun g hg _=>OK _ _ _ _ _ _ g hg
 have HI0:Hid (InL w _ w1.heap.size (w1.heap.size+2) (.slice aC nc cC) (.slice aN s.names.length cN) (.slice aL s.lists.length cL2) (.slice aK s.lists.length cK) s nc):=hin
 have hfew:=hM.few.lists
 clear hin hM hP2 hF2 p0 p1 p2 p3 f0 f1 f2 f3 q0 q1 z0 z1
 go_loopw [5] (fun s5 wr=>∃k:Nat,s5=.int .i64 k/\k<=s.lists.length/\Hid (InL w wr w1.heap.size (w1.heap.size+2) (.slice aC nc cC) (.slice aN s.names.length cN) (.slice aL s.lists.length cL2) (.slice aK s.lists.length cK) s nc)) (fun s5 _=>90001-(intOf s5).toNat)
 case atStart=>exact⟨0,rfl,Z3 _,HI0⟩
 case round=>
  obtain⟨k,rfl,hk,HI⟩:=hrel
  obtain⟨⟨p0,p1,p2,p3⟩,_⟩:=HI.out.box.facts
  have hlp2:=HI.out.box.lt
  clear HI0
  by_cases hlt:k<s.lists.length
  ·have hki:(k:Int)<(s.lists.length:Int):=by omega
   have hwk:=Ao (x:=(k:Int)+1) (by omega) (by omega)
   have hlen:s.lists[k].length<=80000:=HI.out.made.few.each _ (Z6 hlt)
   go_wp2_with fail
   go_loopw [6] (fun s6 wr=>∃i:Nat,s6=.int .i64 i/\i<=s.lists[k].length/\Hid (InL w wr w1.heap.size (w1.heap.size+2) (.slice aC nc cC) (.slice aN s.names.length cN) (.slice aL s.lists.length cL2) (.slice aK s.lists.length cK) s nc)) (fun s6 _=>90001-(intOf s6).toNat)
   case atStart=>exact⟨0,rfl,Z3 _,HI⟩
   case round=>
    obtain⟨i,rfl,hi,HI2⟩:=hrel
    clear HI p0 p1 p2 p3 hlp2
    obtain⟨⟨p0,p1,p2,p3⟩,_⟩:=HI2.out.box.facts
    have hlp2:=HI2.out.box.lt
    obtain⟨vis,hr⟩:=HI2.out.made.lists
    obtain⟨g2,ak,ck,e2,hg2,hck,hrow⟩:=list_read hr hlt
    subst e2
    by_cases hlt2:i<s.lists[k].length
    ·have hii:(i:Int)<(s.lists[k].length:Int):=by omega
     have hwi:=Ao (x:=(i:Int)+1) (by omega) (by omega)
     have hwl:=Ao (x:=(s.lists[k].length:Int)+1) (by omega) (by omega)
     obtain⟨g3,e3,hg3,o0,o1,o2⟩:=ord_read hrow hlt2
     subst e3
     obtain⟨gK,eK,hgK,hcK⟩:=cnt_read HI2.out.made.counts (k:=k) (by rw[HI2.out.made.few.same];exact hlt)
     subst eK
     have hmem:s.lists[k][i]∈s.list k:=by
      unfold MW.list
      rw[Z2,List.getElem?_eq_getElem hlt]
      exact Z6 hlt2
     have hok:=HL.out.2 k _ hmem
     have el:(s.list k).length=s.lists[k].length:=by unfold MW.list;rw[Z2,List.getElem?_eq_getElem hlt];rfl
     have ec:s.count k=s.counts[k]'(by rw[HI2.out.made.few.same];exact hlt):=by unfold MW.count;rw[Z2,List.getElem?_eq_getElem];rfl
     rw[el,ec]at hok
     have HX:Hid (∀o,InL w (wr.alloc o) w1.heap.size (w1.heap.size+2) (.slice aC nc cC) (.slice aN s.names.length cN) (.slice (some ⟨g2,0,none⟩) s.lists.length cL2) (.slice (some ⟨gK,0,none⟩) s.lists.length cK) s nc):=fun o=>HI2.out.alloc o
     generalize (s.counts[k]'(by rw[HI2.out.made.few.same];exact hlt))=cnt at *
     generalize s.lists[k][i]=o at *
     generalize s.lists[k].length=len at *
     obtain⟨op,A,Bv⟩:=o
     obtain⟨b1,b2,b3,b4,b5,b6,b7,b8,b9,b10⟩:=hok
     dsimp only at o0 o1 o2 b1 b2 b3 b4 b5 b6 b7 b8 b9 b10
     have n1:¬A<0:=by omega
     have n2:¬op<1:=by omega
     have n3:¬ 27<op:=by omega
     clear hmem el ec hrow hr hbb hb2 hb1
     by_cases h24:op=24
     ·subst h24
      have n4:¬(len:Int)+1<=A:=by have:=b5 (Or.inl rfl);omega
      clear b1 b2 b3 b4 b5 b6 b7 b8 b9 b10
      go_wp2_with fail
      exact⟨⟨i+1,by simp,by omega,HX.out _⟩,by simp[intOf];omega⟩
     by_cases h25:op=25
     ·subst h25
      have n4:¬(len:Int)+1<=A:=by have:=b5 (Or.inr rfl);omega
      clear b1 b2 b3 b4 b5 b6 b7 b8 b9 b10
      go_wp2_with fail
      exact⟨⟨i+1,by simp,by omega,HX.out _⟩,by simp[intOf];omega⟩
     by_cases h6:op=6
     ·subst h6
      have n4:¬(cnt:Int)<=A:=by have:=b6 (Or.inl rfl);omega
      clear b1 b2 b3 b4 b5 b6 b7 b8 b9 b10
      go_wp2_with fail
      exact⟨⟨i+1,by simp,by omega,HX.out _⟩,by simp[intOf];omega⟩
     by_cases h7:op=7
     ·subst h7
      have n4:¬(cnt:Int)<=A:=by have:=b6 (Or.inr rfl);omega
      clear b1 b2 b3 b4 b5 b6 b7 b8 b9 b10
      go_wp2_with fail
      exact⟨⟨i+1,by simp,by omega,HX.out _⟩,by simp[intOf];omega⟩
     by_cases h23:op=23
     ·subst h23
      have n4:¬(s.lists.length:Int)<=A:=by have:=b7 rfl;omega
      clear b1 b2 b3 b4 b5 b6 b7 b8 b9 b10
      go_wp2_with fail
      exact⟨⟨i+1,by simp,by omega,HX.out _⟩,by simp[intOf];omega⟩
     by_cases h5:op=5
     ·subst h5
      have n4:¬(nc:Int)<=A:=by have:=b8 rfl;omega
      clear b1 b2 b3 b4 b5 b6 b7 b8 b9 b10
      go_wp2_with fail
      exact⟨⟨i+1,by simp,by omega,HX.out _⟩,by simp[intOf];omega⟩
     by_cases h10:op=10
     ·subst h10
      have n4:¬(s.names.length:Int)<=A:=by have:=b9 rfl;omega
      clear b1 b2 b3 b4 b5 b6 b7 b8 b9 b10
      go_wp2_with fail
      exact⟨⟨i+1,by simp,by omega,HX.out _⟩,by simp[intOf];omega⟩
     by_cases h8:op=8
     ·subst h8
      have n4:¬(60:Int)<=A:=by have:=b10 (Or.inl rfl);omega
      clear b1 b2 b3 b4 b5 b6 b7 b8 b9 b10
      go_wp2_with fail
      exact⟨⟨i+1,by simp,by omega,HX.out _⟩,by simp[intOf];omega⟩
     by_cases h9:op=9
     ·subst h9
      have n4:¬(60:Int)<=A:=by have:=b10 (Or.inr rfl);omega
      clear b1 b2 b3 b4 b5 b6 b7 b8 b9 b10
      go_wp2_with fail
      exact⟨⟨i+1,by simp,by omega,HX.out _⟩,by simp[intOf];omega⟩
     have n4:¬(4611686018427387904:Int)<=A:=by have:=b4 (by omega);omega
     clear b1 b2 b3 b4 b5 b6 b7 b8 b9 b10
     go_wp2_with fail
     exact⟨⟨i+1,by simp,by omega,HX.out _⟩,by simp[intOf];omega⟩
    ·have hii:¬(i:Int)<(s.lists[k].length:Int):=by omega
     go_wp2_with fail
     exact⟨⟨k+1,by simp,by omega,HI2⟩,by simp[intOf];omega⟩
  ·have hki:¬(k:Int)<(s.lists.length:Int):=by omega
   go_wp2_with fail
   go_ret
   exact⟨by first | rfl | simp,HI.out.bel⟩
theorem walk(t:ByteArray)(w:World)(he:Errs w)(hop:OpsW w w.heap.size)(hm:t.size<=maxLen) :
  Calls Tryz.prog 3 #[.string t] w fun e w'=>e=.returned (.bool true)/\Below w.heap.size w w':=by
 cases hp:Ee (A7 t)with
 | error f=>
  refine walk_bad t w he hop f.1 f.2 (Mr hp) (fun w' he' ho'=>(Io t w' he' ho' hm).mono (fun e w2 h=>?_))
  unfold Gj at h
  rw[hp]at h
  exact h
 | ok n=>
  obtain⟨ks,b,hn,h1,h2,h3,h4⟩:=Ll hp
  refine walk_ok t w he hop (Bk ks b).2 ks.length (QS h1 h2 h4).1 (fun w' he' ho'=>(Io t w' he' ho' hm).mono (fun e w2 h=>?_))
  unfold Gj at h
  rw[hp]at h
  exact⟨h.1,h.2 ks b hn⟩
theorem own:ownKnob Tryz.prog.godebug=none:=by kernel_rfl
theorem lt4:Tryz.prog.underlying 4=some .bool:=by kernel_rfl
theorem gRange:Tryz.prog.globalNamed "strconv.ErrRange"=some 3:=by kernel_rfl
theorem gRangeType:(Tryz.prog.globals[3]?).map (·.type)=some 116:=by kernel_rfl
theorem star: "*"++ "errors.errorString"= "*errors.errorString":=by decide
theorem rowErr(u:TypeId)(h:Tryz.prog.typeName? 3 u=some "*errors.errorString"):u=158:=
 typeName_ptr_named (nm:= "errors.errorString") (by rw[star];kernel_rfl) (by kernel_rfl) (by decide) u (by rw[star];exact h)
theorem door_met(os:Os)(args:Array Value):laidMetH Tryz.prog Rows.codeLandsRow.laid ((World.doorLaid Tryz.prog 62 os).forCall (fun _ _=>0) ⟨#[],args,[]⟩).memory:=
 laidMetH_of_parts3 (fuel:=8) (laidMet_of_run' 8 (by kernel_rfl) (by kernel_rfl)) (by kernel_rfl) (by kernel_rfl)
theorem gOps:Tryz.prog.globalNamed "gesso/code.ops"=some 0:=by kernel_rfl
theorem gOpsType:(Tryz.prog.globals[0]?).map (·.type)=some 126:=by kernel_rfl
def tabOps:List Int:=[0,0,0,0,0,0,0,0,0,0,0,11,19,0,20,21,22,27,15,16,12,13,14,17,18,0,0,2,3,4]
theorem tab_ops:∀k:Fin 30,tabOps.getD k.val 0=opP (k.val:Int):=by decide
theorem of_ops{W:World}(h:laidMetH Tryz.prog Rows.codeLandsRow.laid W):OpsW W W.heap.size:=by
 rw[MakeChecks.laidMetH_plain _ _ _ (by kernel_rfl)]at h
 have h6:=h.tail.tail.tail.tail.tail
 have ht:Lib.TabIs Tryz.prog W "gesso/code.ops" .i64 tabOps:=Lib.tabIs_of_head gOps gOpsType Tryz.underlying126 Tryz.underlying3 (by kernel_rfl) (by kernel_rfl) h6
 have hc:∀k:Nat,k<30->W.cell? ⟨0,k,none⟩=some (.int .i64 (opP (k:Int))):=fun k hk=>by
  rw[ht.cell gOps k hk]
  have:=tab_ops ⟨k,hk⟩
  rw[<-this]
 exact⟨Lib.lt_of_cell (hc 0 (by decide)),hc⟩
theorem of_laid{W:World}(h:laidMetH Tryz.prog Rows.codeLandsRow.laid W):Errs W:=by
 rw[MakeChecks.laidMetH_plain _ _ _ (by kernel_rfl)]at h
 have h3:=h.tail.tail.tail
 obtain⟨a,s,hv,-,-,-⟩:=laid_sentinel h3 gRange gRangeType Tryz.underlying116 rowErr Tryz.underlying158 Tryz.underlying160 rfl rfl Tryz.underlying9 (by kernel_rfl) (by kernel_rfl)
 have hc:=World.var?_cell gRange hv 0
 simp at hc
 exact⟨Lib.lt_of_cell hc,_,_,hc⟩
theorem lifted(os:Os)(started:os.Started)(H:Type)(enc:TypeId×Value->H) :
  ReturnsInHanded {} Tryz.checked os 3 .any (fun w args=>(Rows.codeLandsSpec.pre enc Tryz.prog Tryz.f3 Rows.codeLandsRow.domain false w args/\laidMetH Tryz.prog Rows.codeLandsRow.laid w)/\sizedMet enc Tryz.prog Tryz.f3 (OpenSpec.ofChange Rows.codeLandsSpec) false w args)
   (Rows.codeLandsSpec.post enc Tryz.prog Tryz.f3 false true false false):=by
 refine returnsInHanded_of_change_and (C:=Tryz.checked) (X:=fun w _=>laidMetH Tryz.prog Rows.codeLandsRow.laid w) (fun _ _ _ hh h=>h.of_heap hh) own started (by kernel_rfl) Tryz.func3
  (ChangeSpec.witness_shaped (enc:=enc) (C:=Tryz.checked) (os:=os) (X:=fun w _=>laidMetH Tryz.prog Rows.codeLandsRow.laid w) false (World.doorLaid Tryz.prog 62 os) #[.string ⟨#[]⟩] 8 rfl (World.shaped_of_RefB (by kernel_rfl) (by kernel_rfl)) (by kernel_rfl) (by kernel_rfl) (by kernel_rfl) (door_met os _)) ?_
 intro W base args ds gs before hval0 hW _ _ hL _
 have hval:∀(j:Nat) t v,Tryz.f3.params[j]?=some t->args[j]?=some v->Value.okWide Tryz.prog W .any base t v:=hval0
 have hW':=hW
 obtain⟨p,q,hA0,hV,rfl,hfz,hnd⟩:=hW
 have hA:DataW.TrodAll enc Tryz.prog W 0 (fun _=>true) true Tryz.f3.params.toList args.toList ds p:=hA0
 rw[Tryz.params3]at hA hval
 obtain⟨v0,d0,rfl,rfl,h0⟩:=trodAll_one hA
 obtain⟨rfl,rfl⟩:=trodVars_none hV
 obtain⟨s,rfl,rfl,rfl,hs⟩:=Go.ChangeMaps.open_string Tb (hval 0 9 v0 rfl rfl) h0
 clear hA0 hval0
 simp only[List.append_nil]at hW'
 refine(walk s W (of_laid hL) (of_ops hL) hs).mono fun e W' ⟨he,bel⟩=>?_
 subst he
 exact⟨_,rfl,_,_,_,[],[],[],hW',trodAll_mk1 (shut_bool lt4 _),trodAll_mk1 (Go.ChangeMaps.shut_string Tb hs),rfl,bel.frame _,fun h=>by cases h⟩
theorem over:Rows.CodeLandsSaid:=
 OpenClaim.holds_of_wide 3 Tryz.f3 rfl rfl rfl rfl rfl rfl rfl ⟨rfl,rfl,rfl,rfl,rfl⟩ rfl rfl rfl rfl rfl (by kernel_rfl) Tryz.func3 (by kernel_rfl)
  (of_decide_eq_true (by kernel_rfl)) (by unfold Func.isWrapper;first | (rw[if_pos (by decide +kernel)];kernel_rfl) | (rw[if_neg (by decide +kernel)];exact⟨rfl,rfl⟩))
  (fun os started H enc _=>lifted os started H enc)
theorem card:Rows.CodeLandsCardSaid:=
 Claim7.holds_tied_plain_at .later [] [.data,.data,.data,.sentinel,.sentinel,.data] true _ true
  over (fun _ h=>by cases h) (by kernel_rfl) (fun _ h=>by cases h) codeLands_row_tie rfl ⟨rfl,rfl⟩ (by kernel_rfl) rfl
  (fun f fn hf hfn=>by
   obtain rfl:f=3:=Option.some.inj ((show Tryz.prog.funcNamed "gesso/gessokeep.CodeLands"=some 3 by kernel_rfl).symm.trans hf) |>.symm
   obtain rfl:fn=Tryz.f3:=(Option.some.inj (Tryz.func3.symm.trans hfn)).symm
   exact⟨by kernel_rfl,fun j t ht=>by
    rw[Tryz.params3]at ht
    have hm:t∈[9]:=by simpa using Array.mem_of_getElem? ht
    have hall:([9].all fun u=>!Tryz.prog.wantsStandIn u)=true:=by kernel_rfl
    exact(show Tryz.prog.wantsStandIn t=false by simpa using List.all_eq_true.1 hall t hm)⟩)
  (by kernel_rfl)
end Go.Proofs.YtpfdgbalchmmfaaGreatDoor.codeLands
namespace Go.Proofs.YtpfdgbalchmmfaaGreatDoor
theorem codeLands_holds:Rows.CodeLandsCardSaid:=codeLands.card
#print axioms codeLands_holds
end Go.Proofs.YtpfdgbalchmmfaaGreatDoor
