/- Texts in one. -/
import Derived.Test.YtibeadcfgcfdbaaGreatDoorMe
set_option maxHeartbeats 16000000
set_option maxRecDepth 20000
namespace Go.Proofs.YtibeadcfgcfdbaaGreatDoor
open Go.RowKit
theorem UW:(Tryz.prog.info? 24).map (fun i=>(i.zero,i.size,i.bytes))=some (some (.agg #[.int .i64 0,.string ⟨#[]⟩,.int .i64 0,.slice none 0 0]),4,56):=by kernel_rfl
theorem CC:Hz 22 24 4 56:=by
 obtain⟨i,hi,h0,h1,h2⟩:=info_parts UW
 exact⟨by kernel_rfl,⟨i,_,hi,h0,h1,h2,by rfl⟩,by decide,by decide⟩
structure KRow(w:World)(BB:Nat)(M:Nat->Prop)(g cap:Nat)(l:List (Nd×Value)):Prop where
 own:w.ownsRow BB 24 4 (sl g l.length cap) l.length (An l)
 kids:∀z∈l,KidsV w (fun k=>M k/\k≠g) z.2 z.1.kids
theorem KRow.lt{w:World}{BB g cap:Nat}{M:Nat->Prop}{l:List (Nd×Value)}(h:KRow w BB M g cap l):BB<=g/\g<w.heap.size:=h.own.lt g rfl
theorem KRow.grown{w w':World}{BB g cap Q:Nat}{M:Nat->Prop}{l:List (Nd×Value)}(h:KRow w BB M g cap l)(hg:w.grownBy w' (some Q))(hq:Q≠g)(hm:¬M Q):KRow w' BB M g cap l:=
 ⟨h.own.kept hg (Or.inr (by intro e;injection e with e;exact hq e.symm)),fun z hz=>(h.kids z hz).above (Zh hg (fun k e=>by injection e with e;rintro⟨h1,_⟩;exact hm (by rw[e];exact h1)))⟩
theorem KRow.alloc{w:World}{BB g cap:Nat}{M:Nat->Prop}{l:List (Nd×Value)}(h:KRow w BB M g cap l)(o:Obj):KRow (w.alloc o) BB M g cap l:=
 ⟨h.own.alloc o,fun z hz=>(h.kids z hz).above (Zh (Zf _ _ none) (fun k e=>by cases e))⟩
theorem KRow.first{w:World}{BB:Nat}{M:Nat->Prop}{n:Nd}{a b c d:Value}(h:NodeV w M (.agg #[a,b,c,d]) n)(hB:BB<=w.heap.size):∃x,[a,b,c,d]=Bb n x/\KRow (w.alloc (.cells #[a,b,c,d] 24)) BB M w.heap.size 1 [(n,x)]:=by
 obtain⟨x,hv,hk⟩:=h
 simp only[Value.agg.injEq]at hv
 have e:[a,b,c,d]=Bb n x:=by
  have:=congrArg Array.toList hv
  simpa using this
 refine⟨x,e,⟨?_,.inr ⟨w.heap.size,1,#[a,b,c,d],rfl,hB,heap_alloc_new w _,Z0 _,by decide,rfl,?_⟩⟩,?_⟩
 ·rfl
 ·show[a,b,c,d]=_
  rw[e]
  simp[An]
 ·intro z hz
  simp only[List.mem_singleton]at hz
  subst hz
  exact(hk.mono (fun k h1 h2=>⟨h1,by omega⟩)).above (Zh (Zf _ _ none) (fun k e=>by cases e))
theorem KRow.snoc{w w':World}{BB g cap g' cap':Nat}{M:Nat->Prop}{l:List (Nd×Value)}(h:KRow w BB M g cap l){n:Nd}{x:Value}(hx:KidsV w (fun k=>M k/\k≠g) x n.kids)(ho:w'.ownsRow BB 24 4 (sl g' (l.length+1) cap') (l.length+1) (An l++Bb n x))(hg:w.grownBy w' (some g))(hor:(some g:Option Nat)=some g'\/g'=w.heap.size):KRow w' BB M g' cap' (l++[(n,x)]):=by
 have hmono:∀(v:Value) (ks:List Nd),KidsV w (fun k=>M k/\k≠g) v ks->KidsV w' (fun k=>M k/\k≠g') v ks:=fun v ks hk=>
  (hk.mono (M':=fun k=>(M k/\k≠g')/\k≠g) (fun k h1 h2=>⟨⟨h1.1,by
   rcases hor with e | e
   ·injection e with e;rw[<-e];exact h1.2
   ·omega⟩,h1.2⟩)).above (Zh hg (fun k e=>by injection e with e;rintro⟨_,h1⟩;exact h1 e.symm)) |>.mono (fun k h1 _=>h1.1)
 refine⟨?_,?_⟩
 ·rw[J2,Z1]
  exact ho
 ·intro z hz
  rcases List.mem_append.1 hz with hz | hz
  ·exact hmono _ _ (h.kids z hz)
  ·simp only[List.mem_singleton]at hz
   subst hz
   exact hmono _ _ hx
theorem KRow.kidsV{w:World}{BB g cap:Nat}{M:Nat->Prop}{l:List (Nd×Value)}(h:KRow w BB M g cap l)(hg:M g):KidsV w M (sl g l.length cap) (l.map Prod.fst):=
 KidsV.of_own h.own (fun k e=>by injection e with e;rw[<-e];exact hg) (fun z hz=>(h.kids z hz).mono (fun k h1 _=>h1.1))
def KidsG(w:World)(M:Nat->Prop)(v:Value)(nd:Nd)(g:Got (List Nd)):Prop:=match g with
 | .ok (ks,_)=>KidsV w M v (nd::ks)
 | .error _=>∃ad n c,v=.slice ad n c
theorem KidsG.slice{w:World}{M:Nat->Prop}{v:Value}{nd:Nd}{g:Got (List Nd)}(h:KidsG w M v nd g):∃ad n c,v=.slice ad n c:=by
 match g,h with
 | .ok (ks,_),h=>obtain⟨ad,c,hv,_⟩:=h;exact⟨ad,_,_,hv⟩
 | .error _,h=>exact h
theorem KidsG.above{w w':World}{M:Nat->Prop}{v:Value}{nd:Nd}{g:Got (List Nd)}(h:KidsG w M v nd g)(ha:Above M w w'):KidsG w' M v nd g:=by
 match g,h with
 | .ok (ks,_),h=>exact KidsV.above h ha
 | .error _,h=>exact h
def FU(S:Src9)(s:PS):Got (List Nd):=if A1 S AC s=true then .ok ([],s)else E5 S s
theorem Is{w:World}{M:Nat->Prop}{S:Src9}{nd:Nd}{g1:Got (List Int)}{GA:Got (List Nd)}{G:Got Nd}{tx:ByteArray}{v7:Value}{lo i:Nat}(htx:FH (.string tx) g1)(hGA:GA=AA (A7 (AA (A7 g1) (A3 S AE))) (FU S))(hk:KidsG w M v7 nd GA)(hG:G=g1.then fun x s=>(A3 S AE s).then fun _ s=>(FU S s).then fun ks s=>(A3 S AC s).then fun _ s=>Cp S (.mk 25 x 0 (nd::ks)) s.node)(hi:∀s4 s5,A7 GA=.ok s4->A3 S AC s4=.ok ((),s5)->i+1<=s5.tok/\lo<=s5.tok) :
  Loop9 w M (.agg #[.int .i64 25,.string tx,.int .i64 0,v7]) G (Cp S) lo (Cz (A7 (AA (A7 GA) (A3 S AC)))) (i+1):=by
 have hany:OX (.agg #[.int .i64 25,.string tx,.int .i64 0,v7]):=by
  obtain⟨ad,n,c,rfl⟩:=hk.slice
  exact⟨_,_,_,_,_,_,rfl⟩
 match g1,htx,hGA,hG with
 | .error e,htx,hGA,hG=>
  subst hGA
  exact⟨hG,hany⟩
 | .ok (x,s2),htx,hGA,hG=>
  have e:Value.string tx=.string (strOfNums x):=htx
  injection e with e
  subst e
  rw[then_ok]at hG
  rw[stOf_ok,bindS_ok]at hGA
  cases hw:A3 S AE s2 with
  | error e=>
   rw[hw]at hGA hG
   subst hGA
   exact⟨hG,hany⟩
  | ok y=>
   obtain⟨⟨⟩,s3⟩:=y
   rw[hw]at hGA hG
   rw[then_ok]at hG
   rw[stOf_ok,bindS_ok]at hGA
   rw[<-hGA]at hG
   match GA,hk,hG,hi with
   | .error e,hk,hG,hi=>exact⟨hG,hany⟩
   | .ok (ks,s4),hk,hG,hi=>
    rw[then_ok]at hG
    rw[stOf_ok,bindS_ok]
    cases hw2:A3 S AC s4 with
    | error e=>rw[hw2]at hG;exact⟨hG,hany⟩
    | ok z=>
     obtain⟨⟨⟩,s5⟩:=z
     rw[hw2,then_ok]at hG
     obtain⟨h1,h2⟩:=hi s4 s5 rfl hw2
     exact⟨⟨.mk 25 x 0 (nd::ks),(show NodeV w M _ (.mk 25 x 0 (nd::ks)) from⟨v7,rfl,hk⟩),hG⟩,h1,h2⟩
theorem T1{S:Src9}{GA:Got (List Nd)}{acc:List Nd}{s:PS}(h:GA=(E5 S s).then fun ks s=>.ok (acc++ks,s)):GA=(AR S s).then fun k s=>if A1 S Al s=true then(E5 S s.step).then fun ks s=>.ok ((acc++[k])++ks,s)else .ok (acc++[k],s):=by
 rw[h,Kn]
 cases AR S s with
 | error e=>rfl
 | ok x=>
  obtain⟨k,s1⟩:=x
  rw[then_ok,then_ok]
  by_cases hc:A1 S Al s1=true
  ·rw[if_pos hc,if_pos hc]
   cases E5 S s1.step with
   | error e=>rfl
   | ok y=>
    obtain⟨ks,s2⟩:=y
    rw[then_ok,then_ok,then_ok,List.append_assoc]
    rfl
  ·rw[if_neg hc,if_neg hc,then_ok]
open Go.RowKit
theorem Box4.past{w w':World}{R r:Nat}{a b c d:Value}(h:Box4 w R a b c d)(hg:w.grownBy w' (some r))(hr:R≠r):Box4 w' R a b c d:=(hg.block R h.lt (fun e=>hr (by injection e))).trans h
theorem DH(w:World)(o:Obj)(a b c d:Value)(T:TypeId):∀j u,[a,b,c,d][j]?=some u->((w.alloc o).alloc (.cells #[a,b,c,d] T)).cell? ((⟨w.heap.size+1,0,none⟩:Addr).add j)=some u:=fun j u h=>by
 rw[Hl,show w.heap.size+1=(w.alloc o).heap.size by simp,World.cell?_alloc_at _ _ _ _ rfl,Nat.zero_add]
 simpa using h
theorem CL(a:Int)(b:ByteArray)(c:Int)(ad:Option Addr)(n cc:Nat):∀u∈[Value.int .i64 a,.string b,.int .i64 c,.slice ad n cc],u.oneCell'=true:=fun u hu=>by
 simp at hu
 rcases hu with rfl | rfl | rfl | rfl<;>rfl
theorem BQ(w:World)(x y:Obj){B:Nat}(h:B<=w.heap.size):Below B w ((w.alloc x).alloc y):=((Zg _ _).alloc h _).alloc (by simp;omega) _
theorem KRow.more{w w7:World}{BB g cap g' cap':Nat}{M M0:Nat->Prop}{l:List (Nd×Value)}{kn:Nd}{s4:PS}{a:Int}{b:ByteArray}{c:Int}{ad:Option Addr}{n cc:Nat}{o o':Obj}(h:KRow w BB M g cap l)(hv:ValG w M0 (.agg #[.int .i64 a,.string b,.int .i64 c,.slice ad n cc]) (.ok (kn,s4)))(hm:∀k,M0 k->k<w.heap.size->M k/\k≠g)(O7:w7.ownsRow BB 24 4 (sl g' (l.length+1) cap') (l.length+1) (An l++[.int .i64 a,.string b,.int .i64 c,.slice ad n cc]))(hg7:((w.alloc o).alloc o').grownBy w7 (some g))(hor:(some g:Option Nat)=some g'\/g'=((w.alloc o).alloc o').heap.size):∃x,[.int .i64 a,.string b,.int .i64 c,.slice ad n cc]=Bb kn x/\KRow w7 BB M g' cap' (l++[(kn,x)]):=by
 obtain⟨x,hx,hk⟩:=hv
 simp only[Value.agg.injEq]at hx
 have e:[.int .i64 a,.string b,.int .i64 c,.slice ad n cc]=Bb kn x:=by
  have:=congrArg Array.toList hx
  simpa using this
 refine⟨x,e,((h.alloc o).alloc o').snoc ?_ (by rw[<-e];exact O7) hg7 hor⟩
 exact((hk.mono hm).above (Zh (Zf _ _ none) (fun k e=>by cases e))).above (Zh (Zf _ _ none) (fun k e=>by cases e))
def PA(w:World)(BB:Nat)(M:Nat->Prop)(g cap m:Nat)(nd:Nd)(GA:Got (List Nd))(S:Src9)(st3:St9)(isb:Bool)(j lo2:Nat):Prop:=
 (KidsG w M (sl g m cap) nd GA/\A7 GA=st3/\j=0/\((isb=true/\∃s,st3=.ok s)\/(isb=false/\∃e,st3=.error e))) \/
 (isb=false/\∃(s3:PS) (acc:List Nd) (l:List (Nd×Value)),st3=.ok s3/\GA=((E5 S s3).then fun ks s=>.ok (acc++ks,s))/\KRow w BB M g cap l/\m=l.length/\l.map Prod.fst=nd::acc/\j<=s3.tok/\lo2<=s3.tok/\s3.tok<=S.L.length/\l.length<=j+1)
theorem PC{w:World}{BB g:Nat}{M:Nat->Prop}{nd:Nd}{S:Src9}{st2:St9}{lo2:Nat}{x:Value}(h:KRow w BB M g 1 [(nd,x)])(hg:M g)(hb:∀s,st2=.ok s->lo2<=s.tok/\s.tok<=S.L.length):PA w BB M g 1 1 nd (AA st2 (FU S)) S st2 (Aa S AC st2) 0 lo2:=by
 match st2,hb with
 | .error e,_=>exact Or.inl ⟨⟨_,_,_,rfl⟩,rfl,rfl,Or.inr ⟨rfl,e,rfl⟩⟩
 | .ok s,hb=>
  obtain⟨h1,h2⟩:=hb s rfl
  by_cases hs:A1 S AC s=true
  ·refine Or.inl ⟨?_,?_,rfl,Or.inl ⟨hs,s,rfl⟩⟩
   ·show KidsG w M _ nd (FU S s)
    unfold FU
    rw[if_pos hs]
    exact h.kidsV hg
   ·show A7 (FU S s)=_
    unfold FU
    rw[if_pos hs]
    rfl
  ·have hs':A1 S AC s=false:=by simpa using hs
   refine Or.inr ⟨hs',s,[],[(nd,x)],rfl,?_,h,rfl,rfl,Z3 _,h1,h2,by simp⟩
   show FU S s=_
   unfold FU
   rw[if_neg hs]
   cases E5 S s with
   | error e=>rfl
   | ok y=>rfl
theorem RQ(Q B:Nat)(v:Value)(S:Src9)(st:St9)(h1:Ah 175 (DB S) Q B v S st)(h2:∀s:PS,F8 st<=s.tok->s.tok<=S.L.length->Ah 136 (AR S) Q B v S (.ok s)):Ah 169 (E4 S) Q B v S st:=by
 intro w hp
 have hRB:=hp.size
 have hqb:=hp.qb
 have hfew:=hp.few
 obtain⟨vad,vc,hv0,_⟩:=hp.toks
 subst hv0
 have HPA:Hid (Par (w.alloc AK) Q B (.slice vad S.L.length vc) S st):=hp.below ((Zg _ w).alloc (Z0 _) _)
 have HX:=ZB w
 have e1:A2 ⟨#[46]⟩=FP:=by decide
 have hbg:∀st' w',Par w' Q B (.slice vad S.L.length vc) S st'->Calls Tryz.prog 134 #[.pointer (some ⟨Q,0,none⟩),.string ⟨#[46]⟩] w' fun e w''=>e=.returned (.bool (Aa S FP st'))/\Par w'' Q B (.slice vad S.L.length vc) S (CA S FP st')/\w'.grownBy w'' (some Q):=fun st' w' h'=>by have:=EN Q B _ S st' ⟨#[46]⟩ w' h';rw[e1]at this;exact this
 have HG:AA st (E4 S)=(AA st (DB S)).then (Cp S):=by
  match st with
  | .error e=>rfl
  | .ok s=>exact JK S s
 have HT:Hid (∀n s1,AA st (DB S)=.ok (n,s1)->F8 st<=s1.tok):=fun n s1 e=>by
  match st,e with
  | .ok s,e=>exact(Mw e).1
 rw[HG]
 have h1':Hid (∀w,Par w Q B (.slice vad S.L.length vc) S st->Calls Tryz.prog 175 #[.pointer (some ⟨Q,0,none⟩)] w fun e w'=>(∃u,e=.returned u/\ValG w' (AZ w.heap.size) u (AA st (DB S)))/\Par w' Q B (.slice vad S.L.length vc) S (A7 (AA st (DB S)))/\w.grownBy w' (some Q)):=h1
 have H2:Hid (∀s:PS,F8 st<=s.tok->s.tok<=S.L.length->Ah 136 (AR S) Q B (.slice vad S.L.length vc) S (.ok s)):=h2
 clear h1 h2 HG hp
 generalize F8 st=lo at HT H2
 generalize AA st (DB S)=g0 at *
 obtain⟨G,hGG⟩:∃G,G=g0.then (Cp S):=⟨_,rfl⟩
 rw[<-hGG]
 have HGG:Hid (G=g0.then (Cp S)):=hGG
 clear hGG
 go_enter Tryz.func169,Tryz.ntmps169
 go_wp2_with (first
  | (go_at_call 175;refine(h1'.out _ HPA.out).mono ?_;rintro e w1 ⟨⟨u,rfl,hv⟩,hp1,hg1⟩;obtain⟨a,b,c,ad,n,cc,hu'⟩:=hv.any;subst hu';have hX1:=HX.out.grown hg1 (by omega)))
 have sz1:w.heap.size<w1.heap.size:=by have:=hg1.size;simp at this;omega
 have HL0:Hid (Loop9 (w1.alloc (.cells #[.int .i64 a,.string b,.int .i64 c,.slice ad n cc] 24)) (Off w.heap.size w1.heap.size) (.agg #[.int .i64 a,.string b,.int .i64 c,.slice ad n cc]) G (Cp S) lo (A7 g0) 0):=by
  rw[HGG.out]
  exact Loop9.first ((hv.mono (fun k hk hlt=>⟨by have hk':(w.alloc AK).heap.size<=k:=hk;simp at hk';omega,by omega⟩)).above (Zh (Zf _ _ none) (fun k e=>by cases e))) HT.out
 have HP0:Hid (Par (w1.alloc (.cells #[.int .i64 a,.string b,.int .i64 c,.slice ad n cc] 24)) Q B (.slice vad S.L.length vc) S (A7 g0)):=hp1.below ((Zg _ _).alloc (Z0 _) _)
 have HN0:Hid (Box4 (w1.alloc (.cells #[.int .i64 a,.string b,.int .i64 c,.slice ad n cc] 24)) w1.heap.size (.int .i64 a) (.string b) (.int .i64 c) (.slice ad n cc)):=Box4.new _ _ _ _ _
 have HX0:Hid (Box4 (w1.alloc (.cells #[.int .i64 a,.string b,.int .i64 c,.slice ad n cc] 24)) w.heap.size (.int .i64 0) (.string ⟨#[]⟩) (.int .i64 0) (.slice none 0 0)):=hX1.alloc _
 have HG0:Hid (w.grownBy (w1.alloc (.cells #[.int .i64 a,.string b,.int .i64 c,.slice ad n cc] 24)) (some Q)):=((Zf w AK (some Q)).trans hg1).trans (Zf _ _ _)
 generalize w1.alloc (.cells #[.int .i64 a,.string b,.int .i64 c,.slice ad n cc] 24)=W0 at *
 have HNL:Hid (w.heap.size<=w1.heap.size):=Nat.le_of_lt sz1
 have HNR:Hid (w1.heap.size≠w.heap.size):=(by show w1.heap.size≠w.heap.size;omega)
 generalize hNN:w1.heap.size=N at *
 generalize A7 g0=st0 at *
 clear hv hp1 hg1 hX1 hNN HT HGG
 go_loopw [4] (fun s4 wr=>∃(i:Nat) (st1:St9) (a:Int) (b:ByteArray) (c:Int) (ad:Option Addr) (n cc:Nat),s4=.int .i64 i/\i<=4001/\Hid (Par wr Q B (.slice vad S.L.length vc) S st1)/\Hid (Box4 wr N (.int .i64 a) (.string b) (.int .i64 c) (.slice ad n cc))/\Hid (Box4 wr w.heap.size (.int .i64 0) (.string ⟨#[]⟩) (.int .i64 0) (.slice none 0 0))/\Hid (Loop9 wr (Off w.heap.size N) (.agg #[.int .i64 a,.string b,.int .i64 c,.slice ad n cc]) G (Cp S) lo st1 i)/\Hid (w.grownBy wr (some Q))) (fun s4 _=>4002-(intOf s4).toNat)
 case atStart=>exact⟨0,st0,a,b,c,ad,n,cc,rfl,by omega,HP0,HN0,HX0,HL0,HG0⟩
 case round=>
  clear HP0 HN0 HX0 HL0 HG0
  obtain⟨i,st1,a,b,c,ad,n,cc,rfl,hi,HP,HN,HR,HL,HGr⟩:=hrel
  obtain⟨tok,deep,many,fc,fa,ho,hf⟩:=HP.out.obj
  obtain⟨k0,_,_,_,_,_,_⟩:=ho.cells
  obtain⟨⟨x0,x1,x2,x3⟩,f0,f1,f2,f3⟩:=HN.out.facts
  obtain⟨⟨y0,y1,y2,y3⟩,r0,r1,r2,r3⟩:=HR.out.facts
  have hNb:=HN.out.lt
  clear ho hf
  have hb0:=hbg st1 wr HP.out
  cases hs:Aa S FP st1 with
  | false=>
   rw[hs]at hb0
   have HD:Hid (ValG wr (Off w.heap.size N) (.agg #[.int .i64 a,.string b,.int .i64 c,.slice ad n cc]) G/\A7 G=st1):=HL.out.done (fun m s e=>by
    subst e
    have hs':A1 S FP s=false:=hs
    rw[Gy,if_neg (by rw[hs'];decide)])
   have HS:Hid (CA S FP st1=st1):=by show _=_;unfold CA;rw[hs,if_neg (by decide)]
   rw[HS.out]at hb0
   by_cases hil:(i:Int)<=(S.L.length:Int)
   ·clear hs HL
    go_wp2_with (first
     | (go_at_call 134;refine hb0.mono ?_;rintro e w2 ⟨rfl,hp2,hg2⟩;obtain⟨⟨p0,p1,p2,p3⟩,_⟩:=(HN.out.grown hg2 (by omega)).facts;obtain⟨⟨q0,q1,q2,q3⟩,s0,s1,s2,s3⟩:=(HR.out.grown hg2 (by omega)).facts))
    refine bodyPost_ret (v:=.agg #[.int .i64 a,.string b,.int .i64 c,.slice ad n cc]) (by simp[results,Tryz.results169,go_sem,q0,q1,q2,q3]) rfl ⟨⟨_,rfl,?_⟩,by rw[HD.out.2];exact Ap hp2 hRB _ _ _ _,AG (HGr.out.trans hg2) (AX (Z0 _) _ _ _ _)⟩
    exact((HD.out.1.above (Zh hg2 (fun k e=>by injection e with e;rintro⟨h,_⟩;omega))).above (Af (R:=w.heap.size) (by rintro⟨h,_⟩;omega) _ _ _ _)).mono (fun k hk _=>Nat.le_of_lt hk.1)
   ·clear hs HL hb0
    go_wp2_with fail
    refine bodyPost_ret (v:=.agg #[.int .i64 a,.string b,.int .i64 c,.slice ad n cc]) (by simp[results,Tryz.results169,go_sem,y0,y1,y2,y3]) rfl ⟨⟨_,rfl,?_⟩,by rw[HD.out.2];exact Ap HP.out hRB _ _ _ _,AG HGr.out (AX (Z0 _) _ _ _ _)⟩
    exact(HD.out.1.above (Af (R:=w.heap.size) (by rintro⟨h,_⟩;omega) _ _ _ _)).mono (fun k hk _=>Nat.le_of_lt hk.1)
  | true=>
   match st1,hs,HP,HL,hb0 with
   | .ok s1,hs,HP,HL,hb0=>
    have hs':A1 S FP s1=true:=hs
    have ht:=AH hs'
    obtain⟨⟨nd,hnd,hGe⟩,hi1,hlo⟩:=HL.out
    have HND:Hid (NodeV wr (Off w.heap.size N) (.agg #[.int .i64 a,.string b,.int .i64 c,.slice ad n cc]) nd):=hnd
    have HGE:Hid (G=(AW S s1.step).then fun x s=>(A3 S AE s).then fun _ s=>(FU S s).then fun ks s=>(A3 S AC s).then fun _ s=>Cp S (.mk 25 x 0 (nd::ks)) s.node):=by show _=_;rw[hGe,Gy,if_pos hs'];rfl
    have hil:(i:Int)<=(S.L.length:Int):=by omega
    have hwi:=AN (x:=(i:Int)+1) (by omega) (by omega)
    rw[hs]at hb0
    have HS:Hid (CA S FP (.ok s1)=.ok s1.step):=by show _=_;unfold CA;rw[hs,if_pos rfl]
    rw[HS.out]at hb0
    have hnm:=fun w' (h':Par w' Q B (.slice vad S.L.length vc) S (.ok s1.step))=>FI Q B _ S (.ok s1.step) w' h'
    rw[bindS_ok]at hnm
    have HTK:Hid (∀x s,AW S s1.step=.ok (x,s)->s1.tok+2<=s.tok/\s.tok<=S.L.length):=fun x s e=>by
     have:=(Ba S s1.step).at e
     have e2:s1.step.tok=s1.tok+1:=rfl
     omega
    have HNL2:Hid (w.heap.size<=N):=HNL
    clear hs hs' HL hnd hGe
    generalize AW S s1.step=g1 at *
    have hW1:=Bf (Q:=Q) (B:=B) (v:=(.slice vad S.L.length vc)) (S:=S) (x:=⟨#[40]⟩) (l:=AE) (by decide) (A7 g1)
    obtain⟨st2,HST2⟩:∃st2,Hid (st2=A7 (AA (A7 g1) (A3 S AE))):=⟨_,rfl⟩
    rw[<-HST2.out]at hW1
    have hse:=fun w' (h':Par w' Q B (.slice vad S.L.length vc) S st2)=>DG Q B _ S st2 ⟨#[41]⟩ w' h'
    rw[show A2 ⟨#[41]⟩=AC by decide]at hse
    go_wp2_with (first
     | (go_at_call 134;refine hb0.mono ?_;rintro e w2 ⟨rfl,hp2,hg2⟩)
     | (go_at_call 109;refine(hnm _ hp2).mono ?_;rintro e w3 ⟨⟨xv,rfl,htx⟩,hp3,hg3⟩;obtain⟨tx,hxv⟩:=DS htx;subst hxv;have hgN:=hg2.trans hg3;obtain⟨⟨p0,p1,p2,p3⟩,_⟩:=(HN.out.grown hgN (by omega)).facts;have hN3:=(HN.out.grown hgN (by omega)).lt;have hp3a:=hp3.below ((Zg _ _).alloc (Z0 _) (.cells #[.int .i64 a,.string b,.int .i64 c,.slice ad n cc] 24)))
     | (go_at_call 87;refine(hW1 _ hp3a).mono ?_;rintro e w4 ⟨rfl,hp4,hg4⟩)
     | (go_at_call 85;refine(hse _ hp4).mono ?_;rintro e w5 ⟨rfl,hb5⟩))
    have hp5:=hp4.below hb5
    have hQo:¬Off w.heap.size N Q:=by rintro⟨h,_⟩;omega
    have hnd3:NodeV w3 (Off w.heap.size N) (.agg #[.int .i64 a,.string b,.int .i64 c,.slice ad n cc]) nd:=HND.out.above (Zh hgN (fun k e=>by injection e with e;rw[<-e];exact hQo))
    obtain⟨xk,hxk0,hrow3⟩:=KRow.first hnd3 (BB:=w3.heap.size) (Z0 _)
    clear hxk0
    have sR3:w.heap.size<w3.heap.size:=(HR.out.grown hgN (by omega)).lt
    have hrow5:=(hrow3.grown hg4 (by omega) hQo).grown (A0 Q hb5) (by omega) hQo
    have hN5:=(((HN.out.grown hgN (by omega)).alloc (.cells #[.int .i64 a,.string b,.int .i64 c,.slice ad n cc] 24)).grown hg4 (by omega)).grown (A0 Q hb5) (by omega)
    have hR5:=(((HR.out.grown hgN (by omega)).alloc (.cells #[.int .i64 a,.string b,.int .i64 c,.slice ad n cc] 24)).grown hg4 (by omega)).grown (A0 Q hb5) (by omega)
    have hG5:w.grownBy w5 (some Q):=(((HGr.out.trans hgN).trans (Zf _ _ _)).trans hg4).trans (A0 Q hb5)
    have hb2:∀s,st2=.ok s->s1.tok+2<=s.tok/\s.tok<=S.L.length:=fun s e=>by
     rw[HST2.out]at e
     match g1,HTK,e with
     | .ok (x,s'),HTK,e=>
      have h1:=HTK.out x s' rfl
      rw[stOf_ok,bindS_ok]at e
      cases hw:A3 S AE s' with
      | error e'=>rw[hw]at e;cases e
      | ok y=>
       obtain⟨⟨⟩,s''⟩:=y
       rw[hw]at e
       cases e
       have:=(Ag S AE s').at hw
       omega
    have HI0:Hid (PA w5 w3.heap.size (Off w.heap.size N) w3.heap.size 1 1 nd (AA st2 (FU S)) S st2 (Aa S AC st2) 0 (s1.tok+2)):=PC hrow5 ⟨sR3,by omega⟩ hb2
    obtain⟨GA,HGA⟩:∃GA,Hid (GA=AA st2 (FU S)):=⟨_,rfl⟩
    have HGB:Hid (∀s4,A7 GA=.ok s4->s1.tok+2<=s4.tok):=fun s4 e=>by
     rw[HGA.out]at e
     match st2,hb2,e with
     | .ok s2,hb2,e=>
      have h1:=hb2 s2 rfl
      rw[bindS_ok]at e
      unfold FU at e
      split at e
      ·cases e;exact h1.1
      ·cases ha:E5 S s2 with
       | error e'=>rw[ha]at e;cases e
       | ok y=>
        obtain⟨ks,s'⟩:=y
        rw[ha]at e
        cases e
        have:=(My ha).1
        omega
    rw[<-HGA.out]at HI0
    have HGA2:Hid (GA=AA (A7 (AA (A7 g1) (A3 S AE))) (FU S)):=by show _=_;rw[HGA.out,HST2.out]
    have HTX:Hid (FH (.string tx) g1):=htx
    have HP5:Hid (Par w5 Q B (.slice vad S.L.length vc) S st2):=hp5
    have HN5:Hid (Box4 w5 N (.int .i64 a) (.string b) (.int .i64 c) (.slice ad n cc)):=hN5
    have HR5:Hid (Box4 w5 w.heap.size (.int .i64 0) (.string ⟨#[]⟩) (.int .i64 0) (.slice none 0 0)):=hR5
    have HG5:Hid (w.grownBy w5 (some Q)):=hG5
    have HB3:Hid (w.heap.size<w3.heap.size/\N<w3.heap.size):=⟨sR3,hN3⟩
    have hW2:=Bf (Q:=Q) (B:=B) (v:=(.slice vad S.L.length vc)) (S:=S) (x:=⟨#[41]⟩) (l:=AC) (by decide) (A7 GA)
    have hcm:=fun st' w' (h':Par w' Q B (.slice vad S.L.length vc) S st')=>DG Q B _ S st' ⟨#[44]⟩ w' h'
    rw[show A2 ⟨#[44]⟩=Al by decide]at hcm
    have HHI:Hid (∀s4 s5,A7 GA=.ok s4->A3 S AC s4=.ok ((),s5)->i+1<=s5.tok/\lo<=s5.tok):=fun s4 s5 e1 e2=>by
     have h1:=HGB.out s4 e1
     have h2:=((Ag S AC s4).at e2).1
     omega
    clear hW1 hse hnm hp2 hg2 htx hp3 hg3 hgN hp3a hp4 hg4 hb5 hp5 hnd3 hrow3 hrow5 hN5 hR5 hG5 hb2 HND HGA HST2 HTK hb0 HP HN HR HGr p0 p1 p2 p3 k0 x0 x1 x2 x3 f0 f1 f2 f3 y0 y1 y2 y3 r0 r1 r2 r3 hNb hbg HGB
    generalize Aa S AC st2=isb0 at *
    generalize w3.heap.size=BB at *
    go_loopw [5,7,8] (fun s5 s7 s8 wr=>∃(j:Nat) (st3:St9) (isb:Bool) (g cap m:Nat),s5=.bool isb/\s7=sl g m cap/\s8=.int .i64 j/\j<=4001/\Hid (Par wr Q B (.slice vad S.L.length vc) S st3)/\Hid (Box4 wr N (.int .i64 a) (.string b) (.int .i64 c) (.slice ad n cc))/\Hid (Box4 wr w.heap.size (.int .i64 0) (.string ⟨#[]⟩) (.int .i64 0) (.slice none 0 0))/\Hid (w.grownBy wr (some Q))/\Hid (PA wr BB (Off w.heap.size N) g cap m nd GA S st3 isb j (s1.tok+2))) (fun _ _ s8 _=>4002-(intOf s8).toNat)
    case atStart=>exact⟨0,st2,isb0,BB,1,1,rfl,rfl,rfl,by omega,HP5,HN5,HR5,HG5,HI0⟩
    case round=>
     clear HP5 HN5 HR5 HG5 HI0
     obtain⟨j,st3,isb,g,cap,m,rfl,rfl,rfl,hj,HP,HN,HR,HGr,HI⟩:=hrel
     rcases HI.out with⟨hkg,hst,hj0,hor⟩ | ⟨hib,s3,acc,l,hst,hga,hrow,hml,hmap,hj3,hlo3,hle3,hll⟩
     ·have HK:Hid (KidsG wr (Off w.heap.size N) (sl g m cap) nd GA):=hkg
      subst hj0
      rw[<-hst]at HP hor
      rcases hor with⟨rfl,s,hs⟩ | ⟨rfl,e,he⟩
      ·have HPF:Hid (Par wr Q B (.slice vad S.L.length vc) S (A7 GA)):=HP
       have HNF:Hid (Box4 wr N (.int .i64 a) (.string b) (.int .i64 c) (.slice ad n cc)):=HN
       have HRF:Hid (Box4 wr w.heap.size (.int .i64 0) (.string ⟨#[]⟩) (.int .i64 0) (.slice none 0 0)):=HR
       have HGF:Hid (w.grownBy wr (some Q)):=HGr
       have HKF:Hid (KidsG wr (Off w.heap.size N) (sl g m cap) nd GA):=HK
       obtain⟨tok,deep,many,fc,fa,ho,hf⟩:=HP.out.obj
       obtain⟨k0,_,_,_,_,k5,_⟩:=ho.cells
       clear ho hf hs hkg hst
       go_wp2_with (first
        | (go_at_call 87;refine(hW2 _ HPF.out).mono ?_;rintro e wA ⟨rfl,hpA,hgA⟩)
        | (go_at_call 89;refine(At Q B _ S _ _ _ _ ⟨_,_,_,rfl⟩ _ hpA).mono ?_;rintro e wB ⟨rfl,hpB,hgB⟩;have hgAB:=hgA.trans hgB;have hNB:=HNF.out.grown hgAB (by have:=HNL2.out;omega);obtain⟨⟨m0,m1,m2,m3⟩,o0,o1,o2,o3⟩:=hNB.facts))
       have hNR:N≠w.heap.size:=HNR.out
       have hRB':=HRF.out.grown hgAB (by omega)
       have hend:=Is HTX.out HGA2.out (HKF.out.above ((Zh hgAB (fun k e=>by injection e with e;rintro⟨h,_⟩;omega)).trans (Af (R:=N) (by rintro⟨_,h⟩;exact h rfl) (.int .i64 25) (.string tx) (.int .i64 0) (sl g m cap)))) HGE.out HHI.out
       exact⟨⟨i+1,_,25,tx,0,some ⟨g,0,none⟩,m,cap,by simp,by omega,Ap hpB (by have:=HNL2.out;omega) _ _ _ _,hNB.put _ _ _ _,hRB'.other hNR _ _ _ _,hend,AG (HGF.out.trans hgAB) (AX HNL2.out _ _ _ _)⟩,by simp[intOf];omega⟩
      ·have HPF:Hid (Par wr Q B (.slice vad S.L.length vc) S (A7 GA)):=HP
       have HNF:Hid (Box4 wr N (.int .i64 a) (.string b) (.int .i64 c) (.slice ad n cc)):=HN
       have HRF:Hid (Box4 wr w.heap.size (.int .i64 0) (.string ⟨#[]⟩) (.int .i64 0) (.slice none 0 0)):=HR
       have HGF:Hid (w.grownBy wr (some Q)):=HGr
       have HKF:Hid (KidsG wr (Off w.heap.size N) (sl g m cap) nd GA):=HK
       obtain⟨tok,deep,many,fc,fa,ho,hf⟩:=HP.out.obj
       obtain⟨k0,_,_,_,_,k5,_⟩:=ho.cells
       rw[he]at hf
       obtain⟨ec,ea⟩:=e
       obtain⟨rfl,rfl,hfc⟩:=hf
       have hcb:(fc==0)=false:=by simpa using hfc
       clear ho he hkg hst
       go_wp2_with (first
        | (go_at_call 87;refine(hW2 _ HPF.out).mono ?_;rintro e wA ⟨rfl,hpA,hgA⟩)
        | (go_at_call 89;refine(At Q B _ S _ _ _ _ ⟨_,_,_,rfl⟩ _ hpA).mono ?_;rintro e wB ⟨rfl,hpB,hgB⟩;have hgAB:=hgA.trans hgB;have hNB:=HNF.out.grown hgAB (by have:=HNL2.out;omega);obtain⟨⟨m0,m1,m2,m3⟩,o0,o1,o2,o3⟩:=hNB.facts))
       have hNR:N≠w.heap.size:=HNR.out
       have hRB':=HRF.out.grown hgAB (by omega)
       have hend:=Is HTX.out HGA2.out (HKF.out.above ((Zh hgAB (fun k e=>by injection e with e;rintro⟨h,_⟩;omega)).trans (Af (R:=N) (by rintro⟨_,h⟩;exact h rfl) (.int .i64 25) (.string tx) (.int .i64 0) (sl g m cap)))) HGE.out HHI.out
       exact⟨⟨i+1,_,25,tx,0,some ⟨g,0,none⟩,m,cap,by simp,by omega,Ap hpB (by have:=HNL2.out;omega) _ _ _ _,hNB.put _ _ _ _,hRB'.other hNR _ _ _ _,hend,AG (HGF.out.trans hgAB) (AX HNL2.out _ _ _ _)⟩,by simp[intOf];omega⟩
     ·subst hib hst hml
      have hxx:=H2.out s3 (by omega) hle3
      unfold Ah at hxx
      rw[bindS_ok]at hxx
      have hga2:=T1 hga
      obtain⟨many,ho,_,_,_,_⟩:=HP.out.ok
      obtain⟨k0,_,k2,_,_,k5,_⟩:=ho.cells
      have hjl:(j:Int)<=(S.L.length:Int):=by omega
      have hwj:=AN (x:=(j:Int)+1) (by omega) (by omega)
      have hfw:=HP.out.few
      have HRW:Hid (KRow wr BB (Off w.heap.size N) g cap l):=hrow
      have hgl:=hrow.lt
      have hQo:¬Off w.heap.size N Q:=by rintro⟨h,_⟩;omega
      have hB3:=HB3.out
      have hnl2:=HNL2.out
      have hll2:l.length<=4003:=by omega
      clear ho hga hrow HI
      cases hgk:AR S s3 with
      | error e0=>
       rw[hgk]at hxx hga2
       have HGAE:Hid (A7 GA=.error e0/\GA=.error e0):=by show _/\_;rw[show GA=.error e0 from hga2];exact⟨rfl,rfl⟩
       have hcm0:=hcm (.error e0)
       rw[show Aa S Al (.error e0)=false from rfl]at hcm0
       clear hgk hga2 hcm
       go_wp2_with (first
        | (go_at_call 136;refine(hxx _ HP.out).mono ?_;rintro e w6 ⟨⟨u,rfl,hv⟩,hp6,hg6⟩;obtain⟨a',b',c',ad',n',cc',hu'⟩:=hv.any;subst hu';have hrw6:=(HRW.out.grown hg6 (by omega) hQo))
        | (at_builtin;refine AO CC rfl (.tmp 57) (.tmp 59) rfl BB l.length 1 (sl g l.length cap) (An l) [.int .i64 a',.string b',.int .i64 c',.slice ad' n' cc'] rfl ((hrw6.alloc (.cells #[.int .i64 a',.string b',.int .i64 c',.slice ad' n' cc'] 24)).alloc (.cells #[.int .i64 a',.string b',.int .i64 c',.slice ad' n' cc'] 24)).own ⟨w6.heap.size+1,0,none⟩ rfl rfl (DH _ _ _ _ _ _ _) (CL _ _ _ _ _ _) (by omega) (by have:=hg6.size;simp;omega) ?_;intro g' cap' w7 O7 hg7x hor7;have hg7:((w6.alloc (.cells #[.int .i64 a',.string b',.int .i64 c',.slice ad' n' cc'] 24)).alloc (.cells #[.int .i64 a',.string b',.int .i64 c',.slice ad' n' cc'] 24)).grownBy w7 (some g):=hg7x;have hb7:Below B w6 w7:=(BQ w6 (.cells #[.int .i64 a',.string b',.int .i64 c',.slice ad' n' cc'] 24) (.cells #[.int .i64 a',.string b',.int .i64 c',.slice ad' n' cc'] 24) (by have:=hg6.size;omega)).grown hg7 (by have:=hg6.size;simp;omega) (fun k e=>by injection e with e;omega);have hp7:=hp6.apart hb7;have hgl7:=O7.lt g' rfl)
        | (go_at_call 85;refine(hcm0 _ hp7).mono ?_;rintro e w8 ⟨rfl,hb8⟩;have HPF:Hid (Par w8 Q B (.slice vad S.L.length vc) S (A7 GA)):=(by show Par w8 Q B _ S (A7 GA);rw[HGAE.out.1];exact hp7.below hb8);have HNF:Hid (Box4 w8 N (.int .i64 a) (.string b) (.int .i64 c) (.slice ad n cc)):=((((HN.out.grown hg6 (by omega)).alloc _).alloc _).past hg7 (by omega)).grown (A0 Q hb8) (by omega);have HRF:Hid (Box4 w8 w.heap.size (.int .i64 0) (.string ⟨#[]⟩) (.int .i64 0) (.slice none 0 0)):=((((HR.out.grown hg6 (by omega)).alloc _).alloc _).past hg7 (by omega)).grown (A0 Q hb8) (by omega);have HGF:Hid (w.grownBy w8 (some Q)):=(AG (HGr.out.trans hg6) ((BQ w6 (.cells #[.int .i64 a',.string b',.int .i64 c',.slice ad' n' cc'] 24) (.cells #[.int .i64 a',.string b',.int .i64 c',.slice ad' n' cc'] 24) (by have:=hg6.size;have:=HR.out.lt;omega)).grown hg7 (by have:=hg6.size;have:=HR.out.lt;simp;omega) (fun k e=>by injection e with e;omega))).trans (A0 Q hb8);have HKF:Hid (KidsG w8 (Off w.heap.size N) (sl g' (l.length+1) cap') nd GA):=(by rw[HGAE.out.2];exact⟨_,_,_,rfl⟩))
        | (go_at_call 87;refine(hW2 _ HPF.out).mono ?_;rintro e wA ⟨rfl,hpA,hgA⟩)
        | (go_at_call 89;refine(At Q B _ S _ _ _ _ ⟨_,_,_,rfl⟩ _ hpA).mono ?_;rintro e wB ⟨rfl,hpB,hgB⟩;have hgAB:=hgA.trans hgB;have hNB:=HNF.out.grown hgAB (by have:=HNL2.out;omega);obtain⟨⟨m0,m1,m2,m3⟩,o0,o1,o2,o3⟩:=hNB.facts))
       have hNR:N≠w.heap.size:=HNR.out
       have hRB':=HRF.out.grown hgAB (by omega)
       have hend:=Is HTX.out HGA2.out (HKF.out.above ((Zh hgAB (fun k e=>by injection e with e;rintro⟨h,_⟩;omega)).trans (Af (R:=N) (by rintro⟨_,h⟩;exact h rfl) (.int .i64 25) (.string tx) (.int .i64 0) (sl g' (l.length+1) cap')))) HGE.out HHI.out
       exact⟨⟨i+1,_,25,tx,0,some ⟨g',0,none⟩,l.length+1,cap',by simp,by omega,Ap hpB (by have:=HNL2.out;omega) _ _ _ _,hNB.put _ _ _ _,hRB'.other hNR _ _ _ _,hend,AG (HGF.out.trans hgAB) (AX HNL2.out _ _ _ _)⟩,by simp[intOf];omega⟩
      | ok y=>
       obtain⟨kn,s4⟩:=y
       have hat:=IJ hgk
       rw[hgk]at hxx hga2
       rw[then_ok]at hga2
       have hcm0:=hcm (.ok s4)
       rw[show Aa S Al (.ok s4)=A1 S Al s4 from rfl]at hcm0
       clear hgk hcm
       cases hcc:A1 S Al s4 with
       | true=>
        rw[hcc]at hcm0
        rw[if_pos hcc]at hga2
        have ht4:=AH hcc
        have hw4:=AN (x:=(s4.tok:Int)+1) (by omega) (by omega)
        have HGA3:Hid (GA=(E5 S s4.step).then fun ks s=>.ok ((acc++[kn])++ks,s)):=hga2
        clear hga2 hcc
        go_wp2_with (first
         | (go_at_call 136;refine(hxx _ HP.out).mono ?_;rintro e w6 ⟨⟨u,rfl,hv⟩,hp6,hg6⟩;obtain⟨a',b',c',ad',n',cc',hu'⟩:=hv.any;subst hu';have hrw6:=(HRW.out.grown hg6 (by omega) hQo))
         | (at_builtin;refine AO CC rfl (.tmp 57) (.tmp 59) rfl BB l.length 1 (sl g l.length cap) (An l) [.int .i64 a',.string b',.int .i64 c',.slice ad' n' cc'] rfl ((hrw6.alloc (.cells #[.int .i64 a',.string b',.int .i64 c',.slice ad' n' cc'] 24)).alloc (.cells #[.int .i64 a',.string b',.int .i64 c',.slice ad' n' cc'] 24)).own ⟨w6.heap.size+1,0,none⟩ rfl rfl (DH _ _ _ _ _ _ _) (CL _ _ _ _ _ _) (by omega) (by have:=hg6.size;simp;omega) ?_;intro g' cap' w7 O7 hg7x hor7;have hg7:((w6.alloc (.cells #[.int .i64 a',.string b',.int .i64 c',.slice ad' n' cc'] 24)).alloc (.cells #[.int .i64 a',.string b',.int .i64 c',.slice ad' n' cc'] 24)).grownBy w7 (some g):=hg7x;have hb7:Below B w6 w7:=(BQ w6 (.cells #[.int .i64 a',.string b',.int .i64 c',.slice ad' n' cc'] 24) (.cells #[.int .i64 a',.string b',.int .i64 c',.slice ad' n' cc'] 24) (by have:=hg6.size;omega)).grown hg7 (by have:=hg6.size;simp;omega) (fun k e=>by injection e with e;omega);have hp7:=hp6.apart hb7;have hgl7:=O7.lt g' rfl)
         | (go_at_call 85;refine(hcm0 _ hp7).mono ?_;rintro e w8 ⟨rfl,hb8⟩;have hp8:=hp7.below hb8;obtain⟨many8,ho8,_,_,_,_⟩:=hp8.ok;obtain⟨_,_,v2,_,_,_,_⟩:=ho8.cells;have z2:=ho8.frozen 2;clear ho8))
        obtain⟨xk2,hxe,hrw7⟩:=KRow.more hrw6 hv (fun k hk _=>⟨⟨by have hk':wr.heap.size<=k:=hk;have:=HR.out.lt;omega,by have hk':wr.heap.size<=k:=hk;have:=HN.out.lt;omega⟩,by have hk':wr.heap.size<=k:=hk;omega⟩) O7 hg7 hor7
        have hrw8:=hrw7.grown (A0 Q hb8) (by omega) hQo
        have hN8:=((((HN.out.grown hg6 (by omega)).alloc (.cells #[.int .i64 a',.string b',.int .i64 c',.slice ad' n' cc'] 24)).alloc (.cells #[.int .i64 a',.string b',.int .i64 c',.slice ad' n' cc'] 24)).past hg7 (by omega)).grown (A0 Q hb8) (by omega)
        have hR8:=((((HR.out.grown hg6 (by omega)).alloc (.cells #[.int .i64 a',.string b',.int .i64 c',.slice ad' n' cc'] 24)).alloc (.cells #[.int .i64 a',.string b',.int .i64 c',.slice ad' n' cc'] 24)).past hg7 (by omega)).grown (A0 Q hb8) (by omega)
        have hG8:w.grownBy w8 (some Q):=(AG (HGr.out.trans hg6) ((BQ w6 (.cells #[.int .i64 a',.string b',.int .i64 c',.slice ad' n' cc'] 24) (.cells #[.int .i64 a',.string b',.int .i64 c',.slice ad' n' cc'] 24) (by have:=hg6.size;have:=HR.out.lt;omega)).grown hg7 (by have:=hg6.size;have:=HR.out.lt;simp;omega) (fun k e=>by injection e with e;omega))).trans (A0 Q hb8)
        have hg9:=AJ w8 Q 2 (.int .i64 ((s4.tok:Int)+1))
        have e4:s4.step.tok=s4.tok+1:=rfl
        refine⟨⟨j+1,.ok s4.step,false,g',cap',l.length+1,rfl,rfl,by simp,by omega,FL hp8 ht4,hN8.grown hg9 (by omega),hR8.grown hg9 (by omega),hG8.trans hg9,Or.inr ⟨rfl,s4.step,acc++[kn],l++[(kn,xk2)],rfl,HGA3.out,hrw8.grown hg9 (by omega) hQo,by simp,by simp[hmap],by omega,by omega,by omega,by simp;omega⟩⟩,by simp[intOf];omega⟩
       | false=>
        rw[hcc]at hcm0
        rw[if_neg (by rw[hcc];decide)]at hga2
        have HGAE:Hid (A7 GA=.ok s4/\GA=.ok (acc++[kn],s4)):=by show _/\_;rw[hga2];exact⟨rfl,rfl⟩
        clear hga2 hcc
        go_wp2_with (first
         | (go_at_call 136;refine(hxx _ HP.out).mono ?_;rintro e w6 ⟨⟨u,rfl,hv⟩,hp6,hg6⟩;obtain⟨a',b',c',ad',n',cc',hu'⟩:=hv.any;subst hu';have hrw6:=(HRW.out.grown hg6 (by omega) hQo))
         | (at_builtin;refine AO CC rfl (.tmp 57) (.tmp 59) rfl BB l.length 1 (sl g l.length cap) (An l) [.int .i64 a',.string b',.int .i64 c',.slice ad' n' cc'] rfl ((hrw6.alloc (.cells #[.int .i64 a',.string b',.int .i64 c',.slice ad' n' cc'] 24)).alloc (.cells #[.int .i64 a',.string b',.int .i64 c',.slice ad' n' cc'] 24)).own ⟨w6.heap.size+1,0,none⟩ rfl rfl (DH _ _ _ _ _ _ _) (CL _ _ _ _ _ _) (by omega) (by have:=hg6.size;simp;omega) ?_;intro g' cap' w7 O7 hg7x hor7;have hg7:((w6.alloc (.cells #[.int .i64 a',.string b',.int .i64 c',.slice ad' n' cc'] 24)).alloc (.cells #[.int .i64 a',.string b',.int .i64 c',.slice ad' n' cc'] 24)).grownBy w7 (some g):=hg7x;have hb7:Below B w6 w7:=(BQ w6 (.cells #[.int .i64 a',.string b',.int .i64 c',.slice ad' n' cc'] 24) (.cells #[.int .i64 a',.string b',.int .i64 c',.slice ad' n' cc'] 24) (by have:=hg6.size;omega)).grown hg7 (by have:=hg6.size;simp;omega) (fun k e=>by injection e with e;omega);have hp7:=hp6.apart hb7;have hgl7:=O7.lt g' rfl)
         | (go_at_call 85;refine(hcm0 _ hp7).mono ?_;rintro e w8 ⟨rfl,hb8⟩;have HPF:Hid (Par w8 Q B (.slice vad S.L.length vc) S (A7 GA)):=(by show Par w8 Q B _ S (A7 GA);rw[HGAE.out.1];exact hp7.below hb8);have HNF:Hid (Box4 w8 N (.int .i64 a) (.string b) (.int .i64 c) (.slice ad n cc)):=((((HN.out.grown hg6 (by omega)).alloc _).alloc _).past hg7 (by omega)).grown (A0 Q hb8) (by omega);have HRF:Hid (Box4 w8 w.heap.size (.int .i64 0) (.string ⟨#[]⟩) (.int .i64 0) (.slice none 0 0)):=((((HR.out.grown hg6 (by omega)).alloc _).alloc _).past hg7 (by omega)).grown (A0 Q hb8) (by omega);have HGF:Hid (w.grownBy w8 (some Q)):=(AG (HGr.out.trans hg6) ((BQ w6 (.cells #[.int .i64 a',.string b',.int .i64 c',.slice ad' n' cc'] 24) (.cells #[.int .i64 a',.string b',.int .i64 c',.slice ad' n' cc'] 24) (by have:=hg6.size;have:=HR.out.lt;omega)).grown hg7 (by have:=hg6.size;have:=HR.out.lt;simp;omega) (fun k e=>by injection e with e;omega))).trans (A0 Q hb8))
         | (go_at_call 87;refine(hW2 _ HPF.out).mono ?_;rintro e wA ⟨rfl,hpA,hgA⟩)
         | (go_at_call 89;refine(At Q B _ S _ _ _ _ ⟨_,_,_,rfl⟩ _ hpA).mono ?_;rintro e wB ⟨rfl,hpB,hgB⟩;have hgAB:=hgA.trans hgB;have hNB:=HNF.out.grown hgAB (by have:=HNL2.out;omega);obtain⟨⟨m0,m1,m2,m3⟩,o0,o1,o2,o3⟩:=hNB.facts))
        obtain⟨xk2,hxe,hrw7⟩:=KRow.more hrw6 hv (fun k hk _=>⟨⟨by have hk':wr.heap.size<=k:=hk;have:=HR.out.lt;omega,by have hk':wr.heap.size<=k:=hk;have:=HN.out.lt;omega⟩,by have hk':wr.heap.size<=k:=hk;omega⟩) O7 hg7 hor7
        have hrw8:=hrw7.grown (A0 Q hb8) (by omega) hQo
        have HKF:Hid (KidsG w8 (Off w.heap.size N) (sl g' (l.length+1) cap') nd GA):=by
         rw[HGAE.out.2]
         have:=hrw8.kidsV ⟨by omega,by omega⟩
         rw[List.map_append,hmap,Z1]at this
         exact this
        have hNR:N≠w.heap.size:=HNR.out
        have hRB':=HRF.out.grown hgAB (by omega)
        have hend:=Is HTX.out HGA2.out (HKF.out.above ((Zh hgAB (fun k e=>by injection e with e;rintro⟨h,_⟩;omega)).trans (Af (R:=N) (by rintro⟨_,h⟩;exact h rfl) (.int .i64 25) (.string tx) (.int .i64 0) (sl g' (l.length+1) cap')))) HGE.out HHI.out
        exact⟨⟨i+1,_,25,tx,0,some ⟨g',0,none⟩,l.length+1,cap',by simp,by omega,Ap hpB (by have:=HNL2.out;omega) _ _ _ _,hNB.put _ _ _ _,hRB'.other hNR _ _ _ _,hend,AG (HGF.out.trans hgAB) (AX HNL2.out _ _ _ _)⟩,by simp[intOf];omega⟩
end Go.Proofs.YtibeadcfgcfdbaaGreatDoor
namespace Go.Proofs.YtibeadcfgcfdbaaGreatDoor
structure PD(Q B:Nat)(v:Value)(S:Src9)(st:St9):Prop where
 prim:Ah 175 (DB S) Q B v S st
 call:Ah 169 (E4 S) Q B v S st
 unary:Ah 166 (Aw S) Q B v S st
 term:Ah 160 (BT S) Q B v S st
 sum:Ah 152 (Br S) Q B v S st
 expr:Ah 136 (AR S) Q B v S st
theorem PE{Q B:Nat}{v:Value}{S:Src9}{st:St9}(hnf:Au S)(hx:∀s1:PS,F8 st<=s1.tok->s1.tok<=S.L.length->PD Q B v S (.ok s1)):PD Q B v S st:=by
 have hst:∀s:PS,F8 st<=s.tok->s.tok<S.L.length->PD Q B v S (.ok s.step):=fun s h1 h2=>hx s.step (by show F8 st<=s.tok+1;omega) (by show s.tok+1<=_;omega)
 have h1:=RP Q B v S st hnf (fun s1 h1 h2=>(hx s1 h1 h2).expr)
 have h2:=RQ Q B v S st h1 (fun s1 h1 h2=>(hx s1 h1 h2).expr)
 have h3:=Q2 Q B v S st (fun _ _=>h2) (fun s e h=>(hx s.step (by rw[e];exact Z0 _) (by show s.tok+1<=_;omega)).unary)
 have h4:=RK Q B v S st h3 (fun s h1 h2=>(hst s h1 h2).unary)
 have h5:=Sw Q B v S st h4 (fun s h1 h2=>(hst s h1 h2).term)
 exact⟨h1,h2,h3,h4,h5,RL Q B v S st h5 (fun s h1 h2=>(hst s h1 h2).sum)⟩
theorem UX(Q B:Nat)(v:Value)(S:Src9)(hnf:Au S):∀(n:Nat) (s:PS),S.left s<=n->PD Q B v S (.ok s):=by
 intro n
 induction n with
 | zero=>exact fun s h=>PE hnf (fun s1 h1 h2=>by have h1':s.tok+1<=s1.tok:=h1;unfold Src9.left at h;omega)
 | succ n ih=>exact fun s h=>PE hnf (fun s1 h1 h2=>ih s1 (by have h1':s.tok+1<=s1.tok:=h1;unfold Src9.left at h⊢;omega))
theorem Vi(Q B:Nat)(v:Value)(S:Src9)(hnf:Au S)(st:St9):PD Q B v S st:=PE hnf (fun s _ _=>UX Q B v S hnf _ s (Z0 _))
theorem FM(Q B:Nat)(v:Value)(S:Src9)(hnf:Au S)(st:St9):Ah 136 (AR S) Q B v S st:=(Vi Q B v S hnf st).expr
open Go.RowKit
theorem IC{α β:Type}(st:St9)(X:PS->Got α)(f:α->PS->Got β):AA st (fun s=>(X s).then f)=(AA st X).then f:=by
 match st with
 | .ok s=>rfl
 | .error e=>rfl
def PG(kind:Int)(tx:ByteArray)(gE:Got Nd)(G:Got Nd):Prop:=(∃e,G=.error e)\/∃k s s' x,gE=.ok (k,s)/\tx=strOfNums x/\G=.ok (.mk kind x 0 [k],s')
theorem IQ{w w':World}{M:Nat->Prop}{kind:Int}{tx:ByteArray}{gE G:Got Nd}{a b c d:Value}{T:TypeId}(hG:PG kind tx gE G)(h:ValG w M (.agg #[a,b,c,d]) gE)(hB:M w.heap.size)(ha:Above M (w.alloc (.cells #[a,b,c,d] T)) w') :
  ValG w' M (.agg #[.int .i64 kind,.string tx,.int .i64 0,.slice (some ⟨w.heap.size,0,none⟩) 1 1]) G:=by
 rcases hG with⟨e,rfl⟩ | ⟨k,s,s',x,rfl,rfl,rfl⟩
 ·exact⟨_,_,_,_,_,_,rfl⟩
 ·exact NodeV.above (EV (tx:=x) (Jf h hB 1)) ha
def Jk(S:Src9)(kind:Int)(g1:Got (List Int)):Got Nd:=g1.then fun x s=>(A3 S DU s).then fun _ s=>(AR S s).then fun k s=>(A3 S AQ s).then fun _ s=>AD kind x 0 [k] s
theorem T2(S:Src9)(kind:Int)(st:St9):AA st (Cy S kind)=Jk S kind (AA st (AW S)):=IC st (AW S) _
theorem UY{S:Src9}{kind:Int}{g1:Got (List Int)}{tx:ByteArray}(ht:FH (.string tx) g1):PG kind tx (AA (A7 (AA (A7 g1) (A3 S DU))) (AR S)) (Jk S kind g1)/\A7 (Jk S kind g1)=Cz (A7 (AA (A7 (AA (A7 (AA (A7 g1) (A3 S DU))) (AR S))) (A3 S AQ))):=by
 unfold Jk
 match g1,ht with
 | .error e,_=>exact⟨Or.inl ⟨_,rfl⟩,rfl⟩
 | .ok (x,s),ht=>
  have e:Value.string tx=.string (strOfNums x):=ht
  injection e with e
  simp only[then_ok,stOf_ok,bindS_ok]
  cases hw:A3 S DU s with
  | error e=>exact⟨Or.inl ⟨_,rfl⟩,rfl⟩
  | ok y=>
   obtain⟨⟨⟩,s1⟩:=y
   simp only[then_ok,stOf_ok,bindS_ok]
   cases hx:AR S s1 with
   | error e=>exact⟨Or.inl ⟨_,rfl⟩,rfl⟩
   | ok z=>
    obtain⟨k,s2⟩:=z
    simp only[then_ok,stOf_ok,bindS_ok]
    cases hv:A3 S AQ s2 with
    | error e=>exact⟨Or.inl ⟨_,rfl⟩,rfl⟩
    | ok u=>
     obtain⟨⟨⟩,s3⟩:=u
     exact⟨Or.inr ⟨k,s2,_,x,rfl,e,rfl⟩,rfl⟩
theorem Nm(Q B:Nat)(v:Value)(S:Src9)(hnf:Au S)(kind:Int)(st:St9)(w:World)(hp:Par w Q B v S st) :
  Calls Tryz.prog 135 #[.pointer (some ⟨Q,0,none⟩),.int .i64 kind] w fun e w'=>(∃u,e=.returned u/\ValG w' (AZ w.heap.size) u (AA st (Cy S kind)))/\Par w' Q B v S (A7 (AA st (Cy S kind)))/\w.grownBy w' (some Q):=by
 have hRB:=hp.size
 have hqb:=hp.qb
 have HPA:Hid (Par (w.alloc AK) Q B v S st):=hp.below ((Zg _ w).alloc (Z0 _) _)
 have HX:=ZB w
 have hnm:=fun w' (h':Par w' Q B v S st)=>FI Q B v S st w' h'
 rw[T2]
 generalize AA st (AW S)=g1 at *
 have hW1:=Bf (Q:=Q) (B:=B) (v:=v) (S:=S) (x:=⟨#[61]⟩) (l:=DU) (by decide) (A7 g1)
 have HO:Hid (∀tx,FH (.string tx) g1->PG kind tx (AA (A7 (AA (A7 g1) (A3 S DU))) (AR S)) (Jk S kind g1)/\A7 (Jk S kind g1)=Cz (A7 (AA (A7 (AA (A7 (AA (A7 g1) (A3 S DU))) (AR S))) (A3 S AQ)))):=fun tx h=>UY h
 generalize Jk S kind g1=G at *
 generalize A7 (AA (A7 g1) (A3 S DU))=st1 at *
 have hxx:Hid (Ah 136 (AR S) Q B v S st1):=FM Q B v S hnf st1
 unfold Ah at hxx
 generalize AA st1 (AR S)=gE at *
 have hW2:=Bf (Q:=Q) (B:=B) (v:=v) (S:=S) (x:=⟨#[59]⟩) (l:=AQ) (by decide) (A7 gE)
 generalize A7 (AA (A7 gE) (A3 S AQ))=st3 at *
 clear hp
 go_enter Tryz.func135,Tryz.ntmps135
 go_wp2_with (first
  | (go_at_call 109;refine(hnm _ HPA.out).mono ?_;rintro e w1 ⟨⟨xv,rfl,htx⟩,hp1,hg1⟩;obtain⟨tx,hxv⟩:=DS htx;subst hxv)
  | (go_at_call_of 87 (Value.string ⟨#[61]⟩);refine(hW1 _ hp1).mono ?_;rintro e w2 ⟨rfl,hp2,hgx⟩;have hg2:=hg1.trans hgx)
  | (go_at_call 136;refine(hxx.out _ hp2).mono ?_;rintro e w3 ⟨⟨u,rfl,hv⟩,hp3,hgy⟩;obtain⟨a,b,c,ad,n,cc,hu'⟩:=hv.any;subst hu';have hg3:=hg2.trans hgy;have hp3a:=hp3.below ((Zg _ _).alloc (Z0 _) (.cells #[.int .i64 a,.string b,.int .i64 c,.slice ad n cc] 24)))
  | (go_at_call_of 87 (Value.string ⟨#[59]⟩);refine(hW2 _ hp3a).mono ?_;rintro e w4 ⟨rfl,hp4,hgz⟩;have hsz:w.heap.size<w3.heap.size:=(by have:=hg3.size;simp at this;omega);obtain⟨⟨p0,p1,p2,p3⟩,_⟩:=((Box4.new w3 (.int .i64 a) (.string b) (.int .i64 c) (.slice ad n cc)).grown hgz (by omega)).facts;have hp4a:=hp4.below ((Zg _ _).alloc (Z0 _) (.cells #[.int .i64 a,.string b,.int .i64 c,.slice ad n cc] 24));have hX4:=((HX.out.grown hg3 (by omega)).alloc (.cells #[.int .i64 a,.string b,.int .i64 c,.slice ad n cc] 24)).grown hgz (by omega))
  | (go_at_call 89;refine(At Q B v S _ _ _ _ ⟨_,_,_,rfl⟩ _ hp4a).mono ?_;rintro e w5 ⟨rfl,hp5,hg5⟩;have hX5:=(hX4.alloc _).grown hg5 (by omega);obtain⟨⟨x0,x1,x2,x3⟩,f0,f1,f2,f3⟩:=hX5.facts))
 obtain⟨ho,hs⟩:=HO.out tx htx
 have hgw:w.grownBy w5 (some Q):=(((((Zf w AK (some Q)).trans hg3).trans (Zf _ _ _)).trans hgz).trans (Zf _ _ _)).trans hg5
 have sz2:w.heap.size<w2.heap.size:=by have:=hg2.size;simp at this;omega
 have sz3:w2.heap.size<=w3.heap.size:=hgy.size
 have sz4:w3.heap.size+1<=w4.heap.size:=by have:=hgz.size;simpa using this
 refine bodyPost_ret (v:=.agg #[.int .i64 kind,.string tx,.int .i64 0,.slice (some ⟨w4.heap.size,0,none⟩) 1 1]) (by simp[results,Tryz.results135,go_sem,x0,x1,x2,x3]) rfl ⟨⟨_,rfl,?_⟩,by rw[hs];exact Ap hp5 hRB _ _ _ _,AG hgw (AX (Z0 _) _ _ _ _)⟩
 have hv4:=(hv.above (Zh (Zf w3 (.cells #[.int .i64 a,.string b,.int .i64 c,.slice ad n cc] 24) none) (fun k e=>by cases e))).above (Zh hgz (fun k e=>by injection e with e;show ¬w2.heap.size<=k;omega))
 exact(IQ (T:=24) ho hv4 (by show w2.heap.size<=_;omega) ((Zh hg5 (fun k e=>by injection e with e;show ¬w2.heap.size<=k;omega)).trans (Af (R:=w.heap.size) (by show ¬w2.heap.size<=w.heap.size;omega) _ _ _ _))).mono (fun k hk _=>by have hk':w2.heap.size<=k:=hk;show w.heap.size<=k;omega)
end Go.Proofs.YtibeadcfgcfdbaaGreatDoor
