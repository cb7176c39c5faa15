/- Texts in one. -/
import Derived.Test.YtibeadcfgcfdbaaGreatDoorMd
set_option maxHeartbeats 8000000
namespace Go.Proofs.YtibeadcfgcfdbaaGreatDoor
open Go.RowKit
def Loop9(w:World)(M:Nat->Prop)(u:Value)(G:Got Nd)(L:Nd->PS->Got Nd)(lo:Nat)(st:St9)(i:Nat):Prop:=match st with
 | .ok s=>(∃n,NodeV w M u n/\G=L n s)/\i<=s.tok/\lo<=s.tok
 | .error e=>G=.error e/\OX u
theorem Loop9.first{w:World}{M:Nat->Prop}{u:Value}{g:Got Nd}{L:Nd->PS->Got Nd}{lo:Nat}(h:ValG w M u g)(hl:∀n s,g=.ok (n,s)->lo<=s.tok):Loop9 w M u (g.then L) L lo (A7 g) 0:=by
 match g,h,hl with
 | .ok (n,s),h,hl=>exact⟨⟨n,h,rfl⟩,Z3 _,hl n s rfl⟩
 | .error e,h,_=>exact⟨rfl,h⟩
theorem Loop9.done{w:World}{M:Nat->Prop}{u:Value}{G:Got Nd}{L:Nd->PS->Got Nd}{lo:Nat}{st:St9}{i:Nat}(h:Loop9 w M u G L lo st i)(hl:∀n s,st=.ok s->L n s=.ok (n,s)):ValG w M u G/\A7 G=st:=by
 match st,h with
 | .ok s,h=>
  obtain⟨⟨n,hn,hG⟩,_⟩:=h
  rw[hG,hl n s rfl]
  exact⟨hn,rfl⟩
 | .error e,h=>rw[h.1];exact⟨h.2,rfl⟩
theorem JS{w:World}{M:Nat->Prop}{kind:Int}{n:Nd}{g:Got Nd}{a b c d a' b' c' d':Value}{T:TypeId}(hn:NodeV w M (.agg #[a,b,c,d]) n)(h:ValG w M (.agg #[a',b',c',d']) g)(hB:M w.heap.size){w':World}(ha:Above M (w.alloc (.cells #[a,b,c,d,a',b',c',d'] T)) w') :
  ValG w' M (.agg #[.int .i64 kind,.string ⟨#[]⟩,.int .i64 0,.slice (some ⟨w.heap.size,0,none⟩) 2 2]) (g.then fun k s=>AD kind [] 0 [n,k] s):=by
 match g,h with
 | .ok (m,s),h=>exact NodeV.above (EV (tx:=[]) (ME hn h hB 2)) ha
 | .error e,h=>exact⟨_,_,_,_,_,_,rfl⟩
theorem Sv{kind:Int}{n:Nd}{g:Got Nd}:A7 (g.then fun k s=>AD kind [] 0 [n,k] s)=Cz (A7 g):=by
 match g with
 | .ok (m,s)=>rfl
 | .error e=>rfl
theorem KY{w:World}{M:Nat->Prop}{u:Value}{G g:Got Nd}{L:Nd->PS->Got Nd}{kind:Int}{n:Nd}{i:Nat}(hv:ValG w M u (g.then fun k s=>AD kind [] 0 [n,k] s))(hG:G=g.then fun k s=>(AD kind [] 0 [n,k] s).then fun m s=>L m s){lo:Nat}(hi:∀m s,g=.ok (m,s)->i+1<=s.tok/\lo<=s.tok):Loop9 w M u G L lo (Cz (A7 g)) (i+1):=by
 match g,hv,hG,hi with
 | .ok (m,s),hv,hG,hi=>exact⟨⟨_,hv,hG⟩,hi m s rfl⟩
 | .error e,hv,hG,hi=>exact⟨hG,hv⟩
abbrev Off (R N:Nat):Nat->Prop:=fun k=>R<k/\k≠N
def F8(st:St9):Nat:=match st with
 | .ok s=>s.tok+1
 | .error _=>0
theorem RK(Q B:Nat)(v:Value)(S:Src9)(st:St9)(h1:Ah 166 (Aw S) Q B v S st)(h2:∀s:PS,F8 st<=s.tok->s.tok<S.L.length->Ah 166 (Aw S) Q B v S (.ok s.step)):Ah 160 (BT S) Q B v S st:=by
 intro w hp
 have hRB:=hp.size
 have hqb:=hp.qb
 have hfew:=hp.few
 obtain⟨vad,vc,hv0,_⟩:=hp.toks
 subst hv0
 have HPA:Hid (Par (w.alloc AK) Q B (.slice vad S.L.length vc) S st):=hp.below ((Zg _ w).alloc (Z0 _) _)
 have HX:=ZB w
 have e1:A2 ⟨#[42]⟩=EQ:=by decide
 have hbg:∀st' w',Par w' Q B (.slice vad S.L.length vc) S st'->Calls Tryz.prog 134 #[.pointer (some ⟨Q,0,none⟩),.string ⟨#[42]⟩] w' fun e w''=>e=.returned (.bool (Aa S EQ st'))/\Par w'' Q B (.slice vad S.L.length vc) S (CA S EQ st')/\w'.grownBy w'' (some Q):=fun st' w' h'=>by have:=EN Q B _ S st' ⟨#[42]⟩ w' h';rw[e1]at this;exact this
 have HG:AA st (BT S)=(AA st (Aw S)).then (DK S):=by
  match st with
  | .error e=>rfl
  | .ok s=>exact JJ S s
 have HT:Hid (∀n s1,AA st (Aw S)=.ok (n,s1)->F8 st<=s1.tok):=fun n s1 e=>by
  match st,e with
  | .ok s,e=>exact(IY e).1
 rw[HG]
 have h1':Hid (∀w,Par w Q B (.slice vad S.L.length vc) S st->Calls Tryz.prog 166 #[.pointer (some ⟨Q,0,none⟩)] w fun e w'=>(∃u,e=.returned u/\ValG w' (AZ w.heap.size) u (AA st (Aw S)))/\Par w' Q B (.slice vad S.L.length vc) S (A7 (AA st (Aw S)))/\w.grownBy w' (some Q)):=h1
 have H2:Hid (∀s:PS,F8 st<=s.tok->s.tok<S.L.length->Ah 166 (Aw S) Q B (.slice vad S.L.length vc) S (.ok s.step)):=h2
 clear h1 h2 HG hp
 generalize F8 st=lo at HT H2
 generalize AA st (Aw S)=g0 at *
 obtain⟨G,hGG⟩:∃G,G=g0.then (DK S):=⟨_,rfl⟩
 rw[<-hGG]
 have HGG:Hid (G=g0.then (DK S)):=hGG
 clear hGG
 go_enter Tryz.func160,Tryz.ntmps160
 go_wp2_with (first
  | (go_at_call 166;refine(h1'.out _ HPA.out).mono ?_;rintro e w1 ⟨⟨u,rfl,hv⟩,hp1,hg1⟩;obtain⟨a,b,c,ad,n,cc,hu'⟩:=hv.any;subst hu';have hX1:=HX.out.grown hg1 (by omega)))
 have sz1:w.heap.size<w1.heap.size:=by have:=hg1.size;simp at this;omega
 have HL0:Hid (Loop9 (w1.alloc (.cells #[.int .i64 a,.string b,.int .i64 c,.slice ad n cc] 24)) (Off w.heap.size w1.heap.size) (.agg #[.int .i64 a,.string b,.int .i64 c,.slice ad n cc]) G (DK S) lo (A7 g0) 0):=by
  rw[HGG.out]
  exact Loop9.first ((hv.mono (fun k hk hlt=>⟨by have hk':(w.alloc AK).heap.size<=k:=hk;simp at hk';omega,by omega⟩)).above (Zh (Zf _ _ none) (fun k e=>by cases e))) HT.out
 have HP0:Hid (Par (w1.alloc (.cells #[.int .i64 a,.string b,.int .i64 c,.slice ad n cc] 24)) Q B (.slice vad S.L.length vc) S (A7 g0)):=hp1.below ((Zg _ _).alloc (Z0 _) _)
 have HN0:Hid (Box4 (w1.alloc (.cells #[.int .i64 a,.string b,.int .i64 c,.slice ad n cc] 24)) w1.heap.size (.int .i64 a) (.string b) (.int .i64 c) (.slice ad n cc)):=Box4.new _ _ _ _ _
 have HX0:Hid (Box4 (w1.alloc (.cells #[.int .i64 a,.string b,.int .i64 c,.slice ad n cc] 24)) w.heap.size (.int .i64 0) (.string ⟨#[]⟩) (.int .i64 0) (.slice none 0 0)):=hX1.alloc _
 have HG0:Hid (w.grownBy (w1.alloc (.cells #[.int .i64 a,.string b,.int .i64 c,.slice ad n cc] 24)) (some Q)):=((Zf w AK (some Q)).trans hg1).trans (Zf _ _ _)
 generalize w1.alloc (.cells #[.int .i64 a,.string b,.int .i64 c,.slice ad n cc] 24)=W0 at *
 have HNL:Hid (w.heap.size<=w1.heap.size):=Nat.le_of_lt sz1
 have HNR:Hid (w1.heap.size≠w.heap.size):=(by show w1.heap.size≠w.heap.size;omega)
 generalize hNN:w1.heap.size=N at *
 generalize A7 g0=st0 at *
 clear hv hp1 hg1 hX1 hNN HT HGG
 go_loopw [4] (fun s4 wr=>∃(i:Nat) (st1:St9) (a:Int) (b:ByteArray) (c:Int) (ad:Option Addr) (n cc:Nat),s4=.int .i64 i/\i<=4001/\Hid (Par wr Q B (.slice vad S.L.length vc) S st1)/\Hid (Box4 wr N (.int .i64 a) (.string b) (.int .i64 c) (.slice ad n cc))/\Hid (Box4 wr w.heap.size (.int .i64 0) (.string ⟨#[]⟩) (.int .i64 0) (.slice none 0 0))/\Hid (Loop9 wr (Off w.heap.size N) (.agg #[.int .i64 a,.string b,.int .i64 c,.slice ad n cc]) G (DK S) lo st1 i)/\Hid (w.grownBy wr (some Q))) (fun s4 _=>4002-(intOf s4).toNat)
 case atStart=>exact⟨0,st0,a,b,c,ad,n,cc,rfl,by omega,HP0,HN0,HX0,HL0,HG0⟩
 case round=>
  clear HP0 HN0 HX0 HL0 HG0
  obtain⟨i,st1,a,b,c,ad,n,cc,rfl,hi,HP,HN,HR,HL,HGr⟩:=hrel
  obtain⟨tok,deep,many,fc,fa,ho,hf⟩:=HP.out.obj
  obtain⟨k0,_,_,_,_,_,_⟩:=ho.cells
  obtain⟨⟨x0,x1,x2,x3⟩,f0,f1,f2,f3⟩:=HN.out.facts
  obtain⟨⟨y0,y1,y2,y3⟩,r0,r1,r2,r3⟩:=HR.out.facts
  have hNb:=HN.out.lt
  clear ho hf
  have hb0:=hbg st1 wr HP.out
  cases hs:Aa S EQ st1 with
  | false=>
   rw[hs]at hb0
   have HD:Hid (ValG wr (Off w.heap.size N) (.agg #[.int .i64 a,.string b,.int .i64 c,.slice ad n cc]) G/\A7 G=st1):=HL.out.done (fun m s e=>by
    subst e
    have hs':A1 S EQ s=false:=hs
    rw[Gx,if_neg (by rw[hs'];decide)])
   have HS:Hid (CA S EQ st1=st1):=by show _=_;unfold CA;rw[hs,if_neg (by decide)]
   rw[HS.out]at hb0
   by_cases hil:(i:Int)<=(S.L.length:Int)
   ·clear hs HL
    go_wp2_with (first
     | (go_at_call 134;refine hb0.mono ?_;rintro e w2 ⟨rfl,hp2,hg2⟩;obtain⟨⟨p0,p1,p2,p3⟩,_⟩:=(HN.out.grown hg2 (by omega)).facts;obtain⟨⟨q0,q1,q2,q3⟩,s0,s1,s2,s3⟩:=(HR.out.grown hg2 (by omega)).facts))
    refine bodyPost_ret (v:=.agg #[.int .i64 a,.string b,.int .i64 c,.slice ad n cc]) (by simp[results,Tryz.results160,go_sem,q0,q1,q2,q3]) rfl ⟨⟨_,rfl,?_⟩,by rw[HD.out.2];exact Ap hp2 hRB _ _ _ _,AG (HGr.out.trans hg2) (AX (Z0 _) _ _ _ _)⟩
    exact((HD.out.1.above (Zh hg2 (fun k e=>by injection e with e;rintro⟨h,_⟩;omega))).above (Af (R:=w.heap.size) (by rintro⟨h,_⟩;omega) _ _ _ _)).mono (fun k hk _=>Nat.le_of_lt hk.1)
   ·clear hs HL hb0
    go_wp2_with fail
    refine bodyPost_ret (v:=.agg #[.int .i64 a,.string b,.int .i64 c,.slice ad n cc]) (by simp[results,Tryz.results160,go_sem,y0,y1,y2,y3]) rfl ⟨⟨_,rfl,?_⟩,by rw[HD.out.2];exact Ap HP.out hRB _ _ _ _,AG HGr.out (AX (Z0 _) _ _ _ _)⟩
    exact(HD.out.1.above (Af (R:=w.heap.size) (by rintro⟨h,_⟩;omega) _ _ _ _)).mono (fun k hk _=>Nat.le_of_lt hk.1)
  | true=>
   match st1,hs,HP,HL,hb0 with
   | .ok s1,hs,HP,HL,hb0=>
    have hs':A1 S EQ s1=true:=hs
    have ht:=AH hs'
    obtain⟨⟨nd,hnd,hGe⟩,hi1,hlo⟩:=HL.out
    have HND:Hid (NodeV wr (Off w.heap.size N) (.agg #[.int .i64 a,.string b,.int .i64 c,.slice ad n cc]) nd):=hnd
    have HGE:Hid (G=(Aw S s1.step).then fun k s=>(AD 22 [] 0 [nd,k] s).then fun m s=>DK S m s):=by show _=_;rw[hGe,Gx,if_pos hs'];rfl
    have HTO:Hid (∀m s,Aw S s1.step=.ok (m,s)->i+1<=s.tok/\lo<=s.tok):=fun m s e=>by
     have:=(IY e).1
     have e2:s1.step.tok=s1.tok+1:=rfl
     omega
    have hu:=H2.out s1 hlo ht
    unfold Ah at hu
    rw[bindS_ok]at hu
    have hil:(i:Int)<=(S.L.length:Int):=by omega
    have hwi:=AN (x:=(i:Int)+1) (by omega) (by omega)
    rw[hs]at hb0
    have HS:Hid (CA S EQ (.ok s1)=.ok s1.step):=by show _=_;unfold CA;rw[hs,if_pos rfl]
    rw[HS.out]at hb0
    clear hs hs' HL hnd hGe
    generalize Aw S s1.step=gk at *
    go_wp2_with (first
     | (go_at_call 134;refine hb0.mono ?_;rintro e w2 ⟨rfl,hp2,hg2⟩)
     | (go_at_call 166;refine(hu _ hp2).mono ?_;rintro e w3 ⟨⟨uk,rfl,hvk⟩,hp3,hg3⟩;obtain⟨a',b',c',ad',n',cc',hu'⟩:=hvk.any;subst hu';have hgN:=hg2.trans hg3;obtain⟨⟨p0,p1,p2,p3⟩,_⟩:=(HN.out.grown hgN (by omega)).facts;have hN3:=(HN.out.grown hgN (by omega)).lt)
     | (go_at_call 89;refine(At Q B _ S (A7 gk) _ _ _ ⟨_,_,_,rfl⟩ _ (F7 hp3 _ _)).mono ?_;rintro e w4 ⟨rfl,hp4,hg4⟩;have hN4:=(((HN.out.grown hgN (by omega)).alloc _).alloc _).grown hg4 (by omega);obtain⟨⟨m0,m1,m2,m3⟩,o0,o1,o2,o3⟩:=hN4.facts))
    have sz2:N<w2.heap.size:=(HN.out.grown hg2 (by omega)).lt
    have szr:w.heap.size<w2.heap.size:=(HR.out.grown hg2 (by omega)).lt
    have sz3:w2.heap.size<=w3.heap.size:=hg3.size
    have hNR:N≠w.heap.size:=HNR.out
    have hgw:w.grownBy w4 (some Q):=(((HGr.out.trans hgN).trans (Zf _ _ _)).trans (Zf _ _ _)).trans hg4
    have hQo:∀k,(some Q:Option Nat)=some k->¬Off w.heap.size N k:=fun k e=>by injection e with e;rintro⟨h,_⟩;omega
    have hnd3:NodeV (w3.alloc (.cells #[.int .i64 a',.string b',.int .i64 c',.slice ad' n' cc'] 24)) (Off w.heap.size N) (.agg #[.int .i64 a,.string b,.int .i64 c,.slice ad n cc]) nd:=(HND.out.above (Zh hgN hQo)).above (Zh (Zf _ _ none) (fun k e=>by cases e))
    have hvk3:ValG (w3.alloc (.cells #[.int .i64 a',.string b',.int .i64 c',.slice ad' n' cc'] 24)) (Off w.heap.size N) (.agg #[.int .i64 a',.string b',.int .i64 c',.slice ad' n' cc']) gk:=(hvk.mono (fun k hk _=>by have hk':w2.heap.size<=k:=hk;exact⟨by omega,by omega⟩)).above (Zh (Zf _ _ none) (fun k e=>by cases e))
    have hend:=JS (kind:=22) (T:=24) hnd3 hvk3 (by refine⟨?_,?_⟩<;>simp<;>omega) ((Zh hg4 hQo).trans (Af (R:=N) (by rintro⟨_,h⟩;exact h rfl) (.int .i64 22) (.string ⟨#[]⟩) (.int .i64 0) (.slice (some ⟨w3.heap.size+1,0,none⟩) 2 2)))
    simp only[World.size_alloc]at hend
    have hR4:=(((HR.out.grown hgN (by omega)).alloc (.cells #[.int .i64 a',.string b',.int .i64 c',.slice ad' n' cc'] 24)).alloc (.cells #[.int .i64 a,.string b,.int .i64 c,.slice ad n cc,.int .i64 a',.string b',.int .i64 c',.slice ad' n' cc'] 24)).grown hg4 (by omega)
    refine⟨⟨i+1,Cz (A7 gk),22,⟨#[]⟩,0,some ⟨w3.heap.size+1,0,none⟩,2,2,by simp,by omega,Ap hp4 (by omega) _ _ _ _,hN4.put _ _ _ _,hR4.other hNR _ _ _ _,KY hend HGE.out HTO.out,AG hgw (AX HNL.out _ _ _ _)⟩,by simp[intOf];omega⟩
theorem Sw(Q B:Nat)(v:Value)(S:Src9)(st:St9)(h1:Ah 160 (BT S) Q B v S st)(h2:∀s:PS,F8 st<=s.tok->s.tok<S.L.length->Ah 160 (BT S) Q B v S (.ok s.step)):Ah 152 (Br S) Q B v S st:=by
 intro w hp
 have hRB:=hp.size
 have hqb:=hp.qb
 have hfew:=hp.few
 obtain⟨vad,vc,hv0,_⟩:=hp.toks
 subst hv0
 have HPA:Hid (Par (w.alloc AK) Q B (.slice vad S.L.length vc) S st):=hp.below ((Zg _ w).alloc (Z0 _) _)
 have HX:=ZB w
 have e1:A2 ⟨#[43]⟩=Ez:=by decide
 have e2:A2 ⟨#[45]⟩=B7:=by decide
 have hbp:∀st' w',Par w' Q B (.slice vad S.L.length vc) S st'->Calls Tryz.prog 134 #[.pointer (some ⟨Q,0,none⟩),.string ⟨#[43]⟩] w' fun e w''=>e=.returned (.bool (Aa S Ez st'))/\Par w'' Q B (.slice vad S.L.length vc) S (CA S Ez st')/\w'.grownBy w'' (some Q):=fun st' w' h'=>by have:=EN Q B _ S st' ⟨#[43]⟩ w' h';rw[e1]at this;exact this
 have hbm:∀st' w',Par w' Q B (.slice vad S.L.length vc) S st'->Calls Tryz.prog 134 #[.pointer (some ⟨Q,0,none⟩),.string ⟨#[45]⟩] w' fun e w''=>e=.returned (.bool (Aa S B7 st'))/\Par w'' Q B (.slice vad S.L.length vc) S (CA S B7 st')/\w'.grownBy w'' (some Q):=fun st' w' h'=>by have:=EN Q B _ S st' ⟨#[45]⟩ w' h';rw[e2]at this;exact this
 have HG:AA st (Br S)=(AA st (BT S)).then (Dj S):=by
  match st with
  | .error e=>rfl
  | .ok s=>exact K7 S s
 have HT:Hid (∀n s1,AA st (BT S)=.ok (n,s1)->F8 st<=s1.tok):=fun n s1 e=>by
  match st,e with
  | .ok s,e=>exact(Gv e).1
 rw[HG]
 have h1':Hid (∀w,Par w Q B (.slice vad S.L.length vc) S st->Calls Tryz.prog 160 #[.pointer (some ⟨Q,0,none⟩)] w fun e w'=>(∃u,e=.returned u/\ValG w' (AZ w.heap.size) u (AA st (BT S)))/\Par w' Q B (.slice vad S.L.length vc) S (A7 (AA st (BT S)))/\w.grownBy w' (some Q)):=h1
 have H2:Hid (∀s:PS,F8 st<=s.tok->s.tok<S.L.length->Ah 160 (BT S) Q B (.slice vad S.L.length vc) S (.ok s.step)):=h2
 clear h1 h2 HG hp
 generalize F8 st=lo at HT H2
 generalize AA st (BT S)=g0 at *
 obtain⟨G,hGG⟩:∃G,G=g0.then (Dj S):=⟨_,rfl⟩
 rw[<-hGG]
 have HGG:Hid (G=g0.then (Dj S)):=hGG
 clear hGG
 go_enter Tryz.func152,Tryz.ntmps152
 go_wp2_with (first
  | (go_at_call 160;refine(h1'.out _ HPA.out).mono ?_;rintro e w1 ⟨⟨u,rfl,hv⟩,hp1,hg1⟩;obtain⟨a,b,c,ad,n,cc,hu'⟩:=hv.any;subst hu';have hX1:=HX.out.grown hg1 (by omega)))
 have sz1:w.heap.size<w1.heap.size:=by have:=hg1.size;simp at this;omega
 have HL0:Hid (Loop9 (w1.alloc (.cells #[.int .i64 a,.string b,.int .i64 c,.slice ad n cc] 24)) (Off w.heap.size w1.heap.size) (.agg #[.int .i64 a,.string b,.int .i64 c,.slice ad n cc]) G (Dj S) lo (A7 g0) 0):=by
  rw[HGG.out]
  exact Loop9.first ((hv.mono (fun k hk hlt=>⟨by have hk':(w.alloc AK).heap.size<=k:=hk;simp at hk';omega,by omega⟩)).above (Zh (Zf _ _ none) (fun k e=>by cases e))) HT.out
 have HP0:Hid (Par (w1.alloc (.cells #[.int .i64 a,.string b,.int .i64 c,.slice ad n cc] 24)) Q B (.slice vad S.L.length vc) S (A7 g0)):=hp1.below ((Zg _ _).alloc (Z0 _) _)
 have HN0:Hid (Box4 (w1.alloc (.cells #[.int .i64 a,.string b,.int .i64 c,.slice ad n cc] 24)) w1.heap.size (.int .i64 a) (.string b) (.int .i64 c) (.slice ad n cc)):=Box4.new _ _ _ _ _
 have HX0:Hid (Box4 (w1.alloc (.cells #[.int .i64 a,.string b,.int .i64 c,.slice ad n cc] 24)) w.heap.size (.int .i64 0) (.string ⟨#[]⟩) (.int .i64 0) (.slice none 0 0)):=hX1.alloc _
 have HG0:Hid (w.grownBy (w1.alloc (.cells #[.int .i64 a,.string b,.int .i64 c,.slice ad n cc] 24)) (some Q)):=((Zf w AK (some Q)).trans hg1).trans (Zf _ _ _)
 generalize w1.alloc (.cells #[.int .i64 a,.string b,.int .i64 c,.slice ad n cc] 24)=W0 at *
 have HNL:Hid (w.heap.size<=w1.heap.size):=Nat.le_of_lt sz1
 have HNR:Hid (w1.heap.size≠w.heap.size):=(by show w1.heap.size≠w.heap.size;omega)
 generalize hNN:w1.heap.size=N at *
 generalize A7 g0=st0 at *
 clear hv hp1 hg1 hX1 hNN HT HGG
 go_loopw [4] (fun s4 wr=>∃(i:Nat) (st1:St9) (a:Int) (b:ByteArray) (c:Int) (ad:Option Addr) (n cc:Nat),s4=.int .i64 i/\i<=4001/\Hid (Par wr Q B (.slice vad S.L.length vc) S st1)/\Hid (Box4 wr N (.int .i64 a) (.string b) (.int .i64 c) (.slice ad n cc))/\Hid (Box4 wr w.heap.size (.int .i64 0) (.string ⟨#[]⟩) (.int .i64 0) (.slice none 0 0))/\Hid (Loop9 wr (Off w.heap.size N) (.agg #[.int .i64 a,.string b,.int .i64 c,.slice ad n cc]) G (Dj S) lo st1 i)/\Hid (w.grownBy wr (some Q))) (fun s4 _=>4002-(intOf s4).toNat)
 case atStart=>exact⟨0,st0,a,b,c,ad,n,cc,rfl,by omega,HP0,HN0,HX0,HL0,HG0⟩
 case round=>
  clear HP0 HN0 HX0 HL0 HG0
  obtain⟨i,st1,a,b,c,ad,n,cc,rfl,hi,HP,HN,HR,HL,HGr⟩:=hrel
  obtain⟨tok,deep,many,fc,fa,ho,hf⟩:=HP.out.obj
  obtain⟨k0,_,_,_,_,_,_⟩:=ho.cells
  obtain⟨⟨x0,x1,x2,x3⟩,f0,f1,f2,f3⟩:=HN.out.facts
  obtain⟨⟨y0,y1,y2,y3⟩,r0,r1,r2,r3⟩:=HR.out.facts
  have hNb:=HN.out.lt
  clear ho hf
  have hb0:=hbp st1 wr HP.out
  cases hs:Aa S Ez st1 with
  | true=>
   match st1,hs,HP,HL,hb0 with
   | .ok s1,hs,HP,HL,hb0=>
    have hs':A1 S Ez s1=true:=hs
    have ht:=AH hs'
    obtain⟨⟨nd,hnd,hGe⟩,hi1,hlo⟩:=HL.out
    have HND:Hid (NodeV wr (Off w.heap.size N) (.agg #[.int .i64 a,.string b,.int .i64 c,.slice ad n cc]) nd):=hnd
    have HGE:Hid (G=(BT S s1.step).then fun k s=>(AD 20 [] 0 [nd,k] s).then fun m s=>Dj S m s):=by show _=_;rw[hGe,Gw,if_pos hs'];rfl
    have HTO:Hid (∀m s,BT S s1.step=.ok (m,s)->i+1<=s.tok/\lo<=s.tok):=fun m s e=>by
     have:=(Gv e).1
     have e2:s1.step.tok=s1.tok+1:=rfl
     omega
    have hu:=H2.out s1 hlo ht
    unfold Ah at hu
    rw[bindS_ok]at hu
    have hil:(i:Int)<=(S.L.length:Int):=by omega
    have hwi:=AN (x:=(i:Int)+1) (by omega) (by omega)
    rw[hs]at hb0
    have HS:Hid (CA S Ez (.ok s1)=.ok s1.step):=by show _=_;unfold CA;rw[hs,if_pos rfl]
    rw[HS.out]at hb0
    clear hs hs' HL hnd hGe
    generalize BT S s1.step=gk at *
    go_wp2_with (first
     | (go_at_call 134;refine hb0.mono ?_;rintro e w2 ⟨rfl,hp2,hg2⟩)
     | (go_at_call 160;refine(hu _ hp2).mono ?_;rintro e w3 ⟨⟨uk,rfl,hvk⟩,hp3,hg3⟩;obtain⟨a',b',c',ad',n',cc',hu'⟩:=hvk.any;subst hu';have hgN:=hg2.trans hg3;obtain⟨⟨p0,p1,p2,p3⟩,_⟩:=(HN.out.grown hgN (by omega)).facts;have hN3:=(HN.out.grown hgN (by omega)).lt)
     | (go_at_call 89;refine(At Q B _ S (A7 gk) _ _ _ ⟨_,_,_,rfl⟩ _ (F7 hp3 _ _)).mono ?_;rintro e w4 ⟨rfl,hp4,hg4⟩;have hN4:=(((HN.out.grown hgN (by omega)).alloc _).alloc _).grown hg4 (by omega);obtain⟨⟨m0,m1,m2,m3⟩,o0,o1,o2,o3⟩:=hN4.facts))
    have sz2:N<w2.heap.size:=(HN.out.grown hg2 (by omega)).lt
    have szr:w.heap.size<w2.heap.size:=(HR.out.grown hg2 (by omega)).lt
    have sz3:w2.heap.size<=w3.heap.size:=hg3.size
    have hNR:N≠w.heap.size:=HNR.out
    have hgw:w.grownBy w4 (some Q):=(((HGr.out.trans hgN).trans (Zf _ _ _)).trans (Zf _ _ _)).trans hg4
    have hQo:∀k,(some Q:Option Nat)=some k->¬Off w.heap.size N k:=fun k e=>by injection e with e;rintro⟨h,_⟩;omega
    have hnd3:NodeV (w3.alloc (.cells #[.int .i64 a',.string b',.int .i64 c',.slice ad' n' cc'] 24)) (Off w.heap.size N) (.agg #[.int .i64 a,.string b,.int .i64 c,.slice ad n cc]) nd:=(HND.out.above (Zh hgN hQo)).above (Zh (Zf _ _ none) (fun k e=>by cases e))
    have hvk3:ValG (w3.alloc (.cells #[.int .i64 a',.string b',.int .i64 c',.slice ad' n' cc'] 24)) (Off w.heap.size N) (.agg #[.int .i64 a',.string b',.int .i64 c',.slice ad' n' cc']) gk:=(hvk.mono (fun k hk _=>by have hk':w2.heap.size<=k:=hk;exact⟨by omega,by omega⟩)).above (Zh (Zf _ _ none) (fun k e=>by cases e))
    have hend:=JS (kind:=20) (T:=24) hnd3 hvk3 (by refine⟨?_,?_⟩<;>simp<;>omega) ((Zh hg4 hQo).trans (Af (R:=N) (by rintro⟨_,h⟩;exact h rfl) (.int .i64 20) (.string ⟨#[]⟩) (.int .i64 0) (.slice (some ⟨w3.heap.size+1,0,none⟩) 2 2)))
    simp only[World.size_alloc]at hend
    have hR4:=(((HR.out.grown hgN (by omega)).alloc (.cells #[.int .i64 a',.string b',.int .i64 c',.slice ad' n' cc'] 24)).alloc (.cells #[.int .i64 a,.string b,.int .i64 c,.slice ad n cc,.int .i64 a',.string b',.int .i64 c',.slice ad' n' cc'] 24)).grown hg4 (by omega)
    refine⟨⟨i+1,Cz (A7 gk),20,⟨#[]⟩,0,some ⟨w3.heap.size+1,0,none⟩,2,2,by simp,by omega,Ap hp4 (by omega) _ _ _ _,hN4.put _ _ _ _,hR4.other hNR _ _ _ _,KY hend HGE.out HTO.out,AG hgw (AX HNL.out _ _ _ _)⟩,by simp[intOf];omega⟩
  | false=>
   have hs0:=hs
   have HS0:Hid (CA S Ez st1=st1):=by show _=_;unfold CA;rw[hs,if_neg (by decide)]
   rw[hs,HS0.out]at hb0
   clear hs
   have hb1:=hbm st1
   cases hs:Aa S B7 st1 with
   | false=>
    have HS1:Hid (CA S B7 st1=st1):=by show _=_;unfold CA;rw[hs,if_neg (by decide)]
    rw[hs,HS1.out]at hb1
    have HD:Hid (ValG wr (Off w.heap.size N) (.agg #[.int .i64 a,.string b,.int .i64 c,.slice ad n cc]) G/\A7 G=st1):=HL.out.done (fun m s e=>by
     subst e
     have hs0':A1 S Ez s=false:=hs0
     have hs':A1 S B7 s=false:=hs
     rw[Gw,if_neg (by rw[hs0'];decide),if_neg (by rw[hs'];decide)])
    by_cases hil:(i:Int)<=(S.L.length:Int)
    ·clear hs hs0 HL
     go_wp2_with (first
      | (go_at_call_of 134 (Value.string ⟨#[43]⟩);refine hb0.mono ?_;rintro e w0 ⟨rfl,hp0,hg0⟩)
      | (go_at_call_of 134 (Value.string ⟨#[45]⟩);refine(hb1 _ hp0).mono ?_;rintro e w2 ⟨rfl,hp2,hg2'⟩;have hg2:=hg0.trans hg2';obtain⟨⟨p0,p1,p2,p3⟩,_⟩:=(HN.out.grown hg2 (by omega)).facts;obtain⟨⟨q0,q1,q2,q3⟩,s0,s1,s2,s3⟩:=(HR.out.grown hg2 (by omega)).facts))
     refine bodyPost_ret (v:=.agg #[.int .i64 a,.string b,.int .i64 c,.slice ad n cc]) (by simp[results,Tryz.results152,go_sem,q0,q1,q2,q3]) rfl ⟨⟨_,rfl,?_⟩,by rw[HD.out.2];exact Ap hp2 hRB _ _ _ _,AG (HGr.out.trans hg2) (AX (Z0 _) _ _ _ _)⟩
     exact((HD.out.1.above (Zh hg2 (fun k e=>by injection e with e;rintro⟨h,_⟩;omega))).above (Af (R:=w.heap.size) (by rintro⟨h,_⟩;omega) _ _ _ _)).mono (fun k hk _=>Nat.le_of_lt hk.1)
    ·clear hs hs0 HL hb0 hb1
     go_wp2_with fail
     refine bodyPost_ret (v:=.agg #[.int .i64 a,.string b,.int .i64 c,.slice ad n cc]) (by simp[results,Tryz.results152,go_sem,y0,y1,y2,y3]) rfl ⟨⟨_,rfl,?_⟩,by rw[HD.out.2];exact Ap HP.out hRB _ _ _ _,AG HGr.out (AX (Z0 _) _ _ _ _)⟩
     exact(HD.out.1.above (Af (R:=w.heap.size) (by rintro⟨h,_⟩;omega) _ _ _ _)).mono (fun k hk _=>Nat.le_of_lt hk.1)
   | true=>
    match st1,hs0,hs,HP,HL,hb0,hb1 with
    | .ok s1,hs0,hs,HP,HL,hb0,hb1=>
     have hs0':A1 S Ez s1=false:=hs0
     have hs':A1 S B7 s1=true:=hs
     have ht:=AH hs'
     obtain⟨⟨nd,hnd,hGe⟩,hi1,hlo⟩:=HL.out
     have HND:Hid (NodeV wr (Off w.heap.size N) (.agg #[.int .i64 a,.string b,.int .i64 c,.slice ad n cc]) nd):=hnd
     have HGE:Hid (G=(BT S s1.step).then fun k s=>(AD 21 [] 0 [nd,k] s).then fun m s=>Dj S m s):=by show _=_;rw[hGe,Gw,if_neg (by rw[hs0'];decide),if_pos hs'];rfl
     have HTO:Hid (∀m s,BT S s1.step=.ok (m,s)->i+1<=s.tok/\lo<=s.tok):=fun m s e=>by
      have:=(Gv e).1
      have e2:s1.step.tok=s1.tok+1:=rfl
      omega
     have hu:=H2.out s1 hlo ht
     unfold Ah at hu
     rw[bindS_ok]at hu
     have hil:(i:Int)<=(S.L.length:Int):=by omega
     have hwi:=AN (x:=(i:Int)+1) (by omega) (by omega)
     have HS:Hid (CA S B7 (.ok s1)=.ok s1.step):=by show _=_;unfold CA;rw[hs,if_pos rfl]
     rw[hs,HS.out]at hb1
     clear hs hs' hs0 hs0' HL hnd hGe
     generalize BT S s1.step=gk at *
     go_wp2_with (first
      | (go_at_call_of 134 (Value.string ⟨#[43]⟩);refine hb0.mono ?_;rintro e w0 ⟨rfl,hp0,hg0⟩)
      | (go_at_call_of 134 (Value.string ⟨#[45]⟩);refine(hb1 _ hp0).mono ?_;rintro e w2 ⟨rfl,hp2,hg2'⟩;have hg2:=hg0.trans hg2')
      | (go_at_call 160;refine(hu _ hp2).mono ?_;rintro e w3 ⟨⟨uk,rfl,hvk⟩,hp3,hg3⟩;obtain⟨a',b',c',ad',n',cc',hu'⟩:=hvk.any;subst hu';have hgN:=hg2.trans hg3;obtain⟨⟨p0,p1,p2,p3⟩,_⟩:=(HN.out.grown hgN (by omega)).facts;have hN3:=(HN.out.grown hgN (by omega)).lt)
      | (go_at_call 89;refine(At Q B _ S (A7 gk) _ _ _ ⟨_,_,_,rfl⟩ _ (F7 hp3 _ _)).mono ?_;rintro e w4 ⟨rfl,hp4,hg4⟩;have hN4:=(((HN.out.grown hgN (by omega)).alloc _).alloc _).grown hg4 (by omega);obtain⟨⟨m0,m1,m2,m3⟩,o0,o1,o2,o3⟩:=hN4.facts))
     have sz2:N<w2.heap.size:=(HN.out.grown hg2 (by omega)).lt
     have szr:w.heap.size<w2.heap.size:=(HR.out.grown hg2 (by omega)).lt
     have sz3:w2.heap.size<=w3.heap.size:=hg3.size
     have hNR:N≠w.heap.size:=HNR.out
     have hgw:w.grownBy w4 (some Q):=(((HGr.out.trans hgN).trans (Zf _ _ _)).trans (Zf _ _ _)).trans hg4
     have hQo:∀k,(some Q:Option Nat)=some k->¬Off w.heap.size N k:=fun k e=>by injection e with e;rintro⟨h,_⟩;omega
     have hnd3:NodeV (w3.alloc (.cells #[.int .i64 a',.string b',.int .i64 c',.slice ad' n' cc'] 24)) (Off w.heap.size N) (.agg #[.int .i64 a,.string b,.int .i64 c,.slice ad n cc]) nd:=(HND.out.above (Zh hgN hQo)).above (Zh (Zf _ _ none) (fun k e=>by cases e))
     have hvk3:ValG (w3.alloc (.cells #[.int .i64 a',.string b',.int .i64 c',.slice ad' n' cc'] 24)) (Off w.heap.size N) (.agg #[.int .i64 a',.string b',.int .i64 c',.slice ad' n' cc']) gk:=(hvk.mono (fun k hk _=>by have hk':w2.heap.size<=k:=hk;exact⟨by omega,by omega⟩)).above (Zh (Zf _ _ none) (fun k e=>by cases e))
     have hend:=JS (kind:=21) (T:=24) hnd3 hvk3 (by refine⟨?_,?_⟩<;>simp<;>omega) ((Zh hg4 hQo).trans (Af (R:=N) (by rintro⟨_,h⟩;exact h rfl) (.int .i64 21) (.string ⟨#[]⟩) (.int .i64 0) (.slice (some ⟨w3.heap.size+1,0,none⟩) 2 2)))
     simp only[World.size_alloc]at hend
     have hR4:=(((HR.out.grown hgN (by omega)).alloc (.cells #[.int .i64 a',.string b',.int .i64 c',.slice ad' n' cc'] 24)).alloc (.cells #[.int .i64 a,.string b,.int .i64 c,.slice ad n cc,.int .i64 a',.string b',.int .i64 c',.slice ad' n' cc'] 24)).grown hg4 (by omega)
     refine⟨⟨i+1,Cz (A7 gk),21,⟨#[]⟩,0,some ⟨w3.heap.size+1,0,none⟩,2,2,by simp,by omega,Ap hp4 (by omega) _ _ _ _,hN4.put _ _ _ _,hR4.other hNR _ _ _ _,KY hend HGE.out HTO.out,AG hgw (AX HNL.out _ _ _ _)⟩,by simp[intOf];omega⟩
theorem RL(Q B:Nat)(v:Value)(S:Src9)(st:St9)(h1:Ah 152 (Br S) Q B v S st)(h2:∀s:PS,F8 st<=s.tok->s.tok<S.L.length->Ah 152 (Br S) Q B v S (.ok s.step)):Ah 136 (AR S) Q B v S st:=by
 intro w hp
 have hRB:=hp.size
 have hqb:=hp.qb
 have HPA:Hid (Par (w.alloc AK) Q B v S st):=hp.below ((Zg _ w).alloc (Z0 _) _)
 have HX:=ZB w
 have e1:A2 ⟨#[60]⟩=EX:=by decide
 have e2:A2 ⟨#[61,61]⟩=EY:=by decide
 have hbl:∀st' w',Par w' Q B v S st'->Calls Tryz.prog 134 #[.pointer (some ⟨Q,0,none⟩),.string ⟨#[60]⟩] w' fun e w''=>e=.returned (.bool (Aa S EX st'))/\Par w'' Q B v S (CA S EX st')/\w'.grownBy w'' (some Q):=fun st' w' h'=>by have:=EN Q B v S st' ⟨#[60]⟩ w' h';rw[e1]at this;exact this
 have hbs:∀st' w',Par w' Q B v S st'->Calls Tryz.prog 134 #[.pointer (some ⟨Q,0,none⟩),.string ⟨#[61,61]⟩] w' fun e w''=>e=.returned (.bool (Aa S EY st'))/\Par w'' Q B v S (CA S EY st')/\w'.grownBy w'' (some Q):=fun st' w' h'=>by have:=EN Q B v S st' ⟨#[61,61]⟩ w' h';rw[e2]at this;exact this
 have HG:AA st (AR S)=(AA st (Br S)).then (fun n s=>if A1 S EX s=true then(Br S s.step).then fun k s=>AD 18 [] 0 [n,k] s else if A1 S EY s=true then(Br S s.step).then fun k s=>AD 19 [] 0 [n,k] s else .ok (n,s)):=by
  match st with
  | .error e=>rfl
  | .ok s=>exact IK S s
 have HT:∀n s1,AA st (Br S)=.ok (n,s1)->F8 st<=s1.tok:=fun n s1 e=>by
  match st,e with
  | .ok s,e=>exact(OV e).1
 have h1':∀w,Par w Q B v S st->Calls Tryz.prog 152 #[.pointer (some ⟨Q,0,none⟩)] w fun e w'=>(∃u,e=.returned u/\ValG w' (AZ w.heap.size) u (AA st (Br S)))/\Par w' Q B v S (A7 (AA st (Br S)))/\w.grownBy w' (some Q):=h1
 obtain⟨G,hGG⟩:∃G,G=AA st (AR S):=⟨_,rfl⟩
 rw[<-hGG]
 rw[HG]at hGG
 have H2:Hid (∀s:PS,F8 st<=s.tok->s.tok<S.L.length->Ah 152 (Br S) Q B v S (.ok s.step)):=h2
 clear h1 h2 HG hp
 generalize F8 st=lo at HT H2
 generalize AA st (Br S)=g0 at *
 match g0,hGG,HT,h1' with
 | .error e0,hGG,HT,h1'=>
  rw[show G=.error e0 from hGG]
  have hb0:∀w',Par w' Q B v S (.error e0)->Calls Tryz.prog 134 #[.pointer (some ⟨Q,0,none⟩),.string ⟨#[60]⟩] w' fun e w''=>e=.returned (.bool false)/\Par w'' Q B v S (.error e0)/\w'.grownBy w'' (some Q):=hbl (.error e0)
  have hb1:∀w',Par w' Q B v S (.error e0)->Calls Tryz.prog 134 #[.pointer (some ⟨Q,0,none⟩),.string ⟨#[61,61]⟩] w' fun e w''=>e=.returned (.bool false)/\Par w'' Q B v S (.error e0)/\w'.grownBy w'' (some Q):=hbs (.error e0)
  have H1:Hid (∀w,Par w Q B v S st->Calls Tryz.prog 152 #[.pointer (some ⟨Q,0,none⟩)] w fun e w'=>(∃u,e=.returned u/\ValG w' (AZ w.heap.size) u (.error e0))/\Par w' Q B v S (.error e0)/\w.grownBy w' (some Q)):=h1'
  clear h1' H2 HT hbl hbs
  go_enter Tryz.func136,Tryz.ntmps136
  go_wp2_with (first
   | (go_at_call_of 152 (Value.pointer (some ⟨Q,0,none⟩));refine(H1.out _ HPA.out).mono ?_;rintro e w1 ⟨⟨u,rfl,hv⟩,hp1,hg1⟩;obtain⟨a,b,c,ad,n,cc,hu'⟩:=hv.any;subst hu';have hX1:=HX.out.grown hg1 (by omega);have HP1:Hid (Par (w1.alloc (.cells #[.int .i64 a,.string b,.int .i64 c,.slice ad n cc] 24)) Q B v S (.error e0)):=hp1.below ((Zg _ _).alloc (Z0 _) _);have HN1:=Box4.new w1 (.int .i64 a) (.string b) (.int .i64 c) (.slice ad n cc);have HR1:=hX1.alloc (.cells #[.int .i64 a,.string b,.int .i64 c,.slice ad n cc] 24))
   | (go_at_call_of 134 (Value.string ⟨#[60]⟩);refine(hb0 _ HP1.out).mono ?_;rintro e w0 ⟨rfl,hp0,hg0⟩)
   | (go_at_call_of 134 (Value.string ⟨#[61,61]⟩);refine(hb1 _ hp0).mono ?_;rintro e w2 ⟨rfl,hp2,hg2'⟩;have hg2:=hg0.trans hg2';have sz1:w.heap.size<w1.heap.size:=(by have:=hg1.size;simp at this;omega);obtain⟨⟨p0,p1,p2,p3⟩,_⟩:=(HN1.grown hg2 (by omega)).facts;obtain⟨⟨q0,q1,q2,q3⟩,s0,s1,s2,s3⟩:=(HR1.grown hg2 (by omega)).facts))
  have hgw:w.grownBy w2 (some Q):=(((Zf w AK (some Q)).trans hg1).trans (Zf _ _ _)).trans hg2
  refine bodyPost_ret (v:=.agg #[.int .i64 a,.string b,.int .i64 c,.slice ad n cc]) (by simp[results,Tryz.results136,go_sem,q0,q1,q2,q3]) rfl ⟨⟨_,rfl,?_⟩,Ap hp2 hRB _ _ _ _,AG hgw (AX (Z0 _) _ _ _ _)⟩
  have hz:w.heap.size<(w.alloc AK).heap.size:=by simp
  exact(((hv.above (Zh (Zf _ _ none) (fun k e=>by cases e))).above (Zh hg2 (fun k e=>by injection e with e;show ¬(w.alloc AK).heap.size<=k;omega))).above (Af (R:=w.heap.size) (by show ¬(w.alloc AK).heap.size<=w.heap.size;omega) _ _ _ _)).mono (fun k hk _=>by have hk':(w.alloc AK).heap.size<=k:=hk;show w.heap.size<=k;omega)
 | .ok (nd,s1),hGG,HT,h1'=>
  have hb0:=hbl (.ok s1)
  cases hs:A1 S EX s1 with
  | true=>
   have hs':=hs
   have HGX:Hid (G=(Br S s1.step).then fun k s=>AD 18 [] 0 [nd,k] s):=by show _=_;rw[hGG,then_ok,if_pos hs]
   rw[show Aa S EX (.ok s1)=true from hs,show CA S EX (.ok s1)=.ok s1.step by unfold CA;rw[show Aa S EX (.ok s1)=true from hs,if_pos rfl]]at hb0
   clear hGG
   have ht:=AH hs'
   have hu:=H2.out s1 (HT nd s1 rfl) ht
   unfold Ah at hu
   rw[bindS_ok]at hu
   clear H2 HT hbl hbs hs hs'
   generalize Br S s1.step=gk at *
   have hcall:=h1' _ HPA.out
   clear h1'
   go_enter Tryz.func136,Tryz.ntmps136
   go_wp2_with fail
   refine(show _ from ?_)
   go_wp2_with (first
    | (go_at_call 152;refine hcall.mono ?_;rintro e w1 ⟨⟨u,rfl,hv⟩,hp1,hg1⟩;obtain⟨a,b,c,ad,n,cc,hu'⟩:=hv.any;subst hu';have hX1:=HX.out.grown hg1 (by omega);clear hcall))
   have HP1:Par (w1.alloc (.cells #[.int .i64 a,.string b,.int .i64 c,.slice ad n cc] 24)) Q B v S (.ok s1):=hp1.below ((Zg _ _).alloc (Z0 _) _)
   have HN1:=Box4.new w1 (.int .i64 a) (.string b) (.int .i64 c) (.slice ad n cc)
   have HR1:=hX1.alloc (.cells #[.int .i64 a,.string b,.int .i64 c,.slice ad n cc] 24)
   have sz1:w.heap.size<w1.heap.size:=(by have:=hg1.size;simp at this;omega)
   have szA:(w.alloc AK).heap.size<=w1.heap.size:=hg1.size
   have HV1:Hid (NodeV (w1.alloc (.cells #[.int .i64 a,.string b,.int .i64 c,.slice ad n cc] 24)) (AZ (w.alloc AK).heap.size) (.agg #[.int .i64 a,.string b,.int .i64 c,.slice ad n cc]) nd):=NodeV.above hv (Zh (Zf _ _ none) (fun k e=>by cases e))
   have HW1:Hid (w.grownBy (w1.alloc (.cells #[.int .i64 a,.string b,.int .i64 c,.slice ad n cc] 24)) (some Q)):=((Zf w AK (some Q)).trans hg1).trans (Zf _ _ _)
   clear hv hp1 hg1 hX1
   go_wp2_with (first
    | (go_at_call 134;refine(hb0 _ HP1).mono ?_;rintro e w2 ⟨rfl,hp2,hg2⟩))
   have hgN:=hg2
   have hN2:=HN1.grown hg2 (by omega)
   have hR2:=HR1.grown hg2 (by omega)
   have hN2l:=hN2.lt
   have hR2l:=hR2.lt
   go_wp2_with (first
    | (go_at_call 152;refine(hu _ hp2).mono ?_;rintro e w3 ⟨⟨uk,rfl,hvk⟩,hp3,hg3⟩;obtain⟨a',b',c',ad',n',cc',hu'⟩:=hvk.any;subst hu';obtain⟨⟨p0,p1,p2,p3⟩,_⟩:=(hN2.grown hg3 (by omega)).facts;have hN3:=(hN2.grown hg3 (by omega)).lt)
    | (go_at_call 89;refine(At Q B v S (A7 gk) _ _ _ ⟨_,_,_,rfl⟩ _ (F7 hp3 _ _)).mono ?_;rintro e w4 ⟨rfl,hp4,hg4⟩;have hR4:=(((hR2.grown hg3 (by omega)).alloc _).alloc _).grown hg4 (by omega);obtain⟨⟨q0,q1,q2,q3⟩,s0,s1',s2,s3⟩:=hR4.facts))
   have hz:w.heap.size<(w.alloc AK).heap.size:=by simp
   have hQo:∀k,(some Q:Option Nat)=some k->¬AZ (w.alloc AK).heap.size k:=fun k e=>by injection e with e;show ¬(w.alloc AK).heap.size<=k;omega
   have sz3:w2.heap.size<=w3.heap.size:=hg3.size
   have hgw:w.grownBy w4 (some Q):=((((HW1.out.trans hg2).trans hg3).trans (Zf _ _ _)).trans (Zf _ _ _)).trans hg4
   have hnd3:NodeV (w3.alloc (.cells #[.int .i64 a',.string b',.int .i64 c',.slice ad' n' cc'] 24)) (AZ (w.alloc AK).heap.size) (.agg #[.int .i64 a,.string b,.int .i64 c,.slice ad n cc]) nd:=((HV1.out.above (Zh hg2 hQo)).above (Zh hg3 hQo)).above (Zh (Zf _ _ none) (fun k e=>by cases e))
   have hvk3:ValG (w3.alloc (.cells #[.int .i64 a',.string b',.int .i64 c',.slice ad' n' cc'] 24)) (AZ (w.alloc AK).heap.size) (.agg #[.int .i64 a',.string b',.int .i64 c',.slice ad' n' cc']) gk:=(hvk.mono (fun k hk _=>by have hk':w2.heap.size<=k:=hk;show(w.alloc AK).heap.size<=k;omega)).above (Zh (Zf _ _ none) (fun k e=>by cases e))
   have hend:=JS (kind:=18) (T:=24) hnd3 hvk3 (by show(w.alloc AK).heap.size<=(w3.alloc _).heap.size;have:(w3.alloc (.cells #[.int .i64 a',.string b',.int .i64 c',.slice ad' n' cc'] 24)).heap.size=w3.heap.size+1:=World.size_alloc _ _;omega) ((Zh hg4 hQo).trans (Af (R:=w.heap.size) (by show ¬(w.alloc AK).heap.size<=w.heap.size;omega) (.int .i64 18) (.string ⟨#[]⟩) (.int .i64 0) (.slice (some ⟨w3.heap.size+1,0,none⟩) 2 2)))
   have hsz:(w3.alloc (.cells #[.int .i64 a',.string b',.int .i64 c',.slice ad' n' cc'] 24)).heap.size=w3.heap.size+1:=World.size_alloc _ _
   rw[hsz]at hend
   refine bodyPost_ret (v:=.agg #[.int .i64 18,.string ⟨#[]⟩,.int .i64 0,.slice (some ⟨w3.heap.size+1,0,none⟩) 2 2]) (by simp[results,Tryz.results136,go_sem,q0,q1,q2,q3]) rfl ⟨⟨_,rfl,?_⟩,?_,AG hgw (AX (Z0 _) _ _ _ _)⟩
   ·rw[HGX.out]
    exact hend.mono (fun k hk _=>by have hk':(w.alloc AK).heap.size<=k:=hk;show w.heap.size<=k;omega)
   ·rw[HGX.out,Sv]
    exact Ap hp4 hRB _ _ _ _
  | false=>
   rw[show Aa S EX (.ok s1)=false from hs,show CA S EX (.ok s1)=.ok s1 by unfold CA;rw[show Aa S EX (.ok s1)=false from hs,if_neg (by decide)]]at hb0
   have hsl:=hs
   clear hs
   have hb1:=hbs (.ok s1)
   cases hs:A1 S EY s1 with
   | true=>
    have hs':=hs
    have HGX:Hid (G=(Br S s1.step).then fun k s=>AD 19 [] 0 [nd,k] s):=by show _=_;rw[hGG,then_ok,if_neg (by rw[hsl];decide),if_pos hs]
    rw[show Aa S EY (.ok s1)=true from hs,show CA S EY (.ok s1)=.ok s1.step by unfold CA;rw[show Aa S EY (.ok s1)=true from hs,if_pos rfl]]at hb1
    clear hGG hsl
    have ht:=AH hs'
    have hu:=H2.out s1 (HT nd s1 rfl) ht
    unfold Ah at hu
    rw[bindS_ok]at hu
    clear H2 HT hbl hbs hs hs'
    generalize Br S s1.step=gk at *
    have hcall:=h1' _ HPA.out
    clear h1'
    go_enter Tryz.func136,Tryz.ntmps136
    go_wp2_with fail
    refine(show _ from ?_)
    go_wp2_with (first
     | (go_at_call 152;refine hcall.mono ?_;rintro e w1 ⟨⟨u,rfl,hv⟩,hp1,hg1⟩;obtain⟨a,b,c,ad,n,cc,hu'⟩:=hv.any;subst hu';have hX1:=HX.out.grown hg1 (by omega);clear hcall))
    have HP1:Par (w1.alloc (.cells #[.int .i64 a,.string b,.int .i64 c,.slice ad n cc] 24)) Q B v S (.ok s1):=hp1.below ((Zg _ _).alloc (Z0 _) _)
    have HN1:=Box4.new w1 (.int .i64 a) (.string b) (.int .i64 c) (.slice ad n cc)
    have HR1:=hX1.alloc (.cells #[.int .i64 a,.string b,.int .i64 c,.slice ad n cc] 24)
    have sz1:w.heap.size<w1.heap.size:=(by have:=hg1.size;simp at this;omega)
    have szA:(w.alloc AK).heap.size<=w1.heap.size:=hg1.size
    have HV1:Hid (NodeV (w1.alloc (.cells #[.int .i64 a,.string b,.int .i64 c,.slice ad n cc] 24)) (AZ (w.alloc AK).heap.size) (.agg #[.int .i64 a,.string b,.int .i64 c,.slice ad n cc]) nd):=NodeV.above hv (Zh (Zf _ _ none) (fun k e=>by cases e))
    have HW1:Hid (w.grownBy (w1.alloc (.cells #[.int .i64 a,.string b,.int .i64 c,.slice ad n cc] 24)) (some Q)):=((Zf w AK (some Q)).trans hg1).trans (Zf _ _ _)
    clear hv hp1 hg1 hX1
    go_wp2_with (first
     | (go_at_call_of 134 (Value.string ⟨#[60]⟩);refine(hb0 _ HP1).mono ?_;rintro e w0 ⟨rfl,hp0,hg0⟩)
     | (go_at_call_of 134 (Value.string ⟨#[61,61]⟩);refine(hb1 _ hp0).mono ?_;rintro e w2 ⟨rfl,hp2,hg2'⟩;have hg2:=hg0.trans hg2'))
    have hgN:=hg2
    have hN2:=HN1.grown hg2 (by omega)
    have hR2:=HR1.grown hg2 (by omega)
    have hN2l:=hN2.lt
    have hR2l:=hR2.lt
    go_wp2_with (first
     | (go_at_call 152;refine(hu _ hp2).mono ?_;rintro e w3 ⟨⟨uk,rfl,hvk⟩,hp3,hg3⟩;obtain⟨a',b',c',ad',n',cc',hu'⟩:=hvk.any;subst hu';obtain⟨⟨p0,p1,p2,p3⟩,_⟩:=(hN2.grown hg3 (by omega)).facts;have hN3:=(hN2.grown hg3 (by omega)).lt)
     | (go_at_call 89;refine(At Q B v S (A7 gk) _ _ _ ⟨_,_,_,rfl⟩ _ (F7 hp3 _ _)).mono ?_;rintro e w4 ⟨rfl,hp4,hg4⟩;have hR4:=(((hR2.grown hg3 (by omega)).alloc _).alloc _).grown hg4 (by omega);obtain⟨⟨q0,q1,q2,q3⟩,s0,s1',s2,s3⟩:=hR4.facts))
    have hz:w.heap.size<(w.alloc AK).heap.size:=by simp
    have hQo:∀k,(some Q:Option Nat)=some k->¬AZ (w.alloc AK).heap.size k:=fun k e=>by injection e with e;show ¬(w.alloc AK).heap.size<=k;omega
    have sz3:w2.heap.size<=w3.heap.size:=hg3.size
    have hgw:w.grownBy w4 (some Q):=((((HW1.out.trans hg2).trans hg3).trans (Zf _ _ _)).trans (Zf _ _ _)).trans hg4
    have hnd3:NodeV (w3.alloc (.cells #[.int .i64 a',.string b',.int .i64 c',.slice ad' n' cc'] 24)) (AZ (w.alloc AK).heap.size) (.agg #[.int .i64 a,.string b,.int .i64 c,.slice ad n cc]) nd:=((HV1.out.above (Zh hg2 hQo)).above (Zh hg3 hQo)).above (Zh (Zf _ _ none) (fun k e=>by cases e))
    have hvk3:ValG (w3.alloc (.cells #[.int .i64 a',.string b',.int .i64 c',.slice ad' n' cc'] 24)) (AZ (w.alloc AK).heap.size) (.agg #[.int .i64 a',.string b',.int .i64 c',.slice ad' n' cc']) gk:=(hvk.mono (fun k hk _=>by have hk':w2.heap.size<=k:=hk;show(w.alloc AK).heap.size<=k;omega)).above (Zh (Zf _ _ none) (fun k e=>by cases e))
    have hend:=JS (kind:=19) (T:=24) hnd3 hvk3 (by show(w.alloc AK).heap.size<=(w3.alloc _).heap.size;have:(w3.alloc (.cells #[.int .i64 a',.string b',.int .i64 c',.slice ad' n' cc'] 24)).heap.size=w3.heap.size+1:=World.size_alloc _ _;omega) ((Zh hg4 hQo).trans (Af (R:=w.heap.size) (by show ¬(w.alloc AK).heap.size<=w.heap.size;omega) (.int .i64 19) (.string ⟨#[]⟩) (.int .i64 0) (.slice (some ⟨w3.heap.size+1,0,none⟩) 2 2)))
    have hsz:(w3.alloc (.cells #[.int .i64 a',.string b',.int .i64 c',.slice ad' n' cc'] 24)).heap.size=w3.heap.size+1:=World.size_alloc _ _
    rw[hsz]at hend
    refine bodyPost_ret (v:=.agg #[.int .i64 19,.string ⟨#[]⟩,.int .i64 0,.slice (some ⟨w3.heap.size+1,0,none⟩) 2 2]) (by simp[results,Tryz.results136,go_sem,q0,q1,q2,q3]) rfl ⟨⟨_,rfl,?_⟩,?_,AG hgw (AX (Z0 _) _ _ _ _)⟩
    ·rw[HGX.out]
     exact hend.mono (fun k hk _=>by have hk':(w.alloc AK).heap.size<=k:=hk;show w.heap.size<=k;omega)
    ·rw[HGX.out,Sv]
     exact Ap hp4 hRB _ _ _ _
   | false=>
    rw[show Aa S EY (.ok s1)=false from hs,show CA S EY (.ok s1)=.ok s1 by unfold CA;rw[show Aa S EY (.ok s1)=false from hs,if_neg (by decide)]]at hb1
    have hGX:G=.ok (nd,s1):=by rw[hGG,then_ok,if_neg (by rw[hsl];decide),if_neg (by rw[hs];decide)]
    rw[hGX]
    clear hGG hsl hs hGX
    have H1:Hid (∀w,Par w Q B v S st->Calls Tryz.prog 152 #[.pointer (some ⟨Q,0,none⟩)] w fun e w'=>(∃u,e=.returned u/\ValG w' (AZ w.heap.size) u (.ok (nd,s1)))/\Par w' Q B v S (.ok s1)/\w.grownBy w' (some Q)):=h1'
    clear h1' H2 HT hbl hbs
    go_enter Tryz.func136,Tryz.ntmps136
    go_wp2_with (first
     | (go_at_call_of 152 (Value.pointer (some ⟨Q,0,none⟩));refine(H1.out _ HPA.out).mono ?_;rintro e w1 ⟨⟨u,rfl,hv⟩,hp1,hg1⟩;obtain⟨a,b,c,ad,n,cc,hu'⟩:=hv.any;subst hu';have hX1:=HX.out.grown hg1 (by omega);have HP1:Hid (Par (w1.alloc (.cells #[.int .i64 a,.string b,.int .i64 c,.slice ad n cc] 24)) Q B v S (.ok s1)):=hp1.below ((Zg _ _).alloc (Z0 _) _);have HN1:=Box4.new w1 (.int .i64 a) (.string b) (.int .i64 c) (.slice ad n cc);have HR1:=hX1.alloc (.cells #[.int .i64 a,.string b,.int .i64 c,.slice ad n cc] 24))
     | (go_at_call_of 134 (Value.string ⟨#[60]⟩);refine(hb0 _ HP1.out).mono ?_;rintro e w0 ⟨rfl,hp0,hg0⟩)
     | (go_at_call_of 134 (Value.string ⟨#[61,61]⟩);refine(hb1 _ hp0).mono ?_;rintro e w2 ⟨rfl,hp2,hg2'⟩;have hg2:=hg0.trans hg2';have sz1:w.heap.size<w1.heap.size:=(by have:=hg1.size;simp at this;omega);obtain⟨⟨p0,p1,p2,p3⟩,_⟩:=(HN1.grown hg2 (by omega)).facts;obtain⟨⟨q0,q1,q2,q3⟩,s0,s1,s2,s3⟩:=(HR1.grown hg2 (by omega)).facts))
    have hgw:w.grownBy w2 (some Q):=(((Zf w AK (some Q)).trans hg1).trans (Zf _ _ _)).trans hg2
    refine bodyPost_ret (v:=.agg #[.int .i64 a,.string b,.int .i64 c,.slice ad n cc]) (by simp[results,Tryz.results136,go_sem,q0,q1,q2,q3]) rfl ⟨⟨_,rfl,?_⟩,Ap hp2 hRB _ _ _ _,AG hgw (AX (Z0 _) _ _ _ _)⟩
    have hz:w.heap.size<(w.alloc AK).heap.size:=by simp
    exact(((hv.above (Zh (Zf _ _ none) (fun k e=>by cases e))).above (Zh hg2 (fun k e=>by injection e with e;show ¬(w.alloc AK).heap.size<=k;omega))).above (Af (R:=w.heap.size) (by show ¬(w.alloc AK).heap.size<=w.heap.size;omega) _ _ _ _)).mono (fun k hk _=>by have hk':(w.alloc AK).heap.size<=k:=hk;show w.heap.size<=k;omega)
def Au(S:Src9):Prop:=∀t∈S.L,t.1=2->t.2.1.length<=4000/\0<=Dn t.2.1/\Dn t.2.1<=1073741823
theorem Nl{l:List Tok}{k:Nat}(h:k<l.length):BS l k∈l:=by
 unfold BS
 rw[Z2,List.getElem?_eq_getElem h]
 exact Z6 _
theorem UT(m c:Int):wrap64 (wrap64 (wrap64 (10*IntKind.i64.wrap m)+c)-48)=IntKind.i64.wrap (10*m+(c-48)):=by
 rw[IntKind.wrap_i64,IntKind.wrap_i64];unfold wrap64;omega
theorem UU(Q B:Nat)(v:Value)(S:Src9)(s:PS)(hnf:Au S)(hs:isB S 2 s=true)(w:World)(hp:Par w Q B v S (.ok s)) :
  Calls Tryz.prog 175 #[.pointer (some ⟨Q,0,none⟩)] w fun e w'=>(∃u,e=.returned u/\ValG w' (AZ w.heap.size) u (AD 26 [] (Dn (S.at s.tok).2.1) [] s.step))/\Par w' Q B v S (.ok s.step.node)/\w.grownBy w' (some Q):=by
 have hRB:=hp.size
 have hqb:=hp.qb
 have hfew:=hp.few
 have ht:=M1 hs
 have hkd:(BS S.L s.tok).1=2:=by
  unfold isB at hs
  simp only[Bool.and_eq_true,beq_iff_eq]at hs
  exact hs.2
 obtain⟨hx1,hx2,hx3⟩:=hnf _ (Nl ht) hkd
 have hxb:=hp.bytes _ (Nl ht)
 have his:=MD Q B v S (.ok s) 2 _ (hp.below ((Zg _ w).alloc (Z0 _) AK))
 rw[show isS S 2 (.ok s)=true from hs]at his
 obtain⟨vad,vc,hv0,_⟩:=hp.toks
 subst hv0
 have HPA:Hid (Par (w.alloc AK) Q B (.slice vad S.L.length vc) S (.ok s)):=hp.below ((Zg _ w).alloc (Z0 _) _)
 have HX:=ZB w
 have hwt:=AN (x:=(s.tok:Int)+1) (by omega) (by omega)
 have hil:(s.tok:Int)<(S.L.length:Int):=by omega
 obtain⟨X,HX2⟩:∃X,Hid (X=(BS S.L s.tok).2.1):=⟨_,rfl⟩
 have HXS:Hid ((strOfNums X).size=X.length/\A2 (strOfNums X)=X/\X.length<=4000/\IntKind.i64.wrap (Dn X)=Dn X):=by
  rw[HX2.out]
  refine⟨?_,IW hxb,hx1,AN (by omega) (by omega)⟩
  rw[<-Ai,IW hxb]
 rw[show(S.at s.tok).2.1=X from HX2.out.symm]
 clear hs hkd hx1 hx2 hx3 hxb hp hnf
 go_enter Tryz.func175,Tryz.ntmps175
 go_wp2_with (first
  | (go_at_call 133;refine his.mono ?_;rintro e w1 ⟨rfl,hb1⟩))
 have hp1:=HPA.out.below hb1
 have hX1:=HX.out.grown (A0 Q hb1) (by omega)
 obtain⟨many,ho,hmm,_,_,_⟩:=hp1.ok
 obtain⟨k0,k1,k2,k3,k4,k5,k6⟩:=ho.cells
 have z2:=ho.frozen 2
 have hql:=ho.lt
 obtain⟨ad1,c1,hv1,hrow⟩:=hp1.toks
 obtain⟨b,off,had,hbl,hbq,hcl⟩:=hrow (by omega)
 simp only[Value.slice.injEq,true_and]at hv1
 obtain⟨rfl,rfl⟩:=hv1
 subst had
 obtain⟨_,x2,_⟩:=hcl s.tok ht
 rw[<-HX2.out]at x2
 have hne:¬b=Q:=by omega
 have HB1:Hid (Below (w.alloc AK).heap.size (w.alloc AK) w1):=hb1
 have HP1:Hid (Par w1 Q B (.slice (some ⟨b,off,none⟩) S.L.length vc) S (.ok s)):=hp1
 have HX1:Hid (Box4 w1 w.heap.size (.int .i64 0) (.string ⟨#[]⟩) (.int .i64 0) (.slice none 0 0)):=hX1
 clear hcl hrow hmm ho his hb1 hp1 hX1
 go_region
 go_wp2_with (first
  | (go_at_call 89;refine(At Q B _ S (.ok s.step) _ _ _ ⟨_,_,_,rfl⟩ _ ((FL HP1.out ht).below (Zg _ _).drew)).mono ?_;rintro e w2 ⟨rfl,hp2,hg2⟩))
 have hX2:=((HX1.out.grown (AJ _ Q 2 (.int .i64 ((s.tok:Int)+1))) (by omega)).grown (A0 Q (Zg _ _).drew) (by omega)).grown hg2 (by omega)
 have sz1:w.heap.size<w2.heap.size:=hX2.lt
 have HP0:Hid (Par (w2.alloc (.cells #[.int .i64 26,.string ⟨#[]⟩,.int .i64 0,.slice none 0 0] 24)) Q B (.slice (some ⟨b,off,none⟩) S.L.length vc) S (.ok s.step.node)):=hp2.below ((Zg _ _).alloc (Z0 _) _)
 have HN0:Hid (Box4 (w2.alloc (.cells #[.int .i64 26,.string ⟨#[]⟩,.int .i64 0,.slice none 0 0] 24)) w2.heap.size (.int .i64 26) (.string ⟨#[]⟩) (.int .i64 (IntKind.i64.wrap (Be X 0 0))) (.slice none 0 0)):=Box4.new _ _ _ _ _
 have HX0:Hid (Box4 (w2.alloc (.cells #[.int .i64 26,.string ⟨#[]⟩,.int .i64 0,.slice none 0 0] 24)) w.heap.size (.int .i64 0) (.string ⟨#[]⟩) (.int .i64 0) (.slice none 0 0)):=hX2.alloc _
 have HG0:Hid (w.grownBy (w2.alloc (.cells #[.int .i64 26,.string ⟨#[]⟩,.int .i64 0,.slice none 0 0] 24)) (some Q)):=(((((Zf w AK (some Q)).trans (A0 Q HB1.out)).trans (AJ _ Q 2 _)).trans (A0 Q (Zg _ _).drew)).trans hg2).trans (Zf _ _ _)
 have HNL:Hid (w.heap.size<w2.heap.size):=sz1
 generalize w2.alloc (.cells #[.int .i64 26,.string ⟨#[]⟩,.int .i64 0,.slice none 0 0] 24)=W0 at *
 generalize w2.heap.size=N at *
 clear hp2 hg2 hX2 HB1 HP1 HX1 k0 k1 k2 k3 k4 k5 k6 z2 x2 hbl sz1
 go_loopw [6] (fun s6 wr=>∃(i:Nat),s6=.int .i64 i/\i<=X.length/\Hid (Par wr Q B (.slice (some ⟨b,off,none⟩) S.L.length vc) S (.ok s.step.node))/\Hid (Box4 wr N (.int .i64 26) (.string ⟨#[]⟩) (.int .i64 (IntKind.i64.wrap (Be X 0 i))) (.slice none 0 0))/\Hid (Box4 wr w.heap.size (.int .i64 0) (.string ⟨#[]⟩) (.int .i64 0) (.slice none 0 0))/\Hid (w.grownBy wr (some Q))) (fun s6 _=>X.length-(intOf s6).toNat)
 case atStart=>exact⟨0,rfl,Z3 _,HP0,HN0,HX0,HG0⟩
 case round=>
  clear HP0 HN0 HX0 HG0
  obtain⟨i,rfl,hi,HP,HN,HR,HGr⟩:=hrel
  obtain⟨⟨m0,m1,m2,m3⟩,o0,o1,o2,o3⟩:=HN.out.facts
  obtain⟨⟨y0,y1,y2,y3⟩,r0,r1,r2,r3⟩:=HR.out.facts
  have hNb:=HN.out.lt
  have hXl:X.length<=4000:=HXS.out.2.2.1
  have hsz:((strOfNums X).size:Int)=(X.length:Int):=by rw[HXS.out.1]
  by_cases hlt:i<X.length
  ·have hlt':i<(strOfNums X).size:=by rw[HXS.out.1];exact hlt
   have hcc:=EO hlt'
   rw[HXS.out.2.1]at hcc
   have hiz:(i:Int)<((strOfNums X).size:Int):=by omega
   have hwi:=AN (x:=(i:Int)+1) (by omega) (by omega)
   have HW:Hid (wrap64 (wrap64 (wrap64 (10*IntKind.i64.wrap (Be X 0 i))+wd X i)-48)=IntKind.i64.wrap (Be X 0 (i+1))):=by
    show _=_
    rw[UT]
    conv=>rhs;unfold Be
    rw[Nat.zero_add]
   have hby:0<=wd X i/\wd X i<=255:=by
    have:=Dw (strOfNums X)
    rw[HXS.out.2.1]at this
    exact Fr this i
   have hwy:=AN (x:=wd X i) (by omega) (by omega)
   clear hsz
   generalize wd X i=y at *
   generalize IntKind.i64.wrap (Be X 0 i)=m at *
   go_wp2_with fail
   go_region
   go_wp2_with fail
   have hbx:Below B wr (wr.setCell ⟨N,2,none⟩ (.int .i64 (wrap64 (wrap64 (wrap64 (10*m)+y)-48)))).drew:=((Zg _ _).setCell (by have:=HNL.out;dsimp only;omega) _).drew
   have hbw:Below w.heap.size wr (wr.setCell ⟨N,2,none⟩ (.int .i64 (wrap64 (wrap64 (wrap64 (10*m)+y)-48)))).drew:=((Zg _ _).setCell (by dsimp only;exact Nat.le_of_lt HNL.out) _).drew
   refine⟨⟨i+1,by simp,by omega,HP.out.apart hbx,?_,?_,AG HGr.out hbw⟩,by simp[intOf];omega⟩
   ·have:=HN.out.setNum (.int .i64 (wrap64 (wrap64 (wrap64 (10*m)+y)-48)))
    rw[HW.out]at this⊢
    exact this
   ·exact(Zm _ _ _ _ (by have:=HNL.out;dsimp only;omega)).trans HR.out
  ·have e:i=X.length:=by omega
   subst e
   have hiz:¬(X.length:Int)<((strOfNums X).size:Int):=by omega
   clear hsz
   go_wp2_with fail
   have hnum:wrap64 (Be X 0 X.length)=Dn X:=by
    have:=HXS.out.2.2.2
    rw[IntKind.wrap_i64]at this
    unfold wrap64
    exact this
   refine bodyPost_ret (v:=.agg #[.int .i64 26,.string ⟨#[]⟩,.int .i64 (Dn X),.slice none 0 0]) (by simp[results,Tryz.results175,go_sem,y0,y1,y2,y3,hnum]) rfl ⟨⟨_,rfl,?_⟩,Ap HP.out hRB _ _ _ _,AG HGr.out (AX (Z0 _) _ _ _ _)⟩
   exact⟨.slice none 0 0,rfl,DF _ _ _⟩
theorem P9{w:World}{M:Nat->Prop}{kind:Int}{g:Got (List Int)}{t:ByteArray}(h:FH (.string t) g):ValG w M (.agg #[.int .i64 kind,.string t,.int .i64 0,.slice none 0 0]) (g.then fun x s=>AD kind x 0 [] s):=by
 match g,h with
 | .ok (x,s),h=>
  have e:Value.string t=.string (strOfNums x):=h
  injection e with e
  subst e
  exact⟨.slice none 0 0,rfl,DF _ _ _⟩
 | .error e,h=>exact⟨_,_,_,_,_,_,rfl⟩
theorem Qs{kind:Int}{g:Got (List Int)}:A7 (g.then fun x s=>AD kind x 0 [] s)=Cz (A7 g):=by
 match g with
 | .ok (x,s)=>rfl
 | .error e=>rfl
theorem DS{x:Value}{g:Got (List Int)}(h:FH x g):∃t,x=.string t:=by
 match g,h with
 | .ok (t,s),h=>exact⟨_,h⟩
 | .error e,h=>exact h
theorem D6{Q B:Nat}{v:Value}{S:Src9}{st:St9}{x:ByteArray}{l:List Int}(e:A2 x=l)(h:Aa S l st=false):∀w',Par w' Q B v S st->Calls Tryz.prog 134 #[.pointer (some ⟨Q,0,none⟩),.string x] w' fun e w''=>e=.returned (.bool false)/\Par w'' Q B v S st/\w'.grownBy w'' (some Q):=fun w' h'=>by
 have:=EN Q B v S st x w' h'
 rw[e,h]at this
 unfold CA at this
 rw[h,if_neg (by decide)]at this
 exact this
theorem CX{Q B:Nat}{v:Value}{S:Src9}{s:PS}{x:ByteArray}{l:List Int}(e:A2 x=l)(h:A1 S l s=true):∀w',Par w' Q B v S (.ok s)->Calls Tryz.prog 134 #[.pointer (some ⟨Q,0,none⟩),.string x] w' fun e w''=>e=.returned (.bool true)/\Par w'' Q B v S (.ok s.step)/\w'.grownBy w'' (some Q):=fun w' h'=>by
 have h2:Aa S l (.ok s)=true:=h
 have:=EN Q B v S (.ok s) x w' h'
 rw[e,h2]at this
 unfold CA at this
 rw[h2,if_pos rfl]at this
 exact this
theorem GG{Q B:Nat}{v:Value}{S:Src9}{st:St9}{k:Int}(h:isS S k st=false):∀w',Par w' Q B v S st->Calls Tryz.prog 133 #[.pointer (some ⟨Q,0,none⟩),.int .i64 k] w' fun e w''=>e=.returned (.bool false)/\Below w'.heap.size w' w'':=fun w' h'=>by
 have:=MD Q B v S st k w' h'
 rw[h]at this
 exact this
theorem MU{Q B:Nat}{v:Value}{S:Src9}{s:PS}{k:Int}(h:isB S k s=true):∀w',Par w' Q B v S (.ok s)->Calls Tryz.prog 133 #[.pointer (some ⟨Q,0,none⟩),.int .i64 k] w' fun e w''=>e=.returned (.bool true)/\Below w'.heap.size w' w'':=fun w' h'=>by
 have:=MD Q B v S (.ok s) k w' h'
 rw[show isS S k (.ok s)=true from h]at this
 exact this
theorem Sx(Q B:Nat)(v:Value)(S:Src9)(s:PS)(h2:isB S 2 s=false)(h1:isB S 1 s=true)(w:World)(hp:Par w Q B v S (.ok s)) :
  Calls Tryz.prog 175 #[.pointer (some ⟨Q,0,none⟩)] w fun e w'=>(∃u,e=.returned u/\ValG w' (AZ w.heap.size) u ((AW S s).then fun x s=>AD 31 x 0 [] s))/\Par w' Q B v S (A7 ((AW S s).then fun x s=>AD 31 x 0 [] s))/\w.grownBy w' (some Q):=by
 have hRB:=hp.size
 have hqb:=hp.qb
 have HPA:Hid (Par (w.alloc AK) Q B v S (.ok s)):=hp.below ((Zg _ w).alloc (Z0 _) _)
 have HX:=ZB w
 have hI2:=GG (Q:=Q) (B:=B) (v:=v) (S:=S) (st:=.ok s) (k:=2) h2
 have hI1:=MU (Q:=Q) (B:=B) (v:=v) (S:=S) (s:=s) (k:=1) h1
 clear hp
 go_enter Tryz.func175,Tryz.ntmps175
 go_wp2_with (first
  | (go_at_call_of 133 (Value.int .i64 2);refine(hI2 _ HPA.out).mono ?_;rintro e w1 ⟨rfl,hb1⟩;have hp1:=Par.below HPA.out hb1;have hg1:(w.alloc AK).grownBy w1 (some Q):=(A0 Q hb1);clear hI2)
  | (go_at_call_of 133 (Value.int .i64 1);refine(hI1 _ hp1).mono ?_;rintro e w2 ⟨rfl,hb2⟩;have hp2:=Par.below hp1 hb2;have hg2:(w.alloc AK).grownBy w2 (some Q):=hg1.trans (A0 Q hb2);clear hI1)
  | (go_at_call 109;refine(FI Q B v S _ _ hp2).mono ?_;rintro e w7 ⟨⟨xv,rfl,htx⟩,hp7,hgx⟩;obtain⟨tx,hxv⟩:=DS htx;subst hxv;have hg7:=hg2.trans hgx)
  | (go_at_call 89;refine(At Q B v S _ _ _ _ ⟨_,_,_,rfl⟩ _ hp7).mono ?_;rintro e w8 ⟨rfl,hp8,hgx⟩;have hg8:=hg7.trans hgx;have hXe:=HX.out.grown hg8 (by omega);obtain⟨⟨q0,q1,q2,q3⟩,s0,s1,s2,s3⟩:=hXe.facts))
 have hgw:w.grownBy w8 (some Q):=(Zf w AK (some Q)).trans hg8
 refine bodyPost_ret (v:=.agg #[.int .i64 31,.string tx,.int .i64 0,.slice none 0 0]) (by simp[results,Tryz.results175,go_sem,q0,q1,q2,q3]) rfl ⟨⟨_,rfl,P9 htx⟩,by rw[Qs];exact Ap hp8 hRB _ _ _ _,AG hgw (AX (Z0 _) _ _ _ _)⟩
theorem Sy(Q B:Nat)(v:Value)(S:Src9)(s:PS)(h2:isB S 2 s=false)(h1:isB S 1 s=false)(b0:A1 S D8 s=true)(w:World)(hp:Par w Q B v S (.ok s)) :
  Calls Tryz.prog 175 #[.pointer (some ⟨Q,0,none⟩)] w fun e w'=>(∃u,e=.returned u/\ValG w' (AZ w.heap.size) u (AD 27 [] 0 [] s.step))/\Par w' Q B v S (A7 (AD 27 [] 0 [] s.step))/\w.grownBy w' (some Q):=by
 have hRB:=hp.size
 have hqb:=hp.qb
 have HPA:Hid (Par (w.alloc AK) Q B v S (.ok s)):=hp.below ((Zg _ w).alloc (Z0 _) _)
 have HX:=ZB w
 have hI2:=GG (Q:=Q) (B:=B) (v:=v) (S:=S) (st:=.ok s) (k:=2) h2
 have hI1:=GG (Q:=Q) (B:=B) (v:=v) (S:=S) (st:=.ok s) (k:=1) h1
 have hB0:=CX (Q:=Q) (B:=B) (v:=v) (S:=S) (s:=s) (x:=⟨#[110,105,108]⟩) (l:=D8) (by decide) b0
 clear hp
 go_enter Tryz.func175,Tryz.ntmps175
 go_wp2_with (first
  | (go_at_call_of 133 (Value.int .i64 2);refine(hI2 _ HPA.out).mono ?_;rintro e w1 ⟨rfl,hb1⟩;have hp1:=Par.below HPA.out hb1;have hg1:(w.alloc AK).grownBy w1 (some Q):=(A0 Q hb1);clear hI2)
  | (go_at_call_of 133 (Value.int .i64 1);refine(hI1 _ hp1).mono ?_;rintro e w2 ⟨rfl,hb2⟩;have hp2:=Par.below hp1 hb2;have hg2:(w.alloc AK).grownBy w2 (some Q):=hg1.trans (A0 Q hb2);clear hI1)
  | (go_at_call_of 134 (Value.string ⟨#[110,105,108]⟩);refine(hB0 _ hp2).mono ?_;rintro e w3 ⟨rfl,hp3,hgx⟩;have hg3:=hg2.trans hgx;clear hB0)
  | (go_at_call 89;refine(At Q B v S _ _ _ _ ⟨_,_,_,rfl⟩ _ hp3).mono ?_;rintro e w8 ⟨rfl,hp8,hgx⟩;have hg8:=hg3.trans hgx;have hXe:=HX.out.grown hg8 (by omega);obtain⟨⟨q0,q1,q2,q3⟩,s0,s1,s2,s3⟩:=hXe.facts))
 have hgw:w.grownBy w8 (some Q):=(Zf w AK (some Q)).trans hg8
 refine bodyPost_ret (v:=.agg #[.int .i64 27,.string ⟨#[]⟩,.int .i64 0,.slice none 0 0]) (by simp[results,Tryz.results175,go_sem,q0,q1,q2,q3]) rfl ⟨⟨_,rfl,⟨.slice none 0 0,rfl,DF _ _ _⟩⟩,Ap hp8 hRB _ _ _ _,AG hgw (AX (Z0 _) _ _ _ _)⟩
theorem RN(Q B:Nat)(v:Value)(S:Src9)(s:PS)(h2:isB S 2 s=false)(h1:isB S 1 s=false)(b0:A1 S D8 s=false)(b1:A1 S Cu s=true)(w:World)(hp:Par w Q B v S (.ok s)) :
  Calls Tryz.prog 175 #[.pointer (some ⟨Q,0,none⟩)] w fun e w'=>(∃u,e=.returned u/\ValG w' (AZ w.heap.size) u (AD 28 [] 0 [] s.step))/\Par w' Q B v S (A7 (AD 28 [] 0 [] s.step))/\w.grownBy w' (some Q):=by
 have hRB:=hp.size
 have hqb:=hp.qb
 have HPA:Hid (Par (w.alloc AK) Q B v S (.ok s)):=hp.below ((Zg _ w).alloc (Z0 _) _)
 have HX:=ZB w
 have hI2:=GG (Q:=Q) (B:=B) (v:=v) (S:=S) (st:=.ok s) (k:=2) h2
 have hI1:=GG (Q:=Q) (B:=B) (v:=v) (S:=S) (st:=.ok s) (k:=1) h1
 have hB0:=D6 (Q:=Q) (B:=B) (v:=v) (S:=S) (st:=.ok s) (x:=⟨#[110,105,108]⟩) (l:=D8) (by decide) b0
 have hB1:=CX (Q:=Q) (B:=B) (v:=v) (S:=S) (s:=s) (x:=⟨#[115,101,108,102]⟩) (l:=Cu) (by decide) b1
 clear hp
 go_enter Tryz.func175,Tryz.ntmps175
 go_wp2_with (first
  | (go_at_call_of 133 (Value.int .i64 2);refine(hI2 _ HPA.out).mono ?_;rintro e w1 ⟨rfl,hb1⟩;have hp1:=Par.below HPA.out hb1;have hg1:(w.alloc AK).grownBy w1 (some Q):=(A0 Q hb1);clear hI2)
  | (go_at_call_of 133 (Value.int .i64 1);refine(hI1 _ hp1).mono ?_;rintro e w2 ⟨rfl,hb2⟩;have hp2:=Par.below hp1 hb2;have hg2:(w.alloc AK).grownBy w2 (some Q):=hg1.trans (A0 Q hb2);clear hI1)
  | (go_at_call_of 134 (Value.string ⟨#[110,105,108]⟩);refine(hB0 _ hp2).mono ?_;rintro e w3 ⟨rfl,hp3,hgx⟩;have hg3:=hg2.trans hgx;clear hB0)
  | (go_at_call_of 134 (Value.string ⟨#[115,101,108,102]⟩);refine(hB1 _ hp3).mono ?_;rintro e w4 ⟨rfl,hp4,hgx⟩;have hg4:=hg3.trans hgx;clear hB1)
  | (go_at_call 89;refine(At Q B v S _ _ _ _ ⟨_,_,_,rfl⟩ _ hp4).mono ?_;rintro e w8 ⟨rfl,hp8,hgx⟩;have hg8:=hg4.trans hgx;have hXe:=HX.out.grown hg8 (by omega);obtain⟨⟨q0,q1,q2,q3⟩,s0,s1,s2,s3⟩:=hXe.facts))
 have hgw:w.grownBy w8 (some Q):=(Zf w AK (some Q)).trans hg8
 refine bodyPost_ret (v:=.agg #[.int .i64 28,.string ⟨#[]⟩,.int .i64 0,.slice none 0 0]) (by simp[results,Tryz.results175,go_sem,q0,q1,q2,q3]) rfl ⟨⟨_,rfl,⟨.slice none 0 0,rfl,DF _ _ _⟩⟩,Ap hp8 hRB _ _ _ _,AG hgw (AX (Z0 _) _ _ _ _)⟩
theorem RO(Q B:Nat)(v:Value)(S:Src9)(s:PS)(h2:isB S 2 s=false)(h1:isB S 1 s=false)(b0:A1 S D8 s=false)(b1:A1 S Cu s=false)(b2:A1 S DQ s=true)(w:World)(hp:Par w Q B v S (.ok s)) :
  Calls Tryz.prog 175 #[.pointer (some ⟨Q,0,none⟩)] w fun e w'=>(∃u,e=.returned u/\ValG w' (AZ w.heap.size) u (AD 29 [] 0 [] s.step))/\Par w' Q B v S (A7 (AD 29 [] 0 [] s.step))/\w.grownBy w' (some Q):=by
 have hRB:=hp.size
 have hqb:=hp.qb
 have HPA:Hid (Par (w.alloc AK) Q B v S (.ok s)):=hp.below ((Zg _ w).alloc (Z0 _) _)
 have HX:=ZB w
 have hI2:=GG (Q:=Q) (B:=B) (v:=v) (S:=S) (st:=.ok s) (k:=2) h2
 have hI1:=GG (Q:=Q) (B:=B) (v:=v) (S:=S) (st:=.ok s) (k:=1) h1
 have hB0:=D6 (Q:=Q) (B:=B) (v:=v) (S:=S) (st:=.ok s) (x:=⟨#[110,105,108]⟩) (l:=D8) (by decide) b0
 have hB1:=D6 (Q:=Q) (B:=B) (v:=v) (S:=S) (st:=.ok s) (x:=⟨#[115,101,108,102]⟩) (l:=Cu) (by decide) b1
 have hB2:=CX (Q:=Q) (B:=B) (v:=v) (S:=S) (s:=s) (x:=⟨#[103,97,116,101]⟩) (l:=DQ) (by decide) b2
 clear hp
 go_enter Tryz.func175,Tryz.ntmps175
 go_wp2_with (first
  | (go_at_call_of 133 (Value.int .i64 2);refine(hI2 _ HPA.out).mono ?_;rintro e w1 ⟨rfl,hb1⟩;have hp1:=Par.below HPA.out hb1;have hg1:(w.alloc AK).grownBy w1 (some Q):=(A0 Q hb1);clear hI2)
  | (go_at_call_of 133 (Value.int .i64 1);refine(hI1 _ hp1).mono ?_;rintro e w2 ⟨rfl,hb2⟩;have hp2:=Par.below hp1 hb2;have hg2:(w.alloc AK).grownBy w2 (some Q):=hg1.trans (A0 Q hb2);clear hI1)
  | (go_at_call_of 134 (Value.string ⟨#[110,105,108]⟩);refine(hB0 _ hp2).mono ?_;rintro e w3 ⟨rfl,hp3,hgx⟩;have hg3:=hg2.trans hgx;clear hB0)
  | (go_at_call_of 134 (Value.string ⟨#[115,101,108,102]⟩);refine(hB1 _ hp3).mono ?_;rintro e w4 ⟨rfl,hp4,hgx⟩;have hg4:=hg3.trans hgx;clear hB1)
  | (go_at_call_of 134 (Value.string ⟨#[103,97,116,101]⟩);refine(hB2 _ hp4).mono ?_;rintro e w5 ⟨rfl,hp5,hgx⟩;have hg5:=hg4.trans hgx;clear hB2)
  | (go_at_call 89;refine(At Q B v S _ _ _ _ ⟨_,_,_,rfl⟩ _ hp5).mono ?_;rintro e w8 ⟨rfl,hp8,hgx⟩;have hg8:=hg5.trans hgx;have hXe:=HX.out.grown hg8 (by omega);obtain⟨⟨q0,q1,q2,q3⟩,s0,s1,s2,s3⟩:=hXe.facts))
 have hgw:w.grownBy w8 (some Q):=(Zf w AK (some Q)).trans hg8
 refine bodyPost_ret (v:=.agg #[.int .i64 29,.string ⟨#[]⟩,.int .i64 0,.slice none 0 0]) (by simp[results,Tryz.results175,go_sem,q0,q1,q2,q3]) rfl ⟨⟨_,rfl,⟨.slice none 0 0,rfl,DF _ _ _⟩⟩,Ap hp8 hRB _ _ _ _,AG hgw (AX (Z0 _) _ _ _ _)⟩
theorem Sz(Q B:Nat)(v:Value)(S:Src9)(s:PS)(h2:isB S 2 s=false)(h1:isB S 1 s=false)(b0:A1 S D8 s=false)(b1:A1 S Cu s=false)(b2:A1 S DQ s=false)(b3:A1 S F2 s=true)(w:World)(hp:Par w Q B v S (.ok s)) :
  Calls Tryz.prog 175 #[.pointer (some ⟨Q,0,none⟩)] w fun e w'=>(∃u,e=.returned u/\ValG w' (AZ w.heap.size) u ((AW S s.step).then fun x s=>AD 30 x 0 [] s))/\Par w' Q B v S (A7 ((AW S s.step).then fun x s=>AD 30 x 0 [] s))/\w.grownBy w' (some Q):=by
 have hRB:=hp.size
 have hqb:=hp.qb
 have HPA:Hid (Par (w.alloc AK) Q B v S (.ok s)):=hp.below ((Zg _ w).alloc (Z0 _) _)
 have HX:=ZB w
 have hI2:=GG (Q:=Q) (B:=B) (v:=v) (S:=S) (st:=.ok s) (k:=2) h2
 have hI1:=GG (Q:=Q) (B:=B) (v:=v) (S:=S) (st:=.ok s) (k:=1) h1
 have hB0:=D6 (Q:=Q) (B:=B) (v:=v) (S:=S) (st:=.ok s) (x:=⟨#[110,105,108]⟩) (l:=D8) (by decide) b0
 have hB1:=D6 (Q:=Q) (B:=B) (v:=v) (S:=S) (st:=.ok s) (x:=⟨#[115,101,108,102]⟩) (l:=Cu) (by decide) b1
 have hB2:=D6 (Q:=Q) (B:=B) (v:=v) (S:=S) (st:=.ok s) (x:=⟨#[103,97,116,101]⟩) (l:=DQ) (by decide) b2
 have hB3:=CX (Q:=Q) (B:=B) (v:=v) (S:=S) (s:=s) (x:=⟨#[110,101,119]⟩) (l:=F2) (by decide) b3
 clear hp
 go_enter Tryz.func175,Tryz.ntmps175
 go_wp2_with (first
  | (go_at_call_of 133 (Value.int .i64 2);refine(hI2 _ HPA.out).mono ?_;rintro e w1 ⟨rfl,hb1⟩;have hp1:=Par.below HPA.out hb1;have hg1:(w.alloc AK).grownBy w1 (some Q):=(A0 Q hb1);clear hI2)
  | (go_at_call_of 133 (Value.int .i64 1);refine(hI1 _ hp1).mono ?_;rintro e w2 ⟨rfl,hb2⟩;have hp2:=Par.below hp1 hb2;have hg2:(w.alloc AK).grownBy w2 (some Q):=hg1.trans (A0 Q hb2);clear hI1)
  | (go_at_call_of 134 (Value.string ⟨#[110,105,108]⟩);refine(hB0 _ hp2).mono ?_;rintro e w3 ⟨rfl,hp3,hgx⟩;have hg3:=hg2.trans hgx;clear hB0)
  | (go_at_call_of 134 (Value.string ⟨#[115,101,108,102]⟩);refine(hB1 _ hp3).mono ?_;rintro e w4 ⟨rfl,hp4,hgx⟩;have hg4:=hg3.trans hgx;clear hB1)
  | (go_at_call_of 134 (Value.string ⟨#[103,97,116,101]⟩);refine(hB2 _ hp4).mono ?_;rintro e w5 ⟨rfl,hp5,hgx⟩;have hg5:=hg4.trans hgx;clear hB2)
  | (go_at_call_of 134 (Value.string ⟨#[110,101,119]⟩);refine(hB3 _ hp5).mono ?_;rintro e w6 ⟨rfl,hp6,hgx⟩;have hg6:=hg5.trans hgx;clear hB3)
  | (go_at_call 109;refine(FI Q B v S _ _ hp6).mono ?_;rintro e w7 ⟨⟨xv,rfl,htx⟩,hp7,hgx⟩;obtain⟨tx,hxv⟩:=DS htx;subst hxv;have hg7:=hg6.trans hgx)
  | (go_at_call 89;refine(At Q B v S _ _ _ _ ⟨_,_,_,rfl⟩ _ hp7).mono ?_;rintro e w8 ⟨rfl,hp8,hgx⟩;have hg8:=hg7.trans hgx;have hXe:=HX.out.grown hg8 (by omega);obtain⟨⟨q0,q1,q2,q3⟩,s0,s1,s2,s3⟩:=hXe.facts))
 have hgw:w.grownBy w8 (some Q):=(Zf w AK (some Q)).trans hg8
 refine bodyPost_ret (v:=.agg #[.int .i64 30,.string tx,.int .i64 0,.slice none 0 0]) (by simp[results,Tryz.results175,go_sem,q0,q1,q2,q3]) rfl ⟨⟨_,rfl,P9 htx⟩,by rw[Qs];exact Ap hp8 hRB _ _ _ _,AG hgw (AX (Z0 _) _ _ _ _)⟩
theorem T0{w:World}{M:Nat->Prop}{u:Value}{S:Src9}{g:Got Nd}(h:ValG w M u g):ValG w M u (g.then fun n s=>(A3 S AC s).then fun _ s=>.ok (n,s)):=by
 match g,h with
 | .ok (n,s),h=>
  show ValG w M u ((A3 S AC s).then fun _ s=>.ok (n,s))
  cases hw:A3 S AC s with
  | ok x=>exact h
  | error e=>exact NodeV.any h
 | .error e,h=>exact h
theorem UV{S:Src9}{g:Got Nd}:A7 (g.then fun n s=>(A3 S AC s).then fun _ s=>.ok (n,s))=A7 (AA (A7 g) (A3 S AC)):=by
 match g with
 | .ok (n,s)=>
  show A7 ((A3 S AC s).then fun _ s=>.ok (n,s))=A7 (A3 S AC s)
  cases hw:A3 S AC s with
  | ok x=>rfl
  | error e=>rfl
 | .error e=>rfl
theorem Bf{Q B:Nat}{v:Value}{S:Src9}{x:ByteArray}{l:List Int}(e:A2 x=l)(st:St9):∀w',Par w' Q B v S st->Calls Tryz.prog 87 #[.pointer (some ⟨Q,0,none⟩),.string x] w' fun e w''=>e=.returned (.tuple #[])/\Par w'' Q B v S (A7 (AA st (A3 S l)))/\w'.grownBy w'' (some Q):=fun w' h'=>by
 have:=U6 Q B v S st x w' h'
 rw[e]at this
 exact this
theorem MV(Q B:Nat)(v:Value)(S:Src9)(st:St9)(h2:isS S 2 st=false)(h1:isS S 1 st=false)(b0:Aa S D8 st=false)(b1:Aa S Cu st=false)(b2:Aa S DQ st=false)(b3:Aa S F2 st=false)(hx:∀s1,AA st (A3 S AE)=.ok ((),s1)->Ah 136 (AR S) Q B v S (.ok s1))(w:World)(hp:Par w Q B v S st) :
  Calls Tryz.prog 175 #[.pointer (some ⟨Q,0,none⟩)] w fun e w'=>(∃u,e=.returned u/\ValG w' (AZ w.heap.size) u ((AA st (A3 S AE)).then fun _ s=>(AR S s).then fun n s=>(A3 S AC s).then fun _ s=>.ok (n,s)))/\Par w' Q B v S (A7 ((AA st (A3 S AE)).then fun _ s=>(AR S s).then fun n s=>(A3 S AC s).then fun _ s=>.ok (n,s)))/\w.grownBy w' (some Q):=by
 have hRB:=hp.size
 have hqb:=hp.qb
 have HPA:Hid (Par (w.alloc AK) Q B v S st):=hp.below ((Zg _ w).alloc (Z0 _) _)
 have HX:=ZB w
 have hI2:=GG (Q:=Q) (B:=B) (v:=v) (S:=S) (st:=st) (k:=2) h2
 have hI1:=GG (Q:=Q) (B:=B) (v:=v) (S:=S) (st:=st) (k:=1) h1
 have hB0:=D6 (Q:=Q) (B:=B) (v:=v) (S:=S) (st:=st) (x:=⟨#[110,105,108]⟩) (l:=D8) (by decide) b0
 have hB1:=D6 (Q:=Q) (B:=B) (v:=v) (S:=S) (st:=st) (x:=⟨#[115,101,108,102]⟩) (l:=Cu) (by decide) b1
 have hB2:=D6 (Q:=Q) (B:=B) (v:=v) (S:=S) (st:=st) (x:=⟨#[103,97,116,101]⟩) (l:=DQ) (by decide) b2
 have hB3:=D6 (Q:=Q) (B:=B) (v:=v) (S:=S) (st:=st) (x:=⟨#[110,101,119]⟩) (l:=F2) (by decide) b3
 have hW1:=Bf (Q:=Q) (B:=B) (v:=v) (S:=S) (x:=⟨#[40]⟩) (l:=AE) (by decide) st
 have hW2:=fun st'=>Bf (Q:=Q) (B:=B) (v:=v) (S:=S) (x:=⟨#[41]⟩) (l:=AC) (by decide) st'
 clear h2 h1 b0 b1 b2 b3
 cases hw:AA st (A3 S AE)with
 | error e0=>
  rw[hw]at hW1
  have hW1':∀w',Par w' Q B v S st->Calls Tryz.prog 87 #[.pointer (some ⟨Q,0,none⟩),.string ⟨#[40]⟩] w' fun e w''=>e=.returned (.tuple #[])/\Par w'' Q B v S (.error e0)/\w'.grownBy w'' (some Q):=hW1
  clear hp hx hw hW1 hW2
  go_enter Tryz.func175,Tryz.ntmps175
  go_wp2_with (first
   | (go_at_call_of 133 (Value.int .i64 2);refine(hI2 _ HPA.out).mono ?_;rintro e w1 ⟨rfl,hb1⟩;have hp1:=Par.below HPA.out hb1;have hg1:(w.alloc AK).grownBy w1 (some Q):=(A0 Q hb1);clear hI2)
   | (go_at_call_of 133 (Value.int .i64 1);refine(hI1 _ hp1).mono ?_;rintro e w2 ⟨rfl,hb2⟩;have hp2:=Par.below hp1 hb2;have hg2:(w.alloc AK).grownBy w2 (some Q):=hg1.trans (A0 Q hb2);clear hI1)
   | (go_at_call_of 134 (Value.string ⟨#[110,105,108]⟩);refine(hB0 _ hp2).mono ?_;rintro e w3 ⟨rfl,hp3,hgx⟩;have hg3:=hg2.trans hgx;clear hB0)
   | (go_at_call_of 134 (Value.string ⟨#[115,101,108,102]⟩);refine(hB1 _ hp3).mono ?_;rintro e w4 ⟨rfl,hp4,hgx⟩;have hg4:=hg3.trans hgx;clear hB1)
   | (go_at_call_of 134 (Value.string ⟨#[103,97,116,101]⟩);refine(hB2 _ hp4).mono ?_;rintro e w5 ⟨rfl,hp5,hgx⟩;have hg5:=hg4.trans hgx;clear hB2)
   | (go_at_call_of 134 (Value.string ⟨#[110,101,119]⟩);refine(hB3 _ hp5).mono ?_;rintro e w6 ⟨rfl,hp6,hgx⟩;have hg6:=hg5.trans hgx;clear hB3)
   | (go_at_call 87;refine(hW1' _ hp6).mono ?_;rintro e w7 ⟨rfl,hp7,hgx⟩;have hg7:=hg6.trans hgx;have hXe:=HX.out.grown hg7 (by omega);obtain⟨⟨q0,q1,q2,q3⟩,s0,s1,s2,s3⟩:=hXe.facts;obtain⟨tk,dp,mn,fc,fa,ho,hf⟩:=hp7.obj;obtain⟨ec,ea⟩:=e0;obtain⟨rfl,rfl,hfc⟩:=hf;obtain⟨k0,k1,k2,k3,k4,k5,k6⟩:=ho.cells))
  have hgw:w.grownBy w7 (some Q):=(Zf w AK (some Q)).trans hg7
  exact bodyPost_ret (v:=.agg #[.int .i64 0,.string ⟨#[]⟩,.int .i64 0,.slice none 0 0]) (by simp[results,Tryz.results175,go_sem,q0,q1,q2,q3]) rfl ⟨⟨_,rfl,⟨_,_,_,_,_,_,rfl⟩⟩,Ap hp7 hRB _ _ _ _,AG hgw (AX (Z0 _) _ _ _ _)⟩
 | ok x=>
  obtain⟨⟨⟩,s1⟩:=x
  rw[hw]at hW1
  have hW1':∀w',Par w' Q B v S st->Calls Tryz.prog 87 #[.pointer (some ⟨Q,0,none⟩),.string ⟨#[40]⟩] w' fun e w''=>e=.returned (.tuple #[])/\Par w'' Q B v S (.ok s1)/\w'.grownBy w'' (some Q):=hW1
  have hxx:=hx s1 hw
  unfold Ah at hxx
  rw[bindS_ok]at hxx
  rw[then_ok]
  rw[UV]
  clear hp hx hw hW1
  generalize AR S s1=gk at *
  have hW2':=hW2 (A7 gk)
  clear hW2
  go_enter Tryz.func175,Tryz.ntmps175
  go_wp2_with (first
   | (go_at_call_of 133 (Value.int .i64 2);refine(hI2 _ HPA.out).mono ?_;rintro e w1 ⟨rfl,hb1⟩;have hp1:=Par.below HPA.out hb1;have hg1:(w.alloc AK).grownBy w1 (some Q):=(A0 Q hb1);clear hI2)
   | (go_at_call_of 133 (Value.int .i64 1);refine(hI1 _ hp1).mono ?_;rintro e w2 ⟨rfl,hb2⟩;have hp2:=Par.below hp1 hb2;have hg2:(w.alloc AK).grownBy w2 (some Q):=hg1.trans (A0 Q hb2);clear hI1)
   | (go_at_call_of 134 (Value.string ⟨#[110,105,108]⟩);refine(hB0 _ hp2).mono ?_;rintro e w3 ⟨rfl,hp3,hgx⟩;have hg3:=hg2.trans hgx;clear hB0)
   | (go_at_call_of 134 (Value.string ⟨#[115,101,108,102]⟩);refine(hB1 _ hp3).mono ?_;rintro e w4 ⟨rfl,hp4,hgx⟩;have hg4:=hg3.trans hgx;clear hB1)
   | (go_at_call_of 134 (Value.string ⟨#[103,97,116,101]⟩);refine(hB2 _ hp4).mono ?_;rintro e w5 ⟨rfl,hp5,hgx⟩;have hg5:=hg4.trans hgx;clear hB2)
   | (go_at_call_of 134 (Value.string ⟨#[110,101,119]⟩);refine(hB3 _ hp5).mono ?_;rintro e w6 ⟨rfl,hp6,hgx⟩;have hg6:=hg5.trans hgx;clear hB3)
   | (go_at_call_of 87 (Value.string ⟨#[40]⟩);refine(hW1' _ hp6).mono ?_;rintro e w7 ⟨rfl,hp7,hgx⟩;have hg7:=hg6.trans hgx;obtain⟨mn,ho,_,_,_,_⟩:=hp7.ok;obtain⟨k0,k1,k2,k3,k4,k5,k6⟩:=ho.cells)
   | (go_at_call 136;refine(hxx _ hp7).mono ?_;rintro e w8 ⟨⟨u,rfl,hv⟩,hp8,hgy⟩;obtain⟨a,b,c,ad,n,cc,hu'⟩:=hv.any;subst hu';have hg8:=hg7.trans hgy;have hp8a:=hp8.below ((Zg _ _).alloc (Z0 _) (.cells #[.int .i64 a,.string b,.int .i64 c,.slice ad n cc] 24)))
   | (go_at_call_of 87 (Value.string ⟨#[41]⟩);refine(hW2' _ hp8a).mono ?_;rintro e w9 ⟨rfl,hp9,hgz⟩;have hsz:w.heap.size<w8.heap.size:=(by have:=hg8.size;simp at this;omega);obtain⟨⟨p0,p1,p2,p3⟩,_⟩:=((Box4.new w8 (.int .i64 a) (.string b) (.int .i64 c) (.slice ad n cc)).grown hgz (by omega)).facts;have hXe:=((HX.out.grown hg8 (by omega)).alloc (.cells #[.int .i64 a,.string b,.int .i64 c,.slice ad n cc] 24)).grown hgz (by omega);obtain⟨⟨q0,q1,q2,q3⟩,s0,s1',s2,s3⟩:=hXe.facts))
  have hgw:w.grownBy w9 (some Q):=(((Zf w AK (some Q)).trans hg8).trans (Zf _ _ _)).trans hgz
  have sz7:w.heap.size<w7.heap.size:=by have:=hg7.size;simp at this;omega
  refine bodyPost_ret (v:=.agg #[.int .i64 a,.string b,.int .i64 c,.slice ad n cc]) (by simp[results,Tryz.results175,go_sem,q0,q1,q2,q3]) rfl ⟨⟨_,rfl,?_⟩,Ap hp9 hRB _ _ _ _,AG hgw (AX (Z0 _) _ _ _ _)⟩
  refine((((T0 hv).above (Zh (Zf _ _ none) (fun k e=>by cases e))).above (Zh hgz (fun k e=>by injection e with e;show ¬w7.heap.size<=k;omega))).above (Af (R:=w.heap.size) (by show ¬w7.heap.size<=w.heap.size;omega) _ _ _ _)).mono (fun k hk _=>by have hk':w7.heap.size<=k:=hk;show w.heap.size<=k;omega)
theorem RP(Q B:Nat)(v:Value)(S:Src9)(st:St9)(hnf:Au S)(hx:∀s1:PS,F8 st<=s1.tok->s1.tok<=S.L.length->Ah 136 (AR S) Q B v S (.ok s1)):Ah 175 (DB S) Q B v S st:=by
 intro w hp
 match st,hx,hp with
 | .error e,hx,hp=>exact MV Q B v S (.error e) rfl rfl rfl rfl rfl rfl (fun s1 h=>by cases h) w hp
 | .ok s,hx,hp=>
  rw[bindS_ok,Ft]
  by_cases h2:isB S 2 s=true
  ·rw[if_pos h2]
   exact UU Q B v S s hnf h2 w hp
  have h2':isB S 2 s=false:=by simpa using h2
  rw[if_neg h2]
  by_cases h1:isB S 1 s=true
  ·rw[if_pos h1]
   exact Sx Q B v S s h2' h1 w hp
  have h1':isB S 1 s=false:=by simpa using h1
  rw[if_neg h1]
  by_cases b0:A1 S D8 s=true
  ·rw[if_pos b0]
   exact Sy Q B v S s h2' h1' b0 w hp
  have b0':A1 S D8 s=false:=by simpa using b0
  rw[if_neg b0]
  by_cases b1:A1 S Cu s=true
  ·rw[if_pos b1]
   exact RN Q B v S s h2' h1' b0' b1 w hp
  have b1':A1 S Cu s=false:=by simpa using b1
  rw[if_neg b1]
  by_cases b2:A1 S DQ s=true
  ·rw[if_pos b2]
   exact RO Q B v S s h2' h1' b0' b1' b2 w hp
  have b2':A1 S DQ s=false:=by simpa using b2
  rw[if_neg b2]
  by_cases b3:A1 S F2 s=true
  ·rw[if_pos b3]
   exact Sz Q B v S s h2' h1' b0' b1' b2' b3 w hp
  have b3':A1 S F2 s=false:=by simpa using b3
  rw[if_neg b3]
  exact MV Q B v S (.ok s) h2' h1' b0' b1' b2' b3' (fun s1 h=>by
   have hf:=(Ag S AE s).at h
   exact hx s1 hf.1 hf.2) w hp
end Go.Proofs.YtibeadcfgcfdbaaGreatDoor
