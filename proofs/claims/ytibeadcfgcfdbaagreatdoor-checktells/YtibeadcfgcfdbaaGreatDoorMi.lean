/- Texts in one. -/
import Derived.Test.YtibeadcfgcfdbaaGreatDoorMh
import Derived.Deep.CutBlock
set_option maxHeartbeats 16000000
set_option maxRecDepth 20000
namespace Go.Proofs.YtibeadcfgcfdbaaGreatDoor
open Go.RowKit
def Jo(GA:Got (List Nd))(gB:Got Nd):Got (List Nd):=GA.then fun ks _=>gB.then fun b s=>.ok (ks++[b],s)
theorem Lo{GA:Got (List Nd)}{gB:Got Nd}:∀ks' s',Jo GA gB=.ok (ks',s')->∃ks s k s2,GA=.ok (ks,s)/\gB=.ok (k,s2)/\ks'=ks++[k]:=fun ks' s' e=>by
 unfold Jo at e
 match GA,gB,e with
 | .ok (ks,s),.ok (b,s2),e=>cases e;exact⟨ks,s,b,_,rfl,rfl,rfl⟩
theorem T9(S:Src9)(st:St9):Jl 1 ⟨#[]⟩ (Jo (AA st (Bt S)) (AA (A7 (AA (A7 (AA st (Bt S))) (A3 S Ds))) (AP S))) (AA st (F0 S))/\A7 (AA st (F0 S))=Cz (A7 (AA (A7 (AA (A7 (AA st (Bt S))) (A3 S Ds))) (AP S))):=by
 match st with
 | .error e=>exact⟨Or.inl ⟨e,rfl⟩,rfl⟩
 | .ok s=>
  unfold F0 Jo
  simp only[bindS_ok]
  cases Bt S s with
  | error e=>exact⟨Or.inl ⟨e,rfl⟩,rfl⟩
  | ok y=>
   obtain⟨ks,s1⟩:=y
   simp only[then_ok,stOf_ok,bindS_ok]
   cases A3 S Ds s1 with
   | error e=>exact⟨Or.inl ⟨e,rfl⟩,rfl⟩
   | ok z=>
    obtain⟨⟨⟩,s2⟩:=z
    simp only[then_ok,stOf_ok,bindS_ok]
    cases AP S s2 with
    | error e=>exact⟨Or.inl ⟨e,rfl⟩,rfl⟩
    | ok u=>obtain⟨b,s3⟩:=u;exact⟨Or.inr ⟨_,_,_,[],rfl,rfl,rfl⟩,rfl⟩
theorem PL{S:Src9}{GA:Got (List Nd)}{acc:List Nd}{s:PS}{lo i:Nat}(h:LoopK S (Bt S) GA (.ok (acc,s)) lo i)(hs:A1 S ER s=true):LoopK S (Bt S) GA ((D9 S s.step).then fun k s=>.ok (acc++[k],s)) lo (i+1):=by
 obtain⟨h1,h2,h3⟩:=h.place acc s rfl
 refine⟨?_,fun ks s' e=>?_⟩
 ·rw[h.eq,then_ok,Jc S s,if_pos hs]
  cases D9 S s.step with
  | error e=>rfl
  | ok y=>
   obtain⟨k,s'⟩:=y
   rw[then_ok,then_ok,then_ok]
   cases Bt S s' with
   | error e=>rfl
   | ok z=>
    obtain⟨ks,s2⟩:=z
    simp
 ·cases hx:D9 S s.step with
  | error e'=>rw[hx]at e;cases e
  | ok y=>
   obtain⟨k,s2⟩:=y
   rw[hx]at e
   have:=Jb hx
   have e4:s.step.tok=s.tok+1:=rfl
   cases e
   omega
theorem Q5{S:Src9}{GA:Got (List Nd)}{acc:List Nd}{s:PS}{lo i:Nat}(h:LoopK S (Bt S) GA (.ok (acc,s)) lo i)(hs:A1 S ER s=false):GA=.ok (acc,s):=by
 rw[h.eq,then_ok,Jc S s,if_neg (by rw[hs];decide),then_ok,List.append_nil]
theorem Ra(Q B:Nat)(v:Value)(S:Src9)(hnf:Au S)(st:St9)(hst:∀s,st=.ok s->s.tok<=S.L.length)(h1:∀s:PS,Ah 86 (D9 S) Q B v S (.ok s)):Ah 52 (F0 S) Q B v S st:=by
 intro w hp
 have hRB:=hp.size
 have hqb:=hp.qb
 have hfew:=hp.few
 obtain⟨vad,vc,hv0,_⟩:=hp.toks
 subst hv0
 have HO:Hid (_/\_):=T9 S st
 obtain⟨GA,HGA⟩:∃GA,Hid (GA=AA st (Bt S)):=⟨_,rfl⟩
 rw[<-HGA.out]at HO
 have hW2:=Bf (Q:=Q) (B:=B) (v:=(.slice vad S.L.length vc)) (S:=S) (x:=⟨#[109,97,105,110]⟩) (l:=Ds) (by decide) (A7 GA)
 have hbb:=MX Q B (.slice vad S.L.length vc) S hnf (A7 (AA (A7 GA) (A3 S Ds)))
 unfold Ah at hbb
 generalize AA (A7 (AA (A7 GA) (A3 S Ds))) (AP S)=gB at *
 generalize A7 (AA (A7 GA) (A3 S Ds))=st3 at *
 generalize AA st (F0 S)=G at *
 have hse:=fun st' w' (h':Par w' Q B (.slice vad S.L.length vc) S st')=>DG Q B _ S st' ⟨#[99,108,97,115,115]⟩ w' h'
 rw[show A2 ⟨#[99,108,97,115,115]⟩=ER by decide]at hse
 have H1:Hid (∀s:PS,Ah 86 (D9 S) Q B (.slice vad S.L.length vc) S (.ok s)):=h1
 obtain⟨GK0,HK0,HG0⟩:∃GK0:Got (List Nd),Hid (A7 GK0=st/\(∀ks s,GK0=.ok (ks,s)->ks=[]))/\Hid (LoopK S (Bt S) GA GK0 0 0):=by
  match st,hst,HGA with
  | .error e,_,HGA=>exact⟨.error e,⟨rfl,fun ks s e=>by cases e⟩,⟨HGA.out,fun ks s e=>by cases e⟩⟩
  | .ok s,hst,HGA=>exact⟨.ok ([],s),⟨rfl,fun ks s e=>by cases e;rfl⟩,⟨by rw[HGA.out,bindS_ok,then_ok];cases Bt S s with | error e=>rfl | ok y=>rfl,fun ks s' e=>by cases e;have:=hst s rfl;omega⟩⟩
 have HP0:Hid (Par (w.alloc AK) Q B (.slice vad S.L.length vc) S (A7 GK0)):=by show Par _ _ _ _ _ _;rw[HK0.out.1];exact hp.below ((Zg _ w).alloc (Z0 _) _)
 have HR0:Hid (Box4 (w.alloc AK) w.heap.size (.int .i64 0) (.string ⟨#[]⟩) (.int .i64 0) (.slice none 0 0)):=Box4.new _ _ _ _ _
 have HL0:Hid (w.grownBy (w.alloc AK) (some Q)):=Zf w AK (some Q)
 have HN0:Hid (Kin (w.alloc AK) (w.heap.size+1) (.slice none 0 0) 0 GK0):=Kin.nil _ _ HK0.out.2
 clear h1 hp HGA hst
 go_enter Tryz.func52,Tryz.ntmps52
 go_wp2_with fail
 go_loopw [3,4] (fun s3 s4 wr=>∃(i n:Nat) (GK:Got (List Nd)),s4=.int .i64 i/\i<=4001/\n<=i/\Hid (Par wr Q B (.slice vad S.L.length vc) S (A7 GK))/\Hid (Box4 wr w.heap.size (.int .i64 0) (.string ⟨#[]⟩) (.int .i64 0) (.slice none 0 0))/\Hid (w.grownBy wr (some Q))/\Hid (Kin wr (w.heap.size+1) s3 n GK)/\Hid (LoopK S (Bt S) GA GK 0 i)) (fun _ s4 _=>4002-(intOf s4).toNat)
 case atStart=>exact⟨0,0,GK0,rfl,by omega,by omega,HP0,HR0,HL0,HN0,HG0⟩
 case round=>
  clear HP0 HR0 HL0 HN0 HG0 HK0
  obtain⟨i,n,GK,rfl,hi,hn,HPF,HRF,HGF,HKF,HL⟩:=hrel
  obtain⟨ad3,m3,c3,hs3⟩:=HKF.out.slice
  subst hs3
  obtain⟨tok,deep,many,fc,fa,ho,hf⟩:=HPF.out.obj
  obtain⟨k0,_,_,_,_,_,_⟩:=ho.cells
  clear ho hf
  have hse0:=hse (A7 GK)
  clear hse
  cases hs:Aa S ER (A7 GK)with
  | false=>
   rw[hs]at hse0
   have hGA:GA=GK:=by
    match GK,HL,hs with
    | .error e,HL,_=>exact HL.out.eq
    | .ok (acc,s),HL,hs=>exact Q5 HL.out hs
   subst hGA
   clear hs HL
   by_cases hil:(i:Int)<=(S.L.length:Int)
   ·have HPG:=HPF
    have HRG:=HRF
    have HGG:=HGF
    have HKG:=HKF
    clear HPF HRF HGF HKF
    go_wp2_with (first
     | (go_at_call 85;refine(hse0 _ HPG.out).mono ?_;rintro e w2 ⟨rfl,hb2⟩;have HPF:Hid (Par w2 Q B (.slice vad S.L.length vc) S (A7 GA)):=(HPG.out.below hb2);have HRF:Hid (Box4 w2 w.heap.size (.int .i64 0) (.string ⟨#[]⟩) (.int .i64 0) (.slice none 0 0)):=(HRG.out.grown (A0 Q hb2) (by omega));have HGF:Hid (w.grownBy w2 (some Q)):=(HGG.out.trans (A0 Q hb2));have HKF:Hid (Kin w2 (w.heap.size+1) (.slice ad3 m3 c3) n GA):=(HKG.out.below hb2 (by omega)))
     | (go_at_call 87;refine(hW2 _ HPF.out).mono ?_;rintro e wA ⟨rfl,hpA,hgA⟩)
     | (go_at_call 88;refine(hbb _ hpA).mono ?_;rintro e w6 ⟨⟨u,rfl,hv⟩,hp6,hgL⟩;have hg6:=hgA.trans hgL;obtain⟨a',b',c',ad',n',cc',hu'⟩:=hv.any;subst hu';have hlt2:∀k,Value.ownBlock (.slice ad3 m3 c3)=some k->w.heap.size+1<=k/\k<w2.heap.size:=(by obtain⟨_,O2,_⟩:=HKF.out;exact O2.lt);obtain⟨xs,O6,hk6⟩:=HKF.out.grown hg6 (by omega);have hszA:=hgA.size;have hsz6:=hg6.size;have hszR:=HRF.out.lt)
     | (at_builtin;refine AO CC rfl (.tmp 38) (.tmp 40) rfl (w.heap.size+1) n 1 (.slice ad3 m3 c3) xs [.int .i64 a',.string b',.int .i64 c',.slice ad' n' cc'] rfl ((O6.alloc (.cells #[.int .i64 a',.string b',.int .i64 c',.slice ad' n' cc'] 24)).alloc (.cells #[.int .i64 a',.string b',.int .i64 c',.slice ad' n' cc'] 24)) ⟨w6.heap.size+1,0,none⟩ rfl rfl (DH _ _ _ _ _ _ _) (CL _ _ _ _ _ _) (by omega) (by simp;omega) ?_;intro g' cap' w7 O7 hg7 hor7;have hb7:Below (w.heap.size+1) w6 w7:=(BQ w6 (.cells #[.int .i64 a',.string b',.int .i64 c',.slice ad' n' cc'] 24) (.cells #[.int .i64 a',.string b',.int .i64 c',.slice ad' n' cc'] 24) (by omega)).grown hg7 (by simp;omega) (fun k e=>(hlt2 k e).1);have hp7:=hp6.apart (hb7.mono (by omega));have hX7:Box4 w7 w.heap.size (.int .i64 0) (.string ⟨#[]⟩) (.int .i64 0) (.slice none 0 0):=(hb7.block w.heap.size (by omega)).trans (HRF.out.grown hg6 (by omega)))
     | (go_at_call 89;refine(At Q B _ S _ _ _ _ ⟨_,_,_,rfl⟩ _ hp7).mono ?_;rintro e wN ⟨rfl,hpN,hgN⟩;obtain⟨⟨x0,x1,x2,x3⟩,f0,f1,f2,f3⟩:=(hX7.grown hgN (by omega)).facts))
    have hK7:=Kin.more (GK':=Jo GA gB) hk6 hv (by omega) (fun k e=>by have:=(hlt2 k e).2;omega) O7 hg7 hor7 Lo
    have hgw:w.grownBy wN (some Q):=(AG (HGF.out.trans hg6) (hb7.mono (by omega))).trans hgN
    refine bodyPost_ret (v:=.agg #[.int .i64 1,.string ⟨#[]⟩,.int .i64 0,sl g' (n+1) cap']) (by simp[results,Tryz.results52,go_sem,x0,x1,x2,x3]) rfl ⟨⟨_,rfl,?_⟩,by rw[HO.out.2];exact Ap hpN hRB _ _ _ _,AG hgw (AX (Z0 _) _ _ _ _)⟩
    exact(GL HO.out.1 hK7 ((Zh hgN (fun k e=>by injection e with e;show ¬w.heap.size+1<=k;omega)).trans (Af (R:=w.heap.size) (by show ¬w.heap.size+1<=w.heap.size;omega) _ _ _ _))).mono (fun k hk _=>by have hk':w.heap.size+1<=k:=hk;show w.heap.size<=k;omega)
   ·go_wp2_with (first
     | (go_at_call 87;refine(hW2 _ HPF.out).mono ?_;rintro e wA ⟨rfl,hpA,hgA⟩)
     | (go_at_call 88;refine(hbb _ hpA).mono ?_;rintro e w6 ⟨⟨u,rfl,hv⟩,hp6,hgL⟩;have hg6:=hgA.trans hgL;obtain⟨a',b',c',ad',n',cc',hu'⟩:=hv.any;subst hu';have hlt2:∀k,Value.ownBlock (.slice ad3 m3 c3)=some k->w.heap.size+1<=k/\k<wr.heap.size:=(by obtain⟨_,O2,_⟩:=HKF.out;exact O2.lt);obtain⟨xs,O6,hk6⟩:=HKF.out.grown hg6 (by omega);have hszA:=hgA.size;have hsz6:=hg6.size;have hszR:=HRF.out.lt)
     | (at_builtin;refine AO CC rfl (.tmp 38) (.tmp 40) rfl (w.heap.size+1) n 1 (.slice ad3 m3 c3) xs [.int .i64 a',.string b',.int .i64 c',.slice ad' n' cc'] rfl ((O6.alloc (.cells #[.int .i64 a',.string b',.int .i64 c',.slice ad' n' cc'] 24)).alloc (.cells #[.int .i64 a',.string b',.int .i64 c',.slice ad' n' cc'] 24)) ⟨w6.heap.size+1,0,none⟩ rfl rfl (DH _ _ _ _ _ _ _) (CL _ _ _ _ _ _) (by omega) (by simp;omega) ?_;intro g' cap' w7 O7 hg7 hor7;have hb7:Below (w.heap.size+1) w6 w7:=(BQ w6 (.cells #[.int .i64 a',.string b',.int .i64 c',.slice ad' n' cc'] 24) (.cells #[.int .i64 a',.string b',.int .i64 c',.slice ad' n' cc'] 24) (by omega)).grown hg7 (by simp;omega) (fun k e=>(hlt2 k e).1);have hp7:=hp6.apart (hb7.mono (by omega));have hX7:Box4 w7 w.heap.size (.int .i64 0) (.string ⟨#[]⟩) (.int .i64 0) (.slice none 0 0):=(hb7.block w.heap.size (by omega)).trans (HRF.out.grown hg6 (by omega)))
     | (go_at_call 89;refine(At Q B _ S _ _ _ _ ⟨_,_,_,rfl⟩ _ hp7).mono ?_;rintro e wN ⟨rfl,hpN,hgN⟩;obtain⟨⟨x0,x1,x2,x3⟩,f0,f1,f2,f3⟩:=(hX7.grown hgN (by omega)).facts))
    have hK7:=Kin.more (GK':=Jo GA gB) hk6 hv (by omega) (fun k e=>by have:=(hlt2 k e).2;omega) O7 hg7 hor7 Lo
    have hgw:w.grownBy wN (some Q):=(AG (HGF.out.trans hg6) (hb7.mono (by omega))).trans hgN
    refine bodyPost_ret (v:=.agg #[.int .i64 1,.string ⟨#[]⟩,.int .i64 0,sl g' (n+1) cap']) (by simp[results,Tryz.results52,go_sem,x0,x1,x2,x3]) rfl ⟨⟨_,rfl,?_⟩,by rw[HO.out.2];exact Ap hpN hRB _ _ _ _,AG hgw (AX (Z0 _) _ _ _ _)⟩
    exact(GL HO.out.1 hK7 ((Zh hgN (fun k e=>by injection e with e;show ¬w.heap.size+1<=k;omega)).trans (Af (R:=w.heap.size) (by show ¬w.heap.size+1<=w.heap.size;omega) _ _ _ _))).mono (fun k hk _=>by have hk':w.heap.size+1<=k:=hk;show w.heap.size<=k;omega)
  | true=>
   match GK,HPF,HKF,HL,hs,hse0 with
   | .ok (acc,s),HPF,HKF,HL,hs,hse0=>
    rw[hs]at hse0
    have hs':A1 S ER s=true:=hs
    have hse1:∀w',Par w' Q B (.slice vad S.L.length vc) S (.ok s)->Calls Tryz.prog 85 #[.pointer (some ⟨Q,0,none⟩),.string ⟨#[99,108,97,115,115]⟩] w' fun e w''=>e=.returned (.bool true)/\Below w'.heap.size w' w'':=hse0
    have HLN:Hid (LoopK S (Bt S) GA ((D9 S s.step).then fun k s=>.ok (acc++[k],s)) 0 (i+1)):=PL HL.out hs'
    obtain⟨hi1,_,hle1⟩:=HL.out.place acc s rfl
    have ht:=AH hs'
    have hil:(i:Int)<=(S.L.length:Int):=by omega
    have hwi:=AN (x:=(i:Int)+1) (by omega) (by omega)
    have hwt:=AN (x:=(s.tok:Int)+1) (by omega) (by omega)
    have hst:=H1.out s.step
    unfold Ah at hst
    rw[bindS_ok]at hst
    have HPS:Hid (Par wr Q B (.slice vad S.L.length vc) S (.ok s)):=HPF
    clear hs hs' HL hse0 HPF
    generalize D9 S s.step=gE at *
    have hszr:=HRF.out.lt
    go_wp2_with (first
     | (go_at_call 85;refine(hse1 _ HPS.out).mono ?_;rintro e w2 ⟨rfl,hb2⟩;have hp2:=Par.below HPS.out hb2;have hsz2:=hb2.size;obtain⟨mn2,ho2,_,_,_,_⟩:=hp2.ok;obtain⟨_,_,v2,_,_,_,_⟩:=ho2.cells;have z2:=ho2.frozen 2;clear ho2)
     | (go_at_call 86;refine(hst _ (FL hp2 ht)).mono ?_;rintro e w6 ⟨⟨u,rfl,hvx⟩,hp6,hg6⟩;have hzz:(w2.setCell ⟨Q,2,none⟩ (.int .i64 ((s.tok:Int)+1))).heap.size=w2.heap.size:=(by simp[World.setCell]);have hv:ValG w6 (AZ w2.heap.size) u gE:=(by rw[<-hzz];exact hvx);clear hvx;obtain⟨a',b',c',ad',n',cc',hu'⟩:=hv.any;subst hu';have hK2:=(HKF.out.below hb2 (by omega)).grown (AJ w2 Q 2 (.int .i64 ((s.tok:Int)+1))) (by omega);have hlt2:∀k,Value.ownBlock (.slice ad3 m3 c3)=some k->w.heap.size+1<=k/\k<w2.heap.size:=(by obtain⟨_,O2,_⟩:=HKF.out.below hb2 (by omega);exact O2.lt);obtain⟨xs,O6,hk6⟩:=hK2.grown hg6 (by omega);have hsz6:w2.heap.size<=w6.heap.size:=(by have:=hg6.size;rw[hzz]at this;exact this);clear hzz)
     | (at_builtin;refine AO CC rfl (.tmp 30) (.tmp 32) rfl (w.heap.size+1) n 1 (.slice ad3 m3 c3) xs [.int .i64 a',.string b',.int .i64 c',.slice ad' n' cc'] rfl ((O6.alloc (.cells #[.int .i64 a',.string b',.int .i64 c',.slice ad' n' cc'] 24)).alloc (.cells #[.int .i64 a',.string b',.int .i64 c',.slice ad' n' cc'] 24)) ⟨w6.heap.size+1,0,none⟩ rfl rfl (DH _ _ _ _ _ _ _) (CL _ _ _ _ _ _) (by omega) (by simp;omega) ?_;intro g' cap' w7 O7 hg7 hor7))
    have hb7:Below (w.heap.size+1) w6 w7:=(BQ w6 (.cells #[.int .i64 a',.string b',.int .i64 c',.slice ad' n' cc'] 24) (.cells #[.int .i64 a',.string b',.int .i64 c',.slice ad' n' cc'] 24) (by omega)).grown hg7 (by simp;omega) (fun k e=>(hlt2 k e).1)
    have hK7:=Kin.more (GK':=gE.then fun k s=>.ok (acc++[k],s)) hk6 hv (by omega) (fun k e=>(hlt2 k e).2) O7 hg7 hor7 (fun ks' s' e=>by
     match gE,e with
     | .ok (k,s2),e=>cases e;exact⟨acc,s,k,_,rfl,rfl,rfl⟩)
    have hst7:A7 (gE.then fun k s=>(.ok (acc++[k],s):Got (List Nd)))=A7 gE:=by
     match gE with
     | .ok (k,s2)=>rfl
     | .error e=>rfl
    have hgS:=((A0 Q hb2).trans (AJ w2 Q 2 (.int .i64 ((s.tok:Int)+1)))).trans hg6
    refine⟨⟨i+1,n+1,gE.then fun k s=>.ok (acc++[k],s),by simp,by omega,by omega,by rw[hst7];exact hp6.apart (hb7.mono (by omega)),?_,?_,hK7,HLN⟩,by simp[intOf];omega⟩
    ·exact(hb7.block w.heap.size (by omega)).trans (HRF.out.grown hgS (by omega))
    ·exact AG (HGF.out.trans hgS) (hb7.mono (by omega))
theorem Kin.length{w:World}{BB n:Nat}{v:Value}{GK:Got (List Nd)}(h:Kin w BB v n GK):(∃ad c,v=.slice ad n c)/\∀ks s,GK=.ok (ks,s)->ks.length=n:=by
 obtain⟨xs,ho,hk⟩:=h
 refine⟨?_,fun ks s e=>?_⟩
 ·rcases ho.2 with⟨rfl,rfl⟩ | ⟨g,cap,cur,rfl,_⟩
  ·exact⟨_,_,rfl⟩
  ·exact⟨_,_,rfl⟩
 ·obtain⟨l,rfl,_,h3,_⟩:=hk ks s e
  simpa using h3
def VJ(g1:Got (List Int))(GA:Got (List Nd))(gB G:Got Nd):Prop:=(∃e,G=.error e)\/∃x s1 ks s2 b s3 s',g1=.ok (x,s1)/\GA=.ok (ks,s2)/\gB=.ok (b,s3)/\G=.ok (.mk 4 x (ks.length:Int) (ks++[b]),s')
theorem Ug{w w0:World}{BB n:Nat}{v v0:Value}{tx:ByteArray}{g1:Got (List Int)}{GA:Got (List Nd)}{gB G:Got Nd}(hG:VJ g1 GA gB G)(ht:FH (.string tx) g1)(h0:Kin w0 BB v0 n GA)(h:Kin w BB v (n+1) (Jo GA gB)):ValG w (AZ BB) (.agg #[.int .i64 4,.string tx,.int .i64 n,v]) G:=by
 obtain⟨ad,c,hv⟩:=h.length.1
 rcases hG with⟨e,rfl⟩ | ⟨x,s1,ks,s2,b,s3,s',rfl,rfl,rfl,rfl⟩
 ·subst hv;exact⟨_,_,_,_,_,_,rfl⟩
 ·have e:Value.string tx=.string (strOfNums x):=ht
  injection e with e
  subst e
  have hn:=h0.length.2 ks s2 rfl
  subst hn
  obtain⟨xs,ho,hk⟩:=h
  obtain⟨l,h1,rfl,h3,h4⟩:=hk (ks++[b]) s3 rfl
  refine⟨v,rfl,?_⟩
  show KidsV w (AZ BB) v (ks++[b])
  rw[<-h1]
  rw[<-h3]at ho
  exact KidsV.of_own ho (fun k e=>(ho.lt k e).1) (fun z hz=>(h4 z hz).mono (fun k hk _=>hk.1))
theorem TA(S:Src9)(st:St9):VJ (AA st (AW S)) (AA (A7 (AA (A7 (AA st (AW S))) (A3 S AE))) (Gg S)) (AA (A7 (AA (A7 (AA (A7 (AA (A7 (AA st (AW S))) (A3 S AE))) (Gg S))) (A3 S AC))) (AP S)) (AA st (D7 S))/\A7 (AA st (D7 S))=Cz (A7 (AA (A7 (AA (A7 (AA (A7 (AA (A7 (AA st (AW S))) (A3 S AE))) (Gg S))) (A3 S AC))) (AP S))):=by
 match st with
 | .error e=>exact⟨Or.inl ⟨e,rfl⟩,rfl⟩
 | .ok s=>
  unfold D7
  simp only[bindS_ok]
  cases AW S s with
  | error e=>exact⟨Or.inl ⟨e,rfl⟩,rfl⟩
  | ok y=>
   obtain⟨x,s1⟩:=y
   simp only[then_ok,stOf_ok,bindS_ok]
   cases A3 S AE s1 with
   | error e=>exact⟨Or.inl ⟨e,rfl⟩,rfl⟩
   | ok z=>
    obtain⟨⟨⟩,s2⟩:=z
    simp only[then_ok,stOf_ok,bindS_ok]
    cases Gg S s2 with
    | error e=>exact⟨Or.inl ⟨e,rfl⟩,rfl⟩
    | ok u=>
     obtain⟨ks,s3⟩:=u
     simp only[then_ok,stOf_ok,bindS_ok]
     cases A3 S AC s3 with
     | error e=>exact⟨Or.inl ⟨e,rfl⟩,rfl⟩
     | ok z=>
      obtain⟨⟨⟩,s4⟩:=z
      simp only[then_ok,stOf_ok,bindS_ok]
      cases AP S s4 with
      | error e=>exact⟨Or.inl ⟨e,rfl⟩,rfl⟩
      | ok u=>obtain⟨b,s5⟩:=u;exact⟨Or.inr ⟨x,s1,ks,s3,b,s5,_,rfl,rfl,rfl,rfl⟩,rfl⟩
def OP(S:Src9)(GA GK:Got (List Nd))(isb:Bool)(i:Nat):Prop:=
 (GA=GK/\i=0/\((isb=true/\∃y,GK=.ok y)\/(isb=false/\∃e,GK=.error e)))\/(isb=false/\∃acc s,GK=.ok (acc,s)/\(GA=(EE S s).then fun ks s=>.ok (acc++ks,s))/\i<=s.tok/\s.tok<=S.L.length)
theorem Rb(S:Src9)(st2:St9)(hb:∀s,st2=.ok s->s.tok<=S.L.length):∃GK0:Got (List Nd),A7 GK0=st2/\(∀ks s,GK0=.ok (ks,s)->ks=[])/\OP S (AA st2 (Gg S)) GK0 (Aa S AC st2) 0:=by
 match st2,hb with
 | .error e,_=>exact⟨.error e,rfl,fun _ _ e=>(by cases e),Or.inl ⟨rfl,rfl,Or.inr ⟨rfl,e,rfl⟩⟩⟩
 | .ok s,hb=>
  refine⟨.ok ([],s),rfl,fun _ _ e=>(by cases e;rfl),?_⟩
  have hb':=hb s rfl
  rw[bindS_ok]
  unfold Gg
  cases hs:A1 S AC s with
  | true=>exact Or.inl ⟨rfl,rfl,Or.inl ⟨hs,_,rfl⟩⟩
  | false=>
   refine Or.inr ⟨hs,[],s,rfl,?_,Z3 _,hb'⟩
   rw[if_neg (by decide)]
   cases EE S s with
   | error e=>rfl
   | ok y=>rfl
def NA(S:Src9)(s:PS):Got Nd:=(AW S s).then fun x s=>AD 5 x 0 [] s
theorem Rc{S:Src9}{GA:Got (List Nd)}{acc:List Nd}{s:PS}(h:GA=(EE S s).then fun ks s=>.ok (acc++ks,s)) :
  (Aa S Al (A7 (NA S s))=false->GA=(NA S s).then fun k s=>.ok (acc++[k],s))/\(Aa S Al (A7 (NA S s))=true->∃k s3,NA S s=.ok (k,s3)/\A1 S Al s3=true/\s.tok+1<=s3.tok/\GA=(EE S s3.step).then fun ks s=>.ok ((acc++[k])++ks,s)):=by
 rw[Oi]at h
 unfold NA
 cases hn:AW S s with
 | error e=>
  rw[hn]at h
  exact⟨fun _=>h,fun e=>by cases e⟩
 | ok y=>
  obtain⟨x,s1⟩:=y
  rw[hn,then_ok]at h
  rw[then_ok]
  have h1:=((Ba S s).at hn).1
  refine⟨fun hs=>?_,fun hs=>⟨.mk 5 x 0 [],s1.node,rfl,hs,by rw[BF];omega,?_⟩⟩
  ·have hs':A1 S Al s1.node=false:=hs
   rw[h]
   show Got.then (if A1 S Al s1.node=true then _ else _) _=_
   rw[if_neg (by rw[hs'];decide)]
   rfl
  ·have hs':A1 S Al s1.node=true:=hs
   rw[h]
   show Got.then (if A1 S Al s1.node=true then _ else _) _=_
   rw[if_pos hs']
   cases EE S s1.node.step with
   | error e=>rfl
   | ok y=>show Except.ok _=Except.ok _;simp
structure RowL(w wx:World)(Q B:Nat)(v:Value)(S:Src9)(st:St9)(k:Value)(n:Nat)(GK:Got (List Nd)):Prop where
 par:Par wx Q B v S st
 box:Box4 wx w.heap.size (.int .i64 0) (.string ⟨#[]⟩) (.int .i64 0) (.slice none 0 0)
 gro:w.grownBy wx (some Q)
 kin:Kin wx (w.heap.size+1) k n GK
theorem RowL.lt{w wx:World}{Q B n:Nat}{v k:Value}{S:Src9}{st:St9}{GK:Got (List Nd)}(h:RowL w wx Q B v S st k n GK):∀j,k.ownBlock=some j->w.heap.size+1<=j/\j<wx.heap.size:=by
 obtain⟨_,O2,_⟩:=h.kin
 exact O2.lt
theorem RowL.grown{w wx wy:World}{Q B n:Nat}{v k:Value}{S:Src9}{st st':St9}{GK:Got (List Nd)}(h:RowL w wx Q B v S st k n GK)(hq:Q<w.heap.size)(hp:Par wy Q B v S st')(hg:wx.grownBy wy (some Q)):RowL w wy Q B v S st' k n GK:=
 ⟨hp,h.box.grown hg hq,h.gro.trans hg,h.kin.grown hg (by omega)⟩
theorem RowL.first{w wx:World}{Q B:Nat}{v:Value}{S:Src9}{st:St9}{GK:Got (List Nd)}(hp:Par wx Q B v S st)(hx:Box4 wx w.heap.size (.int .i64 0) (.string ⟨#[]⟩) (.int .i64 0) (.slice none 0 0))(hg:w.grownBy wx (some Q))(h:∀ks s,GK=.ok (ks,s)->ks=[]):RowL w wx Q B v S st (.slice none 0 0) 0 GK:=⟨hp,hx,hg,Kin.nil _ _ h⟩
theorem RowL.push{w wx:World}{Q B n C:Nat}{v k:Value}{S:Src9}{st:St9}{GK:Got (List Nd)}{gE:Got Nd}{a b c d:Value}(h:RowL w wx Q B v S st k n GK)(hB:B<=w.heap.size)(hv:ValG wx (AZ C) (.agg #[a,b,c,d]) gE)(hC:w.heap.size+1<=C)(hkC:∀j,k.ownBlock=some j->j<C) :
  ∃xs,wx.ownsRow (w.heap.size+1) 24 4 k n xs/\∀(o o':Obj) (g' cap':Nat) (wy:World),wy.ownsRow (w.heap.size+1) 24 4 (sl g' (n+1) cap') (n+1) (xs++[a,b,c,d])->((wx.alloc o).alloc o').grownBy wy k.ownBlock->(k.ownBlock=some g'\/g'=((wx.alloc o).alloc o').heap.size) ->
   ∀GK':Got (List Nd),(∀ks' s',GK'=.ok (ks',s')->∃ks s k s2,GK=.ok (ks,s)/\gE=.ok (k,s2)/\ks'=ks++[k])->RowL w wy Q B v S st (sl g' (n+1) cap') (n+1) GK'/\wx.heap.size<=wy.heap.size:=by
 have hlt:=h.lt
 have hx:=h.box.lt
 obtain⟨xs,O,hk⟩:=h.kin
 refine⟨xs,O,fun o o' g' cap' wy O' hg hor GK' hG=>?_⟩
 have hb:Below (w.heap.size+1) wx wy:=(BQ wx o o' (by omega)).grown hg (by simp;omega) (fun j e=>(hlt j e).1)
 exact⟨⟨h.par.apart (hb.mono (by omega)),(hb.block w.heap.size (by omega)).trans h.box,AG h.gro (hb.mono (by omega)),Kin.more hk hv hC hkC O' hg hor hG⟩,hb.size⟩
def Gl(kind:Int)(g:Got (List Int)):Got Nd:=g.then fun x s=>AD kind x 0 [] s
theorem Iu{w:World}{M:Nat->Prop}{kind:Int}{tx:ByteArray}{g:Got (List Int)}(h:FH (.string tx) g):ValG w M (.agg #[.int .i64 kind,.string tx,.int .i64 0,.slice none 0 0]) (Gl kind g):=by
 match g,h with
 | .error e,_=>exact⟨_,_,_,_,_,_,rfl⟩
 | .ok (x,s),h=>
  have e:Value.string tx=.string (strOfNums x):=h
  injection e with e
  subst e
  exact⟨_,rfl,none,0,rfl,fun h=>by cases h⟩
theorem Id{kind:Int}{g:Got (List Int)}:A7 (Gl kind g)=Cz (A7 g):=by
 match g with
 | .error e=>rfl
 | .ok (x,s)=>rfl
theorem Uh(S:Src9)(s:PS):NA S s=Gl 5 (AW S s):=rfl
def Jp(S:Src9)(l:List Int)(g:Got (List Int)):Got (List Int):=g.then fun x s=>(A3 S l s).then fun _ s=>.ok (x,s)
theorem Rd{S:Src9}{l:List Int}{tx:ByteArray}{g:Got (List Int)}(h:FH (.string tx) g):FH (.string tx) (Jp S l g):=by
 match g,h with
 | .error e,_=>exact⟨_,rfl⟩
 | .ok (x,s),h=>
  unfold Jp
  rw[then_ok]
  cases A3 S l s with
  | error e=>exact⟨_,rfl⟩
  | ok y=>exact h
theorem Ui{S:Src9}{l:List Int}{g:Got (List Int)}:A7 (Jp S l g)=A7 (AA (A7 g) (A3 S l)):=by
 match g with
 | .error e=>rfl
 | .ok (x,s)=>
  unfold Jp
  rw[then_ok,stOf_ok,bindS_ok]
  cases A3 S l s with
  | error e=>rfl
  | ok y=>rfl
def Ky(S:Src9)(s:PS):Got Nd:=Gl 3 (Jp S AQ (AW S s.step))
theorem PM(S:Src9)(s:PS):Cd S s=if A1 S FC s=true then(Ky S s).then fun k s=>(Cd S s).then fun ks s=>.ok (k::ks,s)else .ok ([],s):=by
 rw[Ok]
 split
 ·unfold Ky Gl Jp
  cases AW S s.step with
  | error e=>rfl
  | ok y=>
   obtain⟨x,s1⟩:=y
   rw[then_ok,then_ok]
   cases A3 S AQ s1 with
   | error e=>rfl
   | ok z=>rfl
 ·rfl
theorem Uj{S:Src9}{s s2:PS}{k:Nd}(e:Ky S s=.ok (k,s2)):s.tok+1<=s2.tok/\s2.tok<=S.L.length:=by
 unfold Ky Gl Jp at e
 cases hn:AW S s.step with
 | error e'=>rw[hn]at e;cases e
 | ok y=>
  obtain⟨x,s1⟩:=y
  rw[hn,then_ok]at e
  have h1:=(Ba S s.step).at hn
  rw[Ak]at h1
  cases hw:A3 S AQ s1 with
  | error e'=>rw[hw]at e;cases e
  | ok z=>
   obtain⟨⟨⟩,s3⟩:=z
   rw[hw]at e
   have h2:=(Ag S AQ s1).at hw
   cases e
   rw[BF]
   omega
def Hs(S:Src9)(GU:Got (List Nd)):Got (List Nd):=GU.then fun up s=>(A3 S Ao s).then fun _ s=>.ok (up,s)
def IE(X:PS->Got (List Nd))(GK:Got (List Nd)):Got (List Nd):=GK.then fun acc s=>(X s).then fun ks s=>.ok (acc++ks,s)
theorem Uk{S:Src9}{GU:Got (List Nd)}:A7 (Hs S GU)=A7 (AA (A7 GU) (A3 S Ao)):=by
 match GU with
 | .error e=>rfl
 | .ok (up,s)=>
  unfold Hs
  rw[then_ok,stOf_ok,bindS_ok]
  cases A3 S Ao s with
  | error e=>rfl
  | ok y=>rfl
theorem MY{S:Src9}{GU:Got (List Nd)}{ks:List Nd}{s:PS}(e:Hs S GU=.ok (ks,s)):∃s1,GU=.ok (ks,s1)/\s.tok<=S.L.length:=by
 match GU,e with
 | .ok (up,s1),e=>
  unfold Hs at e
  rw[then_ok]at e
  cases hw:A3 S Ao s1 with
  | error e'=>rw[hw]at e;cases e
  | ok y=>
   obtain⟨⟨⟩,s2⟩:=y
   rw[hw]at e
   have h2:=(Ag S Ao s1).at hw
   cases e
   exact⟨_,rfl,h2.2⟩
theorem Ul(S:Src9)(st:St9){tx:ByteArray}(ht:FH (.string tx) (AA st (AW S))) :
  Jl 2 tx (IE (C4 S) (IE (Cd S) (Hs S (AA (A7 (AA st (AW S))) (upC S))))) (AA st (D9 S))/\A7 (AA st (D9 S))=Cz (A7 (AA (A7 (IE (C4 S) (IE (Cd S) (Hs S (AA (A7 (AA st (AW S))) (upC S)))))) (A3 S Av))):=by
 match st,ht with
 | .error e,_=>exact⟨Or.inl ⟨_,rfl⟩,rfl⟩
 | .ok s,ht=>
  unfold D9
  simp only[bindS_ok]at ht⊢
  cases hn:AW S s with
  | error e=>exact⟨Or.inl ⟨_,rfl⟩,rfl⟩
  | ok y=>
   obtain⟨x,s1⟩:=y
   rw[hn]at ht
   have e:Value.string tx=.string (strOfNums x):=ht
   injection e with e
   simp only[then_ok,stOf_ok,bindS_ok]
   cases upC S s1 with
   | error e=>exact⟨Or.inl ⟨_,rfl⟩,rfl⟩
   | ok y=>
    obtain⟨up,s2⟩:=y
    unfold Hs
    simp only[then_ok]
    cases A3 S Ao s2 with
    | error e=>exact⟨Or.inl ⟨_,rfl⟩,rfl⟩
    | ok y=>
     obtain⟨⟨⟩,s3⟩:=y
     unfold IE
     simp only[then_ok]
     cases Cd S s3 with
     | error e=>exact⟨Or.inl ⟨_,rfl⟩,rfl⟩
     | ok y=>
      obtain⟨ks,s4⟩:=y
      simp only[then_ok]
      cases C4 S s4 with
      | error e=>exact⟨Or.inl ⟨_,rfl⟩,rfl⟩
      | ok y=>
       obtain⟨ms,s5⟩:=y
       simp only[then_ok,stOf_ok,bindS_ok]
       cases A3 S Av s5 with
       | error e=>exact⟨Or.inl ⟨_,rfl⟩,rfl⟩
       | ok y=>
        obtain⟨⟨⟩,s6⟩:=y
        exact⟨Or.inr ⟨_,_,_,x,rfl,e,rfl⟩,rfl⟩
theorem LoopK.start{S:Src9}{X:PS->Got (List Nd)}{GK:Got (List Nd)}(h:∀ks s,GK=.ok (ks,s)->s.tok<=S.L.length):LoopK S X (IE X GK) GK 0 0:=⟨rfl,fun ks s e=>by have:=h ks s e;omega⟩
theorem Nn{S:Src9}{X:PS->Got (List Nd)}{K:PS->Got Nd}{l:List Int}(hX:∀s,X s=if A1 S l s=true then(K s).then fun k s=>(X s).then fun ks s=>.ok (k::ks,s)else .ok ([],s))(hK:∀s k s2,K s=.ok (k,s2)->s.tok+1<=s2.tok/\s2.tok<=S.L.length){GA:Got (List Nd)}{acc:List Nd}{s:PS}{i:Nat}(h:LoopK S X GA (.ok (acc,s)) 0 i)(hs:A1 S l s=true):LoopK S X GA ((K s).then fun k s=>.ok (acc++[k],s)) 0 (i+1):=by
 obtain⟨h1,h2,h3⟩:=h.place acc s rfl
 refine⟨?_,fun ks s' e=>?_⟩
 ·rw[h.eq,then_ok,hX s,if_pos hs]
  cases K s with
  | error e=>rfl
  | ok y=>
   obtain⟨k,s'⟩:=y
   rw[then_ok,then_ok,then_ok]
   cases X s' with
   | error e=>rfl
   | ok z=>
    obtain⟨ks,s2⟩:=z
    simp
 ·cases hx:K s with
  | error e'=>rw[hx]at e;cases e
  | ok y=>
   obtain⟨k,s2⟩:=y
   rw[hx]at e
   have:=hK s k s2 hx
   cases e
   omega
theorem PN{S:Src9}{X:PS->Got (List Nd)}{K:PS->Got Nd}{l:List Int}(hX:∀s,X s=if A1 S l s=true then(K s).then fun k s=>(X s).then fun ks s=>.ok (k::ks,s)else .ok ([],s)){GA GK:Got (List Nd)}{i:Nat}(h:LoopK S X GA GK 0 i)(hs:Aa S l (A7 GK)=false):GA=GK:=by
 match GK,h,hs with
 | .error e,h,_=>exact h.eq
 | .ok (acc,s),h,hs=>
  have hs':A1 S l s=false:=hs
  rw[h.eq,then_ok,hX s,if_neg (by rw[hs'];decide),then_ok,List.append_nil]
theorem Kz{g:Got Nd}{acc:List Nd}:A7 (g.then fun k s=>(.ok (acc++[k],s):Got (List Nd)))=A7 g:=by
 match g with
 | .ok (k,s2)=>rfl
 | .error e=>rfl
theorem Iv{g:Got Nd}{acc:List Nd}{s0:PS}:∀ks' s',(g.then fun k s=>(.ok (acc++[k],s):Got (List Nd)))=.ok (ks',s')->∃ks s k s2,(.ok (acc,s0):Got (List Nd))=.ok (ks,s)/\g=.ok (k,s2)/\ks'=ks++[k]:=fun ks' s' e=>by
 match g,e with
 | .ok (k,s2),e=>cases e;exact⟨acc,s0,k,_,rfl,rfl,rfl⟩
theorem Wb{S:Src9}{st:St9}(h:Aa S Dv st=false):A7 (AA st (upC S))=st/\∀ks s,AA st (upC S)=.ok (ks,s)->ks=[]:=by
 match st,h with
 | .error e,_=>exact⟨rfl,fun ks s e=>by cases e⟩
 | .ok s,h=>
  have h':A1 S Dv s=false:=h
  rw[bindS_ok]
  unfold upC
  rw[if_neg (by rw[h'];decide)]
  exact⟨rfl,fun ks s e=>by cases e;rfl⟩
theorem WF{S:Src9}{s:PS}(h:A1 S Dv s=true):AA (.ok s) (upC S)=(Gl 31 (AW S s.step)).then fun k s=>.ok ([]++[k],s):=by
 rw[bindS_ok]
 unfold upC Gl
 rw[if_pos h]
 cases AW S s.step with
 | error e=>rfl
 | ok y=>rfl
theorem PO(Q B:Nat)(v:Value)(S:Src9)(hnf:Au S)(st:St9):Ah 110 (D7 S) Q B v S st:=by
 intro w hp
 have hRB:=hp.size
 have hqb:=hp.qb
 have hfew:=hp.few
 obtain⟨vad,vc,hv0,_⟩:=hp.toks
 subst hv0
 have HPA:Hid (Par (w.alloc AK) Q B (.slice vad S.L.length vc) S st):=hp.below ((Zg _ w).alloc (Z0 _) _)
 have HX:=ZB w
 have HO:Hid (_/\_):=TA S st
 have hnm:=fun w' (h':Par w' Q B (.slice vad S.L.length vc) S st)=>FI Q B (.slice vad S.L.length vc) S st w' h'
 generalize AA st (D7 S)=G at *
 have HB2:Hid (∀s,A7 (AA (A7 (AA st (AW S))) (A3 S AE))=.ok s->s.tok<=S.L.length):=fun s e=>by
  cases hg:AA st (AW S)with
  | error e'=>rw[hg]at e;cases e
  | ok y=>
   obtain⟨x,s1⟩:=y
   rw[hg,stOf_ok,bindS_ok]at e
   cases hw:A3 S AE s1 with
   | error e'=>rw[hw]at e;cases e
   | ok z=>
    obtain⟨⟨⟩,s2⟩:=z
    rw[hw]at e
    cases e
    exact((Ag S AE s1).at hw).2
 generalize AA st (AW S)=g1 at *
 have hW1:=Bf (Q:=Q) (B:=B) (v:=(.slice vad S.L.length vc)) (S:=S) (x:=⟨#[40]⟩) (l:=AE) (by decide) (A7 g1)
 generalize A7 (AA (A7 g1) (A3 S AE))=st2 at *
 have hsh:=fun w' (h':Par w' Q B (.slice vad S.L.length vc) S st2)=>DG Q B _ S st2 ⟨#[41]⟩ w' h'
 rw[show A2 ⟨#[41]⟩=AC by decide]at hsh
 obtain⟨GK0,HK0,HK1,HG0⟩:∃GK0:Got (List Nd),Hid (A7 GK0=st2)/\Hid (∀ks s,GK0=.ok (ks,s)->ks=[])/\Hid (OP S (AA st2 (Gg S)) GK0 (Aa S AC st2) 0):=Rb S st2 HB2.out
 generalize AA st2 (Gg S)=GA at *
 generalize Aa S AC st2=isb0 at *
 have hW2:=Bf (Q:=Q) (B:=B) (v:=(.slice vad S.L.length vc)) (S:=S) (x:=⟨#[41]⟩) (l:=AC) (by decide) (A7 GA)
 generalize A7 (AA (A7 GA) (A3 S AC))=st3 at *
 have hbb:=MX Q B (.slice vad S.L.length vc) S hnf st3
 unfold Ah at hbb
 generalize AA st3 (AP S)=gB at *
 have hcm:=fun st' w' (h':Par w' Q B (.slice vad S.L.length vc) S st')=>DG Q B _ S st' ⟨#[44]⟩ w' h'
 rw[show A2 ⟨#[44]⟩=Al by decide]at hcm
 clear hp HB2
 have hql:Q<w.heap.size:=by omega
 go_enter Tryz.func110,Tryz.ntmps110
 go_upto_block 0 with(first
  | (go_at_call 109;refine(hnm _ HPA.out).mono ?_;rintro e w1 ⟨⟨xv,rfl,htx⟩,hp1,hg1⟩;obtain⟨tx,hxv⟩:=DS htx;subst hxv)
  | (go_at_call 87;refine(hW1 _ hp1).mono ?_;rintro e w2 ⟨rfl,hp2,hgx⟩;have hg2:=hg1.trans hgx)
  | (go_at_call 85;refine(hsh _ hp2).mono ?_;rintro e w3 ⟨rfl,hb3⟩;have hp3:=hp2.below hb3;have hg3:=hg2.trans (A0 Q hb3)))
 have HTX:Hid (FH (.string tx) g1):=htx
 have HR0:Hid (RowL w w3 Q B (.slice vad S.L.length vc) S (A7 GK0) (.slice none 0 0) 0 GK0):=RowL.first (by rw[HK0.out];exact hp3) (HX.out.grown hg3 (by omega)) ((Zf w AK (some Q)).trans hg3) HK1.out
 clear htx hp1 hg1 hp2 hgx hg2 hb3 hp3 hg3 hnm hW1 hsh HPA HX
 go_cut [4] from 18 to 58 (fun s4 wx=>∃(n:Nat) (ad:Option Addr) (c:Nat),s4=.slice ad n c/\n<=4002/\Hid (RowL w wx Q B (.slice vad S.L.length vc) S (A7 GA) (.slice ad n c) n GA))
 case first=>
  clear hbb hW2 HTX HO
  go_wp2_with fail
  go_loopw [4,5,6] (fun s4 s5 s6 wr=>∃(i n:Nat) (isb:Bool) (GK:Got (List Nd)),s5=.bool isb/\s6=.int .i64 i/\i<=4001/\n<=i/\Hid (RowL w wr Q B (.slice vad S.L.length vc) S (A7 GK) s4 n GK)/\Hid (OP S GA GK isb i)) (fun _ _ s6 _=>4002-(intOf s6).toNat)
  case atStart=>exact⟨0,0,isb0,GK0,rfl,rfl,by omega,by omega,HR0,HG0⟩
  case round=>
   clear HR0 HG0 HK0 HK1
   obtain⟨i,n,isb,GK,rfl,rfl,hi,hn,HRF,HL⟩:=hrel
   obtain⟨ad3,c3,hs3⟩:=HRF.out.kin.length.1
   subst hs3
   rcases HL.out with⟨rfl,hi0,hor⟩ | ⟨rfl,acc,s,rfl,hga,hi1,hle1⟩
   ·have hil:(i:Int)<=(S.L.length:Int):=by omega
    have hnb:n<=4002:=by omega
    clear hi0 hn hi HL hcm
    obtain⟨tok,deep,many,fc,fa,ho,hf⟩:=HRF.out.par.obj
    obtain⟨k0,_,_,_,_,k5,_⟩:=ho.cells
    rcases hor with⟨rfl,y,hy⟩ | ⟨rfl,⟨ec,ea⟩,he⟩
    ·clear ho hf hy
     go_wp2_with fail
     go_meet
     exact⟨n,ad3,c3,rfl,hnb,HRF⟩
    ·rw[he]at hf
     obtain⟨rfl,rfl,hfc⟩:=hf
     have hcb:(fc==0)=false:=by simpa using hfc
     clear ho he
     go_wp2_with fail
     go_meet
     exact⟨n,ad3,c3,rfl,hnb,HRF⟩
   ·have hil:(i:Int)<=(S.L.length:Int):=by omega
    have hwi:=AN (x:=(i:Int)+1) (by omega) (by omega)
    have hnx:=Rc hga
    rw[Uh,Id]at hnx
    have hnm:=fun w' (h':Par w' Q B (.slice vad S.L.length vc) S (.ok s))=>FI Q B (.slice vad S.L.length vc) S (.ok s) w' h'
    rw[bindS_ok]at hnm
    obtain⟨many,ho,_,_,_,_⟩:=HRF.out.par.ok
    obtain⟨k0,_,_,_,_,k5,_⟩:=ho.cells
    have hbx:=HRF.out.box.lt
    have HPS:Hid (Par wr Q B (.slice vad S.L.length vc) S (.ok s)):=HRF.out.par
    clear ho hga HL
    generalize AW S s=gn at *
    have hcm0:=hcm (Cz (A7 gn))
    clear hcm
    cases hsc:Aa S Al (Cz (A7 gn))with
    | false=>
     have HGA:Hid (GA=(Gl 5 gn).then fun k s=>.ok (acc++[k],s)):=hnx.1 hsc
     rw[hsc]at hcm0
     clear hsc hnx
     go_wp2_with (first
      | (go_at_call 109;refine(hnm _ HPS.out).mono ?_;rintro e w4 ⟨⟨xv,rfl,htx⟩,hp4,hg4⟩;obtain⟨ty,hxv⟩:=DS htx;subst hxv)
      | (go_at_call 89;refine(At Q B _ S _ _ _ _ ⟨_,_,_,rfl⟩ _ hp4).mono ?_;rintro e w6 ⟨rfl,hp6,hg6⟩;have hR6:=HRF.out.grown hql hp6 (hg4.trans hg6);have hx6:=hR6.box.lt;obtain⟨xs,O6,hmore⟩:=hR6.push hRB (Iu (kind:=5) htx) (C:=w6.heap.size) (by omega) (fun j e=>(hR6.lt j e).2))
      | (at_builtin;refine AO CC rfl (.tmp 44) (.tmp 46) rfl (w.heap.size+1) n 1 (.slice ad3 n c3) xs [.int .i64 5,.string ty,.int .i64 0,.slice none 0 0] rfl ((O6.alloc (.cells #[.int .i64 5,.string ty,.int .i64 0,.slice none 0 0] 24)).alloc (.cells #[.int .i64 5,.string ty,.int .i64 0,.slice none 0 0] 24)) ⟨w6.heap.size+1,0,none⟩ rfl rfl (DH _ _ _ _ _ _ _) (CL _ _ _ _ _ _) (by omega) (by simp;omega) ?_;intro g' cap' w7 O7 hg7 hor7;obtain⟨hR7,hsz7⟩:=hmore _ _ _ _ _ O7 hg7 hor7 _ (Iv (acc:=acc) (s0:=s)))
      | (go_at_call 85;refine(hcm0 _ hR7.par).mono ?_;rintro e w8 ⟨rfl,hb8⟩;have hR8:=hR7.grown hql (hR7.par.below hb8) (A0 Q hb8)))
     go_meet
     refine⟨n+1,_,_,rfl,by omega,?_⟩
     show RowL _ _ _ _ _ _ _ _ _ _
     rw[HGA.out,Kz,Id]
     exact hR8
    | true=>
     obtain⟨k,s3,hk3,hs3,ht3,hga3⟩:=hnx.2 hsc
     rw[hsc]at hcm0
     have ht:=AH hs3
     have hwt:=AN (x:=(s3.tok:Int)+1) (by omega) (by omega)
     have HGA:Hid (OP S GA (.ok (acc++[k],s3.step)) false (i+1)):=Or.inr ⟨rfl,acc++[k],s3.step,rfl,hga3,by show i+1<=s3.tok+1;omega,by show s3.tok+1<=_;omega⟩
     have HKK:Hid (∀ks' s',(.ok (acc++[k],s3.step):Got (List Nd))=.ok (ks',s')->∃ks s1 k1 s2,(.ok (acc,s):Got (List Nd))=.ok (ks,s1)/\Gl 5 gn=.ok (k1,s2)/\ks'=ks++[k1]):=fun ks' s' e=>by cases e;exact⟨acc,s,k,s3,rfl,hk3,rfl⟩
     have HST:Hid (Cz (A7 gn)=.ok s3):=by show _=_;rw[<-Id (kind:=5),hk3];rfl
     clear hsc hnx hk3 hs3 hga3
     go_wp2_with (first
      | (go_at_call 109;refine(hnm _ HPS.out).mono ?_;rintro e w4 ⟨⟨xv,rfl,htx⟩,hp4,hg4⟩;obtain⟨ty,hxv⟩:=DS htx;subst hxv)
      | (go_at_call 89;refine(At Q B _ S _ _ _ _ ⟨_,_,_,rfl⟩ _ hp4).mono ?_;rintro e w6 ⟨rfl,hp6,hg6⟩;have hR6:=HRF.out.grown hql hp6 (hg4.trans hg6);have hx6:=hR6.box.lt;obtain⟨xs,O6,hmore⟩:=hR6.push hRB (Iu (kind:=5) htx) (C:=w6.heap.size) (by omega) (fun j e=>(hR6.lt j e).2))
      | (at_builtin;refine AO CC rfl (.tmp 44) (.tmp 46) rfl (w.heap.size+1) n 1 (.slice ad3 n c3) xs [.int .i64 5,.string ty,.int .i64 0,.slice none 0 0] rfl ((O6.alloc (.cells #[.int .i64 5,.string ty,.int .i64 0,.slice none 0 0] 24)).alloc (.cells #[.int .i64 5,.string ty,.int .i64 0,.slice none 0 0] 24)) ⟨w6.heap.size+1,0,none⟩ rfl rfl (DH _ _ _ _ _ _ _) (CL _ _ _ _ _ _) (by omega) (by simp;omega) ?_;intro g' cap' w7 O7 hg7 hor7;obtain⟨hR7,hsz7⟩:=hmore _ _ _ _ _ O7 hg7 hor7 _ HKK.out)
      | (go_at_call 85;refine(hcm0 _ hR7.par).mono ?_;rintro e w8 ⟨rfl,hb8⟩;have hR8:=hR7.grown hql (hR7.par.below hb8) (A0 Q hb8);have hp8:=hR8.par;rw[HST.out]at hp8;obtain⟨many8,ho8,_,_,_,_⟩:=hp8.ok;obtain⟨_,_,v2,_,_,_,_⟩:=ho8.cells;have z2:=ho8.frozen 2;clear ho8))
     exact⟨⟨i+1,n+1,false,.ok (acc++[k],s3.step),rfl,by simp,by omega,by omega,hR8.grown hql (FL hp8 ht) (AJ w8 Q 2 _),HGA⟩,by simp[intOf];omega⟩
 case rest=>
  obtain⟨n,ad,c,rfl,hn,HRA⟩:=hcut
  have hbA:=HRA.out.box.lt
  have hlt:=HRA.out.lt
  clear HK0 HK1 HG0 HR0 hcm
  go_wp2_with (first
   | (go_at_call 87;refine(hW2 _ HRA.out.par).mono ?_;rintro e wA ⟨rfl,hpA,hgA⟩)
   | (go_at_call 88;refine(hbb _ hpA).mono ?_;rintro e w6 ⟨⟨u,rfl,hv⟩,hp6,hgL⟩;obtain⟨a',b',c',ad',n',cc',hu'⟩:=hv.any;subst hu';have hR6:=HRA.out.grown hql hp6 (hgA.trans hgL);have hx6:=hR6.box.lt;have hszA:=hgA.size;obtain⟨xs,O6,hmore⟩:=hR6.push hRB hv (by omega) (fun j e=>by have:=(hlt j e).2;omega))
   | (at_builtin;refine AO CC rfl (.tmp 65) (.tmp 67) rfl (w.heap.size+1) n 1 (.slice ad n c) xs [.int .i64 a',.string b',.int .i64 c',.slice ad' n' cc'] rfl ((O6.alloc (.cells #[.int .i64 a',.string b',.int .i64 c',.slice ad' n' cc'] 24)).alloc (.cells #[.int .i64 a',.string b',.int .i64 c',.slice ad' n' cc'] 24)) ⟨w6.heap.size+1,0,none⟩ rfl rfl (DH _ _ _ _ _ _ _) (CL _ _ _ _ _ _) (by omega) (by simp;omega) ?_;intro g' cap' w7 O7 hg7 hor7;obtain⟨hR7,hsz7⟩:=hmore _ _ _ _ _ O7 hg7 hor7 _ (Lo (GA:=GA) (gB:=gB)))
   | (go_at_call 89;refine(At Q B _ S _ _ _ _ ⟨_,_,_,rfl⟩ _ hR7.par).mono ?_;rintro e wN ⟨rfl,hpN,hgN⟩;have hRN:=hR7.grown hql hpN hgN;have hxN:=hRN.box.lt;obtain⟨⟨x0,x1,x2,x3⟩,f0,f1,f2,f3⟩:=hRN.box.facts))
  obtain⟨⟨k0,k1,k2,k3⟩,_⟩:=((hRN.box.put (.int .i64 4) (.string tx) (.int .i64 n) (.slice (some ⟨g',0,none⟩) (n+1) cap')).alloc (.cells #[.int .i64 4,.string tx,.int .i64 n,.slice (some ⟨g',0,none⟩) (n+1) cap'] 24)).facts
  refine bodyPost_ret (v:=.agg #[.int .i64 4,.string tx,.int .i64 n,sl g' (n+1) cap']) (by simp[results,Tryz.results110,go_sem,k0,k1,k2,k3]) rfl ⟨⟨_,rfl,?_⟩,by rw[HO.out.2];exact(Ap hpN hRB _ _ _ _).below ((Zg _ _).alloc (Z0 _) _),(AG hRN.gro (AX (Z0 _) _ _ _ _)).trans (Zf _ _ _)⟩
  exact(((Ug HO.out.1 HTX.out HRA.out.kin hRN.kin).above (Af (R:=w.heap.size) (by show ¬w.heap.size+1<=w.heap.size;omega) _ _ _ _)).above (Zh (Zf _ _ none) (fun k e=>by cases e))).mono (fun k hk _=>by have hk':w.heap.size+1<=k:=hk;show w.heap.size<=k;omega)
end Go.Proofs.YtibeadcfgcfdbaaGreatDoor
