/- Texts in one. -/
import Derived.Test.YtibeadcfgcfdbaaGreatDoorMf
set_option maxHeartbeats 8000000
set_option maxRecDepth 20000
namespace Go.Proofs.YtibeadcfgcfdbaaGreatDoor
open Go.RowKit
def Kin(w:World)(BB:Nat)(v:Value)(n:Nat)(GK:Got (List Nd)):Prop:=
 ∃xs,w.ownsRow BB 24 4 v n xs/\∀ks s,GK=.ok (ks,s)->∃l:List (Nd×Value),l.map Prod.fst=ks/\xs=An l/\l.length=n/\∀z∈l,KidsV w (fun k=>BB<=k/\v.ownBlock≠some k) z.2 z.1.kids
theorem Kin.nil(w:World)(BB:Nat){g:Got (List Nd)}(h:∀ks s,g=.ok (ks,s)->ks=[]):Kin w BB (.slice none 0 0) 0 g:=⟨[],Zl _ _ _ _,fun ks s e=>⟨[],(h ks s e).symm,rfl,rfl,fun z hz=>by cases hz⟩⟩
theorem Kin.grown{w w':World}{BB Q n:Nat}{v:Value}{GK:Got (List Nd)}(h:Kin w BB v n GK)(hg:w.grownBy w' (some Q))(hq:Q<BB):Kin w' BB v n GK:=by
 obtain⟨xs,ho,hk⟩:=h
 have hv:∀k,v.ownBlock=some k->BB<=k:=fun k e=>(ho.lt k e).1
 refine⟨xs,ho.kept hg (Or.inr (by intro e;have:=hv Q e;omega)),fun ks s e=>?_⟩
 obtain⟨l,h1,h2,h3,h4⟩:=hk ks s e
 exact⟨l,h1,h2,h3,fun z hz=>(h4 z hz).above (Zh hg (fun k e=>by injection e with e;rintro⟨h,_⟩;omega))⟩
theorem Kin.below{w w':World}{BB n:Nat}{v:Value}{GK:Got (List Nd)}(h:Kin w BB v n GK)(hb:Below w.heap.size w w')(hB:0<BB):Kin w' BB v n GK:=h.grown (Q:=0) (A0 0 hb) hB
theorem Kin.slice{w:World}{BB n:Nat}{v:Value}{GK:Got (List Nd)}(h:Kin w BB v n GK):∃ad m c,v=.slice ad m c:=by
 obtain⟨xs,ho,_⟩:=h
 rcases ho.2 with⟨rfl,_⟩ | ⟨g,cap,cur,rfl,_⟩
 ·exact⟨_,_,_,rfl⟩
 ·exact⟨_,_,_,rfl⟩
theorem Kin.more{w w':World}{BB C n g' cap':Nat}{v:Value}{GK GK':Got (List Nd)}{gE:Got Nd}{a b c d:Value}{o o':Obj}{xs:List Value}(hk:∀ks s,GK=.ok (ks,s)->∃l:List (Nd×Value),l.map Prod.fst=ks/\xs=An l/\l.length=n/\∀z∈l,KidsV w (fun k=>BB<=k/\v.ownBlock≠some k) z.2 z.1.kids)(hv:ValG w (AZ C) (.agg #[a,b,c,d]) gE)(hC:BB<=C)(hvC:∀k,v.ownBlock=some k->k<C)(ho:w'.ownsRow BB 24 4 (sl g' (n+1) cap') (n+1) (xs++[a,b,c,d]))(hg:((w.alloc o).alloc o').grownBy w' v.ownBlock)(hor:v.ownBlock=some g'\/g'=((w.alloc o).alloc o').heap.size)(hG:∀ks' s',GK'=.ok (ks',s')->∃ks s k s2,GK=.ok (ks,s)/\gE=.ok (k,s2)/\ks'=ks++[k]):Kin w' BB (sl g' (n+1) cap') (n+1) GK':=by
 refine⟨_,ho,fun ks' s' e=>?_⟩
 obtain⟨ks,s,k,s2,rfl,rfl,rfl⟩:=hG ks' s' e
 obtain⟨l,rfl,rfl,h3,h4⟩:=hk ks s rfl
 obtain⟨x,hx,hkk⟩:=(show NodeV w (AZ C) (.agg #[a,b,c,d]) k from hv)
 simp only[Value.agg.injEq]at hx
 have ex:[a,b,c,d]=Bb k x:=by
  have:=congrArg Array.toList hx
  simpa using this
 have h0:∀z ks,KidsV w (fun j=>BB<=j/\v.ownBlock≠some j) z ks->KidsV w' (fun j=>BB<=j/\(sl g' (n+1) cap').ownBlock≠some j) z ks:=fun z ks hz=>by
  have h1:=(hz.above (Zh (Zf w o none) (fun k e=>by cases e))).above (Zh (Zf (w.alloc o) o' none) (fun k e=>by cases e))
  have h2:=h1.mono (M':=fun j=>(BB<=j/\(sl g' (n+1) cap').ownBlock≠some j)/\v.ownBlock≠some j) (fun j hj hlt=>⟨⟨hj.1,fun e=>by
   have e':g'=j:=by injection e
   rcases hor with h | h
   ·exact hj.2 (by rw[h,e'])
   ·omega⟩,hj.2⟩)
  exact(h2.above (Zh hg (fun j e=>by rintro⟨_,h⟩;exact h e))).mono (fun j hj _=>hj.1)
 refine⟨l++[(k,x)],by simp,by rw[J2,ex],by simp[h3],fun z hz=>?_⟩
 rcases List.mem_append.1 hz with hz | hz
 ·exact h0 _ _ (h4 z hz)
 ·simp only[List.mem_singleton]at hz
  subst hz
  exact h0 _ _ (hkk.mono (fun j hj _=>by have hj':C<=j:=hj;exact⟨by omega,fun e=>by have:=hvC j e;omega⟩))
def Jl(kind:Int)(tx:ByteArray)(GA:Got (List Nd))(G:Got Nd):Prop:=(∃e,G=.error e)\/∃ks s s' x,GA=.ok (ks,s)/\tx=strOfNums x/\G=.ok (.mk kind x 0 ks,s')
theorem GL{w w':World}{BB n:Nat}{v:Value}{kind:Int}{tx:ByteArray}{G:Got Nd}{GK:Got (List Nd)}(hG:Jl kind tx GK G)(h:Kin w BB v n GK)(ha:Above (AZ BB) w w'):ValG w' (AZ BB) (.agg #[.int .i64 kind,.string tx,.int .i64 0,v]) G:=by
 obtain⟨ad,m,c,hv⟩:=h.slice
 rcases hG with⟨e,rfl⟩ | ⟨ks,s,s',x,rfl,rfl,rfl⟩
 ·subst hv;exact⟨_,_,_,_,_,_,rfl⟩
 ·obtain⟨xs,ho,hk⟩:=h
  obtain⟨l,rfl,rfl,h3,h4⟩:=hk ks s rfl
  subst h3
  exact NodeV.above (EV (tx:=x) (KidsV.of_own ho (fun k e=>(ho.lt k e).1) (fun z hz=>(h4 z hz).mono (fun k hk _=>hk.1)))) ha
structure LoopK(S:Src9)(X:PS->Got (List Nd))(GA GK:Got (List Nd))(lo i:Nat):Prop where
 eq:GA=GK.then fun acc s=>(X s).then fun ks s=>.ok (acc++ks,s)
 place:∀ks s,GK=.ok (ks,s)->i<=s.tok/\lo<=s.tok/\s.tok<=S.L.length
def RR(S:Src9)(st:St9):Nat:=match st with
 | .ok s=>s.tok+1
 | .error _=>S.L.length+1
def Hr(S:Src9)(st1:St9):Got Nd:=AA st1 fun s=>(CI S s).then fun ks s=>(A3 S Av s).then fun _ s=>AD 6 [] 0 ks s
theorem RS(S:Src9)(st:St9):AA st (AP S)=Hr S (A7 (AA st (A3 S Ao))):=by
 unfold Hr
 match st with
 | .error e=>rfl
 | .ok s=>
  rw[bindS_ok,LX,bindS_ok]
  cases A3 S Ao s with
  | error e=>rfl
  | ok y=>rfl
theorem RT(S:Src9)(st1:St9):Jl 6 ⟨#[]⟩ (AA st1 (CI S)) (Hr S st1)/\A7 (Hr S st1)=Cz (A7 (AA (A7 (AA st1 (CI S))) (A3 S Av))):=by
 unfold Hr
 match st1 with
 | .error e=>exact⟨Or.inl ⟨_,rfl⟩,rfl⟩
 | .ok s=>
  rw[bindS_ok,bindS_ok]
  cases CI S s with
  | error e=>exact⟨Or.inl ⟨_,rfl⟩,rfl⟩
  | ok y=>
   obtain⟨ks,s1⟩:=y
   rw[then_ok,stOf_ok,bindS_ok]
   cases A3 S Av s1 with
   | error e=>exact⟨Or.inl ⟨_,rfl⟩,rfl⟩
   | ok z=>
    obtain⟨⟨⟩,s2⟩:=z
    exact⟨Or.inr ⟨ks,s1,_,[],rfl,rfl,rfl⟩,rfl⟩
theorem RU{S:Src9}{GA:Got (List Nd)}{acc:List Nd}{s:PS}{lo i:Nat}(h:LoopK S (CI S) GA (.ok (acc,s)) lo i)(hs:A1 S Av s=false):LoopK S (CI S) GA ((CO S s).then fun k s=>.ok (acc++[k],s)) lo (i+1):=by
 obtain⟨h1,h2,h3⟩:=h.place acc s rfl
 refine⟨?_,fun ks s' e=>?_⟩
 ·rw[h.eq,then_ok,IZ S s h3,if_neg (by rw[hs];decide)]
  cases CO S s with
  | error e=>rfl
  | ok y=>
   obtain⟨k,s'⟩:=y
   rw[then_ok,then_ok,then_ok]
   cases CI S s' with
   | error e=>rfl
   | ok z=>
    obtain⟨ks,s2⟩:=z
    simp
 ·cases hx:CO S s with
  | error e'=>rw[hx]at e;cases e
  | ok y=>
   obtain⟨k,s2⟩:=y
   rw[hx]at e
   have:=Mz hx
   cases e
   omega
theorem T3{S:Src9}{GA:Got (List Nd)}{acc:List Nd}{s:PS}{lo i:Nat}(h:LoopK S (CI S) GA (.ok (acc,s)) lo i)(hs:A1 S Av s=true):GA=.ok (acc,s):=by
 obtain⟨h1,h2,h3⟩:=h.place acc s rfl
 rw[h.eq,then_ok,IZ S s h3,if_pos hs,then_ok,List.append_nil]
theorem JC(Q B:Nat)(v:Value)(S:Src9)(st:St9)(h1:∀s:PS,RR S st<=s.tok->s.tok<=S.L.length->Ah 112 (CO S) Q B v S (.ok s)):Ah 88 (AP S) Q B v S st:=by
 intro w hp
 have hRB:=hp.size
 have hqb:=hp.qb
 have hfew:=hp.few
 obtain⟨vad,vc,hv0,_⟩:=hp.toks
 subst hv0
 have HPA:Hid (Par (w.alloc AK) Q B (.slice vad S.L.length vc) S st):=hp.below ((Zg _ w).alloc (Z0 _) _)
 have HX:=ZB w
 have hW1:=Bf (Q:=Q) (B:=B) (v:=(.slice vad S.L.length vc)) (S:=S) (x:=⟨#[123]⟩) (l:=Ao) (by decide) st
 have HT:Hid (∀s1,A7 (AA st (A3 S Ao))=.ok s1->RR S st<=s1.tok/\s1.tok<=S.L.length):=fun s1 e=>by
  match st,e with
  | .ok s,e=>
   rw[bindS_ok]at e
   cases hw:A3 S Ao s with
   | error e'=>rw[hw]at e;cases e
   | ok y=>
    obtain⟨⟨⟩,s2⟩:=y
    rw[hw]at e
    have:=(Ag S Ao s).at hw
    cases e
    exact⟨by show s.tok+1<=s1.tok;omega,by omega⟩
 rw[RS]
 have H1:Hid (∀s:PS,RR S st<=s.tok->s.tok<=S.L.length->Ah 112 (CO S) Q B (.slice vad S.L.length vc) S (.ok s)):=h1
 clear h1 hp
 generalize RR S st=lo at HT H1
 generalize A7 (AA st (A3 S Ao))=st1 at *
 have HO:Hid (Jl 6 ⟨#[]⟩ (AA st1 (CI S)) (Hr S st1)/\A7 (Hr S st1)=Cz (A7 (AA (A7 (AA st1 (CI S))) (A3 S Av)))):=RT S st1
 generalize Hr S st1=G at *
 obtain⟨GA,HGA⟩:∃GA,Hid (GA=AA st1 (CI S)):=⟨_,rfl⟩
 rw[<-HGA.out]at HO
 have hW2:=Bf (Q:=Q) (B:=B) (v:=(.slice vad S.L.length vc)) (S:=S) (x:=⟨#[125]⟩) (l:=Av) (by decide) (A7 GA)
 have hse:=fun st' w' (h':Par w' Q B (.slice vad S.L.length vc) S st')=>DG Q B _ S st' ⟨#[125]⟩ w' h'
 rw[show A2 ⟨#[125]⟩=Av by decide]at hse
 obtain⟨GK0,HK0,HG0⟩:∃GK0:Got (List Nd),Hid (A7 GK0=st1/\(∀ks s,GK0=.ok (ks,s)->ks=[]))/\Hid (LoopK S (CI S) GA GK0 lo 0):=by
  match st1,HT,HGA with
  | .error e,HT,HGA=>exact⟨.error e,⟨rfl,fun ks s e=>by cases e⟩,⟨HGA.out,fun ks s e=>by cases e⟩⟩
  | .ok s,HT,HGA=>exact⟨.ok ([],s),⟨rfl,fun ks s e=>by cases e;rfl⟩,⟨by rw[HGA.out,bindS_ok,then_ok];cases CI S s with | error e=>rfl | ok y=>rfl,fun ks s' e=>by cases e;have:=HT.out s rfl;omega⟩⟩
 rw[<-HK0.out.1]at hW1
 clear HT HGA
 go_enter Tryz.func88,Tryz.ntmps88
 go_wp2_with (first
  | (go_at_call 87;refine(hW1 _ HPA.out).mono ?_;rintro e w1 ⟨rfl,hp1,hg1⟩))
 have HP0:Hid (Par w1 Q B (.slice vad S.L.length vc) S (A7 GK0)):=hp1
 have HR0:Hid (Box4 w1 w.heap.size (.int .i64 0) (.string ⟨#[]⟩) (.int .i64 0) (.slice none 0 0)):=HX.out.grown hg1 (by omega)
 have HL0:Hid (w.grownBy w1 (some Q)):=(Zf w AK (some Q)).trans hg1
 have HN0:Hid (Kin w1 (w.heap.size+1) (.slice none 0 0) 0 GK0):=Kin.nil _ _ HK0.out.2
 clear hp1 hg1
 go_loopw [3,4] (fun s3 s4 wr=>∃(i n:Nat) (GK:Got (List Nd)),s4=.int .i64 i/\i<=4001/\n<=i/\Hid (Par wr Q B (.slice vad S.L.length vc) S (A7 GK))/\Hid (Box4 wr w.heap.size (.int .i64 0) (.string ⟨#[]⟩) (.int .i64 0) (.slice none 0 0))/\Hid (w.grownBy wr (some Q))/\Hid (Kin wr (w.heap.size+1) s3 n GK)/\Hid (LoopK S (CI S) GA GK lo i)) (fun _ s4 _=>4002-(intOf s4).toNat)
 case atStart=>exact⟨0,0,GK0,rfl,by omega,by omega,HP0,HR0,HL0,HN0,HG0⟩
 case round=>
  clear HP0 HR0 HL0 HN0 HG0 HK0
  obtain⟨i,n,GK,rfl,hi,hn,HPF,HRF,HGF,HKF,HL⟩:=hrel
  obtain⟨ad3,m3,c3,hs3⟩:=HKF.out.slice
  subst hs3
  match GK,HPF,HKF,HL with
  | .error (ec,ea),HPF,HKF,HL=>
   obtain⟨tok,deep,many,fc,fa,ho,hf⟩:=HPF.out.obj
   obtain⟨k0,_,_,_,_,k5,_⟩:=ho.cells
   obtain⟨rfl,rfl,hfc⟩:=hf
   have hcb:(fc==0)=false:=by simpa using hfc
   have hGA:GA=.error (fc,fa):=HL.out.eq
   rw[<-hGA]at HKF HPF
   clear ho hGA HL
   by_cases hil:(i:Int)<=(S.L.length:Int)
   ·go_wp2_with (first
     | (go_at_call_of 87 (Value.string ⟨#[125]⟩);refine(hW2 _ HPF.out).mono ?_;rintro e wA ⟨rfl,hpA,hgA⟩)
     | (go_at_call 89;refine(At Q B _ S _ _ _ _ ⟨_,_,_,rfl⟩ _ hpA).mono ?_;rintro e wB ⟨rfl,hpB,hgB⟩;have hgAB:=hgA.trans hgB;obtain⟨⟨x0,x1,x2,x3⟩,f0,f1,f2,f3⟩:=(HRF.out.grown hgAB (by omega)).facts))
    have hgw:w.grownBy wB (some Q):=HGF.out.trans hgAB
    refine bodyPost_ret (v:=.agg #[.int .i64 6,.string ⟨#[]⟩,.int .i64 0,.slice ad3 m3 c3]) (by simp[results,Tryz.results88,go_sem,x0,x1,x2,x3]) rfl ⟨⟨_,rfl,?_⟩,by rw[HO.out.2];exact Ap hpB hRB _ _ _ _,AG hgw (AX (Z0 _) _ _ _ _)⟩
    exact(GL HO.out.1 HKF.out ((Zh hgAB (fun k e=>by injection e with e;show ¬w.heap.size+1<=k;omega)).trans (Af (R:=w.heap.size) (by show ¬w.heap.size+1<=w.heap.size;omega) _ _ _ _))).mono (fun k hk _=>by have hk':w.heap.size+1<=k:=hk;show w.heap.size<=k;omega)
   ·go_wp2_with (first
     | (go_at_call_of 87 (Value.string ⟨#[125]⟩);refine(hW2 _ HPF.out).mono ?_;rintro e wA ⟨rfl,hpA,hgA⟩)
     | (go_at_call 89;refine(At Q B _ S _ _ _ _ ⟨_,_,_,rfl⟩ _ hpA).mono ?_;rintro e wB ⟨rfl,hpB,hgB⟩;have hgAB:=hgA.trans hgB;obtain⟨⟨x0,x1,x2,x3⟩,f0,f1,f2,f3⟩:=(HRF.out.grown hgAB (by omega)).facts))
    have hgw:w.grownBy wB (some Q):=HGF.out.trans hgAB
    refine bodyPost_ret (v:=.agg #[.int .i64 6,.string ⟨#[]⟩,.int .i64 0,.slice ad3 m3 c3]) (by simp[results,Tryz.results88,go_sem,x0,x1,x2,x3]) rfl ⟨⟨_,rfl,?_⟩,by rw[HO.out.2];exact Ap hpB hRB _ _ _ _,AG hgw (AX (Z0 _) _ _ _ _)⟩
    exact(GL HO.out.1 HKF.out ((Zh hgAB (fun k e=>by injection e with e;show ¬w.heap.size+1<=k;omega)).trans (Af (R:=w.heap.size) (by show ¬w.heap.size+1<=w.heap.size;omega) _ _ _ _))).mono (fun k hk _=>by have hk':w.heap.size+1<=k:=hk;show w.heap.size<=k;omega)
  | .ok (acc,s),HPF,HKF,HL=>
   obtain⟨many,ho,_,_,_,_⟩:=HPF.out.ok
   obtain⟨k0,_,_,_,_,k5,_⟩:=ho.cells
   obtain⟨hi1,hlo1,hle1⟩:=HL.out.place acc s rfl
   have hil:(i:Int)<=(S.L.length:Int):=by omega
   have hwi:=AN (x:=(i:Int)+1) (by omega) (by omega)
   clear ho
   have hse0:=hse (.ok s)
   rw[show Aa S Av (.ok s)=A1 S Av s from rfl]at hse0
   clear hse
   cases hs:A1 S Av s with
   | true=>
    rw[hs]at hse0
    have hGA:GA=.ok (acc,s):=T3 HL.out hs
    have hPx:Hid (Par wr Q B (.slice vad S.L.length vc) S (.ok s)):=HPF
    rw[<-hGA]at HKF HPF
    have HST:Hid (A7 GA=.ok s):=by show _=_;rw[hGA];rfl
    clear hs HL hGA
    have HRG:=HRF
    have HGG:=HGF
    have HKG:=HKF
    clear HPF HRF HGF HKF
    go_wp2_with (first
     | (go_at_call 85;refine(hse0 _ hPx.out).mono ?_;rintro e w2 ⟨rfl,hb2⟩;have HPF:Hid (Par w2 Q B (.slice vad S.L.length vc) S (A7 GA)):=(by show Par w2 Q B _ S (A7 GA);rw[HST.out];exact hPx.out.below hb2);have HRF:Hid (Box4 w2 w.heap.size (.int .i64 0) (.string ⟨#[]⟩) (.int .i64 0) (.slice none 0 0)):=(HRG.out.grown (A0 Q hb2) (by omega));have HGF:Hid (w.grownBy w2 (some Q)):=(HGG.out.trans (A0 Q hb2));have HKF:Hid (Kin w2 (w.heap.size+1) (.slice ad3 m3 c3) n GA):=(HKG.out.below hb2 (by omega)))
     | (go_at_call_of 87 (Value.string ⟨#[125]⟩);refine(hW2 _ HPF.out).mono ?_;rintro e wA ⟨rfl,hpA,hgA⟩)
     | (go_at_call 89;refine(At Q B _ S _ _ _ _ ⟨_,_,_,rfl⟩ _ hpA).mono ?_;rintro e wB ⟨rfl,hpB,hgB⟩;have hgAB:=hgA.trans hgB;obtain⟨⟨x0,x1,x2,x3⟩,f0,f1,f2,f3⟩:=(HRF.out.grown hgAB (by omega)).facts))
    have hgw:w.grownBy wB (some Q):=HGF.out.trans hgAB
    refine bodyPost_ret (v:=.agg #[.int .i64 6,.string ⟨#[]⟩,.int .i64 0,.slice ad3 m3 c3]) (by simp[results,Tryz.results88,go_sem,x0,x1,x2,x3]) rfl ⟨⟨_,rfl,?_⟩,by rw[HO.out.2];exact Ap hpB hRB _ _ _ _,AG hgw (AX (Z0 _) _ _ _ _)⟩
    exact(GL HO.out.1 HKF.out ((Zh hgAB (fun k e=>by injection e with e;show ¬w.heap.size+1<=k;omega)).trans (Af (R:=w.heap.size) (by show ¬w.heap.size+1<=w.heap.size;omega) _ _ _ _))).mono (fun k hk _=>by have hk':w.heap.size+1<=k:=hk;show w.heap.size<=k;omega)
   | false=>
    rw[hs]at hse0
    have HLN:Hid (LoopK S (CI S) GA ((CO S s).then fun k s=>.ok (acc++[k],s)) lo (i+1)):=RU HL.out hs
    have hst:=H1.out s hlo1 hle1
    unfold Ah at hst
    rw[bindS_ok]at hst
    clear hs HL
    generalize CO S s=gE at *
    have hszr:=HRF.out.lt
    go_wp2_with (first
     | (go_at_call 85;refine(hse0 _ HPF.out).mono ?_;rintro e w2 ⟨rfl,hb2⟩;have hp2:=Par.below HPF.out hb2;have hsz2:=hb2.size)
     | (go_at_call 112;refine(hst _ hp2).mono ?_;rintro e w6 ⟨⟨u,rfl,hv⟩,hp6,hg6⟩;obtain⟨a',b',c',ad',n',cc',hu'⟩:=hv.any;subst hu';have hK2:=HKF.out.below hb2 (by omega);have hlt2:∀k,Value.ownBlock (.slice ad3 m3 c3)=some k->w.heap.size+1<=k/\k<w2.heap.size:=(by obtain⟨_,O2,_⟩:=hK2;exact O2.lt);obtain⟨xs,O6,hk6⟩:=hK2.grown hg6 (by omega);have hsz6:=hg6.size)
     | (at_builtin;refine AO CC rfl (.tmp 31) (.tmp 33) rfl (w.heap.size+1) n 1 (.slice ad3 m3 c3) xs [.int .i64 a',.string b',.int .i64 c',.slice ad' n' cc'] rfl ((O6.alloc (.cells #[.int .i64 a',.string b',.int .i64 c',.slice ad' n' cc'] 24)).alloc (.cells #[.int .i64 a',.string b',.int .i64 c',.slice ad' n' cc'] 24)) ⟨w6.heap.size+1,0,none⟩ rfl rfl (DH _ _ _ _ _ _ _) (CL _ _ _ _ _ _) (by omega) (by simp;omega) ?_;intro g' cap' w7 O7 hg7 hor7))
    have hb7:Below B w6 w7:=(BQ w6 (.cells #[.int .i64 a',.string b',.int .i64 c',.slice ad' n' cc'] 24) (.cells #[.int .i64 a',.string b',.int .i64 c',.slice ad' n' cc'] 24) (by omega)).grown hg7 (by simp;omega) (fun k e=>by have:=(hlt2 k e).1;omega)
    have hb7':Below (w.heap.size+1) w6 w7:=(BQ w6 (.cells #[.int .i64 a',.string b',.int .i64 c',.slice ad' n' cc'] 24) (.cells #[.int .i64 a',.string b',.int .i64 c',.slice ad' n' cc'] 24) (by omega)).grown hg7 (by simp;omega) (fun k e=>(hlt2 k e).1)
    have hK7:=Kin.more (GK':=gE.then fun k s=>.ok (acc++[k],s)) hk6 hv (by omega) (fun k e=>(hlt2 k e).2) O7 hg7 hor7 (fun ks' s' e=>by
     match gE,e with
     | .ok (k,s2),e=>cases e;exact⟨acc,s,k,_,rfl,rfl,rfl⟩)
    have hst7:A7 (gE.then fun k s=>(.ok (acc++[k],s):Got (List Nd)))=A7 gE:=by
     match gE with
     | .ok (k,s2)=>rfl
     | .error e=>rfl
    refine⟨⟨i+1,n+1,gE.then fun k s=>.ok (acc++[k],s),by simp,by omega,by omega,by rw[hst7];exact hp6.apart hb7,?_,?_,hK7,HLN⟩,by simp[intOf];omega⟩
    ·exact(hb7'.block w.heap.size (by omega)).trans ((HRF.out.grown (A0 Q hb2) (by omega)).grown hg6 (by omega))
    ·exact AG ((HGF.out.trans (A0 Q hb2)).trans hg6) (hb7'.mono (by omega))
def Cg(S:Src9)(st1:St9):Nat->Got (List Nd)
 | 0=>AA st1 fun s=>.ok ([],s)
 | n+1=>(Cg S st1 n).then fun acc s=>(if n=0 then .ok ((),s)else A3 S Al s).then fun _ s=>(AR S s).then fun k s=>.ok (acc++[k],s)
def GH(S:Src9)(kind:Int)(st1:St9)(n:Nat):Got Nd:=(Cg S st1 n).then fun ks s=>(A3 S AC s).then fun _ s=>(A3 S AQ s).then fun _ s=>AD kind [] 0 ks s
def FV(S:Src9)(st1:St9)(n:Nat):St9:=if n=0 then A7 (Cg S st1 n)else A7 (AA (A7 (Cg S st1 n)) (A3 S Al))
theorem RV(S:Src9)(st1:St9)(n:Nat):A7 (Cg S st1 (n+1))=A7 (AA (FV S st1 n) (AR S))/\∀ks' s',Cg S st1 (n+1)=.ok (ks',s')->∃ks s k s2,Cg S st1 n=.ok (ks,s)/\AA (FV S st1 n) (AR S)=.ok (k,s2)/\ks'=ks++[k]:=by
 unfold FV
 rw[Cg]
 cases Cg S st1 n with
 | error e=>
  by_cases h0:n=0
  ·rw[if_pos h0];exact⟨rfl,fun _ _ e=>by cases e⟩
  ·rw[if_neg h0];exact⟨rfl,fun _ _ e=>by cases e⟩
 | ok y=>
  obtain⟨acc,s⟩:=y
  by_cases h0:n=0
  ·simp only[if_pos h0,then_ok,stOf_ok,bindS_ok]
   cases AR S s with
   | error e=>exact⟨rfl,fun _ _ e=>by cases e⟩
   | ok z=>obtain⟨k,s2⟩:=z;exact⟨rfl,fun _ _ e=>by cases e;exact⟨acc,s,k,_,rfl,rfl,rfl⟩⟩
  ·simp only[if_neg h0,then_ok,stOf_ok,bindS_ok]
   cases A3 S Al s with
   | error e=>exact⟨rfl,fun _ _ e=>by cases e⟩
   | ok z=>
    obtain⟨⟨⟩,s1⟩:=z
    simp only[then_ok,stOf_ok,bindS_ok]
    cases AR S s1 with
    | error e=>exact⟨rfl,fun _ _ e=>by cases e⟩
    | ok z=>obtain⟨k,s2⟩:=z;exact⟨rfl,fun _ _ e=>by cases e;exact⟨acc,s,k,_,rfl,rfl,rfl⟩⟩
theorem T4(S:Src9)(kind:Int)(st1:St9)(n:Nat):Jl kind ⟨#[]⟩ (Cg S st1 n) (GH S kind st1 n)/\A7 (GH S kind st1 n)=Cz (A7 (AA (A7 (AA (A7 (Cg S st1 n)) (A3 S AC))) (A3 S AQ))):=by
 unfold GH
 cases Cg S st1 n with
 | error e=>exact⟨Or.inl ⟨_,rfl⟩,rfl⟩
 | ok y=>
  obtain⟨ks,s⟩:=y
  simp only[then_ok,stOf_ok,bindS_ok]
  cases A3 S AC s with
  | error e=>exact⟨Or.inl ⟨_,rfl⟩,rfl⟩
  | ok z=>
   obtain⟨⟨⟩,s1⟩:=z
   simp only[then_ok,stOf_ok,bindS_ok]
   cases A3 S AQ s1 with
   | error e=>exact⟨Or.inl ⟨_,rfl⟩,rfl⟩
   | ok z=>obtain⟨⟨⟩,s2⟩:=z;exact⟨Or.inr ⟨ks,s,_,[],rfl,rfl,rfl⟩,rfl⟩
theorem Ln(S:Src9)(kind:Int)(st:St9):AA st (D0 S kind)=GH S kind (A7 (AA st (A3 S AE))) 1:=by
 unfold GH
 match st with
 | .error e=>rfl
 | .ok s=>
  rw[bindS_ok,D0,bindS_ok]
  cases A3 S AE s with
  | error e=>rfl
  | ok z=>
   obtain⟨⟨⟩,s1⟩:=z
   show _=Got.then (Got.then (AR S s1) _) _
   rw[then_ok]
   cases AR S s1 with
   | error e=>rfl
   | ok z=>rfl
theorem UZ(S:Src9)(kind:Int)(st:St9):AA st (FQ S kind)=GH S kind (A7 (AA st (A3 S AE))) 2:=by
 unfold GH
 match st with
 | .error e=>rfl
 | .ok s=>
  rw[bindS_ok,FQ,bindS_ok]
  cases A3 S AE s with
  | error e=>rfl
  | ok z=>
   obtain⟨⟨⟩,s1⟩:=z
   show _=Got.then (Got.then (Got.then (AR S s1) _) _) _
   rw[then_ok]
   cases AR S s1 with
   | error e=>rfl
   | ok z=>
    obtain⟨k,s2⟩:=z
    show _=Got.then (Got.then (A3 S Al s2) _) _
    rw[then_ok]
    cases A3 S Al s2 with
    | error e=>rfl
    | ok z=>
     obtain⟨⟨⟩,s3⟩:=z
     show _=Got.then (Got.then (AR S s3) _) _
     rw[then_ok]
     cases AR S s3 with
     | error e=>rfl
     | ok z=>rfl
theorem It(Q B:Nat)(v:Value)(S:Src9)(hnf:Au S)(kind:Int)(many:Nat)(hm:many<=1000)(st:St9)(w:World)(hp:Par w Q B v S st) :
  Calls Tryz.prog 137 #[.pointer (some ⟨Q,0,none⟩),.int .i64 kind,.int .i64 many] w fun e w'=>(∃u,e=.returned u/\ValG w' (AZ w.heap.size) u (GH S kind (A7 (AA st (A3 S AE))) many))/\Par w' Q B v S (A7 (GH S kind (A7 (AA st (A3 S AE))) many))/\w.grownBy w' (some Q):=by
 have hRB:=hp.size
 have hqb:=hp.qb
 have HPA:Hid (Par (w.alloc AK) Q B v S st):=hp.below ((Zg _ w).alloc (Z0 _) _)
 have HX:=ZB w
 have hW1:=Bf (Q:=Q) (B:=B) (v:=v) (S:=S) (x:=⟨#[40]⟩) (l:=AE) (by decide) st
 generalize A7 (AA st (A3 S AE))=st1 at *
 have HO:Hid (Jl kind ⟨#[]⟩ (Cg S st1 many) (GH S kind st1 many)/\A7 (GH S kind st1 many)=Cz (A7 (AA (A7 (AA (A7 (Cg S st1 many)) (A3 S AC))) (A3 S AQ)))):=T4 S kind st1 many
 generalize GH S kind st1 many=G at *
 have hW2:=Bf (Q:=Q) (B:=B) (v:=v) (S:=S) (x:=⟨#[41]⟩) (l:=AC) (by decide) (A7 (Cg S st1 many))
 have hW3:=Bf (Q:=Q) (B:=B) (v:=v) (S:=S) (x:=⟨#[59]⟩) (l:=AQ) (by decide) (A7 (AA (A7 (Cg S st1 many)) (A3 S AC)))
 have HK0:Hid (A7 (Cg S st1 0)=st1/\∀ks s,Cg S st1 0=.ok (ks,s)->ks=[]):=by
  show _/\_
  rw[Cg]
  match st1 with
  | .error e=>exact⟨rfl,fun _ _ e=>by cases e⟩
  | .ok s=>exact⟨rfl,fun _ _ e=>by cases e;rfl⟩
 have HXX:Hid (∀st',Ah 136 (AR S) Q B v S st'):=FM Q B v S hnf
 clear hp
 go_enter Tryz.func137,Tryz.ntmps137
 go_wp2_with (first
  | (go_at_call 87;refine(hW1 _ HPA.out).mono ?_;rintro e w1 ⟨rfl,hp1,hg1⟩))
 have HP0:Hid (Par w1 Q B v S (A7 (Cg S st1 0))):=by show Par _ _ _ _ _ _;rw[HK0.out.1];exact hp1
 have HR0:Hid (Box4 w1 w.heap.size (.int .i64 0) (.string ⟨#[]⟩) (.int .i64 0) (.slice none 0 0)):=HX.out.grown hg1 (by omega)
 have HL0:Hid (w.grownBy w1 (some Q)):=(Zf w AK (some Q)).trans hg1
 have HN0:Hid (Kin w1 (w.heap.size+1) (.slice none 0 0) 0 (Cg S st1 0)):=Kin.nil _ _ HK0.out.2
 clear hp1 hg1 hW1
 go_loopw [7,8] (fun s7 s8 wr=>∃(i:Nat),s8=.int .i64 i/\i<=many/\Hid (Par wr Q B v S (A7 (Cg S st1 i)))/\Hid (Box4 wr w.heap.size (.int .i64 0) (.string ⟨#[]⟩) (.int .i64 0) (.slice none 0 0))/\Hid (w.grownBy wr (some Q))/\Hid (Kin wr (w.heap.size+1) s7 i (Cg S st1 i))) (fun _ s8 _=>1002-(intOf s8).toNat)
 case atStart=>exact⟨0,rfl,by omega,HP0,HR0,HL0,HN0⟩
 case round=>
  clear HP0 HR0 HL0 HN0 HK0
  obtain⟨i,rfl,hi,HPF,HRF,HGF,HKF⟩:=hrel
  obtain⟨ad3,m3,c3,hs3⟩:=HKF.out.slice
  subst hs3
  have hszr:=HRF.out.lt
  have hwi:=AN (x:=(i:Int)+1) (by omega) (by omega)
  by_cases him:i=many
  ·subst him
   have him':¬(i:Int)<(i:Int):=by omega
   go_wp2_with (first
    | (go_at_call_of 87 (Value.string ⟨#[41]⟩);refine(hW2 _ HPF.out).mono ?_;rintro e wA ⟨rfl,hpA,hgA⟩)
    | (go_at_call_of 87 (Value.string ⟨#[59]⟩);refine(hW3 _ hpA).mono ?_;rintro e wC ⟨rfl,hpC,hgC⟩;have hgAC:=hgA.trans hgC)
    | (go_at_call 89;refine(At Q B _ S _ _ _ _ ⟨_,_,_,rfl⟩ _ hpC).mono ?_;rintro e wB ⟨rfl,hpB,hgB⟩;have hgAB:=hgAC.trans hgB;obtain⟨⟨x0,x1,x2,x3⟩,f0,f1,f2,f3⟩:=(HRF.out.grown hgAB (by omega)).facts))
   have hgw:w.grownBy wB (some Q):=HGF.out.trans hgAB
   refine bodyPost_ret (v:=.agg #[.int .i64 kind,.string ⟨#[]⟩,.int .i64 0,.slice ad3 m3 c3]) (by simp[results,Tryz.results137,go_sem,x0,x1,x2,x3]) rfl ⟨⟨_,rfl,?_⟩,by rw[HO.out.2];exact Ap hpB hRB _ _ _ _,AG hgw (AX (Z0 _) _ _ _ _)⟩
   exact(GL HO.out.1 HKF.out ((Zh hgAB (fun k e=>by injection e with e;show ¬w.heap.size+1<=k;omega)).trans (Af (R:=w.heap.size) (by show ¬w.heap.size+1<=w.heap.size;omega) _ _ _ _))).mono (fun k hk _=>by have hk':w.heap.size+1<=k:=hk;show w.heap.size<=k;omega)
  ·have him':(i:Int)<(many:Int):=by omega
   have HNX:Hid (A7 (Cg S st1 (i+1))=A7 (AA (FV S st1 i) (AR S))/\∀ks' s',Cg S st1 (i+1)=.ok (ks',s')->∃ks s k s2,Cg S st1 i=.ok (ks,s)/\AA (FV S st1 i) (AR S)=.ok (k,s2)/\ks'=ks++[k]):=RV S st1 i
   have hst:=HXX.out (FV S st1 i)
   unfold Ah at hst
   by_cases h0:i=0
   ·have h0':¬(0:Int)<(i:Int):=by omega
    have HPS:Hid (Par wr Q B v S (FV S st1 i)):=by show Par _ _ _ _ _ _;rw[FV,if_pos h0];exact HPF.out
    clear h0
    generalize AA (FV S st1 i) (AR S)=gE at *
    generalize FV S st1 i=stc at *
    clear HO hW2 hW3 HXX
    go_wp2_with (first
     | (go_at_call 136;refine(hst _ HPS.out).mono ?_;rintro e w6 ⟨⟨u,rfl,hv⟩,hp6,hg6⟩;obtain⟨a',b',c',ad',n',cc',hu'⟩:=hv.any;subst hu';have hlt2:∀k,Value.ownBlock (.slice ad3 m3 c3)=some k->w.heap.size+1<=k/\k<wr.heap.size:=(by obtain⟨_,O2,_⟩:=HKF.out;exact O2.lt);obtain⟨xs,O6,hk6⟩:=HKF.out.grown hg6 (by omega);have hsz6:=hg6.size)
     | (at_builtin;refine AO CC rfl (.tmp 23) (.tmp 25) rfl (w.heap.size+1) i 1 (.slice ad3 m3 c3) xs [.int .i64 a',.string b',.int .i64 c',.slice ad' n' cc'] rfl ((O6.alloc (.cells #[.int .i64 a',.string b',.int .i64 c',.slice ad' n' cc'] 24)).alloc (.cells #[.int .i64 a',.string b',.int .i64 c',.slice ad' n' cc'] 24)) ⟨w6.heap.size+1,0,none⟩ rfl rfl (DH _ _ _ _ _ _ _) (CL _ _ _ _ _ _) (by omega) (by simp;omega) ?_;intro g' cap' w7 O7 hg7 hor7))
    have hb7:Below B w6 w7:=(BQ w6 (.cells #[.int .i64 a',.string b',.int .i64 c',.slice ad' n' cc'] 24) (.cells #[.int .i64 a',.string b',.int .i64 c',.slice ad' n' cc'] 24) (by omega)).grown hg7 (by simp;omega) (fun k e=>by have:=(hlt2 k e).1;omega)
    have hb7':Below (w.heap.size+1) w6 w7:=(BQ w6 (.cells #[.int .i64 a',.string b',.int .i64 c',.slice ad' n' cc'] 24) (.cells #[.int .i64 a',.string b',.int .i64 c',.slice ad' n' cc'] 24) (by omega)).grown hg7 (by simp;omega) (fun k e=>(hlt2 k e).1)
    have hK7:=Kin.more (GK':=Cg S st1 (i+1)) hk6 hv (by omega) (fun k e=>(hlt2 k e).2) O7 hg7 hor7 HNX.out.2
    refine⟨⟨i+1,by simp,by omega,by rw[HNX.out.1];exact hp6.apart hb7,?_,?_,hK7⟩,by simp[intOf];omega⟩
    ·exact(hb7'.block w.heap.size (by omega)).trans (HRF.out.grown hg6 (by omega))
    ·exact AG (HGF.out.trans hg6) (hb7'.mono (by omega))
   ·have h0':(0:Int)<(i:Int):=by omega
    have hWC:=Bf (Q:=Q) (B:=B) (v:=v) (S:=S) (x:=⟨#[44]⟩) (l:=Al) (by decide) (A7 (Cg S st1 i))
    have hss:FV S st1 i=A7 (AA (A7 (Cg S st1 i)) (A3 S Al)):=by rw[FV,if_neg h0]
    rw[<-hss]at hWC
    clear hss
    generalize AA (FV S st1 i) (AR S)=gE at *
    generalize FV S st1 i=stc at *
    clear HO hW2 hW3 HXX
    go_wp2_with (first
     | (go_at_call 87;refine(hWC _ HPF.out).mono ?_;rintro e w2 ⟨rfl,hp2,hg2⟩;have hsz2:=hg2.size)
     | (go_at_call 136;refine(hst _ hp2).mono ?_;rintro e w6 ⟨⟨u,rfl,hv⟩,hp6,hgy⟩;have hg6:=hg2.trans hgy;obtain⟨a',b',c',ad',n',cc',hu'⟩:=hv.any;subst hu';have hlt2:∀k,Value.ownBlock (.slice ad3 m3 c3)=some k->w.heap.size+1<=k/\k<wr.heap.size:=(by obtain⟨_,O2,_⟩:=HKF.out;exact O2.lt);obtain⟨xs,O6,hk6⟩:=HKF.out.grown hg6 (by omega);have hsz6:=hg6.size)
     | (at_builtin;refine AO CC rfl (.tmp 23) (.tmp 25) rfl (w.heap.size+1) i 1 (.slice ad3 m3 c3) xs [.int .i64 a',.string b',.int .i64 c',.slice ad' n' cc'] rfl ((O6.alloc (.cells #[.int .i64 a',.string b',.int .i64 c',.slice ad' n' cc'] 24)).alloc (.cells #[.int .i64 a',.string b',.int .i64 c',.slice ad' n' cc'] 24)) ⟨w6.heap.size+1,0,none⟩ rfl rfl (DH _ _ _ _ _ _ _) (CL _ _ _ _ _ _) (by omega) (by simp;omega) ?_;intro g' cap' w7 O7 hg7 hor7))
    have hb7:Below B w6 w7:=(BQ w6 (.cells #[.int .i64 a',.string b',.int .i64 c',.slice ad' n' cc'] 24) (.cells #[.int .i64 a',.string b',.int .i64 c',.slice ad' n' cc'] 24) (by omega)).grown hg7 (by simp;omega) (fun k e=>by have:=(hlt2 k e).1;omega)
    have hb7':Below (w.heap.size+1) w6 w7:=(BQ w6 (.cells #[.int .i64 a',.string b',.int .i64 c',.slice ad' n' cc'] 24) (.cells #[.int .i64 a',.string b',.int .i64 c',.slice ad' n' cc'] 24) (by omega)).grown hg7 (by simp;omega) (fun k e=>(hlt2 k e).1)
    have hK7:=Kin.more (GK':=Cg S st1 (i+1)) hk6 hv (by omega) (fun k e=>by have:=(hlt2 k e).2;omega) O7 hg7 hor7 HNX.out.2
    refine⟨⟨i+1,by simp,by omega,by rw[HNX.out.1];exact hp6.apart hb7,?_,?_,hK7⟩,by simp[intOf];omega⟩
    ·exact(hb7'.block w.heap.size (by omega)).trans (HRF.out.grown hg6 (by omega))
    ·exact AG (HGF.out.trans hg6) (hb7'.mono (by omega))
structure At9(w wx:World)(Q B:Nat)(v:Value)(S:Src9)(st:St9):Prop where
 par:Par wx Q B v S st
 gr:(w.alloc AK).grownBy wx (some Q)
structure B1(S:Src9)(st:St9)(x:ByteArray):Prop where
 ex:∃l,A2 x=l/\Aa S l st=false
theorem At9.first{w:World}{Q B:Nat}{v:Value}{S:Src9}{st:St9}(hp:Par w Q B v S st):Hid (At9 w (w.alloc AK) Q B v S st):=⟨hp.below ((Zg _ w).alloc (Z0 _) _),Ge _ _⟩
theorem At9.no{w:World}{Q B:Nat}{v:Value}{S:Src9}{st:St9}(x:ByteArray)(hx:B1 S st x)(wx:World)(h:At9 w wx Q B v S st):Calls Tryz.prog 134 #[.pointer (some ⟨Q,0,none⟩),.string x] wx fun e w'=>e=.returned (.bool false)/\Hid (At9 w w' Q B v S st):=by
 obtain⟨l,e,hs⟩:=hx.ex
 exact(D6 e hs wx h.par).mono fun e' w' h'=>⟨h'.1,h'.2.1,h.gr.trans h'.2.2⟩
theorem T5(Q B:Nat)(v:Value)(S:Src9)(hnf:Au S)(s:PS)(b0:A1 S BD s=true)(w:World)(hp:Par w Q B v S (.ok s)):Calls Tryz.prog 112 #[.pointer (some ⟨Q,0,none⟩)] w fun e w'=>(∃u,e=.returned u/\ValG w' (AZ w.heap.size) u (Cy S 7 s.step))/\Par w' Q B v S (A7 (Cy S 7 s.step))/\w.grownBy w' (some Q):=by
 have hRB:=hp.size
 have hqb:=hp.qb
 have HS:=At9.first hp
 have HX:=ZB w
 have hB0:=CX (Q:=Q) (B:=B) (v:=v) (S:=S) (s:=s) (x:=⟨#[118,97,114]⟩) (l:=BD) (by decide) b0
 clear b0 hp
 have hc:∀w',Par w' Q B v S (.ok s.step)->Calls Tryz.prog 135 #[.pointer (some ⟨Q,0,none⟩),.int .i64 7] w' fun e w''=>(∃u,e=.returned u/\ValG w'' (AZ w'.heap.size) u (Cy S 7 s.step))/\Par w'' Q B v S (A7 (Cy S 7 s.step))/\w'.grownBy w'' (some Q):=fun w' h'=>Nm Q B v S hnf 7 (.ok s.step) w' h'
 generalize (Cy S 7 s.step)=G at *
 go_enter Tryz.func112,Tryz.ntmps112
 go_wp2_with (first
  | (go_at_call_of 134 (Value.string ⟨#[118,97,114]⟩);refine(hB0 _ HS.out.par).mono ?_;rintro e w1 ⟨rfl,hp1,hgx⟩;have hg1:(w.alloc AK).grownBy w1 (some Q):=HS.out.gr.trans hgx;clear hB0 hgx)
  | (go_at_call 135;refine(hc _ hp1).mono ?_;rintro e wE ⟨⟨u,rfl,hv⟩,hpE,hgE⟩;obtain⟨a,b,c,ad,n,cc,hu'⟩:=hv.any;subst hu';have hgF:=hg1.trans hgE;obtain⟨⟨q0,q1,q2,q3⟩,_⟩:=(HX.out.grown hgF (by omega)).facts;obtain⟨_,s0,s1,s2,s3⟩:=(HX.out.grown hgF (by omega)).facts))
 have hgw:w.grownBy wE (some Q):=(Zf w AK (some Q)).trans hgF
 have sz:w.heap.size<w1.heap.size:=by have:=hg1.size;simp at this;omega
 refine bodyPost_ret (v:=.agg #[.int .i64 a,.string b,.int .i64 c,.slice ad n cc]) (by simp[results,Tryz.results112,go_sem,q0,q1,q2,q3]) rfl ⟨⟨_,rfl,?_⟩,Ap hpE hRB _ _ _ _,AG hgw (AX (Z0 _) _ _ _ _)⟩
 exact(hv.above (Af (R:=w.heap.size) (by show ¬w1.heap.size<=w.heap.size;omega) _ _ _ _)).mono (fun k hk _=>by have hk':w1.heap.size<=k:=hk;show w.heap.size<=k;omega)
theorem Q3(Q B:Nat)(v:Value)(S:Src9)(hnf:Au S)(s:PS)(b0:A1 S BD s=false)(b1:A1 S wIf s=false)(b2:A1 S B4 s=false)(b3:A1 S B3 s=false)(b4:A1 S BH s=true)(w:World)(hp:Par w Q B v S (.ok s)):Calls Tryz.prog 112 #[.pointer (some ⟨Q,0,none⟩)] w fun e w'=>(∃u,e=.returned u/\ValG w' (AZ w.heap.size) u (D0 S 12 s.step))/\Par w' Q B v S (A7 (D0 S 12 s.step))/\w.grownBy w' (some Q):=by
 have hRB:=hp.size
 have hqb:=hp.qb
 have HS:=At9.first hp
 have HX:=ZB w
 have t0:B1 S (.ok s) ⟨#[118,97,114]⟩:=⟨⟨BD,by decide,b0⟩⟩
 have t1:B1 S (.ok s) ⟨#[105,102]⟩:=⟨⟨wIf,by decide,b1⟩⟩
 have t2:B1 S (.ok s) ⟨#[119,104,105,108,101]⟩:=⟨⟨B4,by decide,b2⟩⟩
 have t3:B1 S (.ok s) ⟨#[114,101,116,117,114,110]⟩:=⟨⟨B3,by decide,b3⟩⟩
 have hno:=At9.no (w:=w) (Q:=Q) (B:=B) (v:=v) (S:=S) (st:=.ok s)
 have hB4:=CX (Q:=Q) (B:=B) (v:=v) (S:=S) (s:=s) (x:=⟨#[112,114,105,110,116]⟩) (l:=BH) (by decide) b4
 clear b0 b1 b2 b3 b4 hp
 have hc:∀w',Par w' Q B v S (.ok s.step)->Calls Tryz.prog 137 #[.pointer (some ⟨Q,0,none⟩),.int .i64 12,.int .i64 1] w' fun e w''=>(∃u,e=.returned u/\ValG w'' (AZ w'.heap.size) u (D0 S 12 s.step))/\Par w'' Q B v S (A7 (D0 S 12 s.step))/\w'.grownBy w'' (some Q):=fun w' h'=>by
  have:=It Q B v S hnf 12 1 (by decide) (.ok s.step) w' h'
  rw[<-Ln,bindS_ok]at this
  exact this
 generalize (D0 S 12 s.step)=G at *
 go_enter Tryz.func112,Tryz.ntmps112
 go_wp2_with (first
  | (go_at_call_of 134 (Value.string ⟨#[112,114,105,110,116]⟩);refine(hB4 _ HS.out.par).mono ?_;rintro e w5 ⟨rfl,hp5,hgx⟩;have hg5:(w.alloc AK).grownBy w5 (some Q):=HS.out.gr.trans hgx;clear hB4 hgx)
  | (go_at_call 134;refine(hno _ (by first | exact t0 | exact t1 | exact t2 | exact t3) _ HS.out).mono ?_;clear HS;rintro e wx ⟨rfl,HS⟩)
  | (go_at_call 137;refine(hc _ hp5).mono ?_;rintro e wE ⟨⟨u,rfl,hv⟩,hpE,hgE⟩;obtain⟨a,b,c,ad,n,cc,hu'⟩:=hv.any;subst hu';have hgF:=hg5.trans hgE;obtain⟨⟨q0,q1,q2,q3⟩,_⟩:=(HX.out.grown hgF (by omega)).facts;obtain⟨_,s0,s1,s2,s3⟩:=(HX.out.grown hgF (by omega)).facts))
 have hgw:w.grownBy wE (some Q):=(Zf w AK (some Q)).trans hgF
 have sz:w.heap.size<w5.heap.size:=by have:=hg5.size;simp at this;omega
 refine bodyPost_ret (v:=.agg #[.int .i64 a,.string b,.int .i64 c,.slice ad n cc]) (by simp[results,Tryz.results112,go_sem,q0,q1,q2,q3]) rfl ⟨⟨_,rfl,?_⟩,Ap hpE hRB _ _ _ _,AG hgw (AX (Z0 _) _ _ _ _)⟩
 exact(hv.above (Af (R:=w.heap.size) (by show ¬w5.heap.size<=w.heap.size;omega) _ _ _ _)).mono (fun k hk _=>by have hk':w5.heap.size<=k:=hk;show w.heap.size<=k;omega)
theorem RW(Q B:Nat)(v:Value)(S:Src9)(hnf:Au S)(s:PS)(b0:A1 S BD s=false)(b1:A1 S wIf s=false)(b2:A1 S B4 s=false)(b3:A1 S B3 s=false)(b4:A1 S BH s=false)(b5:A1 S CN s=false)(b6:A1 S Cm s=true)(w:World)(hp:Par w Q B v S (.ok s)):Calls Tryz.prog 112 #[.pointer (some ⟨Q,0,none⟩)] w fun e w'=>(∃u,e=.returned u/\ValG w' (AZ w.heap.size) u (D0 S 14 s.step))/\Par w' Q B v S (A7 (D0 S 14 s.step))/\w.grownBy w' (some Q):=by
 have hRB:=hp.size
 have hqb:=hp.qb
 have HS:=At9.first hp
 have HX:=ZB w
 have t0:B1 S (.ok s) ⟨#[118,97,114]⟩:=⟨⟨BD,by decide,b0⟩⟩
 have t1:B1 S (.ok s) ⟨#[105,102]⟩:=⟨⟨wIf,by decide,b1⟩⟩
 have t2:B1 S (.ok s) ⟨#[119,104,105,108,101]⟩:=⟨⟨B4,by decide,b2⟩⟩
 have t3:B1 S (.ok s) ⟨#[114,101,116,117,114,110]⟩:=⟨⟨B3,by decide,b3⟩⟩
 have t4:B1 S (.ok s) ⟨#[112,114,105,110,116]⟩:=⟨⟨BH,by decide,b4⟩⟩
 have t5:B1 S (.ok s) ⟨#[102,111,114,107]⟩:=⟨⟨CN,by decide,b5⟩⟩
 have hno:=At9.no (w:=w) (Q:=Q) (B:=B) (v:=v) (S:=S) (st:=.ok s)
 have hB6:=CX (Q:=Q) (B:=B) (v:=v) (S:=S) (s:=s) (x:=⟨#[119,97,105,116]⟩) (l:=Cm) (by decide) b6
 clear b0 b1 b2 b3 b4 b5 b6 hp
 have hc:∀w',Par w' Q B v S (.ok s.step)->Calls Tryz.prog 137 #[.pointer (some ⟨Q,0,none⟩),.int .i64 14,.int .i64 1] w' fun e w''=>(∃u,e=.returned u/\ValG w'' (AZ w'.heap.size) u (D0 S 14 s.step))/\Par w'' Q B v S (A7 (D0 S 14 s.step))/\w'.grownBy w'' (some Q):=fun w' h'=>by
  have:=It Q B v S hnf 14 1 (by decide) (.ok s.step) w' h'
  rw[<-Ln,bindS_ok]at this
  exact this
 generalize (D0 S 14 s.step)=G at *
 go_enter Tryz.func112,Tryz.ntmps112
 go_wp2_with (first
  | (go_at_call_of 134 (Value.string ⟨#[119,97,105,116]⟩);refine(hB6 _ HS.out.par).mono ?_;rintro e w7 ⟨rfl,hp7,hgx⟩;have hg7:(w.alloc AK).grownBy w7 (some Q):=HS.out.gr.trans hgx;clear hB6 hgx)
  | (go_at_call 134;refine(hno _ (by first | exact t0 | exact t1 | exact t2 | exact t3 | exact t4 | exact t5) _ HS.out).mono ?_;clear HS;rintro e wx ⟨rfl,HS⟩)
  | (go_at_call 137;refine(hc _ hp7).mono ?_;rintro e wE ⟨⟨u,rfl,hv⟩,hpE,hgE⟩;obtain⟨a,b,c,ad,n,cc,hu'⟩:=hv.any;subst hu';have hgF:=hg7.trans hgE;obtain⟨⟨q0,q1,q2,q3⟩,_⟩:=(HX.out.grown hgF (by omega)).facts;obtain⟨_,s0,s1,s2,s3⟩:=(HX.out.grown hgF (by omega)).facts))
 have hgw:w.grownBy wE (some Q):=(Zf w AK (some Q)).trans hgF
 have sz:w.heap.size<w7.heap.size:=by have:=hg7.size;simp at this;omega
 refine bodyPost_ret (v:=.agg #[.int .i64 a,.string b,.int .i64 c,.slice ad n cc]) (by simp[results,Tryz.results112,go_sem,q0,q1,q2,q3]) rfl ⟨⟨_,rfl,?_⟩,Ap hpE hRB _ _ _ _,AG hgw (AX (Z0 _) _ _ _ _)⟩
 exact(hv.above (Af (R:=w.heap.size) (by show ¬w7.heap.size<=w.heap.size;omega) _ _ _ _)).mono (fun k hk _=>by have hk':w7.heap.size<=k:=hk;show w.heap.size<=k;omega)
theorem PH(Q B:Nat)(v:Value)(S:Src9)(hnf:Au S)(s:PS)(b0:A1 S BD s=false)(b1:A1 S wIf s=false)(b2:A1 S B4 s=false)(b3:A1 S B3 s=false)(b4:A1 S BH s=false)(b5:A1 S CN s=false)(b6:A1 S Cm s=false)(b7:A1 S Bw s=true)(w:World)(hp:Par w Q B v S (.ok s)):Calls Tryz.prog 112 #[.pointer (some ⟨Q,0,none⟩)] w fun e w'=>(∃u,e=.returned u/\ValG w' (AZ w.heap.size) u (D0 S 15 s.step))/\Par w' Q B v S (A7 (D0 S 15 s.step))/\w.grownBy w' (some Q):=by
 have hRB:=hp.size
 have hqb:=hp.qb
 have HS:=At9.first hp
 have HX:=ZB w
 have t0:B1 S (.ok s) ⟨#[118,97,114]⟩:=⟨⟨BD,by decide,b0⟩⟩
 have t1:B1 S (.ok s) ⟨#[105,102]⟩:=⟨⟨wIf,by decide,b1⟩⟩
 have t2:B1 S (.ok s) ⟨#[119,104,105,108,101]⟩:=⟨⟨B4,by decide,b2⟩⟩
 have t3:B1 S (.ok s) ⟨#[114,101,116,117,114,110]⟩:=⟨⟨B3,by decide,b3⟩⟩
 have t4:B1 S (.ok s) ⟨#[112,114,105,110,116]⟩:=⟨⟨BH,by decide,b4⟩⟩
 have t5:B1 S (.ok s) ⟨#[102,111,114,107]⟩:=⟨⟨CN,by decide,b5⟩⟩
 have t6:B1 S (.ok s) ⟨#[119,97,105,116]⟩:=⟨⟨Cm,by decide,b6⟩⟩
 have hno:=At9.no (w:=w) (Q:=Q) (B:=B) (v:=v) (S:=S) (st:=.ok s)
 have hB7:=CX (Q:=Q) (B:=B) (v:=v) (S:=S) (s:=s) (x:=⟨#[115,105,103,110,97,108]⟩) (l:=Bw) (by decide) b7
 clear b0 b1 b2 b3 b4 b5 b6 b7 hp
 have hc:∀w',Par w' Q B v S (.ok s.step)->Calls Tryz.prog 137 #[.pointer (some ⟨Q,0,none⟩),.int .i64 15,.int .i64 1] w' fun e w''=>(∃u,e=.returned u/\ValG w'' (AZ w'.heap.size) u (D0 S 15 s.step))/\Par w'' Q B v S (A7 (D0 S 15 s.step))/\w'.grownBy w'' (some Q):=fun w' h'=>by
  have:=It Q B v S hnf 15 1 (by decide) (.ok s.step) w' h'
  rw[<-Ln,bindS_ok]at this
  exact this
 generalize (D0 S 15 s.step)=G at *
 go_enter Tryz.func112,Tryz.ntmps112
 go_wp2_with (first
  | (go_at_call_of 134 (Value.string ⟨#[115,105,103,110,97,108]⟩);refine(hB7 _ HS.out.par).mono ?_;rintro e w8 ⟨rfl,hp8,hgx⟩;have hg8:(w.alloc AK).grownBy w8 (some Q):=HS.out.gr.trans hgx;clear hB7 hgx)
  | (go_at_call 134;refine(hno _ (by first | exact t0 | exact t1 | exact t2 | exact t3 | exact t4 | exact t5 | exact t6) _ HS.out).mono ?_;clear HS;rintro e wx ⟨rfl,HS⟩)
  | (go_at_call 137;refine(hc _ hp8).mono ?_;rintro e wE ⟨⟨u,rfl,hv⟩,hpE,hgE⟩;obtain⟨a,b,c,ad,n,cc,hu'⟩:=hv.any;subst hu';have hgF:=hg8.trans hgE;obtain⟨⟨q0,q1,q2,q3⟩,_⟩:=(HX.out.grown hgF (by omega)).facts;obtain⟨_,s0,s1,s2,s3⟩:=(HX.out.grown hgF (by omega)).facts))
 have hgw:w.grownBy wE (some Q):=(Zf w AK (some Q)).trans hgF
 have sz:w.heap.size<w8.heap.size:=by have:=hg8.size;simp at this;omega
 refine bodyPost_ret (v:=.agg #[.int .i64 a,.string b,.int .i64 c,.slice ad n cc]) (by simp[results,Tryz.results112,go_sem,q0,q1,q2,q3]) rfl ⟨⟨_,rfl,?_⟩,Ap hpE hRB _ _ _ _,AG hgw (AX (Z0 _) _ _ _ _)⟩
 exact(hv.above (Af (R:=w.heap.size) (by show ¬w8.heap.size<=w.heap.size;omega) _ _ _ _)).mono (fun k hk _=>by have hk':w8.heap.size<=k:=hk;show w.heap.size<=k;omega)
theorem RY(Q B:Nat)(v:Value)(S:Src9)(hnf:Au S)(s:PS)(b0:A1 S BD s=false)(b1:A1 S wIf s=false)(b2:A1 S B4 s=false)(b3:A1 S B3 s=false)(b4:A1 S BH s=false)(b5:A1 S CN s=false)(b6:A1 S Cm s=false)(b7:A1 S Bw s=false)(b8:A1 S Dt s=true)(w:World)(hp:Par w Q B v S (.ok s)):Calls Tryz.prog 112 #[.pointer (some ⟨Q,0,none⟩)] w fun e w'=>(∃u,e=.returned u/\ValG w' (AZ w.heap.size) u (FQ S 16 s.step))/\Par w' Q B v S (A7 (FQ S 16 s.step))/\w.grownBy w' (some Q):=by
 have hRB:=hp.size
 have hqb:=hp.qb
 have HS:=At9.first hp
 have HX:=ZB w
 have t0:B1 S (.ok s) ⟨#[118,97,114]⟩:=⟨⟨BD,by decide,b0⟩⟩
 have t1:B1 S (.ok s) ⟨#[105,102]⟩:=⟨⟨wIf,by decide,b1⟩⟩
 have t2:B1 S (.ok s) ⟨#[119,104,105,108,101]⟩:=⟨⟨B4,by decide,b2⟩⟩
 have t3:B1 S (.ok s) ⟨#[114,101,116,117,114,110]⟩:=⟨⟨B3,by decide,b3⟩⟩
 have t4:B1 S (.ok s) ⟨#[112,114,105,110,116]⟩:=⟨⟨BH,by decide,b4⟩⟩
 have t5:B1 S (.ok s) ⟨#[102,111,114,107]⟩:=⟨⟨CN,by decide,b5⟩⟩
 have t6:B1 S (.ok s) ⟨#[119,97,105,116]⟩:=⟨⟨Cm,by decide,b6⟩⟩
 have t7:B1 S (.ok s) ⟨#[115,105,103,110,97,108]⟩:=⟨⟨Bw,by decide,b7⟩⟩
 have hno:=At9.no (w:=w) (Q:=Q) (B:=B) (v:=v) (S:=S) (st:=.ok s)
 have hB8:=CX (Q:=Q) (B:=B) (v:=v) (S:=S) (s:=s) (x:=⟨#[115,119,97,112]⟩) (l:=Dt) (by decide) b8
 clear b0 b1 b2 b3 b4 b5 b6 b7 b8 hp
 have hc:∀w',Par w' Q B v S (.ok s.step)->Calls Tryz.prog 137 #[.pointer (some ⟨Q,0,none⟩),.int .i64 16,.int .i64 2] w' fun e w''=>(∃u,e=.returned u/\ValG w'' (AZ w'.heap.size) u (FQ S 16 s.step))/\Par w'' Q B v S (A7 (FQ S 16 s.step))/\w'.grownBy w'' (some Q):=fun w' h'=>by
  have:=It Q B v S hnf 16 2 (by decide) (.ok s.step) w' h'
  rw[<-UZ,bindS_ok]at this
  exact this
 generalize (FQ S 16 s.step)=G at *
 go_enter Tryz.func112,Tryz.ntmps112
 go_wp2_with (first
  | (go_at_call_of 134 (Value.string ⟨#[115,119,97,112]⟩);refine(hB8 _ HS.out.par).mono ?_;rintro e w9 ⟨rfl,hp9,hgx⟩;have hg9:(w.alloc AK).grownBy w9 (some Q):=HS.out.gr.trans hgx;clear hB8 hgx)
  | (go_at_call 134;refine(hno _ (by first | exact t0 | exact t1 | exact t2 | exact t3 | exact t4 | exact t5 | exact t6 | exact t7) _ HS.out).mono ?_;clear HS;rintro e wx ⟨rfl,HS⟩)
  | (go_at_call 137;refine(hc _ hp9).mono ?_;rintro e wE ⟨⟨u,rfl,hv⟩,hpE,hgE⟩;obtain⟨a,b,c,ad,n,cc,hu'⟩:=hv.any;subst hu';have hgF:=hg9.trans hgE;obtain⟨⟨q0,q1,q2,q3⟩,_⟩:=(HX.out.grown hgF (by omega)).facts;obtain⟨_,s0,s1,s2,s3⟩:=(HX.out.grown hgF (by omega)).facts))
 have hgw:w.grownBy wE (some Q):=(Zf w AK (some Q)).trans hgF
 have sz:w.heap.size<w9.heap.size:=by have:=hg9.size;simp at this;omega
 refine bodyPost_ret (v:=.agg #[.int .i64 a,.string b,.int .i64 c,.slice ad n cc]) (by simp[results,Tryz.results112,go_sem,q0,q1,q2,q3]) rfl ⟨⟨_,rfl,?_⟩,Ap hpE hRB _ _ _ _,AG hgw (AX (Z0 _) _ _ _ _)⟩
 exact(hv.above (Af (R:=w.heap.size) (by show ¬w9.heap.size<=w.heap.size;omega) _ _ _ _)).mono (fun k hk _=>by have hk':w9.heap.size<=k:=hk;show w.heap.size<=k;omega)
theorem Jm(S:Src9)(kind:Int)(gE:Got Nd):PG kind ⟨#[]⟩ gE (gE.then fun k s=>(A3 S AQ s).then fun _ s=>AD kind [] 0 [k] s)/\A7 (gE.then fun k s=>(A3 S AQ s).then fun _ s=>AD kind [] 0 [k] s)=Cz (A7 (AA (A7 gE) (A3 S AQ))):=by
 match gE with
 | .error e=>exact⟨Or.inl ⟨_,rfl⟩,rfl⟩
 | .ok (k,s)=>
  simp only[then_ok,stOf_ok,bindS_ok]
  cases A3 S AQ s with
  | error e=>exact⟨Or.inl ⟨_,rfl⟩,rfl⟩
  | ok z=>obtain⟨⟨⟩,s1⟩:=z;exact⟨Or.inr ⟨k,s,_,[],rfl,rfl,rfl⟩,rfl⟩
theorem PI(kind:Int)(gE:Got Nd):PG kind ⟨#[]⟩ gE (gE.then fun k s=>AD kind [] 0 [k] s)/\A7 (gE.then fun k s=>AD kind [] 0 [k] s)=Cz (A7 gE):=by
 match gE with
 | .error e=>exact⟨Or.inl ⟨_,rfl⟩,rfl⟩
 | .ok (k,s)=>exact⟨Or.inr ⟨k,s,_,[],rfl,rfl,rfl⟩,rfl⟩
theorem PJ(Q B:Nat)(v:Value)(S:Src9)(hnf:Au S)(s:PS)(b0:A1 S BD s=false)(b1:A1 S wIf s=false)(b2:A1 S B4 s=false)(b3:A1 S B3 s=true)(w:World)(hp:Par w Q B v S (.ok s)):Calls Tryz.prog 112 #[.pointer (some ⟨Q,0,none⟩)] w fun e w'=>(∃u,e=.returned u/\ValG w' (AZ w.heap.size) u ((AR S s.step).then fun k s=>(A3 S AQ s).then fun _ s=>AD 11 [] 0 [k] s))/\Par w' Q B v S (A7 ((AR S s.step).then fun k s=>(A3 S AQ s).then fun _ s=>AD 11 [] 0 [k] s))/\w.grownBy w' (some Q):=by
 have hRB:=hp.size
 have hqb:=hp.qb
 have HS:=At9.first hp
 have HX:=ZB w
 have t0:B1 S (.ok s) ⟨#[118,97,114]⟩:=⟨⟨BD,by decide,b0⟩⟩
 have t1:B1 S (.ok s) ⟨#[105,102]⟩:=⟨⟨wIf,by decide,b1⟩⟩
 have t2:B1 S (.ok s) ⟨#[119,104,105,108,101]⟩:=⟨⟨B4,by decide,b2⟩⟩
 have hno:=At9.no (w:=w) (Q:=Q) (B:=B) (v:=v) (S:=S) (st:=.ok s)
 have hB3:=CX (Q:=Q) (B:=B) (v:=v) (S:=S) (s:=s) (x:=⟨#[114,101,116,117,114,110]⟩) (l:=B3) (by decide) b3
 clear b0 b1 b2 b3 hp
 have hxx:=FM Q B v S hnf (.ok s.step)
 unfold Ah at hxx
 rw[bindS_ok]at hxx
 generalize AR S s.step=gE at *
 have hW2:=Bf (Q:=Q) (B:=B) (v:=v) (S:=S) (x:=⟨#[59]⟩) (l:=AQ) (by decide) (A7 gE)
 have HO:Hid (_/\_):=Jm S 11 gE
 generalize (gE.then fun k s=>(A3 S AQ s).then fun _ s=>AD 11 [] 0 [k] s)=G at *
 go_enter Tryz.func112,Tryz.ntmps112
 go_wp2_with (first
  | (go_at_call_of 134 (Value.string ⟨#[114,101,116,117,114,110]⟩);refine(hB3 _ HS.out.par).mono ?_;rintro e w4 ⟨rfl,hp4,hgx⟩;have hg4:(w.alloc AK).grownBy w4 (some Q):=HS.out.gr.trans hgx;clear hB3 hgx)
  | (go_at_call 134;refine(hno _ (by first | exact t0 | exact t1 | exact t2) _ HS.out).mono ?_;clear HS;rintro e wx ⟨rfl,HS⟩)
  | (go_at_call 136;refine(hxx _ hp4).mono ?_;rintro e wE ⟨⟨u,rfl,hv⟩,hpE,hgE⟩;obtain⟨a,b,c,ad,n,cc,hu'⟩:=hv.any;subst hu';have hg8:=hg4.trans hgE;have hpEa:=hpE.below ((Zg _ _).alloc (Z0 _) (.cells #[.int .i64 a,.string b,.int .i64 c,.slice ad n cc] 24)))
  | (go_at_call_of 87 (Value.string ⟨#[59]⟩);refine(hW2 _ hpEa).mono ?_;rintro e wL ⟨rfl,hpL,hgz⟩;have hsz:w.heap.size<wE.heap.size:=(by have:=hg8.size;simp at this;omega);obtain⟨⟨p0,p1,p2,p3⟩,_⟩:=((Box4.new wE (.int .i64 a) (.string b) (.int .i64 c) (.slice ad n cc)).grown hgz (by omega)).facts;have hpLa:=hpL.below ((Zg _ _).alloc (Z0 _) (.cells #[.int .i64 a,.string b,.int .i64 c,.slice ad n cc] 24));have hXL:=((HX.out.grown hg8 (by omega)).alloc (.cells #[.int .i64 a,.string b,.int .i64 c,.slice ad n cc] 24)).grown hgz (by omega))
  | (go_at_call 89;refine(At Q B _ S _ _ _ _ ⟨_,_,_,rfl⟩ _ hpLa).mono ?_;rintro e wN ⟨rfl,hpN,hgN⟩;have hXN:=(hXL.alloc (.cells #[.int .i64 a,.string b,.int .i64 c,.slice ad n cc] 24)).grown hgN (by omega);obtain⟨⟨q0,q1,q2,q3⟩,s0,s1',s2,s3⟩:=hXN.facts))
 have hgP:=hg4
 have hgL:(w.alloc AK).grownBy wL (some Q):=(hg8.trans (Zf _ _ _)).trans hgz
 have szL:wE.heap.size+1<=wL.heap.size:=by have:=hgz.size;simpa using this
 obtain⟨ho,hs⟩:=HO.out
 have hgw:w.grownBy wN (some Q):=(((Zf w AK (some Q)).trans hgL).trans (Zf _ _ _)).trans hgN
 have szP:w.heap.size<w4.heap.size:=by have:=hgP.size;simp at this;omega
 have szE:w4.heap.size<=wE.heap.size:=hgE.size
 have hvL:ValG wL (AZ w4.heap.size) (.agg #[.int .i64 a,.string b,.int .i64 c,.slice ad n cc]) gE:=(hv.above (Zh (Zf wE (.cells #[.int .i64 a,.string b,.int .i64 c,.slice ad n cc] 24) none) (fun k e=>by cases e))).above (Zh hgz (fun k e=>by injection e with e;show ¬w4.heap.size<=k;omega))
 refine bodyPost_ret (v:=.agg #[.int .i64 11,.string ⟨#[]⟩,.int .i64 0,.slice (some ⟨wL.heap.size,0,none⟩) 1 1]) (by simp[results,Tryz.results112,go_sem,q0,q1,q2,q3]) rfl ⟨⟨_,rfl,?_⟩,by rw[hs];exact Ap hpN hRB _ _ _ _,AG hgw (AX (Z0 _) _ _ _ _)⟩
 exact(IQ (T:=24) ho hvL (by show w4.heap.size<=_;omega) ((Zh hgN (fun k e=>by injection e with e;show ¬w4.heap.size<=k;omega)).trans (Af (R:=w.heap.size) (by show ¬w4.heap.size<=w.heap.size;omega) _ _ _ _))).mono (fun k hk _=>by have hk':w4.heap.size<=k:=hk;show w.heap.size<=k;omega)
theorem RZ(Q B:Nat)(v:Value)(S:Src9)(s:PS)(b0:A1 S BD s=false)(b1:A1 S wIf s=false)(b2:A1 S B4 s=false)(b3:A1 S B3 s=false)(b4:A1 S BH s=false)(b5:A1 S CN s=true)(hbl:∀st':St9,(∀s',st'=.ok s'->s.tok+1<=s'.tok)->Ah 88 (AP S) Q B v S st')(w:World)(hp:Par w Q B v S (.ok s)):Calls Tryz.prog 112 #[.pointer (some ⟨Q,0,none⟩)] w fun e w'=>(∃u,e=.returned u/\ValG w' (AZ w.heap.size) u ((AP S s.step).then fun k s=>AD 13 [] 0 [k] s))/\Par w' Q B v S (A7 ((AP S s.step).then fun k s=>AD 13 [] 0 [k] s))/\w.grownBy w' (some Q):=by
 have hRB:=hp.size
 have hqb:=hp.qb
 have HS:=At9.first hp
 have HX:=ZB w
 have t0:B1 S (.ok s) ⟨#[118,97,114]⟩:=⟨⟨BD,by decide,b0⟩⟩
 have t1:B1 S (.ok s) ⟨#[105,102]⟩:=⟨⟨wIf,by decide,b1⟩⟩
 have t2:B1 S (.ok s) ⟨#[119,104,105,108,101]⟩:=⟨⟨B4,by decide,b2⟩⟩
 have t3:B1 S (.ok s) ⟨#[114,101,116,117,114,110]⟩:=⟨⟨B3,by decide,b3⟩⟩
 have t4:B1 S (.ok s) ⟨#[112,114,105,110,116]⟩:=⟨⟨BH,by decide,b4⟩⟩
 have hno:=At9.no (w:=w) (Q:=Q) (B:=B) (v:=v) (S:=S) (st:=.ok s)
 have hB5:=CX (Q:=Q) (B:=B) (v:=v) (S:=S) (s:=s) (x:=⟨#[102,111,114,107]⟩) (l:=CN) (by decide) b5
 clear b0 b1 b2 b3 b4 b5 hp
 have hxx:=hbl (.ok s.step) (fun s' e=>by cases e;exact Z0 _)
 unfold Ah at hxx
 rw[bindS_ok]at hxx
 clear hbl
 generalize AP S s.step=gE at *
 have HO:Hid (_/\_):=PI 13 gE
 generalize (gE.then fun k s=>AD 13 [] 0 [k] s)=G at *
 go_enter Tryz.func112,Tryz.ntmps112
 go_wp2_with (first
  | (go_at_call_of 134 (Value.string ⟨#[102,111,114,107]⟩);refine(hB5 _ HS.out.par).mono ?_;rintro e w6 ⟨rfl,hp6,hgx⟩;have hg6:(w.alloc AK).grownBy w6 (some Q):=HS.out.gr.trans hgx;clear hB5 hgx)
  | (go_at_call 134;refine(hno _ (by first | exact t0 | exact t1 | exact t2 | exact t3 | exact t4) _ HS.out).mono ?_;clear HS;rintro e wx ⟨rfl,HS⟩)
  | (go_at_call 88;refine(hxx _ hp6).mono ?_;rintro e wE ⟨⟨u,rfl,hv⟩,hpE,hgE⟩;obtain⟨a,b,c,ad,n,cc,hu'⟩:=hv.any;subst hu';have hg8:=hg6.trans hgE;have hpLa:=F7 hpE (.cells #[.int .i64 a,.string b,.int .i64 c,.slice ad n cc] 24) (.cells #[.int .i64 a,.string b,.int .i64 c,.slice ad n cc] 24))
  | (go_at_call 89;refine(At Q B _ S _ _ _ _ ⟨_,_,_,rfl⟩ _ hpLa).mono ?_;rintro e wN ⟨rfl,hpN,hgN⟩;have hXN:=(((HX.out.grown hg8 (by omega)).alloc (.cells #[.int .i64 a,.string b,.int .i64 c,.slice ad n cc] 24)).alloc (.cells #[.int .i64 a,.string b,.int .i64 c,.slice ad n cc] 24)).grown hgN (by omega);obtain⟨⟨q0,q1,q2,q3⟩,s0,s1',s2,s3⟩:=hXN.facts))
 have hgP:=hg6
 have hgL:(w.alloc AK).grownBy (wE.alloc (.cells #[.int .i64 a,.string b,.int .i64 c,.slice ad n cc] 24)) (some Q):=hg8.trans (Zf _ _ _)
 have hvL:ValG (wE.alloc (.cells #[.int .i64 a,.string b,.int .i64 c,.slice ad n cc] 24)) (AZ w6.heap.size) (.agg #[.int .i64 a,.string b,.int .i64 c,.slice ad n cc]) gE:=hv.above (Zh (Zf wE (.cells #[.int .i64 a,.string b,.int .i64 c,.slice ad n cc] 24) none) (fun k e=>by cases e))
 obtain⟨ho,hs⟩:=HO.out
 have hgw:w.grownBy wN (some Q):=(((Zf w AK (some Q)).trans hgL).trans (Zf _ _ _)).trans hgN
 have szP:w.heap.size<w6.heap.size:=by have:=hgP.size;simp at this;omega
 have szE:w6.heap.size<=wE.heap.size:=hgE.size
 refine bodyPost_ret (v:=.agg #[.int .i64 13,.string ⟨#[]⟩,.int .i64 0,.slice (some ⟨wE.heap.size+1,0,none⟩) 1 1]) (by simp[results,Tryz.results112,go_sem,q0,q1,q2,q3]) rfl ⟨⟨_,rfl,?_⟩,by rw[hs];exact Ap hpN hRB _ _ _ _,AG hgw (AX (Z0 _) _ _ _ _)⟩
 have hend:=(IQ (T:=24) ho hvL (by show w6.heap.size<=_;simp;omega) ((Zh hgN (fun k e=>by injection e with e;show ¬w6.heap.size<=k;omega)).trans (Af (R:=w.heap.size) (by show ¬w6.heap.size<=w.heap.size;omega) (.int .i64 13) (.string ⟨#[]⟩) (.int .i64 0) (.slice (some ⟨wE.heap.size+1,0,none⟩) 1 1)))).mono (fun k hk _=>by have hk':w6.heap.size<=k:=hk;show w.heap.size<=k;omega)
 simp only[World.size_alloc]at hend
 exact hend
end Go.Proofs.YtibeadcfgcfdbaaGreatDoor
