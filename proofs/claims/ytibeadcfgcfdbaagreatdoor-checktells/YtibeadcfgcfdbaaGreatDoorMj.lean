/- Texts in one. -/
import Derived.Test.YtibeadcfgcfdbaaGreatDoorMi
import Derived.Test.YtibeadcfgcfdbaaGreatDoorMc
set_option maxHeartbeats 16000000
set_option maxRecDepth 20000
namespace Go.Proofs.YtibeadcfgcfdbaaGreatDoor
open Go.RowKit
theorem Kin.kids{w:World}{BB n:Nat}{v:Value}{GK GK':Got (List Nd)}(h:Kin w BB v n GK)(hG:∀ks s,GK'=.ok (ks,s)->∃s1,GK=.ok (ks,s1)):Kin w BB v n GK':=by
 obtain⟨xs,ho,hk⟩:=h
 refine⟨xs,ho,fun ks s e=>?_⟩
 obtain⟨s1,e1⟩:=hG ks s e
 exact hk ks s1 e1
theorem RowL.kids{w wx:World}{Q B n:Nat}{v k:Value}{S:Src9}{st:St9}{GK GK':Got (List Nd)}(h:RowL w wx Q B v S st k n GK)(hG:∀ks s,GK'=.ok (ks,s)->∃s1,GK=.ok (ks,s1)):RowL w wx Q B v S st k n GK':=⟨h.par,h.box,h.gro,h.kin.kids hG⟩
theorem Q6(Q B:Nat)(v:Value)(S:Src9)(hnf:Au S)(st:St9):Ah 86 (D9 S) Q B v S st:=by
 intro w hp
 have hRB:=hp.size
 have hqb:=hp.qb
 have hfew:=hp.few
 obtain⟨vad,vc,hv0,_⟩:=hp.toks
 subst hv0
 have HPA:Hid (Par (w.alloc AK) Q B (.slice vad S.L.length vc) S st):=hp.below ((Zg _ w).alloc (Z0 _) _)
 have HX:=ZB w
 have HO:Hid (∀tx:ByteArray,FH (.string tx) (AA st (AW S))->_/\_):=fun tx ht=>Ul S st ht
 have hnm:=fun w' (h':Par w' Q B (.slice vad S.L.length vc) S st)=>FI Q B (.slice vad S.L.length vc) S st w' h'
 generalize AA st (D9 S)=G at *
 generalize AA st (AW S)=g1 at *
 have hcol:=fun w' (h':Par w' Q B (.slice vad S.L.length vc) S (A7 g1))=>DG Q B _ S (A7 g1) ⟨#[58]⟩ w' h'
 rw[show A2 ⟨#[58]⟩=Dv by decide]at hcol
 obtain⟨sb,HSB⟩:∃sb,Hid (Aa S Dv (A7 g1)=sb):=⟨_,rfl⟩
 rw[HSB.out]at hcol
 obtain⟨GU,HGU⟩:∃GU,Hid (GU=AA (A7 g1) (upC S)):=⟨_,rfl⟩
 rw[<-HGU.out]at HO
 have hW1:=Bf (Q:=Q) (B:=B) (v:=(.slice vad S.L.length vc)) (S:=S) (x:=⟨#[123]⟩) (l:=Ao) (by decide) (A7 GU)
 rw[<-Uk]at hW1
 obtain⟨GB,HGB⟩:∃GB,Hid (GB=Hs S GU):=⟨_,rfl⟩
 rw[<-HGB.out]at HO hW1
 have HBK:Hid (∀ks s,GB=.ok (ks,s)->∃s1,GU=.ok (ks,s1)):=fun ks s e=>by
  rw[HGB.out]at e
  obtain⟨s1,h1,_⟩:=MY e
  exact⟨s1,h1⟩
 obtain⟨GS,HGS⟩:∃GS,Hid (GS=IE (Cd S) GB):=⟨_,rfl⟩
 rw[<-HGS.out]at HO
 have HBT:∀ks s,GB=.ok (ks,s)->s.tok<=S.L.length:=fun ks s e=>by
  rw[HGB.out]at e
  obtain⟨s1,_,h2⟩:=MY e
  exact h2
 have HL1:Hid (LoopK S (Cd S) GS GB 0 0):=by
  show LoopK _ _ _ _ _ _
  rw[HGS.out]
  exact LoopK.start HBT
 obtain⟨GM,HGM⟩:∃GM,Hid (GM=IE (C4 S) GS):=⟨_,rfl⟩
 rw[<-HGM.out]at HO
 have HL2:Hid (LoopK S (C4 S) GM GS 0 0):=by
  show LoopK _ _ _ _ _ _
  rw[HGM.out]
  refine LoopK.start fun ks s e=>?_
  rw[HGS.out]at e
  match GB,HBT,e with
  | .ok (acc,s1),HBT,e=>
   unfold IE at e
   rw[then_ok]at e
   cases hq:Cd S s1 with
   | error e'=>rw[hq]at e;cases e
   | ok y=>
    obtain⟨ks1,s2⟩:=y
    rw[hq]at e
    cases e
    exact(Oj (HBT acc s1 rfl) hq).2
 have hW2:=Bf (Q:=Q) (B:=B) (v:=(.slice vad S.L.length vc)) (S:=S) (x:=⟨#[125]⟩) (l:=Av) (by decide) (A7 GM)
 generalize A7 (AA (A7 GM) (A3 S Av))=stE at *
 have hsl:=fun st' w' (h':Par w' Q B (.slice vad S.L.length vc) S st')=>DG Q B _ S st' ⟨#[115,108,111,116]⟩ w' h'
 rw[show A2 ⟨#[115,108,111,116]⟩=FC by decide]at hsl
 have hto:=fun st' w' (h':Par w' Q B (.slice vad S.L.length vc) S st')=>DG Q B _ S st' ⟨#[116,111]⟩ w' h'
 rw[show A2 ⟨#[116,111]⟩=wTo by decide]at hto
 clear hp HBT HGB HGS HGM
 have hql:Q<w.heap.size:=by omega
 go_enter Tryz.func86,Tryz.ntmps86
 go_upto_if 17 with(first
  | (go_at_call 109;refine(hnm _ HPA.out).mono ?_;rintro e w1 ⟨⟨xv,rfl,htx⟩,hp1,hg1⟩;obtain⟨tx,hxv⟩:=DS htx;subst hxv)
  | (go_at_call 85;refine(hcol _ hp1).mono ?_;rintro e w3 ⟨rfl,hb3⟩;have hp3:=hp1.below hb3;have hg3:=hg1.trans (A0 Q hb3)))
 have HOT:=HO.out tx htx
 have HOG:Hid (_/\_):=HOT
 have HB3:Hid (Box4 w3 w.heap.size (.int .i64 0) (.string ⟨#[]⟩) (.int .i64 0) (.slice none 0 0)/\w.grownBy w3 (some Q)):=⟨HX.out.grown hg3 (by omega),(Zf w AK (some Q)).trans hg3⟩
 have HP3:Hid (Par w3 Q B (.slice vad S.L.length vc) S (A7 g1)):=hp3
 clear htx hp1 hg1 hb3 hp3 hg3 hnm hcol HPA HX HO HOT
 go_cut [4] from 17 to 33 (fun s4 wx=>∃(n:Nat) (ad:Option Addr) (c:Nat),s4=.slice ad n c/\n<=1/\Hid (RowL w wx Q B (.slice vad S.L.length vc) S (A7 GU) (.slice ad n c) n GU))
 case first=>
  clear hW1 hW2 HOG HL1 HL2 HBK hsl hto
  cases sb with
  | false=>
   have hs:=HSB.out
   clear HSB
   obtain⟨e1,e2⟩:=Wb hs
   rw[<-HGU.out]at e1 e2
   have HR:Hid (RowL w w3 Q B (.slice vad S.L.length vc) S (A7 GU) (.slice none 0 0) 0 GU):=RowL.first (by rw[e1];exact HP3.out) HB3.out.1 HB3.out.2 e2
   clear e1 e2 hs
   go_wp2_with fail
   go_meet
   exact⟨0,none,0,rfl,by omega,HR⟩
  | true=>
   have hs:=HSB.out
   clear HSB
   match g1,hs,HP3,HGU with
   | .ok (x0,s),hs,HP3,HGU=>
    have hs':A1 S Dv s=true:=hs
    have ht:=AH hs'
    have hwt:=AN (x:=(s.tok:Int)+1) (by omega) (by omega)
    have HGU2:Hid (GU=(Gl 31 (AW S s.step)).then fun k s=>.ok ([]++[k],s)):=by show _=_;rw[HGU.out];exact WF hs'
    have hnm:=fun w' (h':Par w' Q B (.slice vad S.L.length vc) S (.ok s.step))=>FI Q B (.slice vad S.L.length vc) S (.ok s.step) w' h'
    rw[bindS_ok]at hnm
    have HPO:Hid (Par w3 Q B (.slice vad S.L.length vc) S (.ok s)):=HP3.out
    obtain⟨many,ho,_,_,_,_⟩:=HPO.out.ok
    obtain⟨_,_,k2,_,_,_,_⟩:=ho.cells
    have z2:=ho.frozen 2
    have hR0:RowL w w3 Q B (.slice vad S.L.length vc) S (.ok s) (.slice none 0 0) 0 (.ok ([],s)):=RowL.first HPO.out HB3.out.1 HB3.out.2 (fun ks s e=>by cases e;rfl)
    have HRF:Hid (RowL w (w3.setCell ⟨Q,2,none⟩ (.int .i64 ((s.tok:Int)+1))) Q B (.slice vad S.L.length vc) S (.ok s.step) (.slice none 0 0) 0 (.ok ([],s))):=hR0.grown hql (FL HPO.out ht) (AJ w3 Q 2 _)
    clear ho hs hs' HGU HP3 hR0
    generalize AW S s.step=gn at *
    go_wp2_with (first
     | (go_at_call 109;refine(hnm _ HRF.out.par).mono ?_;rintro e w4 ⟨⟨xv,rfl,htx⟩,hp4,hg4⟩;obtain⟨ty,hxv⟩:=DS htx;subst hxv)
     | (go_at_call 89;refine(At Q B _ S _ _ _ _ ⟨_,_,_,rfl⟩ _ hp4).mono ?_;rintro e w6 ⟨rfl,hp6,hg6⟩;have hR6:=HRF.out.grown hql hp6 (hg4.trans hg6);have hx6:=hR6.box.lt;obtain⟨xs,O6,hmore⟩:=hR6.push hRB (Iu (kind:=31) htx) (C:=w6.heap.size) (by omega) (fun j e=>(hR6.lt j e).2))
     | (at_builtin;refine AO CC rfl (.tmp 30) (.tmp 32) rfl (w.heap.size+1) 0 1 (.slice none 0 0) xs [.int .i64 31,.string ty,.int .i64 0,.slice none 0 0] rfl ((O6.alloc (.cells #[.int .i64 31,.string ty,.int .i64 0,.slice none 0 0] 24)).alloc (.cells #[.int .i64 31,.string ty,.int .i64 0,.slice none 0 0] 24)) ⟨w6.heap.size+1,0,none⟩ rfl rfl (DH _ _ _ _ _ _ _) (CL _ _ _ _ _ _) (by omega) (by simp;omega) ?_;intro g' cap' w7 O7 hg7 hor7;obtain⟨hR7,hsz7⟩:=hmore _ _ _ _ _ O7 hg7 hor7 _ (Iv (acc:=[]) (s0:=s))))
    go_meet
    refine⟨1,_,_,rfl,by omega,?_⟩
    show RowL _ _ _ _ _ _ _ _ _ _
    rw[HGU2.out,Kz,Id]
    exact hR7
 case rest=>
  obtain⟨n0,ad0,c0,rfl,hn0,HRU⟩:=hcut
  clear HP3 HB3 HGU HSB
  go_upto_block 0 with(first
   | (go_at_call 87;refine(hW1 _ HRU.out.par).mono ?_;rintro e w5 ⟨rfl,hp5,hg5⟩))
  have HR5:Hid (RowL w w5 Q B (.slice vad S.L.length vc) S (A7 GB) (.slice ad0 n0 c0) n0 GB):=(HRU.out.grown hql hp5 hg5).kids HBK.out
  clear HRU hp5 hg5 hW1 HBK
  go_cut [4] from 36 to 66 (fun s4 wx=>∃(n:Nat) (ad:Option Addr) (c:Nat),s4=.slice ad n c/\n<=4003/\Hid (RowL w wx Q B (.slice vad S.L.length vc) S (A7 GS) (.slice ad n c) n GS))
  case first=>
   clear hW2 HOG HL2 hto
   go_wp2_with fail
   go_loopw [4,5,8] (fun s4 _ s6 wr=>∃(i n:Nat) (GK:Got (List Nd)),s6=.int .i64 i/\i<=4001/\n<=i+1/\Hid (RowL w wr Q B (.slice vad S.L.length vc) S (A7 GK) s4 n GK)/\Hid (LoopK S (Cd S) GS GK 0 i)) (fun _ _ s6 _=>4002-(intOf s6).toNat)
   case atStart=>exact⟨0,n0,GB,rfl,by omega,by omega,HR5,HL1⟩
   case round=>
    clear HR5 HL1
    obtain⟨i,n,GK,rfl,hi,hn,HRF,HL⟩:=hrel
    obtain⟨ad3,c3,hs3⟩:=HRF.out.kin.length.1
    subst hs3
    obtain⟨tok,deep,many,fc,fa,ho,hf⟩:=HRF.out.par.obj
    obtain⟨k0,_,_,_,_,_,_⟩:=ho.cells
    clear ho hf
    have hsl0:=hsl (A7 GK)
    clear hsl
    cases hs:Aa S FC (A7 GK)with
    | false=>
     rw[hs]at hsl0
     have hGA:GS=GK:=PN (PM S) HL.out hs
     subst hGA
     have hnb:n<=4003:=by omega
     clear hs HL
     by_cases hil:(i:Int)<=(S.L.length:Int)
     ·go_wp2_with (first
       | (go_at_call 85;refine(hsl0 _ HRF.out.par).mono ?_;rintro e w6 ⟨rfl,hb6⟩;have HR6:=HRF.out.grown hql (HRF.out.par.below hb6) (A0 Q hb6)))
      go_meet
      exact⟨n,ad3,c3,rfl,hnb,HR6⟩
     ·go_wp2_with fail
      go_meet
      exact⟨n,ad3,c3,rfl,hnb,HRF⟩
    | true=>
     match GK,HRF,HL,hs,hsl0 with
     | .ok (acc,s),HRF,HL,hs,hsl0=>
      rw[hs]at hsl0
      have hs':A1 S FC s=true:=hs
      have HLN:Hid (LoopK S (Cd S) GS ((Ky S s).then fun k s=>.ok (acc++[k],s)) 0 (i+1)):=Nn (PM S) (fun s k s2 e=>Uj e) HL.out hs'
      obtain⟨hi1,_,hle1⟩:=HL.out.place acc s rfl
      have ht:=AH hs'
      have hil:(i:Int)<=(S.L.length:Int):=by omega
      have hwi:=AN (x:=(i:Int)+1) (by omega) (by omega)
      have hwt:=AN (x:=(s.tok:Int)+1) (by omega) (by omega)
      have hnm:=fun w' (h':Par w' Q B (.slice vad S.L.length vc) S (.ok s.step))=>FI Q B (.slice vad S.L.length vc) S (.ok s.step) w' h'
      rw[bindS_ok]at hnm
      have hW3:=Bf (Q:=Q) (B:=B) (v:=(.slice vad S.L.length vc)) (S:=S) (x:=⟨#[59]⟩) (l:=AQ) (by decide) (A7 (AW S s.step))
      rw[<-Ui]at hW3
      have HPS:Hid (Par wr Q B (.slice vad S.L.length vc) S (.ok s)):=HRF.out.par
      have hbx:=HRF.out.box.lt
      unfold Ky at HLN
      clear hs hs' HL
      generalize AW S s.step=gn at *
      go_wp2_with (first
       | (go_at_call 85;refine(hsl0 _ HPS.out).mono ?_;rintro e w2 ⟨rfl,hb2⟩;have hp2:=Par.below HPS.out hb2;obtain⟨mn2,ho2,_,_,_,_⟩:=hp2.ok;obtain⟨_,_,v2,_,_,_,_⟩:=ho2.cells;have z2:=ho2.frozen 2;clear ho2;have hR2:=(HRF.out.grown hql hp2 (A0 Q hb2)).grown hql (FL hp2 ht) (AJ w2 Q 2 (.int .i64 ((s.tok:Int)+1))))
       | (go_at_call 109;refine(hnm _ hR2.par).mono ?_;rintro e w4 ⟨⟨xv,rfl,htx⟩,hp4,hg4⟩;obtain⟨ty,hxv⟩:=DS htx;subst hxv)
       | (go_at_call 87;refine(hW3 _ hp4).mono ?_;rintro e w5 ⟨rfl,hp5,hg5⟩)
       | (go_at_call 89;refine(At Q B _ S _ _ _ _ ⟨_,_,_,rfl⟩ _ hp5).mono ?_;rintro e w6 ⟨rfl,hp6,hg6⟩;have hR6:=hR2.grown hql hp6 ((hg4.trans hg5).trans hg6);have hx6:=hR6.box.lt;obtain⟨xs,O6,hmore⟩:=hR6.push hRB (Iu (kind:=3) (Rd (S:=S) (l:=AQ) htx)) (C:=w6.heap.size) (by omega) (fun j e=>(hR6.lt j e).2))
       | (at_builtin;refine AO CC rfl (.tmp 63) (.tmp 65) rfl (w.heap.size+1) n 1 (.slice ad3 n c3) xs [.int .i64 3,.string ty,.int .i64 0,.slice none 0 0] rfl ((O6.alloc (.cells #[.int .i64 3,.string ty,.int .i64 0,.slice none 0 0] 24)).alloc (.cells #[.int .i64 3,.string ty,.int .i64 0,.slice none 0 0] 24)) ⟨w6.heap.size+1,0,none⟩ rfl rfl (DH _ _ _ _ _ _ _) (CL _ _ _ _ _ _) (by omega) (by simp;omega) ?_;intro g' cap' w7 O7 hg7 hor7;obtain⟨hR7,hsz7⟩:=hmore _ _ _ _ _ O7 hg7 hor7 _ (Iv (acc:=acc) (s0:=s))))
      exact⟨⟨i+1,n+1,_,by simp,by omega,by omega,by rw[Kz,Id];exact hR7,HLN⟩,by simp[intOf];omega⟩
  case rest=>
   obtain⟨n1,ad1,c1,rfl,hn1,HRS⟩:=hcut
   clear HR5 HL1 hsl
   go_upto_block 2 with fail
   go_cut [4] from 67 to 92 (fun s4 wx=>∃(n:Nat) (ad:Option Addr) (c:Nat),s4=.slice ad n c/\n<=9000/\Hid (RowL w wx Q B (.slice vad S.L.length vc) S (A7 GM) (.slice ad n c) n GM))
   case first=>
    clear hW2 HOG
    go_wp2_with fail
    go_loopw [4,5,11] (fun s4 _ s6 wr=>∃(i n:Nat) (GK:Got (List Nd)),s6=.int .i64 i/\i<=4001/\n<=i+4003/\Hid (RowL w wr Q B (.slice vad S.L.length vc) S (A7 GK) s4 n GK)/\Hid (LoopK S (C4 S) GM GK 0 i)) (fun _ _ s6 _=>4002-(intOf s6).toNat)
    case atStart=>exact⟨0,n1,GS,rfl,by omega,by omega,HRS,HL2⟩
    case round=>
     clear HRS HL2
     obtain⟨i,n,GK,rfl,hi,hn,HRF,HL⟩:=hrel
     obtain⟨ad3,c3,hs3⟩:=HRF.out.kin.length.1
     subst hs3
     obtain⟨tok,deep,many,fc,fa,ho,hf⟩:=HRF.out.par.obj
     obtain⟨k0,_,_,_,_,_,_⟩:=ho.cells
     clear ho hf
     have hto0:=hto (A7 GK)
     clear hto
     cases hs:Aa S wTo (A7 GK)with
     | false=>
      rw[hs]at hto0
      have hGA:GM=GK:=PN (K:=fun s=>D7 S s.step) (I8 S) HL.out hs
      subst hGA
      have hnb:n<=9000:=by omega
      clear hs HL
      by_cases hil:(i:Int)<=(S.L.length:Int)
      ·go_wp2_with (first
        | (go_at_call 85;refine(hto0 _ HRF.out.par).mono ?_;rintro e w6 ⟨rfl,hb6⟩;have HR6:=HRF.out.grown hql (HRF.out.par.below hb6) (A0 Q hb6)))
       go_meet
       exact⟨n,ad3,c3,rfl,hnb,HR6⟩
      ·go_wp2_with fail
       go_meet
       exact⟨n,ad3,c3,rfl,hnb,HRF⟩
     | true=>
      match GK,HRF,HL,hs,hto0 with
      | .ok (acc,s),HRF,HL,hs,hto0=>
       rw[hs]at hto0
       have hs':A1 S wTo s=true:=hs
       have HLN:Hid (LoopK S (C4 S) GM ((D7 S s.step).then fun k s=>.ok (acc++[k],s)) 0 (i+1)):=Nn (K:=fun s=>D7 S s.step) (I8 S) (fun s k s2 e=>by have:=Ho e;rw[Ak]at this;omega) HL.out hs'
       obtain⟨hi1,_,hle1⟩:=HL.out.place acc s rfl
       have ht:=AH hs'
       have hil:(i:Int)<=(S.L.length:Int):=by omega
       have hwi:=AN (x:=(i:Int)+1) (by omega) (by omega)
       have hwt:=AN (x:=(s.tok:Int)+1) (by omega) (by omega)
       have hmm:=PO Q B (.slice vad S.L.length vc) S hnf (.ok s.step)
       unfold Ah at hmm
       rw[bindS_ok]at hmm
       have HPS:Hid (Par wr Q B (.slice vad S.L.length vc) S (.ok s)):=HRF.out.par
       have hbx:=HRF.out.box.lt
       clear hs hs' HL
       generalize D7 S s.step=gE at *
       go_wp2_with (first
        | (go_at_call 85;refine(hto0 _ HPS.out).mono ?_;rintro e w2 ⟨rfl,hb2⟩;have hp2:=Par.below HPS.out hb2;obtain⟨mn2,ho2,_,_,_,_⟩:=hp2.ok;obtain⟨_,_,v2,_,_,_,_⟩:=ho2.cells;have z2:=ho2.frozen 2;clear ho2;have hR2:=(HRF.out.grown hql hp2 (A0 Q hb2)).grown hql (FL hp2 ht) (AJ w2 Q 2 (.int .i64 ((s.tok:Int)+1)));have hx2:=hR2.box.lt;have hlt2:=hR2.lt)
        | (go_at_call 110;refine(hmm _ hR2.par).mono ?_;rintro e w6 ⟨⟨u,rfl,hv⟩,hp6,hg6⟩;obtain⟨a',b',c',ad',n',cc',hu'⟩:=hv.any;subst hu';have hR6:=hR2.grown hql hp6 hg6;have hx6:=hR6.box.lt;obtain⟨xs,O6,hmore⟩:=hR6.push hRB hv (by omega) (fun j e=>(hlt2 j e).2))
        | (at_builtin;refine AO CC rfl (.tmp 89) (.tmp 91) rfl (w.heap.size+1) n 1 (.slice ad3 n c3) xs [.int .i64 a',.string b',.int .i64 c',.slice ad' n' cc'] rfl ((O6.alloc (.cells #[.int .i64 a',.string b',.int .i64 c',.slice ad' n' cc'] 24)).alloc (.cells #[.int .i64 a',.string b',.int .i64 c',.slice ad' n' cc'] 24)) ⟨w6.heap.size+1,0,none⟩ rfl rfl (DH _ _ _ _ _ _ _) (CL _ _ _ _ _ _) (by omega) (by simp;omega) ?_;intro g' cap' w7 O7 hg7 hor7;obtain⟨hR7,hsz7⟩:=hmore _ _ _ _ _ O7 hg7 hor7 _ (Iv (acc:=acc) (s0:=s))))
       exact⟨⟨i+1,n+1,_,by simp,by omega,by omega,by rw[Kz];exact hR7,HLN⟩,by simp[intOf];omega⟩
   case rest=>
    obtain⟨n2,ad2,c2,rfl,hn2,HRM⟩:=hcut
    clear HRS HL2 hto
    go_wp2_with (first
     | (go_at_call 87;refine(hW2 _ HRM.out.par).mono ?_;rintro e wA ⟨rfl,hpA,hgA⟩)
     | (go_at_call 89;refine(At Q B _ S _ _ _ _ ⟨_,_,_,rfl⟩ _ hpA).mono ?_;rintro e wB ⟨rfl,hpB,hgB⟩;have hgAB:=hgA.trans hgB;have hRB':=HRM.out.grown hql hpB hgAB;obtain⟨⟨x0,x1,x2,x3⟩,f0,f1,f2,f3⟩:=hRB'.box.facts))
    refine bodyPost_ret (v:=.agg #[.int .i64 2,.string tx,.int .i64 0,.slice ad2 n2 c2]) (by simp[results,Tryz.results86,go_sem,x0,x1,x2,x3]) rfl ⟨⟨_,rfl,?_⟩,by rw[HOG.out.2];exact Ap hpB hRB _ _ _ _,AG hRB'.gro (AX (Z0 _) _ _ _ _)⟩
    exact(GL HOG.out.1 hRB'.kin (Af (R:=w.heap.size) (by show ¬w.heap.size+1<=w.heap.size;omega) _ _ _ _)).mono (fun k hk _=>by have hk':w.heap.size+1<=k:=hk;show w.heap.size<=k;omega)
def FBox(w:World)(R:Nat)(a b:Value):Prop:=w.heap[R]?=some (.cells #[a,b] 27)
theorem FBox.facts{w:World}{R:Nat}{a b:Value}(h:FBox w R a b):R<w.heap.size/\(w.cell? ⟨R,0,none⟩=some a/\w.cell? ⟨R,1,none⟩=some b)/\w.frozen? ⟨R,0,none⟩=false/\w.frozen? ⟨R,1,none⟩=false:=
 ⟨(Array.getElem?_eq_some_iff.1 h).1,⟨cell_of_row _ _ _ _ _ _ h,cell_of_row _ _ _ _ _ _ h⟩,frozen_of_row _ _ _ _ _ h,frozen_of_row _ _ _ _ _ h⟩
theorem FBox.put{w:World}{R:Nat}{a b:Value}(h:FBox w R a b)(a' b':Value):FBox ((w.setCell ⟨R,0,none⟩ a').setCell ⟨R,1,none⟩ b') R a' b':=heap_setCell_same _ _ _ _ _ _ (heap_setCell_same _ _ _ _ _ _ h)
theorem FBox.setAt{w:World}{R N j:Nat}{a b:Value}(h:FBox w R a b)(hn:R≠N)(x:Value):FBox (w.setCell ⟨N,j,none⟩ x) R a b:=(Zm _ _ _ _ hn).trans h
theorem FBox.grown{w w':World}{Q R:Nat}{a b:Value}(h:FBox w R a b)(hg:w.grownBy w' (some Q))(hr:R≠Q):FBox w' R a b:=(hg.block R h.facts.1 (fun e=>by injection e;omega)).trans h
theorem Box4.setOff{w:World}{R N j:Nat}{a b c d:Value}(h:Box4 w R a b c d)(hn:R≠N)(x:Value):Box4 (w.setCell ⟨N,j,none⟩ x) R a b c d:=(Zm _ _ _ _ hn).trans h
theorem Box4.kept{w w':World}{Q R:Nat}{a b c d:Value}(h:Box4 w R a b c d)(hg:w.grownBy w' (some Q))(hr:R≠Q):Box4 w' R a b c d:=(hg.block R h.lt (fun e=>by injection e;omega)).trans h
structure Tk9(w wx:World)(Q N B:Nat)(v:Value)(S:Src9)(st:St9)(a:Int)(b:ByteArray)(c:Int)(d:Value):Prop where
 par:Par wx Q B v S st
 box:Box4 wx w.heap.size (.int .i64 0) (.string ⟨#[]⟩) (.int .i64 0) (.slice none 0 0)
 fbx:FBox wx (w.heap.size+1) (.int .i64 0) (.int .i64 0)
 nod:Box4 wx N (.int .i64 a) (.string b) (.int .i64 c) d
 bel:Below w.heap.size w wx
theorem Tk9.drewN{w wx:World}{Q N B:Nat}{v:Value}{S:Src9}{st:St9}{a:Int}{b:ByteArray}{c:Int}{d:Value}(h:Tk9 w wx Q N B v S st a b c d)(k:Nat):Tk9 w (wx.drewN k) Q N B v S st a b c d:=
 ⟨h.par.below (Ae _ _),h.box,h.fbx,h.nod,h.bel.trans ((Ae wx k).mono h.bel.size)⟩
theorem Tk9.grown{w wx wy:World}{Q N B:Nat}{v:Value}{S:Src9}{st st':St9}{a:Int}{b:ByteArray}{c:Int}{d:Value}(h:Tk9 w wx Q N B v S st a b c d)(hp:Par wy Q B v S st')(hg:wx.grownBy wy (some Q))(hq:Q=w.heap.size+2)(hN:Q<N):Tk9 w wy Q N B v S st' a b c d:=
 ⟨hp,h.box.kept hg (by omega),h.fbx.grown hg (by omega),h.nod.kept hg (by omega),⟨hg.os.trans h.bel.os,hg.tape.trans h.bel.tape,hg.output.trans h.bel.output,Za h.bel.size hg.size,fun k hk=>(hg.block k (Z5 hk h.bel.size) (fun e=>by injection e;omega)).trans (h.bel.block k hk)⟩⟩
theorem Jq{wx:World}{R:Nat}{a b c d x y:Value}(hN:Box4 wx R a b c d)(hF:FBox wx (R+1) x y)(a' b' c' d' x' y':Value):Box4 ((((((wx.setCell ⟨R,0,none⟩ a').setCell ⟨R,1,none⟩ b').setCell ⟨R,2,none⟩ c').setCell ⟨R,3,none⟩ d').setCell ⟨R+1,0,none⟩ x').setCell ⟨R+1,1,none⟩ y') R a' b' c' d'/\FBox ((((((wx.setCell ⟨R,0,none⟩ a').setCell ⟨R,1,none⟩ b').setCell ⟨R,2,none⟩ c').setCell ⟨R,3,none⟩ d').setCell ⟨R+1,0,none⟩ x').setCell ⟨R+1,1,none⟩ y') (R+1) x' y':=
 ⟨((hN.put a' b' c' d').setOff (by omega) _).setOff (by omega) _,((((hF.setAt (by omega) _).setAt (by omega) _).setAt (by omega) _).setAt (by omega) _).put _ _⟩
theorem Jr{w W:World}{R:Nat}(hb:Below R w W)(a' b' c' d' x' y':Value):Below R w ((((((W.setCell ⟨R,0,none⟩ a').setCell ⟨R,1,none⟩ b').setCell ⟨R,2,none⟩ c').setCell ⟨R,3,none⟩ d').setCell ⟨R+1,0,none⟩ x').setCell ⟨R+1,1,none⟩ y'):=
 (((((hb.setCell (Z0 _) _).setCell (Z0 _) _).setCell (Z0 _) _).setCell (Z0 _) _).setCell (by dsimp only;omega) _).setCell (by dsimp only;omega) _
theorem Vj{W:World}{R C:Nat}{u:Value}{n:Nd}(hC:R+2<=C)(hv:NodeV W (AZ C) u n)(a' b' c' d' x' y':Value):NodeV ((((((W.setCell ⟨R,0,none⟩ a').setCell ⟨R,1,none⟩ b').setCell ⟨R,2,none⟩ c').setCell ⟨R,3,none⟩ d').setCell ⟨R+1,0,none⟩ x').setCell ⟨R+1,1,none⟩ y') (AZ R) u n:=by
 have m1:¬AZ C R:=by show ¬C<=R;omega
 have m2:¬AZ C (R+1):=by show ¬C<=R+1;omega
 exact Zi (hv.above (((Af (R:=R) m1 _ _ _ _).set (a:=⟨R+1,0,none⟩) m2 _).set (a:=⟨R+1,1,none⟩) m2 _)) (fun j hj _=>by have hj':C<=j:=hj;show R<=j;omega)
def TD(w:World)(S:Src9)(e:Ending)(w':World):Prop:=Below w.heap.size w w'/\match Cn S (Co S)with
 | .ok n=>∃u,e=.returned (.tuple #[u,.agg #[.int .i64 0,.int .i64 0]])/\NodeV w' (AZ w.heap.size) u n
 | .error f=>e=.returned (.tuple #[.agg #[.int .i64 0,.string ⟨#[]⟩,.int .i64 0,.slice none 0 0],.agg #[.int .i64 f.1,.int .i64 f.2]])
theorem Vk(S:Src9):Cn S (Co S)=match F0 S ⟨0,0,0⟩with
  | .error e=>.error e
  | .ok (n,s)=>if s.tok<S.L.length then .error (12,S.byte s)else if 600<s.many then .error (1,0)else .ok n:=by
 unfold Cn
 rw[KI]
 cases F0 S ⟨0,0,0⟩with
 | error e=>rfl
 | ok y=>rfl
theorem Rg(v:Value)(S:Src9)(hfew:S.L.length<=4000)(hby:Do S.L)(hnf:Au S)(hgd:S.good)(w:World)(hv:ReadsT w v S.L) :
  Calls Tryz.prog 28 #[v,.int .i64 S.fin] w fun e w'=>TD w S e w':=by
 obtain⟨vad,vc,hv0,hrow⟩:=hv
 subst hv0
 obtain⟨W,hW⟩:∃W,W=((w.alloc AK).alloc (.cells #[.int .i64 0,.int .i64 0] 27)).alloc (.cells #[.slice vad S.L.length vc,.int .i64 S.fin,.int .i64 0,.int .i64 0,.int .i64 0,.int .i64 0,.int .i64 0] 111):=⟨_,rfl⟩
 have hWs:W.heap.size=w.heap.size+3:=by rw[hW];simp
 have hbW:Below w.heap.size w W:=by rw[hW];exact(BQ w _ _ (Z0 _)).alloc (by simp;omega) _
 have hobj:W.heap[w.heap.size+2]?=some (.cells #[.slice vad S.L.length vc,.int .i64 S.fin,.int .i64 0,.int .i64 0,.int .i64 0,.int .i64 0,.int .i64 0] 111):=by
  have h:=heap_alloc_new ((w.alloc AK).alloc (.cells #[.int .i64 0,.int .i64 0] 27)) (.cells #[.slice vad S.L.length vc,.int .i64 S.fin,.int .i64 0,.int .i64 0,.int .i64 0,.int .i64 0,.int .i64 0] 111)
  rw[hW]
  simpa using h
 have HP:Hid (Par W (w.heap.size+2) (w.heap.size+3) (.slice vad S.L.length vc) S (.ok ⟨0,0,0⟩)):=by
  refine⟨⟨by omega,by omega,⟨vad,vc,rfl,fun h0=>?_⟩,hfew,hby⟩,⟨0,0,0,0,0,hobj,rfl,Z3 _,rfl,by decide,by decide,by decide,rfl,rfl⟩⟩
  obtain⟨b,off,e1,hb,hc⟩:=hrow h0
  refine⟨b,off,e1,by omega,by omega,fun k hk=>?_⟩
  obtain⟨c1,c2,c3⟩:=hc k hk
  exact⟨by rw[hbW.cell hb];exact c1,by rw[hbW.cell hb];exact c2,by rw[hbW.cell hb];exact c3⟩
 have HX:Hid (Box4 W w.heap.size (.int .i64 0) (.string ⟨#[]⟩) (.int .i64 0) (.slice none 0 0)):=by
  show Box4 _ _ _ _ _ _
  rw[hW]
  exact((Box4.new w _ _ _ _).alloc _).alloc _
 have HF:Hid (FBox W (w.heap.size+1) (.int .i64 0) (.int .i64 0)):=by
  show W.heap[w.heap.size+1]?=_
  have h:=heap_alloc_new (w.alloc AK) (.cells #[.int .i64 0,.int .i64 0] 27)
  rw[show(w.alloc AK).heap.size=w.heap.size+1 by simp]at h
  rw[hW,((Zg _ _).alloc (Z0 _) _).block (w.heap.size+1) (by simp)]
  exact h
 have hpr:=Ra (w.heap.size+2) (w.heap.size+3) (.slice vad S.L.length vc) S hnf (.ok ⟨0,0,0⟩) (fun s e=>by cases e;exact Z3 _) (fun s=>Q6 _ _ _ S hnf (.ok s))
 unfold Ah at hpr
 rw[bindS_ok]at hpr
 have hpr':=hpr W HP.out
 rw[hWs]at hpr'
 have HBW:Hid (Below w.heap.size w W):=hbW
 have HE:Hid (Cn S (Co S)=_):=Vk S
 have hmx:∀n s,F0 S ⟨0,0,0⟩=.ok (n,s)->0<=s.many/\s.many<=4000:=fun n s e=>by
  have h1:=TC e
  have h2:=(N1 hgd ((KI S).trans e)).1
  omega
 obtain⟨vl,hvl⟩:∃vl,vl=Value.slice vad S.L.length vc:=⟨_,rfl⟩
 clear hpr hobj hrow hbW
 have hTk:∀(w4:World) (a:Int) (b:ByteArray) (c:Int) (d:Value) (g:Got Nd),Par w4 (w.heap.size+2) (w.heap.size+3) (.slice vad S.L.length vc) S (A7 g)->W.grownBy w4 (some (w.heap.size+2))->Tk9 w (w4.alloc (.cells #[.int .i64 a,.string b,.int .i64 c,d] 24)) (w.heap.size+2) w4.heap.size (w.heap.size+3) (.slice vad S.L.length vc) S (A7 g) a b c d:=fun w4 a b c d g hp4 hg4=>by
  have hs4:=hg4.size
  exact⟨hp4.below ((Zg _ _).alloc (Z0 _) _),(HX.out.kept hg4 (by omega)).alloc _,(HF.out.grown hg4 (by omega)).grown (Zf w4 _ (some (w.heap.size+2))) (by omega),Box4.new _ _ _ _ _,(HBW.out.grown hg4 (by omega) (fun k e=>by injection e;omega)).alloc (by have:=HBW.out.size;omega) _⟩
 cases hq:F0 S ⟨0,0,0⟩with
 | error f=>
  obtain⟨ec,ea⟩:=f
  have HE2:Hid (Cn S (Co S)=.error (ec,ea)):=by have h:=HE.out;rw[hq]at h;exact h
  rw[hq]at hpr'
  clear hq HE hmx
  rw[hW]at hpr'
  go_enter Tryz.func28,Tryz.ntmps28
  go_wp2_with (first
   | (go_at_call 52;refine hpr'.mono ?_;rintro e w4 ⟨⟨u,rfl,hvv⟩,hp4,hg4⟩;obtain⟨a',b',c',ad',n',cc',hu'⟩:=hvv.any;subst hu';rw[<-hW]at hg4;have hT:=hTk w4 a' b' c' (.slice ad' n' cc') _ hp4 hg4))
  obtain⟨tok,deep,many,fc,fa,ho,hf⟩:=hT.par.obj
  obtain⟨rfl,rfl,hc0⟩:=hf
  obtain⟨k0,k1,k2,k3,k4,k5,k6⟩:=ho.cells
  have hql:=ho.lt
  have hcb:(fc==0)=false:=by simpa using hc0
  generalize w4.alloc (.cells #[.int .i64 a',.string b',.int .i64 c',.slice ad' n' cc'] 24)=w5 at *
  generalize w4.heap.size=N4 at *
  clear ho hg4 hp4 hvv hpr'
  go_quiet (fail)
  go_wp2_with fail
  have hT6:=hT.drewN nq
  generalize w5.drewN nq=w6 at *
  obtain⟨tok2,deep2,many2,fc2,fa2,ho6,hf6⟩:=hT6.par.obj
  obtain⟨rfl,rfl,_⟩:=hf6
  obtain⟨_,_,_,_,_,p5,p6⟩:=ho6.cells
  obtain⟨⟨x0,x1,x2,x3⟩,f0,f1,f2,f3⟩:=hT6.box.facts
  obtain⟨hl,⟨y0,y1⟩,g0,g1⟩:=hT6.fbx.facts
  clear k0 k1 k2 k3 k4 k5 k6
  go_region
  all_goals go_wp2_with fail
  obtain⟨hN8,hF8⟩:=Jq hT6.box hT6.fbx (.int .i64 0) (.string ⟨#[]⟩) (.int .i64 0) (.slice none 0 0) (.int .i64 fc2) (.int .i64 fa2)
  obtain⟨⟨r0,r1,r2,r3⟩,_⟩:=hN8.facts
  obtain⟨_,⟨r4,r5⟩,_⟩:=hF8.facts
  refine bodyPost_ret (v:=.tuple #[.agg #[.int .i64 0,.string ⟨#[]⟩,.int .i64 0,.slice none 0 0],.agg #[.int .i64 fc2,.int .i64 fa2]]) (by simp[results,Tryz.results28,go_sem,r0,r1,r2,r3,r4,r5]) rfl ⟨(Jr hT6.bel _ _ _ _ _ _).drew,?_⟩
  rw[HE2.out]
 | ok y=>
  obtain⟨nd,s⟩:=y
  obtain⟨hm0,hm1⟩:=hmx nd s hq
  have hwm:=AN (x:=s.many) (by omega) (by omega)
  have HE1:Hid (Cn S (Co S)=if s.tok<S.L.length then .error (12,S.byte s)else if 600<s.many then .error (1,0)else .ok nd):=by have h:=HE.out;rw[hq]at h;exact h
  rw[hq]at hpr'
  clear hq HE hmx
  rw[hW]at hpr'
  by_cases ht:s.tok<S.L.length
  ·have HE2:Hid (Cn S (Co S)=.error (12,S.byte s)):=by have h:=HE1.out;rw[if_pos ht]at h;exact h
   have hfl:=fun w' (h':Par w' (w.heap.size+2) (w.heap.size+3) (.slice vad S.L.length vc) S (.ok s))=>Lh (w.heap.size+2) (w.heap.size+3) (.slice vad S.L.length vc) S (.ok s) 12 (by decide) w' h'
   have hil:(s.tok:Int)<(S.L.length:Int):=by omega
   clear HE1
   go_enter Tryz.func28,Tryz.ntmps28
   go_wp2_with (first
    | (go_at_call 52;refine hpr'.mono ?_;rintro e w4 ⟨⟨u,rfl,hvv⟩,hp4,hg4⟩;obtain⟨a',b',c',ad',n',cc',hu'⟩:=hvv.any;subst hu';rw[<-hW]at hg4;have hT:=hTk w4 a' b' c' (.slice ad' n' cc') _ hp4 hg4))
   obtain⟨many,ho,_,_,_,_⟩:=Par.ok hT.par
   obtain⟨k0,k1,k2,k3,k4,k5,k6⟩:=ho.cells
   have hql:=ho.lt
   have hN4:w.heap.size+2<w4.heap.size:=by have:=hg4.size;omega
   generalize w4.alloc (.cells #[.int .i64 a',.string b',.int .i64 c',.slice ad' n' cc'] 24)=w5 at *
   generalize w4.heap.size=N4 at *
   clear ho hg4 hp4 hvv hpr'
   go_quiet (fail)
   go_wp2_with (first
    | (go_at_call 53;refine(hfl _ (hT.drewN nq).par).mono ?_;rintro e w7 ⟨rfl,hp7,hg7⟩;have hT6:=(hT.drewN nq).grown hp7 hg7 rfl hN4;obtain⟨tok2,deep2,many2,fc2,fa2,ho6,hf6⟩:=hT6.par.obj;obtain⟨hfx,hfy,_⟩:=hf6;subst hfx hfy;obtain⟨_,_,_,_,_,p5,p6⟩:=ho6.cells;obtain⟨⟨x0,x1,x2,x3⟩,f0,f1,f2,f3⟩:=hT6.box.facts;obtain⟨hl,⟨y0,y1⟩,g0,g1⟩:=hT6.fbx.facts;have hq7:=ho6.lt))
   go_region
   all_goals go_wp2_with fail
   obtain⟨hN8,hF8⟩:=Jq hT6.box hT6.fbx (.int .i64 0) (.string ⟨#[]⟩) (.int .i64 0) (.slice none 0 0) (.int .i64 12) (.int .i64 (S.byte s))
   obtain⟨⟨r0,r1,r2,r3⟩,_⟩:=hN8.facts
   obtain⟨_,⟨r4,r5⟩,_⟩:=hF8.facts
   refine bodyPost_ret (v:=.tuple #[.agg #[.int .i64 0,.string ⟨#[]⟩,.int .i64 0,.slice none 0 0],.agg #[.int .i64 12,.int .i64 (S.byte s)]]) (by simp[results,Tryz.results28,go_sem,r0,r1,r2,r3,r4,r5]) rfl ⟨(Jr hT6.bel _ _ _ _ _ _).drew,?_⟩
   rw[HE2.out]
  ·have hil:¬(s.tok:Int)<(S.L.length:Int):=by omega
   by_cases h6:600<s.many
   ·have HE2:Hid (Cn S (Co S)=.error (1,0)):=by have h:=HE1.out;rw[if_neg ht,if_pos h6]at h;exact h
    clear HE1
    go_enter Tryz.func28,Tryz.ntmps28
    go_wp2_with (first
     | (go_at_call 52;refine hpr'.mono ?_;rintro e w4 ⟨⟨u,rfl,hvv⟩,hp4,hg4⟩;obtain⟨a',b',c',ad',n',cc',hu'⟩:=hvv.any;subst hu';rw[<-hW]at hg4;have hT:=hTk w4 a' b' c' (.slice ad' n' cc') _ hp4 hg4))
    obtain⟨many,ho,hmn,_,_,_⟩:=Par.ok hT.par
    rw[hwm]at hmn
    subst hmn
    obtain⟨k0,k1,k2,k3,k4,k5,k6⟩:=ho.cells
    have hql:=ho.lt
    have z5:=ho.frozen 5
    have z6:=ho.frozen 6
    generalize w4.alloc (.cells #[.int .i64 a',.string b',.int .i64 c',.slice ad' n' cc'] 24)=w5 at *
    generalize w4.heap.size=N4 at *
    clear ho hg4 hp4 hvv hpr'
    go_quiet (fail)
    go_wp2_with fail
    have hT6:=hT.drewN nq
    have ho7:ParObj (((w5.drewN nq).setCell ⟨w.heap.size+2,5,none⟩ (.int .i64 1)).setCell ⟨w.heap.size+2,6,none⟩ (.int .i64 0)) (w.heap.size+2) (.slice vad S.L.length vc) S.fin s.tok s.deep s.many 1 0:=by
     obtain⟨m2,h2,hm2,_⟩:=Par.ok hT6.par
     rw[hwm]at hm2
     subst hm2
     exact(h2.setCode 1).setByte 0
    have hN7:=(hT6.box.setOff (N:=w.heap.size+2) (j:=5) (by omega) (.int .i64 1)).setOff (N:=w.heap.size+2) (j:=6) (by omega) (.int .i64 0)
    have hF7:=(hT6.fbx.setAt (N:=w.heap.size+2) (j:=5) (by omega) (.int .i64 1)).setAt (N:=w.heap.size+2) (j:=6) (by omega) (.int .i64 0)
    have hB7:=(hT6.bel.setCell (p:=⟨w.heap.size+2,5,none⟩) (by dsimp only;omega) (.int .i64 1)).setCell (p:=⟨w.heap.size+2,6,none⟩) (by dsimp only;omega) (.int .i64 0)
    generalize ((w5.drewN nq).setCell ⟨w.heap.size+2,5,none⟩ (.int .i64 1)).setCell ⟨w.heap.size+2,6,none⟩ (.int .i64 0)=w7 at *
    obtain⟨_,_,_,_,_,p5,p6⟩:=ho7.cells
    have hq7:=ho7.lt
    obtain⟨⟨x0,x1,x2,x3⟩,f0,f1,f2,f3⟩:=hN7.facts
    obtain⟨hl,⟨y0,y1⟩,g0,g1⟩:=hF7.facts
    go_region
    all_goals go_wp2_with fail
    obtain⟨hN8,hF8⟩:=Jq hN7 hF7 (.int .i64 0) (.string ⟨#[]⟩) (.int .i64 0) (.slice none 0 0) (.int .i64 1) (.int .i64 0)
    obtain⟨⟨r0,r1,r2,r3⟩,_⟩:=hN8.facts
    obtain⟨_,⟨r4,r5⟩,_⟩:=hF8.facts
    refine bodyPost_ret (v:=.tuple #[.agg #[.int .i64 0,.string ⟨#[]⟩,.int .i64 0,.slice none 0 0],.agg #[.int .i64 1,.int .i64 0]]) (by simp[results,Tryz.results28,go_sem,r0,r1,r2,r3,r4,r5]) rfl ⟨(Jr hB7 _ _ _ _ _ _).drew,?_⟩
    rw[HE2.out]
   ·have HE2:Hid (Cn S (Co S)=.ok nd):=by have h:=HE1.out;rw[if_neg ht,if_neg h6]at h;exact h
    clear HE1
    go_enter Tryz.func28,Tryz.ntmps28
    go_wp2_with (first
     | (go_at_call 52;refine hpr'.mono ?_;rintro e w4 ⟨⟨u,rfl,hvv⟩,hp4,hg4⟩;obtain⟨a',b',c',ad',n',cc',hu'⟩:=hvv.any;subst hu';rw[<-hW]at hg4;have hT:=hTk w4 a' b' c' (.slice ad' n' cc') _ hp4 hg4))
    obtain⟨many,ho,hmn,_,_,_⟩:=Par.ok hT.par
    rw[hwm]at hmn
    subst hmn
    obtain⟨k0,k1,k2,k3,k4,k5,k6⟩:=ho.cells
    have hql:=ho.lt
    have HNV:Hid (NodeV (w4.alloc (.cells #[.int .i64 a',.string b',.int .i64 c',.slice ad' n' cc'] 24)) (AZ (w.heap.size+3)) (.agg #[.int .i64 a',.string b',.int .i64 c',.slice ad' n' cc']) nd):=NodeV.above hvv (Zh (Zf _ _ none) (fun k e=>by cases e))
    have hN4:w.heap.size+2<w4.heap.size:=by have:=hg4.size;omega
    generalize w4.alloc (.cells #[.int .i64 a',.string b',.int .i64 c',.slice ad' n' cc'] 24)=w5 at *
    generalize w4.heap.size=N4 at *
    clear ho hg4 hp4 hvv hpr'
    obtain⟨⟨t0,t1,t2,t3⟩,_⟩:=hT.nod.facts
    have hNl:=hT.nod.lt
    obtain⟨⟨x0,x1,x2,x3⟩,f0,f1,f2,f3⟩:=hT.box.facts
    obtain⟨hl,⟨y0,y1⟩,g0,g1⟩:=hT.fbx.facts
    go_quiet (fail)
    go_wp2_with fail
    have hT6:=hT.drewN nq
    obtain⟨hN8,hF8⟩:=Jq hT6.box hT6.fbx (.int .i64 a') (.string b') (.int .i64 c') (.slice ad' n' cc') (.int .i64 0) (.int .i64 0)
    obtain⟨⟨r0,r1,r2,r3⟩,_⟩:=hN8.facts
    obtain⟨_,⟨r4,r5⟩,_⟩:=hF8.facts
    refine bodyPost_ret (v:=.tuple #[.agg #[.int .i64 a',.string b',.int .i64 c',.slice ad' n' cc'],.agg #[.int .i64 0,.int .i64 0]]) (by simp[results,Tryz.results28,go_sem,r0,r1,r2,r3,r4,r5]) rfl ⟨Jr hT6.bel _ _ _ _ _ _,?_⟩
    rw[HE2.out]
    exact⟨_,rfl,Vj (C:=w.heap.size+3) (by omega) (HNV.out.above (Zk (Ae w5 nq))) _ _ _ _ _ _⟩
end Go.Proofs.YtibeadcfgcfdbaaGreatDoor
