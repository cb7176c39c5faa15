/- Texts in one. -/
import Derived.Test.YtibeadcfgcfdbaaGreatDoorCk9aX
set_option linter.unusedSimpArgs false
set_option maxHeartbeats 16000000
set_option maxRecDepth 20000
namespace Go.Proofs.YtibeadcfgcfdbaaGreatDoor
open Go.RowKit
theorem SB(t:ByteArray)(w:World)(ks:List Nd)(b:Nd)(hk:∀c∈ks,WfC c)(hsm:A4 (.mk 1 [] 0 (ks++[b]))<=600)(hps:Calls Tryz.prog 14 #[.string t] ((w.alloc A9).alloc Ab) fun e w'=>Below (w.heap.size+2) ((w.alloc A9).alloc Ab) w'/\∃u,e=.returned (.tuple #[u,.agg #[.int .i64 0,.int .i64 0]])/\NodeV w' (AZ (w.heap.size+2)) u (.mk 1 [] 0 (ks++[b]))) :
  Calls Tryz.prog 7 #[.string t] w fun e w'=>Below w.heap.size w w'/\((Hj ks b).1=0->∃u,e=.returned (.tuple #[u,.agg #[.int .i64 0,.int .i64 0]])/\NodeV w' (AZ w.heap.size) u (.mk 1 [] 0 (ks++[b])))/\(¬(Hj ks b).1=0->e=.returned (.tuple #[.agg #[.int .i64 0,.string ⟨#[]⟩,.int .i64 0,.slice none 0 0],.agg #[.int .i64 (Hj ks b).1,.int .i64 (Hj ks b).2]])):=by
 have hb0:Below w.heap.size w ((w.alloc A9).alloc Ab):=((Zg _ w).alloc (Z0 _) _).alloc (by simp) _
 have HN:Hid (Box4 ((w.alloc A9).alloc Ab) w.heap.size (.int .i64 0) (.string ⟨#[]⟩) (.int .i64 0) (.slice none 0 0)):=(Box4.new w (.int .i64 0) (.string ⟨#[]⟩) (.int .i64 0) (.slice none 0 0)).alloc _
 have HF:Hid (Box2 ((w.alloc A9).alloc Ab) (w.heap.size+1) (.int .i64 0) (.int .i64 0)):=by
  show Box2 _ _ _ _
  have:=heap_alloc_new (w.alloc A9) Ab
  rw[show(w.alloc A9).heap.size=w.heap.size+1 by simp]at this
  exact this
 obtain⟨PF,HPF⟩:∃PF,Hid (Hj ks b=PF):=⟨_,rfl⟩
 rw[HPF.out]
 obtain⟨KS,HKS⟩:∃KS,Hid (ks++[b]=KS):=⟨_,rfl⟩
 rw[HKS.out]at hps⊢
 rw[EB,CT]at hsm
 have hkl:=Ci ks
 have hkl6:ks.length<=600:=by omega
 have HSM:Hid (1+(A5 ks+A5 [b])<=600):=hsm
 have HWF:Hid (∀c∈ks,WfC c):=hk
 have hKL:KS.length=ks.length+1:=by rw[<-HKS.out,Z1];rfl
 have hw5:=AN (x:=(KS.length:Int)-1) (by omega) (by omega)
 have hw6:(KS.length:Int)-1=(ks.length:Int):=by omega
 have HKL:Hid (KS.length=ks.length+1):=hKL
 have HSZ:Hid (((w.alloc A9).alloc Ab).heap.size=w.heap.size+2):=by show _=_;simp
 clear hk hsm hkl hKL
 go_enter Tryz.func7,Tryz.ntmps7
 go_upto_block 0 with(first | (go_at_call 14;refine hps.mono ?_;rintro e w1 ⟨hb1,u1,rfl,hv1⟩;obtain⟨ad,c,rfl,hkk⟩:=To hv1))
 have HPR:Hid (Pre w ((w1.alloc (.cells #[.int .i64 1,.string (strOfNums []),.int .i64 0,.slice ad KS.length c] 24)).alloc (.cells #[.int .i64 0,.int .i64 0] 27)) (w1.heap.size+1+1) w1.heap.size (strOfNums []) ad KS c):=VB HSZ.out hb0 HN.out HF.out hb1 hv1 hkk
 have HK0:=InK.first ((w1.alloc (.cells #[.int .i64 1,.string (strOfNums []),.int .i64 0,.slice ad KS.length c] 24)).alloc (.cells #[.int .i64 0,.int .i64 0] 27))
 rw[HPR.out.sz]at HK0
 have HK1:Hid (InK _ _ (w1.heap.size+1+1) _ _ _ _ _ _ _):=HK0
 clear HK0 hb1 hkk hb0 HN HF HSZ hps hv1
 obtain⟨w2,ew2⟩:∃w2,w2=(w1.alloc (.cells #[.int .i64 1,.string (strOfNums []),.int .i64 0,.slice ad KS.length c] 24)).alloc (.cells #[.int .i64 0,.int .i64 0] 27):=⟨_,rfl⟩
 rw[<-ew2]at HPR HK1⊢
 obtain⟨w3,ew3⟩:∃w3,w3=w2.alloc (.cells #[.slice none 0 0,.slice none 0 0,.int .i64 1,.slice none 0 0,.slice none 0 0,.bool false,.bool false,.int .i64 0,.int .i64 0] 50):=⟨_,rfl⟩
 rw[<-ew3]at HK1⊢
 clear ew2 ew3
 generalize w1.heap.size+1+1=Q at *
 obtain⟨FB,eFB⟩:∃FB,FB=w1.heap.size+1:=⟨_,rfl⟩
 rw[<-eFB]
 clear eFB
 generalize w1.heap.size=XN at *
 generalize strOfNums []=x0 at *
 clear hw5
 go_cut [8] from 26 to 45 (fun _ wx=>∃vn,Hid (InK w2 wx Q vn (.slice none 0 0) (ks.map Nd.str) [] [] 1 (0,0)))
 case first=>
  go_wp2_with fail
  go_loopw [8] (fun s8 wr=>∃(i:Nat) (vn:Value),s8=.int .i64 (i:Int)/\i<=ks.length/\Hid (InK w2 wr Q vn (.slice none 0 0) ((ks.take i).map Nd.str) [] [] 1 (0,0))) (fun s8 _=>100001-(intOf s8).toNat)
  case atStart=>exact⟨0,.slice none 0 0,rfl,Z3 _,HK1⟩
  case round=>
   clear HK1
   obtain⟨i,vn,rfl,hi,HK⟩:=hrel
   by_cases hlt:i<ks.length
   ·have hil:(i:Int)<(ks.length:Int):=by omega
    have hik:i<KS.length:=by have:=HKL.out;omega
    have hiK:(i:Int)<(KS.length:Int):=by omega
    have hwi:=AN (x:=(i:Int)+1) (by omega) (by omega)
    go_upto_region 9 with fail
    obtain⟨_,_,_,hnb⟩:=HPR.out.below HK.out.fr
    obtain⟨⟨x0',x1,x2,x3⟩,_⟩:=hnb.facts
    have hlx:=hnb.lt
    obtain⟨b3,o3,rfl,hbr,adt,lt,ct,⟨-,q1,-,-⟩,-⟩:=HPR.out.kid HK.out.fr hik
    obtain⟨tb,etb⟩:∃tb,strOfNums KS[i].text=tb:=⟨_,rfl⟩
    rw[etb]at q1
    have ekn:(ks.take (i+1)).map Nd.str=(ks.take i).map Nd.str++[tb]:=by
     have e:KS[i]=ks[i]:=by
      have:=HKS.out
      subst this
      exact Zb hlt
     rw[List.take_succ_eq_append_getElem hlt,List.map_append,<-etb,e]
     rfl
    have HEK:Hid ((ks.take (i+1)).map Nd.str=(ks.take i).map Nd.str++[tb]):=ekn
    have hnl:((ks.take i).map Nd.str).length=i:=by rw[List.length_map,List.length_take];omega
    have hnl6:((ks.take i).map Nd.str).length<=600:=by omega
    clear etb ekn hnl
    generalize (ks.take i).map Nd.str=nms at *
    obtain⟨vs2,vl2,ins2,ret2,ho2⟩:=HK.out.obj
    obtain⟨⟨k0,k1,k2,k3⟩,k4,k5,k6,k7,k8⟩:=ho2.cells
    have hlq:=ho2.lt
    obtain⟨va,vcp,hva,_,_⟩:=B2 HK.out.nm
    subst hva
    have hO:=HK.out.nm.drew.alloc (.cells #[.string tb] 9)
    have hB7:Q+1<=(wr.drew.alloc (.cells #[.string tb] 9)).heap.size:=by simp;omega
    have hqn:(Value.slice va nms.length vcp).ownBlock≠some Q:=fun e=>by have:=(hO.lt Q e).1;omega
    have hbA:Below wr.heap.size wr (wr.drew.alloc (.cells #[.string tb] 9)):=(Zg _ wr).drew.alloc (Z0 _) _
    have i1:(0:Int)<=(i:Int):=by omega
    clear HPR HSM HWF HPF HKS
    go_region_law (first | (refine FS J3 rfl (.tmp 35) (.tmp 42) rfl (.slice va nms.length vcp) (.slice (some ⟨wr.heap.size,0,none⟩) 1 1) (base:=Q+1) (n:=nms.length) (xs:=BL nms) (news:=[.string tb]) (m:=1) (by first | (simp[Act.eval];done) | simp[Act.eval,Act.put]) (by first | (simp[Act.eval];done) | simp[Act.eval,Act.put]) hO rfl (Or.inr ⟨_,_,rfl,fun j x e=>by(cases j with | zero=>simp at e;subst e;simp[Addr.add] | succ j=>simp at e)⟩) (fun x hx=>by simp at hx;subst hx;rfl) (by omega) hB7 ?_;intro v' w7 hr7 hg7;have ho7:CObj w7 Q (.slice va nms.length vcp) (.slice none 0 0) (1:Int) vs2 vl2 ins2 ret2 (0,0):=(hg7.block Q (by simp;omega) (fun e=>hqn e.symm)).trans ((hbA.block Q hlq).trans ho2);obtain⟨⟨r0,_,_,_⟩,_⟩:=ho7.cells;have rz:=ho7.frozen 0;have rl:=ho7.lt;obtain⟨va7,vc7,hv7,_,_⟩:=B2 hr7;subst hv7))
    all_goals go_wp2_with fail
    all_goals exact⟨⟨i+1,.slice va7 (nms.length+1) vc7,by simp,by omega,by rw[HEK.out];exact HK.out.name hbA hg7 hr7⟩,by simp[intOf];omega⟩
   ·have hil:¬(i:Int)<(ks.length:Int):=by omega
    have hie:i=ks.length:=by omega
    subst hie
    rw[List.take_length]at HK
    go_wp2_with fail
    go_meet
    exact⟨vn,HK⟩
 case rest=>
  obtain⟨vn,HK2⟩:=hcut
  clear HK1
  obtain⟨PR,HPQ⟩:∃PR,Hid (DY (ks.map Nd.str) ks ⟨[],1,(0,0)⟩=PR):=⟨_,rfl⟩
  go_upto_block 2 with fail
  go_cut [9] from 46 to 58 (fun _ wx=>∃vc xs,Hid (InK w2 wx Q vn vc (ks.map Nd.str) xs PR.past PR.next PR.bad)/\Hid (PR.next<=601))
  case first=>
   have hnm6:(ks.map Nd.str).length=ks.length:=List.length_map _
   have HNM:Hid ((ks.map Nd.str).length=ks.length):=hnm6
   clear hnm6
   obtain⟨names,HNE⟩:∃names,Hid (ks.map Nd.str=names):=⟨_,rfl⟩
   rw[HNE.out]at HK2 HPQ HNM
   go_wp2_with fail
   go_loopw [9] (fun s9 wr=>∃(i:Nat) (s:PrR) (vc:Value) (xs:List Value),s9=.int .i64 (i:Int)/\i<=ks.length/\Hid (DY names (ks.drop i) s=PR/\s.past.length=i/\s.next+A5 (ks.drop i)<=601/\∀l∈s.past,l.length<=s.next)/\Hid (InK w2 wr Q vn vc names xs s.past s.next s.bad)) (fun s9 _=>100001-(intOf s9).toNat)
   case atStart=>exact⟨0,⟨[],1,(0,0)⟩,.slice none 0 0,[],rfl,Z3 _,⟨HPQ.out,rfl,by have:=HSM.out;show 1+A5 ks<=601;omega,fun l hl=>by cases hl⟩,HK2⟩
   case round=>
    clear HK2 HPQ
    obtain⟨i,s,vc,xs,rfl,hi,HS,HK⟩:=hrel
    by_cases hlt:i<ks.length
    ·have hil:(i:Int)<(ks.length:Int):=by omega
     have hik:i<KS.length:=by have:=HKL.out;omega
     have hiK:(i:Int)<(KS.length:Int):=by omega
     have hwi:=AN (x:=(i:Int)+1) (by omega) (by omega)
     obtain⟨_,_,_,hnb⟩:=HPR.out.below HK.out.fr
     obtain⟨⟨x0',x1,x2,x3⟩,_⟩:=hnb.facts
     have hlx:=hnb.lt
     obtain⟨b3,o3,rfl,hbr,adt,lt,ct,⟨q0,q1,q2,q3⟩,hv⟩:=HPR.out.kid HK.out.fr hik
     have eki:KS[i]=ks[i]:=by
      have:=HKS.out
      subst this
      exact Zb hlt
     obtain⟨vs2,vl2,ins2,ret2,ho2⟩:=HK.out.obj
     have hdr:ks.drop i=ks[i]::ks.drop (i+1):=Z4 hlt
     have hszd:A5 (ks.drop i)=A4 ks[i]+A5 (ks.drop (i+1)):=by rw[hdr];conv=>lhs;unfold A5
     have hbd:=HS.out.2.2.1
     have hcl:=Tn Q vn vc vs2 vl2 ins2 ret2 names s.past xs KS[i] (by rw[eki];exact HWF.out _ (Z6 hlt)) s.next s.bad _ wr ho2 HK.out.cls HK.out.nm hv (by rw[eki];omega) (by rw[HS.out.2.1,HNM.out];exact hlt) (by rw[HNM.out];omega) HS.out.2.2.2
     obtain⟨hcl,hc1,hc2,hc3⟩:=hcl
     rw[HS.out.2.1]at hcl
     rw[eki]at hc1 hc2 hc3
     have HS2:Hid (DY names (ks.drop (i+1)) ⟨s.past++[(Cq names s.past KS[i] s.next s.bad).slots],(Cq names s.past KS[i] s.next s.bad).next,(Cq names s.past KS[i] s.next s.bad).bad⟩=PR/\(s.past++[(Cq names s.past KS[i] s.next s.bad).slots]).length=i+1/\(Cq names s.past KS[i] s.next s.bad).next+A5 (ks.drop (i+1))<=601/\∀l∈s.past++[(Cq names s.past KS[i] s.next s.bad).slots],l.length<=(Cq names s.past KS[i] s.next s.bad).next):=by
      rw[eki]
      refine⟨?_,?_,by omega,fun l hl=>?_⟩
      ·have e:=HS.out.1
       rw[hdr,DY]at e
       exact e
      ·rw[Z1,HS.out.2.1];rfl
      ·rcases List.mem_append.1 hl with h | h
       ·exact Za (HS.out.2.2.2 l h) hc2
       ·rw[List.mem_singleton.1 h];exact hc1
     clear hc1 hc2 hc3 hdr hszd hbd eki hv ho2 HS HKS HWF HPF hnb
     generalize Cq names s.past KS[i] s.next s.bad=CR at *
     generalize strOfNums KS[i].text=y1 at *
     generalize KS[i].kind=y0 at *
     generalize KS[i].num=y2 at *
     go_wp2_with (first | (go_at_call 15;refine hcl.mono ?_;rintro e w5 ⟨rfl,hce⟩))
     obtain⟨vc',xs',hK5⟩:=HK.out.class hce
     exact⟨⟨i+1,⟨s.past++[CR.slots],CR.next,CR.bad⟩,vc',xs',by simp,by omega,HS2,hK5⟩,by simp[intOf];omega⟩
    ·have hil:¬(i:Int)<(ks.length:Int):=by omega
     have hie:i=ks.length:=by omega
     subst hie
     have e:s=PR:=by
      have e:=HS.out.1
      rw[Z9 (Z0 _)]at e
      exact e
     have HPN:Hid (PR.next<=601):=by
      have h:=HS.out.2.2.1
      rw[e]at h
      show _<=_
      omega
     rw[e]at HK
     clear e HS
     go_wp2_with fail
     go_meet
     rw[HNE.out]
     exact⟨vc,xs,HK,HPN⟩
  case rest=>
   obtain⟨vc,xs,HK3,HPN⟩:=hcut
   clear HK2
   obtain⟨vs2,vl2,ins2,ret2,ho2⟩:=HK3.out.obj
   obtain⟨wb,ewb,HCK,HBB⟩:=HK3.out.main ho2
   obtain⟨⟨k0,k1,k2,k3⟩,k4,k5,k6,k7,k8⟩:=ho2.cells
   have hlq:=ho2.lt
   have z3:=ho2.frozen 3
   have z4:=ho2.frozen 4
   have z5:=ho2.frozen 5
   have z6:=ho2.frozen 6
   have hKi:(ks.length:Int)<(KS.length:Int):=by have:=HKL.out;omega
   have hik:ks.length<KS.length:=by have:=HKL.out;omega
   go_upto_region 18 with fail
   rw[<-ewb]
   clear ewb k0 k1 k2 k3 k4 k5 k6 k7 k8 hlq z3 z4 z5 z6 ho2 HK3
   obtain⟨_,_,_,hnb⟩:=HPR.out.below HBB.out
   obtain⟨⟨x0',x1,x2,x3⟩,_⟩:=hnb.facts
   have hlx:=hnb.lt
   obtain⟨b3,o3,rfl,hbr,adt,lt,ct,⟨q0,q1,q2,q3⟩,hv⟩:=HPR.out.kid HBB.out hik
   have eki:KS[ks.length]=b:=by
    have e:=HKS.out
    subst e
    rw[Zc (Z0 _)]
    simp
   rw[eki]at q0 q1 q2 hv
   obtain⟨kb,xb,nb,kbs⟩:=b
   replace q0:wb.cell? ⟨b3,o3+ks.length*4,none⟩=some (.int .i64 kb):=q0
   replace q1:wb.cell? ⟨b3,o3+ks.length*4+1,none⟩=some (.string (strOfNums xb)):=q1
   replace q2:wb.cell? ⟨b3,o3+ks.length*4+2,none⟩=some (.int .i64 nb):=q2
   have hcb:=MP Q wb.heap.size vn vc (.slice none 0 0) kb xb nb kbs ⟨ks.map Nd.str,[],false,false⟩ [] [] PR.next PR.bad (.slice none 0 0) (.slice none 0 0) (.agg #[.int .i64 kb,.string (strOfNums xb),.int .i64 nb,.slice adt lt ct]) wb HCK.out (hv.mono (fun k hk _=>⟨Nat.lt_trans hk HCK.out.qb,Nat.ne_of_lt hk⟩)) (Zl _ _ _ _) (fun vis hL i v' g e=>by have h0:=Zd hL.len;subst h0;cases e) (by unfold Dr;show 0+0+0+0<=_;exact Z3 _) (by
    have h1:=HPN.out
    have h2:=HSM.out
    have e:A5 [Nd.mk kb xb nb kbs]=1+A5 kbs:=by show A4 _+0=_;rw[EB];rfl
    omega)
   have e1:(BM ⟨ks.map Nd.str,[],false,false⟩ [] kbs ⟨PR.next+1,[],PR.bad⟩).bad=PF:=by
    rw[<-HPF.out]
    unfold Hj
    rw[HPQ.out]
    rfl
   rw[e1]at hcb
   generalize (BM ⟨ks.map Nd.str,[],false,false⟩ [] kbs ⟨PR.next+1,[],PR.bad⟩).next=nx5 at *
   generalize strOfNums xb=xb2 at *
   clear e1 HPQ HPF HWF HKS eki hv HSM HPN
   have hq2:=HCK.out.qb
   go_upto_if 83 with(first | (go_at_call 16;refine hcb.mono ?_;rintro e w5 ⟨rfl,⟨vl5,hc5⟩,hf5⟩;obtain⟨_,_,_,_,p7,p8⟩:=hc5.obj.cells;have hl5:=hc5.obj.lt))
   have hB5:Below Q w2 w5:=by
    have hbb:=HBB.out
    exact⟨hf5.os.trans hbb.os,hf5.tape.trans hbb.tape,hf5.output.trans hbb.output,Za hbb.size hf5.size,fun k h1=>(hf5.block k (by omega) (by omega) (Or.inl (by omega))).trans (hbb.block k h1)⟩
   obtain⟨hBw,hN5,hF5,hX5⟩:=HPR.out.below hB5
   have hv5:=Zi (HPR.out.nv.above (HPR.out.above hB5)) (M':=AZ (w.heap.size+2)) (fun k hk _=>hk.1)
   obtain⟨⟨n0,n1,n2,n3⟩,m0,m1,m2,m3⟩:=hN5.facts
   obtain⟨hl1,⟨c1,c3⟩,z1,z2⟩:=hF5.facts
   have hl0:=hN5.lt
   obtain⟨⟨y0,y1,y2,y3⟩,_⟩:=hX5.facts
   have hlX:=hX5.lt
   have hxn:=HPR.out.xn
   have hxq:=HPR.out.q
   have d1:¬w.heap.size=Q:=by omega
   have d2:¬w.heap.size+1=Q:=by omega
   have d3:¬w.heap.size=XN:=by omega
   have d4:¬w.heap.size+1=XN:=by omega
   clear HCK HBB x0' x1 x2 x3 hlx q0 q1 q2 q3 hbr hcb
   by_cases hpf:PF.1=0
   ·have nb:(PF.1==0)=true:=by simp[hpf]
    go_wp2_with fail
    obtain⟨hN6,hF6⟩:=DO hN5 hF5 (.int .i64 1) (.string x0) (.int .i64 0) (.slice (some ⟨b3,o3,none⟩) KS.length c) (.int .i64 0) (.int .i64 0)
    have hbA:=DP hBw (.int .i64 1) (.string x0) (.int .i64 0) (.slice (some ⟨b3,o3,none⟩) KS.length c) (.int .i64 0) (.int .i64 0)
    obtain⟨⟨k0,k1,k2,k3⟩,_⟩:=hN6.facts
    obtain⟨_,⟨k4,k5⟩,_⟩:=hF6.facts
    exact bodyPost_ret (v:=.tuple #[.agg #[.int .i64 1,.string x0,.int .i64 0,.slice (some ⟨b3,o3,none⟩) KS.length c],.agg #[.int .i64 0,.int .i64 0]]) (by simp[results,Tryz.results7,go_sem,k0,k1,k2,k3,k4,k5]) rfl ⟨hbA,fun _=>⟨_,rfl,Jz (Z0 _) hv5 _ _ _ _ _ _⟩,fun e=>absurd hpf e⟩
   ·have nb:(PF.1==0)=false:=by simpa using hpf
    go_wp2_with fail
    go_region
    all_goals go_wp2_with fail
    obtain⟨hN6,hF6⟩:=DO hN5 hF5 (.int .i64 0) (.string ⟨#[]⟩) (.int .i64 0) (.slice none 0 0) (.int .i64 PF.1) (.int .i64 PF.2)
    have hbA:=DP hBw (.int .i64 0) (.string ⟨#[]⟩) (.int .i64 0) (.slice none 0 0) (.int .i64 PF.1) (.int .i64 PF.2)
    obtain⟨⟨k0,k1,k2,k3⟩,_⟩:=hN6.facts
    obtain⟨_,⟨k4,k5⟩,_⟩:=hF6.facts
    exact bodyPost_ret (v:=.tuple #[.agg #[.int .i64 0,.string ⟨#[]⟩,.int .i64 0,.slice none 0 0],.agg #[.int .i64 PF.1,.int .i64 PF.2]]) (by simp[results,Tryz.results7,go_sem,k0,k1,k2,k3,k4,k5]) rfl ⟨hbA.drew,fun e=>absurd e hpf,fun _=>rfl⟩
theorem QU(t:ByteArray)(w:World)(hm:t.size<=maxLen):Calls Tryz.prog 7 #[.string t] w fun e w'=>GN w (A2 t) e w':=by
 have hb0:Below w.heap.size w ((w.alloc A9).alloc Ab):=((Zg _ w).alloc (Z0 _) _).alloc (by simp) _
 have hps:=S2 t ((w.alloc A9).alloc Ab) hm
 have HN:Hid (Box4 ((w.alloc A9).alloc Ab) w.heap.size (.int .i64 0) (.string ⟨#[]⟩) (.int .i64 0) (.slice none 0 0)):=(Box4.new w (.int .i64 0) (.string ⟨#[]⟩) (.int .i64 0) (.slice none 0 0)).alloc _
 have HF:Hid (Box2 ((w.alloc A9).alloc Ab) (w.heap.size+1) (.int .i64 0) (.int .i64 0)):=by
  show Box2 _ _ _ _
  have:=heap_alloc_new (w.alloc A9) Ab
  rw[show(w.alloc A9).heap.size=w.heap.size+1 by simp]at this
  exact this
 have hsz0:((w.alloc A9).alloc Ab).heap.size=w.heap.size+2:=by simp
 unfold Ha at hps
 rw[hsz0]at hps
 unfold GN JH
 cases hp:Cc (A2 t)with
 | error f=>
  have hc:=OE hp
  rw[hp]at hps
  obtain⟨c,a⟩:=f
  have hc0:¬c=0:=hc
  clear hp hc hsz0
  go_enter Tryz.func7,Tryz.ntmps7
  go_wp2_with (first | (go_at_call 14;refine hps.mono ?_;rintro e w1 ⟨hb1,rfl⟩;have hN1:=HN.out.below hb1 (by omega);have hF1:=HF.out.below hb1 (by omega);obtain⟨⟨n0,n1,n2,n3⟩,m0,m1,m2,m3⟩:=hN1.facts;obtain⟨hl1,⟨c1,c3⟩,z1,z2⟩:=hF1.facts;have hl0:=hN1.lt))
  have e1:¬w.heap.size=w1.heap.size:=by omega
  have e2:¬w.heap.size+1=w1.heap.size:=by omega
  have e3:¬w.heap.size=w1.heap.size+1:=by omega
  have e4:¬w.heap.size+1=w1.heap.size+1:=by omega
  go_region
  all_goals go_wp2_with fail
  obtain⟨hN6,hF6⟩:=DO hN1 hF1 (.int .i64 0) (.string ⟨#[]⟩) (.int .i64 0) (.slice none 0 0) (.int .i64 c) (.int .i64 a)
  have hbA:=DP (hb0.trans (hb1.mono (by omega))) (.int .i64 0) (.string ⟨#[]⟩) (.int .i64 0) (.slice none 0 0) (.int .i64 c) (.int .i64 a)
  obtain⟨⟨k0,k1,k2,k3⟩,_⟩:=((hN6.alloc (.cells #[.int .i64 0,.string ⟨#[]⟩,.int .i64 0,.slice none 0 0] 24)).alloc (.cells #[.int .i64 c,.int .i64 a] 27)).facts
  obtain⟨_,⟨k4,k5⟩,_⟩:=(hF6.below (CF _ (.cells #[.int .i64 0,.string ⟨#[]⟩,.int .i64 0,.slice none 0 0] 24) (.cells #[.int .i64 c,.int .i64 a] 27)) hF6.facts.1).facts
  refine bodyPost_ret (v:=.tuple #[.agg #[.int .i64 0,.string ⟨#[]⟩,.int .i64 0,.slice none 0 0],.agg #[.int .i64 c,.int .i64 a]]) (by simp[results,Tryz.results7,go_sem,k0,k1,k2,k3,k4,k5]) rfl ⟨?_,rfl⟩
  exact(hbA.trans ((CF _ (.cells #[.int .i64 0,.string ⟨#[]⟩,.int .i64 0,.slice none 0 0] 24) (.cells #[.int .i64 c,.int .i64 a] 27)).mono hbA.size)).drew
 | ok n=>
  rw[hp]at hps
  obtain⟨hwf,hsm⟩:=UM hp
  obtain⟨ks,b,hn,hk,-,hpr⟩:=Vd hwf
  have hbad:=Na n
  subst hn
  refine(SB t w ks b hk hsm hps).mono ?_
  rintro e w' ⟨hb,hok,herr⟩
  refine⟨hb,?_⟩
  dsimp only
  cases hz:FR (.mk 1 [] 0 (ks++[b]))with
  | error f=>
   rw[hz]at hpr
   have hpr':Hj ks b=f:=hpr
   have he:=herr (by rw[hpr'];exact hbad f hz)
   rw[hpr']at he
   exact he
  | ok _=>
   rw[hz]at hpr
   have hpr':Hj ks b=(0,0):=hpr
   exact hok (by rw[hpr'])
end Go.Proofs.YtibeadcfgcfdbaaGreatDoor
