/- Texts in one. -/
import Derived.Test.YtibeadcfgcfdbaaGreatDoorMj
import Derived.Test.YtibeadcfgcfdbaaGreatDoorRLexX
import Derived.Test.YtibeadcfgcfdbaaGreatDoorMt
set_option maxHeartbeats 8000000
set_option maxRecDepth 20000
namespace Go.Proofs.YtibeadcfgcfdbaaGreatDoor
open Go.RowKit
theorem S2(t:ByteArray)(w:World)(hm:t.size<=maxLen) :
  Calls Tryz.prog 14 #[.string t] w fun e w'=>Ha w (A2 t) e w':=by
 have hb0:Below w.heap.size w ((w.alloc A9).alloc Ab):=((Zg _ w).alloc (Z0 _) _).alloc (by simp) _
 have hsc:=TS t ((w.alloc A9).alloc Ab) hm
 have HN:Hid (Box4 ((w.alloc A9).alloc Ab) w.heap.size (.int .i64 0) (.string ⟨#[]⟩) (.int .i64 0) (.slice none 0 0)):=(Box4.new w (.int .i64 0) (.string ⟨#[]⟩) (.int .i64 0) (.slice none 0 0)).alloc _
 have HF:Hid (Box2 ((w.alloc A9).alloc Ab) (w.heap.size+1) (.int .i64 0) (.int .i64 0)):=by
  show Box2 _ _ _ _
  have:=heap_alloc_new (w.alloc A9) Ab
  rw[show(w.alloc A9).heap.size=w.heap.size+1 by simp]at this
  exact this
 have hsz0:((w.alloc A9).alloc Ab).heap.size=w.heap.size+2:=by simp
 rw[hsz0]at hsc
 clear hsz0
 cases hq:Cf (A2 t)with
 | error f=>
  have hf:=Kk hq
  have HP:Hid (Cc (A2 t)=.error f):=by show _=_;unfold Cc;rw[hq]
  unfold DN at hsc
  rw[hq]at hsc
  obtain⟨c,a⟩:=f
  have hc:¬c=0:=hf
  clear hq hf
  go_enter Tryz.func14,Tryz.ntmps14
  go_wp2_with (first | (go_at_call 27;refine hsc.mono ?_;rintro e w1 ⟨rfl,hb1⟩;have hN1:=HN.out.below hb1 (by omega);have hF1:=HF.out.below hb1 (by omega);obtain⟨⟨n0,n1,n2,n3⟩,m0,m1,m2,m3⟩:=hN1.facts;obtain⟨hl1,⟨c1,c3⟩,z1,z2⟩:=hF1.facts;have hl0:=hN1.lt))
  have hF5:Box2 (w1.alloc (.cells #[.int .i64 c,.int .i64 a] 27)) w1.heap.size (.int .i64 c) (.int .i64 a):=heap_alloc_new w1 _
  obtain⟨hl5,⟨d1,d2⟩,y1,y2⟩:=hF5.facts
  have e1:¬w.heap.size=w1.heap.size:=by omega
  have e2:¬w.heap.size+1=w1.heap.size:=by omega
  go_region
  all_goals go_wp2_with fail
  obtain⟨hN6,hF6⟩:=DO hN1 hF1 (.int .i64 0) (.string ⟨#[]⟩) (.int .i64 0) (.slice none 0 0) (.int .i64 c) (.int .i64 a)
  have hbA:=DP (hb0.trans (hb1.mono (by omega))) (.int .i64 0) (.string ⟨#[]⟩) (.int .i64 0) (.slice none 0 0) (.int .i64 c) (.int .i64 a)
  obtain⟨⟨k0,k1,k2,k3⟩,_⟩:=(hN6.alloc (.cells #[.int .i64 c,.int .i64 a] 27)).facts
  obtain⟨_,⟨k4,k5⟩,_⟩:=(hF6.below ((Zg _ _).alloc (Z0 _) (.cells #[.int .i64 c,.int .i64 a] 27)) hF6.facts.1).facts
  refine bodyPost_ret (v:=.tuple #[.agg #[.int .i64 0,.string ⟨#[]⟩,.int .i64 0,.slice none 0 0],.agg #[.int .i64 c,.int .i64 a]]) (by simp[results,Tryz.results14,go_sem,k0,k1,k2,k3,k4,k5]) rfl ?_
  refine⟨(hbA.alloc hbA.size _).drew,?_⟩
  rw[HP.out]
 | ok l=>
  have hfew:=Lr hq
  have hby:=LM (Dw t) hq
  have hnf:=JF hq
  have hgd:=Fe hq
  rw[Ai]at hfew hnf hgd
  have htk:=fun v w' (hv:ReadsT w' v l)=>Rg v ⟨l,t.size⟩ (by show l.length<=4000;omega) hby hnf hgd w' hv
  have HW:Hid (Cc (A2 t)=Cn ⟨l,t.size⟩ (Co ⟨l,t.size⟩)):=by
   show _=_
   unfold Cc
   rw[hq]
   show Cn ⟨l,(A2 t).length⟩ (Co ⟨l,(A2 t).length⟩)=_
   rw[Ai]
  unfold DN at hsc
  rw[hq]at hsc
  clear hq hfew hby hnf hgd
  unfold TD at htk
  unfold Ha
  rw[HW.out]
  generalize Cn ⟨l,t.size⟩ (Co ⟨l,t.size⟩)=GE at *
  cases GE with
  | error f=>
   obtain⟨c,a⟩:=f
   go_enter Tryz.func14,Tryz.ntmps14
   go_wp2_with (first | (go_at_call 28;refine(htk _ _ hR1).mono ?_;rintro e w2 ⟨hb2,rfl⟩;have hN2:=(hN1.alloc Ab).below hb2 (by simp;omega);have hF2:=(hF1.below ((Zg _ w1).alloc (Z0 _) Ab) hl1).below hb2 (by simp;omega);obtain⟨⟨p0,p1,p2,p3⟩,q0,q1,q2,q3⟩:=hN2.facts;obtain⟨hl2,⟨c2,c4⟩,z3,z4⟩:=hF2.facts;have hlN:=hN2.lt) | (go_at_call 27;refine hsc.mono ?_;rintro e w1 ⟨⟨v,rfl,hv⟩,hb1⟩;have hR1:=ReadsT.of_own (hv.alloc Ab);obtain⟨va,vc,hve,_⟩:=hR1;have hR1:=ReadsT.of_own (hv.alloc Ab);subst hve;have hN1:=HN.out.below hb1 (by omega);have hF1:=HF.out.below hb1 (by omega);have hl0:=hN1.lt;obtain⟨hl1,_⟩:=hF1.facts))
   obtain⟨hN6,hF6⟩:=DO hN2 hF2 (.int .i64 0) (.string ⟨#[]⟩) (.int .i64 0) (.slice none 0 0) (.int .i64 c) (.int .i64 a)
   have hbw2:Below w.heap.size w w2:=((hb0.trans (hb1.mono (by omega))).alloc (by omega) Ab).trans (hb2.mono (by simp;omega))
   have hbA:=DP hbw2 (.int .i64 0) (.string ⟨#[]⟩) (.int .i64 0) (.slice none 0 0) (.int .i64 c) (.int .i64 a)
   obtain⟨⟨k0,k1,k2,k3⟩,_⟩:=hN6.facts
   obtain⟨_,⟨k4,k5⟩,_⟩:=hF6.facts
   exact bodyPost_ret (v:=.tuple #[.agg #[.int .i64 0,.string ⟨#[]⟩,.int .i64 0,.slice none 0 0],.agg #[.int .i64 c,.int .i64 a]]) (by simp[results,Tryz.results14,go_sem,k0,k1,k2,k3,k4,k5]) rfl ⟨hbA,rfl⟩
  | ok nd=>
   go_enter Tryz.func14,Tryz.ntmps14
   go_wp2_with (first | (go_at_call 28;refine(htk _ _ hR1).mono ?_;rintro e w2 ⟨hb2,u,rfl,hvn⟩;obtain⟨a',b',c',ad',n',cc',hu'⟩:=hvn.any;subst hu';have hN2:=(hN1.alloc Ab).below hb2 (by simp;omega);have hF2:=(hF1.below ((Zg _ w1).alloc (Z0 _) Ab) hl1).below hb2 (by simp;omega);obtain⟨⟨p0,p1,p2,p3⟩,q0,q1,q2,q3⟩:=hN2.facts;obtain⟨hl2,⟨c2,c4⟩,z3,z4⟩:=hF2.facts;have hlN:=hN2.lt) | (go_at_call 27;refine hsc.mono ?_;rintro e w1 ⟨⟨v,rfl,hv⟩,hb1⟩;have hR1:=ReadsT.of_own (hv.alloc Ab);obtain⟨va,vc,hve,_⟩:=hR1;have hR1:=ReadsT.of_own (hv.alloc Ab);subst hve;have hN1:=HN.out.below hb1 (by omega);have hF1:=HF.out.below hb1 (by omega);have hl0:=hN1.lt;obtain⟨hl1,_⟩:=hF1.facts))
   obtain⟨hN6,hF6⟩:=DO hN2 hF2 (.int .i64 a') (.string b') (.int .i64 c') (.slice ad' n' cc') (.int .i64 0) (.int .i64 0)
   have hbw2:Below w.heap.size w w2:=((hb0.trans (hb1.mono (by omega))).alloc (by omega) Ab).trans (hb2.mono (by simp;omega))
   have hbA:=DP hbw2 (.int .i64 a') (.string b') (.int .i64 c') (.slice ad' n' cc') (.int .i64 0) (.int .i64 0)
   obtain⟨⟨k0,k1,k2,k3⟩,_⟩:=hN6.facts
   obtain⟨_,⟨k4,k5⟩,_⟩:=hF6.facts
   refine bodyPost_ret (v:=.tuple #[.agg #[.int .i64 a',.string b',.int .i64 c',.slice ad' n' cc'],.agg #[.int .i64 0,.int .i64 0]]) (by simp[results,Tryz.results14,go_sem,k0,k1,k2,k3,k4,k5]) rfl ⟨hbA,_,rfl,?_⟩
   exact Jz (C:=(w1.alloc Ab).heap.size) (by simp;omega) hvn _ _ _ _ _ _
theorem Pn:∀ks:List Nd,ks.length<=A5 ks
 | []=>Z3 _
 | k::ks=>by
  have h:=Pn ks
  have e:A5 (k::ks)=A4 k+A5 ks:=by conv=>lhs;unfold A5
  have hk:1<=A4 k:=by cases k with | mk a b c d=>unfold A4;omega
  rw[e,List.length_cons]
  omega
theorem VC:∀(N:Nat),N<=100000->∀(n:Nd),A4 n<=N->∀(M M':Nat->Prop) (u u':Value) (w:World),NodeV w M u n->NodeV w M' u' n ->
  Calls Tryz.prog 8 #[u,u'] w fun e w'=>e=.returned (.bool true)/\Below w.heap.size w w':=by
 intro N
 induction N with
 | zero=>intro _ n hn;cases n with | mk a b c d=>unfold A4 at hn;omega
 | succ N ih=>
  intro hN n hn M M' u u' w hv hv'
  cases n with
  | mk kd tx nm ks=>
   obtain⟨x,hu,ad,c0,hx,hk⟩:=hv
   obtain⟨x',hu',ad',c0',hx',hk'⟩:=hv'
   obtain⟨c,hcc⟩:∃c,c0+ks.length=c:=⟨_,rfl⟩
   obtain⟨c',hcc'⟩:∃c',c0'+ks.length=c':=⟨_,rfl⟩
   have hx2:x=.slice ad ks.length c:=by rw[<-hcc];exact hx
   have hx2':x'=.slice ad' ks.length c':=by rw[<-hcc'];exact hx'
   clear hcc hcc'
   subst hx2 hx2'
   have hu2:u=.agg #[.int .i64 kd,.string (strOfNums tx),.int .i64 nm,.slice ad ks.length c]:=hu
   have hu2':u'=.agg #[.int .i64 kd,.string (strOfNums tx),.int .i64 nm,.slice ad' ks.length c']:=hu'
   subst hu2 hu2'
   have hsz:A5 ks<=N:=by unfold A4 at hn;omega
   have hkl:ks.length<=100000:=by have:=Pn ks;omega
   have HK:Hid (0<ks.length->∃b o,ad=some ⟨b,o,none⟩/\M b/\b<w.heap.size/\NodesAt w M b o ks):=hk
   have HK':Hid (0<ks.length->∃b o,ad'=some ⟨b,o,none⟩/\M' b/\b<w.heap.size/\NodesAt w M' b o ks):=hk'
   have HI:Hid (∀(n:Nd),A4 n<=N->∀(M M':Nat->Prop) (u u':Value) (w:World),NodeV w M u n->NodeV w M' u' n->Calls Tryz.prog 8 #[u,u'] w fun e w'=>e=.returned (.bool true)/\Below w.heap.size w w'):=ih (by omega)
   generalize strOfNums tx=tb at *
   clear hk hk' ih hn hx hx' hu hu'
   obtain⟨A,hA⟩:∃A:Obj,A=.cells #[.int .i64 kd,.string tb,.int .i64 nm,.slice ad ks.length c] 24:=⟨_,rfl⟩
   obtain⟨A',hA'⟩:∃A':Obj,A'=.cells #[.int .i64 kd,.string tb,.int .i64 nm,.slice ad' ks.length c'] 24:=⟨_,rfl⟩
   go_enter Tryz.func8,Tryz.ntmps8
   go_wp2_with fail
   go_loopw [5] (fun s5 wr=>∃(i:Nat),s5=.int .i64 i/\i<=ks.length/\Hid (Below ((w.alloc A).alloc A').heap.size ((w.alloc A).alloc A') wr)) (fun s5 _=>100002-(intOf s5).toNat)
   case atStart=>exact⟨0,rfl,by omega,by rw[hA,hA'];exact Zg _ _⟩
   case round=>
    rename_i wr
    obtain⟨i,rfl,hi,HB⟩:=hrel
    have hB:=HB.out
    have hcell:wr.cell? ⟨w.heap.size,3,none⟩=some (.slice ad ks.length c):=by
     rw[hB.cell (p:=⟨w.heap.size,3,none⟩) (by simp;omega)]
     rw[((Zg (w.alloc A).heap.size (w.alloc A)).alloc (Z0 _) A').cell (p:=⟨w.heap.size,3,none⟩) (by simp),hA]
     exact cell_of_row _ _ _ _ _ _ (heap_alloc_new w _)
    have hcell':wr.cell? ⟨w.heap.size+1,3,none⟩=some (.slice ad' ks.length c'):=by
     rw[hB.cell (p:=⟨w.heap.size+1,3,none⟩) (by simp),hA']
     have h:=heap_alloc_new (w.alloc A) (.cells #[.int .i64 kd,.string tb,.int .i64 nm,.slice ad' ks.length c'] 24)
     rw[show(w.alloc A).heap.size=w.heap.size+1 by simp]at h
     exact cell_of_row _ _ _ _ _ _ h
    have hbl:w.heap.size+1<wr.heap.size:=by have:=hB.size;simp at this;omega
    have hBw:Below w.heap.size w wr:=(BQ w A A' (Z0 _)).trans (hB.mono (by simp;omega))
    clear hB
    by_cases hlt:i<ks.length
    ·have hil:(i:Int)<(ks.length:Int):=by omega
     obtain⟨b,o,rfl,hMb,hbw,hks⟩:=HK.out (by omega)
     obtain⟨b',o',rfl,hMb',hbw',hks'⟩:=HK'.out (by omega)
     have hbd:Below w.heap.size w wr.drew:=hBw.drew
     have hkw:NodesAt wr.drew M b o ks:=NodesAt.above (Zk hbd) ks b o hMb hbw hks
     have hkw':NodesAt wr.drew M' b' o' ks:=NodesAt.above (Zk hbd) ks b' o' hMb' hbw' hks'
     obtain⟨x,hkx,c0,c1,c2,c3⟩:=D4 hkw hlt
     obtain⟨x',hkx',d0,d1,d2,d3⟩:=D4 hkw' hlt
     have hkx2:=hkx
     have hkx2':=hkx'
     obtain⟨adx,cx0,hxx,_⟩:=hkx2
     obtain⟨adx',cx0',hxx',_⟩:=hkx2'
     obtain⟨cx,hcx⟩:∃cx,cx0+ks[i].kids.length=cx:=⟨_,rfl⟩
     obtain⟨cx',hcx'⟩:∃cx',cx0'+ks[i].kids.length=cx':=⟨_,rfl⟩
     rw[hcx]at hxx
     rw[hcx']at hxx'
     clear hcx hcx'
     have hbr:b<wr.heap.size:=by have:=hBw.size;omega
     have hbr':b'<wr.heap.size:=by have:=hBw.size;omega
     have hiw:=AN (x:=(i:Int)+1) (by omega) (by omega)
     have hcl:=HI.out ks[i] (by have:=Ks hlt;omega) M M' (.agg (Bb ks[i] x).toArray) (.agg (Bb ks[i] x').toArray) wr.drew ⟨x,rfl,hkx⟩ ⟨x',rfl,hkx'⟩
     have hun:(Bb ks[i] x).toArray=#[.int .i64 ks[i].kind,.string (strOfNums ks[i].text),.int .i64 ks[i].num,x]:=rfl
     have hun':(Bb ks[i] x').toArray=#[.int .i64 ks[i].kind,.string (strOfNums ks[i].text),.int .i64 ks[i].num,x']:=rfl
     rw[hun,hun']at hcl
     subst hxx hxx'
     generalize ks[i].kind=y0 at *
     generalize strOfNums ks[i].text=y1 at *
     generalize ks[i].num=y2 at *
     rw[World.cell?_drew]at c0 c1 c2 c3 d0 d1 d2 d3
     clear hkw hks hkw' hks' hun hun' hkx hkx'
     go_wp2_with fail
     clear HK HK' HI hA hA'
     go_region_law (first
      | (refine Jw rfl 8 (.tmp 46) (.tmp 51) _ _ rfl (.agg #[.int .i64 y0,.string y1,.int .i64 y2,.slice adx ks[i].kids.length cx]) (.agg #[.int .i64 y0,.string y1,.int .i64 y2,.slice adx' ks[i].kids.length cx']) (by first | (simp[Act.eval];done) | simp[Act.eval,Act.put]) (by first | (simp[Act.eval];done) | simp[Act.eval,Act.put]) (fun w=>by kernel_rfl) hcl ?_;rintro e w2 ⟨rfl,hb2⟩;refine⟨_,rfl,?_⟩))
     all_goals go_wp2_with fail
     all_goals go_roundw
     case rel=>exact⟨i+1,by simp,by omega,HB.out.drew.trans (hb2.mono HB.out.drew.size)⟩
     case measure=>simp[intOf];omega
     case rel=>exact⟨i+1,by simp,by omega,HB.out.drew.trans (hb2.mono HB.out.drew.size)⟩
     case measure=>simp[intOf];omega
     case rel=>exact⟨i+1,by simp,by omega,HB.out.drew.trans (hb2.mono HB.out.drew.size)⟩
     case measure=>simp[intOf];omega
     case rel=>exact⟨i+1,by simp,by omega,HB.out.drew.trans (hb2.mono HB.out.drew.size)⟩
     case measure=>simp[intOf];omega
     case rel=>exact⟨i+1,by simp,by omega,HB.out.drew.trans (hb2.mono HB.out.drew.size)⟩
     case measure=>simp[intOf];omega
     case rel=>exact⟨i+1,by simp,by omega,HB.out.drew.trans (hb2.mono HB.out.drew.size)⟩
     case measure=>simp[intOf];omega
    ·have hil:¬(i:Int)<(ks.length:Int):=by omega
     go_wp2_with fail
     go_ret
     exact⟨rfl,hBw⟩
end Go.Proofs.YtibeadcfgcfdbaaGreatDoor
