/- Texts in one. -/
import Derived.Test.YtbglpanjpadldaaGreatDoorMp
import Derived.Test.YtbglpanjpadldaaGreatDoorOa
set_option linter.unusedVariables false
set_option maxHeartbeats 8000000
set_option maxRecDepth 20000
namespace Go.Proofs.YtbglpanjpadldaaGreatDoor
open Go.RowKit
theorem Hg:∀ks:List Nd,ks.length<=AA ks
 | []=>Z3 _
 | k::ks=>by
  have h:=Hg ks
  have e:AA (k::ks)=A1 k+AA ks:=by conv=>lhs;unfold AA
  have hk:1<=A1 k:=by cases k with | mk a b c d=>unfold A1;omega
  rw[e,List.length_cons]
  omega
theorem Po:∀(N:Nat),N<=100000->∀(n:Nd),A1 n<=N->∀(M M':Nat->Prop) (u u':Value) (w:World),NodeV w M u n->NodeV w M' u' n ->
  Calls Tryz.prog 6 #[u,u'] w fun e w'=>e=.returned (.bool true)/\Below w.heap.size w w':=by
 intro N
 induction N with
 | zero=>intro _ n hn;cases n with | mk a b c d=>unfold A1 at hn;omega
 | succ N ih=>
  intro hN n hn M M' u u' w hv hv'
  cases n with
  | mk kd tx nm ks=>
   obtain⟨x,hu,ad,c0,hx,hk⟩:=hv
   obtain⟨x',hu',ad',c0',hx',hk'⟩:=hv'
   obtain⟨c,hcc⟩:∃c,c0+ks.length=c:=⟨_,rfl⟩
   obtain⟨c',hcc'⟩:∃c',c0'+ks.length=c':=⟨_,rfl⟩
   have hx2:x=.slice ad ks.length c:=by rw[<-hcc];exact hx
   have hx2':x'=.slice ad' ks.length c':=by rw[<-hcc'];exact hx'
   clear hcc hcc'
   subst hx2 hx2'
   have hu2:u=.agg #[.int .i64 kd,.string (strOfNums tx),.int .i64 nm,.slice ad ks.length c]:=hu
   have hu2':u'=.agg #[.int .i64 kd,.string (strOfNums tx),.int .i64 nm,.slice ad' ks.length c']:=hu'
   subst hu2 hu2'
   have hsz:AA ks<=N:=by unfold A1 at hn;omega
   have hkl:ks.length<=100000:=by have:=Hg ks;omega
   have HK:Hid (0<ks.length->∃b o,ad=some ⟨b,o,none⟩/\M b/\b<w.heap.size/\NodesAt w M b o ks):=hk
   have HK':Hid (0<ks.length->∃b o,ad'=some ⟨b,o,none⟩/\M' b/\b<w.heap.size/\NodesAt w M' b o ks):=hk'
   have HI:Hid (∀(n:Nd),A1 n<=N->∀(M M':Nat->Prop) (u u':Value) (w:World),NodeV w M u n->NodeV w M' u' n->Calls Tryz.prog 6 #[u,u'] w fun e w'=>e=.returned (.bool true)/\Below w.heap.size w w'):=ih (by omega)
   generalize strOfNums tx=tb at *
   clear hk hk' ih hn hx hx' hu hu'
   obtain⟨A,hA⟩:∃A:Obj,A=.cells #[.int .i64 kd,.string tb,.int .i64 nm,.slice ad ks.length c] 24:=⟨_,rfl⟩
   obtain⟨A',hA'⟩:∃A':Obj,A'=.cells #[.int .i64 kd,.string tb,.int .i64 nm,.slice ad' ks.length c'] 24:=⟨_,rfl⟩
   go_enter Tryz.func6,Tryz.ntmps6
   go_wp2_with fail
   go_loopw [5] (fun s5 wr=>∃(i:Nat),s5=.int .i64 i/\i<=ks.length/\Hid (Below ((w.alloc A).alloc A').heap.size ((w.alloc A).alloc A') wr)) (fun s5 _=>100002-(intOf s5).toNat)
   case atStart=>exact⟨0,rfl,by omega,by rw[hA,hA'];exact Zg _ _⟩
   case round=>
    rename_i wr
    obtain⟨i,rfl,hi,HB⟩:=hrel
    have hB:=HB.out
    have hcell:wr.cell? ⟨w.heap.size,3,none⟩=some (.slice ad ks.length c):=by
     rw[hB.cell (p:=⟨w.heap.size,3,none⟩) (by simp;omega)]
     rw[((Zg (w.alloc A).heap.size (w.alloc A)).alloc (Z0 _) A').cell (p:=⟨w.heap.size,3,none⟩) (by simp),hA]
     exact cell_of_row _ _ _ _ _ _ (heap_alloc_new w _)
    have hcell':wr.cell? ⟨w.heap.size+1,3,none⟩=some (.slice ad' ks.length c'):=by
     rw[hB.cell (p:=⟨w.heap.size+1,3,none⟩) (by simp),hA']
     have h:=heap_alloc_new (w.alloc A) (.cells #[.int .i64 kd,.string tb,.int .i64 nm,.slice ad' ks.length c'] 24)
     rw[show(w.alloc A).heap.size=w.heap.size+1 by simp]at h
     exact cell_of_row _ _ _ _ _ _ h
    have hbl:w.heap.size+1<wr.heap.size:=by have:=hB.size;simp at this;omega
    have hBw:Below w.heap.size w wr:=(R3 w A A' (Z0 _)).trans (hB.mono (by simp;omega))
    clear hB
    by_cases hlt:i<ks.length
    ·have hil:(i:Int)<(ks.length:Int):=by omega
     obtain⟨b,o,rfl,hMb,hbw,hks⟩:=HK.out (by omega)
     obtain⟨b',o',rfl,hMb',hbw',hks'⟩:=HK'.out (by omega)
     have hbd:Below w.heap.size w wr.drew:=hBw.drew
     have hkw:NodesAt wr.drew M b o ks:=NodesAt.above (Zk hbd) ks b o hMb hbw hks
     have hkw':NodesAt wr.drew M' b' o' ks:=NodesAt.above (Zk hbd) ks b' o' hMb' hbw' hks'
     obtain⟨x,hkx,c0,c1,c2,c3⟩:=JE hkw hlt
     obtain⟨x',hkx',d0,d1,d2,d3⟩:=JE hkw' hlt
     have hkx2:=hkx
     have hkx2':=hkx'
     obtain⟨adx,cx0,hxx,_⟩:=hkx2
     obtain⟨adx',cx0',hxx',_⟩:=hkx2'
     obtain⟨cx,hcx⟩:∃cx,cx0+ks[i].kids.length=cx:=⟨_,rfl⟩
     obtain⟨cx',hcx'⟩:∃cx',cx0'+ks[i].kids.length=cx':=⟨_,rfl⟩
     rw[hcx]at hxx
     rw[hcx']at hxx'
     clear hcx hcx'
     have hbr:b<wr.heap.size:=by have:=hBw.size;omega
     have hbr':b'<wr.heap.size:=by have:=hBw.size;omega
     have hiw:=C4 (x:=(i:Int)+1) (by omega) (by omega)
     have hcl:=HI.out ks[i] (by have:=Ot hlt;omega) M M' (.agg (D8 ks[i] x).toArray) (.agg (D8 ks[i] x').toArray) wr.drew ⟨x,rfl,hkx⟩ ⟨x',rfl,hkx'⟩
     have hun:(D8 ks[i] x).toArray=#[.int .i64 ks[i].kind,.string (strOfNums ks[i].text),.int .i64 ks[i].num,x]:=rfl
     have hun':(D8 ks[i] x').toArray=#[.int .i64 ks[i].kind,.string (strOfNums ks[i].text),.int .i64 ks[i].num,x']:=rfl
     rw[hun,hun']at hcl
     subst hxx hxx'
     generalize ks[i].kind=y0 at *
     generalize strOfNums ks[i].text=y1 at *
     generalize ks[i].num=y2 at *
     rw[World.cell?_drew]at c0 c1 c2 c3 d0 d1 d2 d3
     clear hkw hks hkw' hks' hun hun' hkx hkx'
     go_wp2_with fail
     clear HK HK' HI hA hA'
     go_region_law (first
      | (refine Ia rfl 6 (.tmp 46) (.tmp 51) _ _ rfl (.agg #[.int .i64 y0,.string y1,.int .i64 y2,.slice adx ks[i].kids.length cx]) (.agg #[.int .i64 y0,.string y1,.int .i64 y2,.slice adx' ks[i].kids.length cx']) (by first | (simp[Act.eval];done) | simp[Act.eval,Act.put]) (by first | (simp[Act.eval];done) | simp[Act.eval,Act.put]) (fun w=>by kernel_rfl) hcl ?_;rintro e w2 ⟨rfl,hb2⟩;refine⟨_,rfl,?_⟩))
     all_goals go_wp2_with fail
     all_goals go_roundw
     case rel=>exact⟨i+1,by simp,by omega,HB.out.drew.trans (hb2.mono HB.out.drew.size)⟩
     case measure=>simp[intOf];omega
     case rel=>exact⟨i+1,by simp,by omega,HB.out.drew.trans (hb2.mono HB.out.drew.size)⟩
     case measure=>simp[intOf];omega
     case rel=>exact⟨i+1,by simp,by omega,HB.out.drew.trans (hb2.mono HB.out.drew.size)⟩
     case measure=>simp[intOf];omega
     case rel=>exact⟨i+1,by simp,by omega,HB.out.drew.trans (hb2.mono HB.out.drew.size)⟩
     case measure=>simp[intOf];omega
     case rel=>exact⟨i+1,by simp,by omega,HB.out.drew.trans (hb2.mono HB.out.drew.size)⟩
     case measure=>simp[intOf];omega
     case rel=>exact⟨i+1,by simp,by omega,HB.out.drew.trans (hb2.mono HB.out.drew.size)⟩
     case measure=>simp[intOf];omega
    ·have hil:¬(i:Int)<(ks.length:Int):=by omega
     go_wp2_with fail
     go_ret
     exact⟨rfl,hBw⟩
theorem Th{w:World}{M:Nat->Prop}{ad:Option Addr}{c:Nat}{ks:List Nd}(h:KidsV w M (.slice ad ks.length c) ks){i:Nat}(hi:i<ks.length):∃b o adx lx cx,ad=some ⟨b,o,none⟩/\M b/\b<w.heap.size/\w.cell? ⟨b,o+i*4,none⟩=some (.int .i64 ks[i].kind)/\w.cell? ⟨b,o+i*4+1,none⟩=some (.string (strOfNums ks[i].text))/\w.cell? ⟨b,o+i*4+2,none⟩=some (.int .i64 ks[i].num)/\w.cell? ⟨b,o+i*4+3,none⟩=some (.slice adx lx cx)/\NodeV w M (.agg #[.int .i64 ks[i].kind,.string (strOfNums ks[i].text),.int .i64 ks[i].num,.slice adx lx cx]) ks[i]:=by
 obtain⟨ad',c',e,hk⟩:=h
 injection e with e1 e2 e3
 subst e1
 obtain⟨b,o,e,m1,m2,hn⟩:=hk (by omega)
 have hna:=Ev hn i hi
 rw[EI]at hna
 obtain⟨x,hx,hc⟩:=hna
 obtain⟨adx,cx,rfl,hy⟩:=id hx
 have e4:o+4*i=o+i*4:=by omega
 rw[e4]at hc
 exact⟨b,o,adx,_,_,e,m1,m2,hc 0 _ rfl,hc 1 _ rfl,hc 2 _ rfl,hc 3 _ rfl,⟨_,rfl,hx⟩⟩
def LB(n:Nd):Prop:=∀(M M':Nat->Prop) (u u':Value) (w:World),NodeV w M u n->NodeV w M' u' n->Calls Tryz.prog 40 #[u,u'] w fun e w'=>e=.returned (.bool true)/\Below w.heap.size w w'
theorem Mb(ks:List Nd)(hks:∀i (h:i<ks.length),LB ks[i])(hn:ks.length<=900000)(M M':Nat->Prop)(ad ad':Option Addr)(c c':Nat)(w:World)(h:KidsV w M (.slice ad ks.length c) ks)(h':KidsV w M' (.slice ad' ks.length c') ks) :
  Calls Tryz.prog 63 #[.slice ad ks.length c,.slice ad' ks.length c',.func (.func 40) #[] #[]] w fun e w'=>e=.returned (.bool true)/\Below w.heap.size w w':=by
 have HK:Hid (KidsV w M (.slice ad ks.length c) ks):=h
 have HK':Hid (KidsV w M' (.slice ad' ks.length c') ks):=h'
 clear h h'
 go_enter Tryz.func63,Tryz.ntmps63
 go_wp2_with fail
 go_loopw [17] (fun s17 wr=>∃i:Nat,s17=.int .i64 i/\i<=ks.length/\Hid (Below w.heap.size w wr)) (fun s17 _=>900001-(intOf s17).toNat)
 case atStart=>exact⟨0,rfl,Z3 _,Zg _ _⟩
 case round=>
  obtain⟨i,rfl,hi,HB⟩:=hrel
  by_cases hlt:i<ks.length
  ·have hil:(i:Int)<(ks.length:Int):=by omega
   have hwi:=C4 (x:=(i:Int)+1) (by omega) (by omega)
   obtain⟨b,o,adx,lx,cx,e1,hMb,hbw,c0,c1,c2,c3,hnv⟩:=Th HK.out hlt
   obtain⟨b',o',adx',lx',cx',e1',hMb',hbw',c0',c1',c2',c3',hnv'⟩:=Th HK'.out hlt
   subst e1 e1'
   have d0:=(HB.out.cell (p:=⟨b,o+i*4,none⟩) hbw).trans c0
   have d1:=(HB.out.cell (p:=⟨b,o+i*4+1,none⟩) hbw).trans c1
   have d2:=(HB.out.cell (p:=⟨b,o+i*4+2,none⟩) hbw).trans c2
   have d3:=(HB.out.cell (p:=⟨b,o+i*4+3,none⟩) hbw).trans c3
   have d0':=(HB.out.cell (p:=⟨b',o'+i*4,none⟩) hbw').trans c0'
   have d1':=(HB.out.cell (p:=⟨b',o'+i*4+1,none⟩) hbw').trans c1'
   have d2':=(HB.out.cell (p:=⟨b',o'+i*4+2,none⟩) hbw').trans c2'
   have d3':=(HB.out.cell (p:=⟨b',o'+i*4+3,none⟩) hbw').trans c3'
   have hsz:=HB.out.size
   have d4:b<wr.heap.size:=by omega
   have d4':b'<wr.heap.size:=by omega
   have hbl:Below wr.heap.size wr ((wr.alloc (.cells #[.int .i64 ks[i].kind,.string (strOfNums ks[i].text),.int .i64 ks[i].num,.slice adx lx cx] 24)).alloc (.cells #[.int .i64 ks[i].kind,.string (strOfNums ks[i].text),.int .i64 ks[i].num,.slice adx' lx' cx'] 24)):=((Zg _ _).alloc (Z0 _) _).alloc (by simp) _
   have hB2:=HB.out.trans (hbl.mono hsz)
   have hcal:=hks i hlt M M' _ _ _ (hnv.above (Zk hB2)) (hnv'.above (Zk hB2))
   have HB2:Hid (Below w.heap.size w _):=hB2
   clear hbl hB2 hnv hnv' c0 c1 c2 c3 c0' c1' c2' c3'
   go_wp2_with (first | (go_at_call 40;refine hcal.mono ?_;clear hcal;rintro e w2 ⟨rfl,hb2⟩))
   exact⟨⟨i+1,by simp,by omega,HB2.out.trans (hb2.mono (by have:=HB2.out.size;omega))⟩,by simp[intOf];omega⟩
  ·have hil:¬(i:Int)<(ks.length:Int):=by omega
   go_wp2_with fail
   go_ret
   exact⟨by first | rfl | simp,HB.out⟩
theorem R4(k m:Int)(t:List Int)(ks:List Nd)(hks:∀i (h:i<ks.length),LB ks[i])(hn:ks.length<=900000):LB (.mk k t m ks):=by
 intro M M' u u' w hu hu'
 have key:∀ {M:Nat->Prop} {u:Value},NodeV w M u (.mk k t m ks)->∃ad c,u=.agg #[.int .i64 k,.string (strOfNums t),.int .i64 m,.slice ad ks.length c]/\KidsV w M (.slice ad ks.length c) ks:=fun h=>by
  obtain⟨xk,hu1,hkv⟩:=h
  obtain⟨ad,c0,hx1,_⟩:=id hkv
  subst hx1
  exact⟨ad,c0+ks.length,hu1,hkv⟩
 obtain⟨ad,c,rfl,hkv⟩:=key hu
 obtain⟨ad',c',rfl,hkv'⟩:=key hu'
 have hbl:Below w.heap.size w ((w.alloc (.cells #[.int .i64 k,.string (strOfNums t),.int .i64 m,.slice ad ks.length c] 24)).alloc (.cells #[.int .i64 k,.string (strOfNums t),.int .i64 m,.slice ad' ks.length c'] 24)):=((Zg _ _).alloc (Z0 _) _).alloc (by simp) _
 have hcal:=Mb ks hks hn M M' ad ad' c c' _ (hkv.above (Zk hbl)) (hkv'.above (Zk hbl))
 have HB:Hid (Below w.heap.size w _):=hbl
 clear hbl hkv hkv' hu hu' hks key
 go_enter Tryz.func40,Tryz.ntmps40
 go_wp2_with (first | (go_at_call 63;refine hcal.mono ?_;clear hcal;rintro e w2 ⟨rfl,hb2⟩))
 go_ret
 exact⟨by first | rfl | simp,HB.out.trans (hb2.mono (by have:=HB.out.size;omega))⟩
mutual
theorem NT:∀n:Nd,A1 n<=900000->LB n
 | .mk k t m ks,hsz=>by
  have e:A1 (.mk k t m ks)=1+AA ks:=by conv=>lhs;unfold A1
  have h1:=Hg ks
  exact R4 k m t ks (MO ks (by omega)) (by omega)
theorem MO:∀ks:List Nd,AA ks<=900000->∀i (h:i<ks.length),LB ks[i]
 | [],_,i,h=>by cases h
 | n::ns,hsz,i,h=>by
  unfold AA at hsz
  cases i with
  | zero=>exact NT n (by omega)
  | succ i=>exact MO ns (by omega) i (by simp at h;omega)
end
end Go.Proofs.YtbglpanjpadldaaGreatDoor
