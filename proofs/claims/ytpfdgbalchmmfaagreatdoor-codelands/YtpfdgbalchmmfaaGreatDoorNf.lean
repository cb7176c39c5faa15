/- Texts in one. -/
import Derived.Test.YtpfdgbalchmmfaaGreatDoorNe
import Derived.Test.YtpfdgbalchmmfaaGreatDoorMu
set_option maxHeartbeats 16000000
set_option maxRecDepth 20000
namespace Go.Proofs.YtpfdgbalchmmfaaGreatDoor
open Go.RowKit
theorem O8{names:List ByteArray}{past:List (List ByteArray)}{n:Nd}{c c':ClZ}(hsh:n.kind=4->∃na:Nat,n.num=(na:Int)/\n.kids.length=na+1)(h:C3 names past n c=.ok c'):c'.next<=c.next+A0 n:=by
 have hs:=GN n
 unfold C3 at h
 split at h
 ·split at h
  ·cases h;show c.next+1<=_;omega
  ·cases h
 ·split at h
  ·split at h
   ·cases h
   ·split at h
    ·cases h
    ·cases h;show c.next+1<=_;omega
  ·split at h
   ·rename_i h4
    obtain⟨na,h5,h6⟩:=hsh h4
    split at h
    ·cases h
    ·have hk:n=.mk n.kind n.text (na:Int) n.kids:=(O1 n).trans (by rw[h5])
     cases hm:CI names c.slots n (c.next+1)with
     | error f=>rw[hm]at h;cases h
     | ok y=>
      rw[hm,chk_ok]at h
      rw[hk]at hm
      have:=JU h6 hm
      cases h
      show y<=_
      omega
   ·cases h;show c.next+1<=_;omega
theorem Iu{names:List ByteArray}{past:List (List ByteArray)}:∀(ks:List Nd) (c c':ClZ),(∀j (h':j<ks.length),(ks[j]).kind=4->∃na:Nat,(ks[j]).num=(na:Int)/\(ks[j]).kids.length=na+1)->Ap names past ks c=.ok c'->c'.next<=c.next+A2 ks
 | [],c,c',_,h=>by unfold Ap at h;cases h;omega
 | n::ns,c,c',hsh,h=>by
  have e:A2 (n::ns)=A0 n+A2 ns:=by conv=>lhs;unfold A2
  unfold Ap at h
  cases hm:C3 names past n c with
  | error f=>rw[hm]at h;cases h
  | ok c2=>
   rw[hm,chk_ok]at h
   have h1:=O8 (n:=n) (hsh 0 (by simp)) hm
   have h2:=Iu ns c2 c' (fun j hj=>hsh (j+1) (by simp;omega)) h
   omega
theorem P3{names:List ByteArray}{past:List (List ByteArray)}{n:Nd}{nx:Nat}{y:Nat×List ByteArray}(hsh:∀j (h':j<n.kids.length),(n.kids[j]).kind=4->∃na:Nat,(n.kids[j]).num=(na:Int)/\(n.kids[j]).kids.length=na+1)(h:EO names past n nx=.ok y):y.1<=nx+1+A2 n.kids:=by
 unfold EO at h
 split at h
 ·cases h
 ·cases hm:Ap names past n.kids ⟨nx+1,[],[]⟩with
  | error f=>rw[hm]at h;cases h
  | ok c=>
   rw[hm,chk_ok]at h
   have:=Iu n.kids _ _ hsh hm
   cases h
   exact this
structure Fr2(w w':World)(Q mb:Nat):Prop where
 os:w'.os=w.os
 tape:w'.tape=w.tape
 output:w'.output=w.output
 size:w.heap.size<=w'.heap.size
 block:∀k,k<w.heap.size->k≠Q->k≠mb->w'.heap[k]?=w.heap[k]?
theorem Fr2.grown{w w1 w2:World}{Q mb m:Nat}(h:Fr2 w w1 Q mb)(hg:w1.grownBy w2 (some m))(hm:m=Q\/m=mb\/w.heap.size<=m):Fr2 w w2 Q mb:=
 ⟨hg.os.trans h.os,hg.tape.trans h.tape,hg.output.trans h.output,Za h.size hg.size,fun k hk hq hq2=>(hg.block k (Z5 hk h.size) (fun e=>by injection e with e;omega)).trans (h.block k hk hq hq2)⟩
theorem Fr2.refl(w:World)(Q mb:Nat):Fr2 w w Q mb:=⟨rfl,rfl,rfl,Z0 _,fun _ _ _ _=>rfl⟩
theorem Fr2.keeps{w w1 w2:World}{Q mb m:Nat}{v:Value}(h:Fr2 w w1 Q mb)(hk:Keeps w1 w2 Q v m)(hv:∀g,v.ownBlock=some g->w.heap.size<=g):Fr2 w w2 Q mb:=
 ⟨hk.os.trans h.os,hk.tape.trans h.tape,hk.output.trans h.output,Za h.size hk.size,fun k h1 h2 h3=>(hk.block k (Z5 h1 h.size) h2 (fun e=>by have:=hv k e;omega)).trans (h.block k h1 h2 h3)⟩
def Uv(w:World)(Q mb:Nat)(g:Chk Unit)(e:Ending)(w':World):Prop:=Fr2 w w' Q mb/\match g with
 | .ok _=>e=.returned (.tuple #[])
 | .error f=>e=.panicked [{ v:=F0 f,recovered:=false }]
theorem OA(Q mb:Nat)(u:Value)(k:Int)(tx:List Int)(nm:Int)(m:Nat)(ks:List Nd)(hks:ks.length=m+1)(w:World)(ho:WObj w Q 0 mb (.slice none 0 0) (.slice none 0 0) (.slice none 0 0) 0 false false)(hm0:w.heap[mb]?=some (Aw []))(hmq:mb≠Q)(hu:NodeV w (fun j=>j≠Q/\j≠mb) u (.mk k tx nm ks))(hsh:∀i (hi:i<ks.length),i<m->∀j (h':j<ks[i].kids.length),(ks[i].kids[j]).kind=4->∃na:Nat,(ks[i].kids[j]).num=(na:Int)/\(ks[i].kids[j]).kids.length=na+1)(hN:1+A2 ks<=90000) :
  Calls Tryz.prog 17 #[.pointer (some ⟨Q,0,none⟩),u] w fun e w'=>Uv w Q mb (DX (.mk k tx nm ks)) e w':=by
 obtain⟨xk,hu1,ad,c0,hx1,hkk⟩:=hu
 obtain⟨c,hcc⟩:∃c,c0+ks.length=c:=⟨_,rfl⟩
 have hx2:xk=.slice ad ks.length c:=by rw[<-hcc];exact hx1
 subst hx2
 have hu2:u=.agg #[.int .i64 k,.string (strOfNums tx),.int .i64 nm,.slice ad ks.length c]:=hu1
 subst hu2
 obtain⟨bk,ok,rfl,hMk,hbk,hnodes⟩:=hkk (by show 0<ks.length;omega)
 have hql:=ho.lt
 have hml:mb<w.heap.size:=(Array.getElem?_eq_some_iff.1 hm0).1
 have hkl:=EL ks
 have h0:Wc w Q mb [] (.slice none 0 0) [] 0:=⟨ho,hm0,hmq,fun x=>rfl⟩
 have HX:Hid (Box4 (w.alloc (.cells #[.int .i64 k,.string (strOfNums tx),.int .i64 nm,.slice (some ⟨bk,ok,none⟩) ks.length c] 39)) w.heap.size (.int .i64 k) (.string (strOfNums tx)) (.int .i64 nm) (.slice (some ⟨bk,ok,none⟩) ks.length c)):=Box4.new _ _ _ _ _
 have hb0:Below w.heap.size w (w.alloc (.cells #[.int .i64 k,.string (strOfNums tx),.int .i64 nm,.slice (some ⟨bk,ok,none⟩) ks.length c] 39)):=(Zg _ w).alloc (Z0 _) _
 have hen0:=O0 Q mb 0 [] _ [] _ (h0.below hb0) (by omega)
 have HF0:Hid (Fr2 w (w.alloc (.cells #[.int .i64 k,.string (strOfNums tx),.int .i64 nm,.slice (some ⟨bk,ok,none⟩) ks.length c] 39)) Q mb):=(Fr2.refl _ _ _).grown (A1 Q hb0) (Or.inl rfl)
 have HNA:Hid (NodesAt w (fun j=>j≠Q/\j≠mb/\j<w.heap.size) bk ok ks):=NodesAt.mono (fun j hj hl=>⟨hj.1,hj.2,hl⟩) ks bk ok hnodes
 have hmc:(m:Int)<=(c:Int):=by omega
 have hwm:=Ao (x:=(m:Int)) (by omega) (by omega)
 obtain⟨nk,hnk⟩:∃nk:Nat,nk=m+1:=⟨_,rfl⟩
 have hnm:((nk:Int)-1)=(m:Int):=by omega
 have HSH:Hid (∀i (hi:i<ks.length),i<m->∀j (h':j<ks[i].kids.length),(ks[i].kids[j]).kind=4->∃na:Nat,(ks[i].kids[j]).num=(na:Int)/\(ks[i].kids[j]).kids.length=na+1):=hsh
 obtain⟨G,HG⟩:∃G,Hid (DX (.mk k tx nm ks)=G):=⟨_,rfl⟩
 rw[HG.out]
 rw[hks,<-hnk]at HX HF0 hen0 hb0⊢
 have HKS:Hid (ks.length=m+1/\nk=m+1):=⟨hks,hnk⟩
 have HN:Hid (1+A2 ks<=90000):=hN
 have hmk:(m:Int)<(nk:Int):=by omega
 have hm9:(m:Int)<=90000:=by omega
 clear hcc hx1 hu1 hkk hnodes hsh h0 hnk hks hkl hN
 generalize strOfNums tx=x0 at *
 go_enter Tryz.func17,Tryz.ntmps17
 go_upto_block 0 with(first
  | (go_at_call 28;refine hen0.mono ?_;rintro e w1 ⟨rfl,hw1,hg1⟩;have hX1:=HX.out.grown hg1 (by omega);obtain⟨⟨a0,a1,a2,a3⟩,_⟩:=hX1.facts;have hlx:=hX1.lt))
 have HC0:Hid (Wc w1 Q mb [] (.slice none 0 0) ((ks.take 0).map Nd.str) 1):=hw1
 have HFW:Hid (Fr2 w w1 Q mb):=HF0.out.grown hg1 (Or.inl rfl)
 have HXW:Hid (Box4 w1 w.heap.size (.int .i64 k) (.string x0) (.int .i64 nm) (.slice (some ⟨bk,ok,none⟩) nk c)):=hX1
 clear a0 a1 a2 a3 hX1 hen0 hw1 hg1 HX HF0 hlx hb0 ho hm0
 go_upto_block 0 with fail
 go_cut [] from 22 to 46 (fun wx=>∃(M:List (ByteArray×Int)),Hid (Wc wx Q mb M (.slice none 0 0) ((ks.take m).map Nd.str) 1)/\Hid (Fr2 w wx Q mb)/\Hid (Box4 wx w.heap.size (.int .i64 k) (.string x0) (.int .i64 nm) (.slice (some ⟨bk,ok,none⟩) nk c)))
 case first=>
  go_wp2_with fail
  go_loopw [22] (fun s22 wr=>∃(i:Nat) (M:List (ByteArray×Int)),s22=.int .i64 i/\i<=m/\Hid (Wc wr Q mb M (.slice none 0 0) ((ks.take i).map Nd.str) 1)/\Hid (Fr2 w wr Q mb)/\Hid (Box4 wr w.heap.size (.int .i64 k) (.string x0) (.int .i64 nm) (.slice (some ⟨bk,ok,none⟩) nk c))) (fun s22 _=>m-(intOf s22).toNat)
  case atStart=>exact⟨0,[],rfl,Z3 _,HC0,HFW,HXW⟩
  case round=>
   clear HC0 HFW HXW
   obtain⟨i,M,rfl,hi,HC,HF,HX⟩:=hrel
   by_cases hlt:i<m
   ·have hil:(i:Int)<(m:Int):=by omega
    have hwi:=Ao (x:=(i:Int)+1) (by omega) (by omega)
    have hks:=HKS.out.1
    have hszr:=HF.out.size
    have hab:Above (fun j=>j≠Q/\j≠mb/\j<w.heap.size) w wr:=⟨hszr,fun j h1 h2=>HF.out.block j h2 h1.1 h1.2.1⟩
    have hkw:=NodesAt.above hab ks bk ok ⟨hMk.1,hMk.2,hbk⟩ hbk HNA.out
    obtain⟨xx,hkx,c1,c2,c3,c4⟩:=CV hkw (i:=i) (by omega)
    obtain⟨adx,cx0,hxx,_⟩:=hkx
    obtain⟨cx,hcx⟩:∃cx,cx0+(ks[i]'(by omega)).kids.length=cx:=⟨_,rfl⟩
    rw[hcx]at hxx
    clear hcx
    subst hxx
    have hbr:bk<wr.heap.size:=by omega
    have htk:(ks.take (i+1)).map Nd.str=(ks.take i).map Nd.str++[strOfNums (ks[i]'(by omega)).text]:=by
     rw[List.take_succ_eq_append_getElem (by omega),List.map_append]
     rfl
    have htl:((ks.take i).map Nd.str).length=i:=by rw[List.length_map,List.length_take];omega
    clear hkw hab
    generalize strOfNums (ks[i]'(by omega)).text=x at *
    generalize (ks[i]'(by omega)).kind=y0 at *
    generalize (ks[i]'(by omega)).num=y2 at *
    generalize (ks[i]'(by omega)).kids.length=lx at *
    have hb1:Below wr.heap.size wr (wr.alloc (.cells #[.int .i64 y0,.string x,.int .i64 y2,.slice adx lx cx] 39)):=(Zg _ wr).alloc (Z0 _) _
    have HC1:=HC.out.below hb1
    obtain⟨⟨_,q1,_⟩,_⟩:=HC1.obj.cells
    have hlq:=HC1.obj.lt
    have hlk1:=fun j=>G2 (w:=(wr.alloc (.cells #[.int .i64 y0,.string x,.int .i64 y2,.slice adx lx cx] 39)).drewN j) (by simpa using HC1.map) x
    have hlk0:=G2 HC1.map x
    have hnmm:=HC.out.names
    cases hfm:BZ M x with
    | some j=>
     rw[hfm]at hlk0
     simp only[hfm]at hlk1
     have HNM:Hid (FB M ((ks.take (i+1)).map Nd.str)):=by show FB _ _;rw[htk];exact QY hnmm (by rw[hfm];rfl)
     clear hfm htk
     go_wp2_with fail
     go_quiet (fail)
     go_wp2_with fail
     have hbq:Below wr.heap.size wr ((wr.alloc (.cells #[.int .i64 y0,.string x,.int .i64 y2,.slice adx lx cx] 39)).drewN nq):=hb1.trans ((Ar _ _).mono hb1.size)
     have hcq:=HC.out.below hbq
     exact⟨⟨i+1,M,by simp,by omega,⟨hcq.obj,hcq.map,hcq.mq,HNM.out⟩,HF.out.grown (A1 Q hbq) (Or.inl rfl),(hbq.block _ HX.out.lt).trans HX.out⟩,by simp[intOf];omega⟩
    | none=>
     rw[hfm]at hlk0
     simp only[hfm]at hlk1
     have HNM:Hid (FB (M++[(x,(i:Int))]) ((ks.take (i+1)).map Nd.str)):=by show FB _ _;rw[htk];have:=QZ (y:=x) hnmm;rw[htl]at this;exact this
     have hsn:=fun(w':World) (hb':w'.heap[mb]?=some (Aw M))=>S2 (k:=(i:Int)) hfm hb'
     clear hfm htk
     go_wp2_with fail
     go_quiet (fail)
     have hbq:Below wr.heap.size wr ((wr.alloc (.cells #[.int .i64 y0,.string x,.int .i64 y2,.slice adx lx cx] 39)).drewN nq):=hb1.trans ((Ar _ _).mono hb1.size)
     have hcq:=HC.out.below hbq
     have hxq:Box4 ((wr.alloc (.cells #[.int .i64 y0,.string x,.int .i64 y2,.slice adx lx cx] 39)).drewN nq) wr.heap.size (.int .i64 y0) (.string x) (.int .i64 y2) (.slice adx lx cx):=Box4.new wr _ _ _ _
     generalize (wr.alloc (.cells #[.int .i64 y0,.string x,.int .i64 y2,.slice adx lx cx] 39)).drewN nq=wd at *
     obtain⟨⟨_,u1,_⟩,_⟩:=hcq.obj.cells
     have hlu:=hcq.obj.lt
     obtain⟨⟨t0,t1,t2,t3⟩,_⟩:=hxq.facts
     have hlt2:=hxq.lt
     have hup:=hsn wd.drew hcq.map
     go_wp2_with fail
     go_region
     all_goals go_wp2_with fail
     have hmd:wd.drew.heap[mb]?=some (Aw M):=hcq.map
     have hg9:wr.grownBy (E6 wd.drew mb (Aw (M++[(x,(i:Int))]))) (some mb):=(Kp (A1 mb hbq)).trans (K9 hmd _)
     exact⟨⟨i+1,M++[(x,(i:Int))],by simp,by omega,⟨(JQ hmd (fun e=>hmq e.symm)).trans hcq.obj,Ke hmd,hcq.mq,HNM.out⟩,HF.out.grown hg9 (Or.inr (Or.inl rfl)),(hg9.block _ HX.out.lt (fun e=>by injection e with e;omega)).trans HX.out⟩,by simp[intOf];omega⟩
   ·have hil:¬(i:Int)<(m:Int):=by omega
    obtain rfl:i=m:=by omega
    go_wp2_with fail
    go_meet
    exact⟨M,HC,HF,HX⟩
 case rest=>
  obtain⟨M,HC,HF,HX⟩:=hcut
  clear HC0 HFW HXW
  have hks:=HKS.out.1
  have hdl:ks.dropLast=ks.take m:=by rw[List.dropLast_eq_take,hks];rfl
  obtain⟨bn,HBN⟩:∃bn,Hid (ks[m]?=some bn):=⟨ks[m]'(by omega),List.getElem?_eq_getElem (by omega)⟩
  have hgl:ks.getLast?=some bn:=by
   rw[List.getLast?_eq_getElem?,hks,Nat.add_sub_cancel]
   exact HBN.out
  obtain⟨names,HNA2⟩:∃names,Hid ((ks.take m).map Nd.str=names):=⟨_,rfl⟩
  rw[HNA2.out]at HC
  have HGE:Hid (G=(CO names (ks.take m) [] 1).then fun y=>(DW ⟨names,[],false,false⟩ 0 bn (y.2,[])).then fun _=>.ok ()):=by
   show _=_
   rw[<-HG.out,<-HNA2.out]
   unfold DX
   have ek:(Nd.mk k tx nm ks).kids=ks:=rfl
   rw[ek,hdl,hgl]
  obtain⟨R,HR⟩:∃R,Hid (CO names (ks.take m) [] 1=R):=⟨_,rfl⟩
  rw[HR.out]at HGE
  have HP0:Hid (PastR wc Q (w.heap.size+1) (.slice none 0 0) [] []):=⟨Zl _ _ _ _,fun i h=>(by cases h),fun l hl=>(by cases hl)⟩
  have hszc:=HF.out.size
  have hxc:=HX.out.lt
  clear hdl hgl HG HNA2
  go_upto_block 2 with fail
  go_cut [] from 49 to 56 (fun wx=>∃(past:List (List ByteArray)) (vals:List Value) (vp:Value) (nx1:Nat),Hid (R=.ok (past,nx1))/\Hid (Wc wx Q mb M vp names nx1)/\Hid (PastR wx Q (w.heap.size+1) vp past vals)/\Hid (Fr2 w wx Q mb)/\Hid (Box4 wx w.heap.size (.int .i64 k) (.string x0) (.int .i64 nm) (.slice (some ⟨bk,ok,none⟩) nk c))/\Hid (nx1+A0 bn<=100000))
  case first=>
   go_wp2_with fail
   go_loopw [49] (fun s49 wr=>∃(i:Nat) (past:List (List ByteArray)) (vals:List Value) (vp:Value) (nx1:Nat),s49=.int .i64 i/\i<=m/\past.length=i/\Hid (CO names ((ks.take m).drop i) past nx1=R)/\Hid (nx1+A2 (ks.drop i)<=90000)/\Hid (Wc wr Q mb M vp names nx1)/\Hid (PastR wr Q (w.heap.size+1) vp past vals)/\Hid (Fr2 w wr Q mb)/\Hid (Box4 wr w.heap.size (.int .i64 k) (.string x0) (.int .i64 nm) (.slice (some ⟨bk,ok,none⟩) nk c))) (fun s49 _=>m-(intOf s49).toNat)
   case atStart=>exact⟨0,[],[],_,1,rfl,Z3 _,rfl,HR,HN,HC,HP0,HF,HX⟩
   case round=>
    clear HR HC HP0 HF HX
    obtain⟨i,past,vals,vp,nx1,rfl,hi,hpl,HR1,HN1,HC,HP,HF,HX⟩:=hrel
    have hszr:=HF.out.size
    have hxr:=HX.out.lt
    by_cases hlt:i<m
    ·have hil:(i:Int)<(m:Int):=by omega
     have hwi:=Ao (x:=(i:Int)+1) (by omega) (by omega)
     have hab:Above (fun j=>j≠Q/\j≠mb/\j<w.heap.size) w wr:=⟨hszr,fun j h1 h2=>HF.out.block j h2 h1.1 h1.2.1⟩
     have hkw:=NodesAt.above hab ks bk ok ⟨hMk.1,hMk.2,hbk⟩ hbk HNA.out
     obtain⟨xx,hkx,c1,c2,c3,c4⟩:=CV hkw (i:=i) (by omega)
     have hbr:bk<wr.heap.size:=by omega
     have hpb:∀g,vp.ownBlock=some g->w.heap.size+1<=g/\g<wr.heap.size:=fun g e=>HP.out.own.lt g e
     have hsh:=HSH.out i (by omega) hlt
     have hdr:(ks.take m).drop i=ks[i]'(by omega)::(ks.take m).drop (i+1):=by
      rw[Z4 (by rw[List.length_take];omega),List.getElem_take]
     have hsz:A2 (ks.drop i)=A0 (ks[i]'(by omega))+A2 (ks.drop (i+1)):=by rw[Z4 (by omega)];conv=>lhs;unfold A2
     have hsk:=GN (ks[i]'(by omega))
     have hnn:nx1+1+A2 (ks[i]'(by omega)).kids+A2 (ks.drop (i+1))<=90000:=by have:=HN1.out;omega
     have HRE:=HR1.out
     rw[hdr,CO]at HRE
     clear hkw hdr hsz hsk HR1 hab
     generalize ks[i]'(by omega)=kid at *
     have HKX:Hid (KidsV wr (fun j=>j≠Q/\j≠mb/\j<w.heap.size) xx kid.kids):=hkx
     obtain⟨adx,cx0,hxx,_⟩:=hkx
     obtain⟨cx,hcx⟩:∃cx,cx0+kid.kids.length=cx:=⟨_,rfl⟩
     rw[hcx]at hxx
     clear hcx
     subst hxx
     have hb1:Below wr.heap.size wr (wr.alloc (.cells #[.int .i64 kid.kind,.string (strOfNums kid.text),.int .i64 kid.num,.slice adx kid.kids.length cx] 39)):=(Zg _ wr).alloc (Z0 _) _
     have hcl:=QX Q mb (w.heap.size+1) M vp (.agg #[.int .i64 kid.kind,.string (strOfNums kid.text),.int .i64 kid.num,.slice adx kid.kids.length cx]) names past vals nx1 kid.kind kid.text kid.num kid.kids _ (HC.out.below hb1) (HP.out.fr ((FrQ.refl wr wr.heap.size Q).below hb1 (Z0 _)) (Z0 _) (fun e=>by have:=(hpb Q e).1;omega)) ⟨_,rfl,(HKX.out.above (Zk hb1)).mono (fun j hj _=>⟨hj.1,fun e=>by have:=(hpb j e).1;omega⟩)⟩ hsh (by omega) (fun e=>by have:=(hpb Q e).1;omega) (fun e=>by have:=(hpb mb e).1;omega) (by simp;omega) (by omega)
     rw[<-O1 kid]at hcl
     have hcn:∀y,EO names past kid nx1=.ok y->y.1<=nx1+1+A2 kid.kids:=fun y e=>P3 hsh e
     have HVP:Hid (∀g,vp.ownBlock=some g->w.heap.size<=g):=fun g e=>by have:=(hpb g e).1;omega
     clear hsh
     have hXv:vp.ownBlock≠some w.heap.size:=fun e=>by have:=(hpb _ e).1;omega
     generalize strOfNums kid.text=x at *
     generalize kid.kind=y0 at *
     generalize kid.num=y2 at *
     generalize hlx:kid.kids.length=lx at *
     clear hlx
     cases hcz:EO names past kid nx1 with
     | error f=>
      rw[hcz]at hcl HRE
      have HE:Hid (R=.error f):=by show _=_;rw[<-HRE];rfl
      clear hcz HRE hcn
      go_wp2_with (first | (go_at_call 29;refine hcl.mono ?_;rintro e w3 ⟨rfl,hk3⟩))
      refine⟨rfl,?_⟩
      rw[HGE.out,HE.out]
      exact⟨(HF.out.grown (A1 Q hb1) (Or.inl rfl)).keeps hk3 HVP.out,rfl⟩
     | ok y=>
      rw[hcz]at hcl HRE
      have hyb:=hcn y hcz
      have HRY:Hid (CO names ((ks.take m).drop (i+1)) (past++[y.2]) y.1=R):=HRE
      clear hcz HRE hcn
      go_wp2_with (first | (go_at_call 29;refine hcl.mono ?_;rintro e w3 ⟨vp3,vals3,rfl,hw3,hp3,hk3,ho3⟩))
      exact⟨⟨i+1,past++[y.2],vals3,vp3,y.1,by simp,by omega,by rw[Z1];simp;omega,HRY,(by show y.1+_<=_;omega),hw3,hp3,(HF.out.grown (A1 Q hb1) (Or.inl rfl)).keeps hk3 HVP.out,(hk3.block _ (by simp;omega) (by omega) hXv).trans ((hb1.block _ hxr).trans HX.out)⟩,by simp[intOf];omega⟩
    ·have hil:¬(i:Int)<(m:Int):=by omega
     obtain rfl:i=m:=by omega
     have HRE:Hid (R=.ok (past,nx1)):=by
      show _=_
      rw[<-HR1.out,Z9 (by rw[List.length_take];omega),CO]
     have HNE:Hid (nx1+A0 bn<=100000):=by
      show _<=_
      have h1:=HN1.out
      have h3:=HBN.out
      rw[List.getElem?_eq_getElem (by omega)]at h3
      injection h3 with h3
      rw[Z4 (by omega),h3]at h1
      have h2:A2 (bn::ks.drop (i+1))=A0 bn+A2 (ks.drop (i+1)):=by conv=>lhs;unfold A2
      omega
     go_wp2_with fail
     go_meet
     exact⟨past,vals,vp,nx1,HRE,HC,HP,HF,HX,HNE⟩
  case rest=>
   obtain⟨past,vals,vp,nx1,HRE,HC,HP,HF,HX,HNE⟩:=hcut
   have hszr:=HF.out.size
   have hab:Above (fun j=>j≠Q/\j≠mb/\j<w.heap.size) w wc:=⟨hszr,fun j h1 h2=>HF.out.block j h2 h1.1 h1.2.1⟩
   have hkw:=NodesAt.above hab ks bk ok ⟨hMk.1,hMk.2,hbk⟩ hbk HNA.out
   obtain⟨xx,hkx,c1,c2,c3,c4⟩:=CV hkw (i:=m) (by omega)
   have hbn:ks[m]'(by omega)=bn:=by
    have:=HBN.out
    rw[List.getElem?_eq_getElem (by omega)]at this
    injection this
   rw[hbn]at hkx c1 c2 c3
   obtain⟨⟨g0,g1,g2,g3⟩,_⟩:=HX.out.facts
   have hlg:=HX.out.lt
   have hlq:=HC.out.obj.lt
   have hmc2:mb<wc.heap.size:=(Array.getElem?_eq_some_iff.1 HC.out.map).1
   have hWk:Wk wc Q wc.heap.size mb M vp (.slice none 0 0) ⟨names,[],false,false⟩ 0 nx1 [] (.slice none 0 0):=⟨HC.out.obj,Zl _ _ _ _,⟨none,0,rfl,Z0 _,by unfold maxLen;omega,fun _=>rfl,fun a e=>by cases e⟩,HC.out.map,⟨hmc2,hmq⟩,HC.out.names,hlq,Z0 _,Z3 _,by simp⟩
   have hwk:=Nf Q wc.heap.size mb M vp (.slice none 0 0) _ bn (Z0 _) ⟨names,[],false,false⟩ 0 nx1 [] (.slice none 0 0) (.agg (CA bn xx).toArray) wc hWk ⟨xx,rfl,hkx.mono (fun j hj hl=>⟨hl,hj.1⟩)⟩ HNE.out
   have hun:(CA bn xx).toArray=#[.int .i64 bn.kind,.string (strOfNums bn.text),.int .i64 bn.num,xx]:=rfl
   rw[hun]at hwk
   obtain⟨adx,cx0,hxx,_⟩:=hkx
   obtain⟨cx,hcx⟩:∃cx,cx0+bn.kids.length=cx:=⟨_,rfl⟩
   rw[hcx]at hxx
   clear hcx
   subst hxx
   have hbr:bk<wc.heap.size:=by omega
   have hG2:=HGE.out
   rw[HRE.out,chk_ok]at hG2
   dsimp only at hG2
   clear hkw hun hab hbn hWk
   generalize strOfNums bn.text=x at *
   generalize bn.kind=y0 at *
   generalize bn.num=y2 at *
   generalize bn.kids.length=lx at *
   cases hz:DW ⟨names,[],false,false⟩ 0 bn (nx1,[])with
   | error f=>
    rw[hz]at hwk hG2
    have HGF:Hid (G=.error f):=hG2
    clear hz hG2
    go_wp2_with (first | (go_at_call 30;refine hwk.mono ?_;rintro e w3 ⟨rfl,hk3⟩))
    refine⟨rfl,?_⟩
    rw[HGF.out]
    exact⟨HF.out.keeps hk3 (fun g e=>by cases e),rfl⟩
   | ok y=>
    rw[hz]at hwk hG2
    have HGF:Hid (G=.ok ()):=hG2
    clear hz hG2
    go_wp2_with (first | (go_at_call 30;refine hwk.mono ?_;rintro e w3 ⟨v3,rfl,hw3,hk3,ho3,hm3⟩))
    refine bodyPost_end (v:=.tuple #[]) (by simp[results,Tryz.results17,go_sem]) rfl ?_
    rw[HGF.out]
    exact⟨HF.out.keeps hk3 (fun g e=>by cases e),rfl⟩
theorem Ua(c a:Int)(w:World):(Instr.typeAssert (.iface 59 (.agg #[.int .i64 c,.int .i64 a])) 20 59 true).run Tryz.prog w=.ok (.tuple #[.agg #[.int .i64 c,.int .i64 a],.bool true]) w:=by kernel_rfl
theorem Qb(c a:Int)(w:World):(binOp BinOp.eql 20 (.iface 59 (.agg #[.int .i64 c,.int .i64 a])) .nilIface).run Tryz.prog w=.ok (.bool false) w:=by kernel_rfl
theorem P5(pf:Addr)(w:World) :
  CallsD Tryz.prog 16 #[.pointer (some pf)] .returning w fun e u' w'=>e=.returned (.tuple #[])/\u'=.returning/\w'=w:=by
 have hnil:=KC
 refine callsD_of_wpS Tryz.func16 rfl fun c₀ cs hu=>?_
 apply wpS_seq
 apply wpS_region
 simp[wpOpsS,go_sem,recoverD,hu,Tryz.ntmps16,Exit.thenS]
 refine wpS_of_wp ?_
 rw[Jp]
 refine Code.wp_mono (Q:=fun e a' w'=>e=.normal/\a'.defers=[]/\w'=w) (fun e a' w' h=>?_) ?_
 ·obtain⟨rfl,h2,rfl⟩:=h
  cases c₀;simp_all [bodyPostS,results,Tryz.results16]
 ·go_wp2
theorem S5(pf:Nat)(c a:Int)(v1 v2:Value)(older:List PanicEntry)(w:World)(h1:w.cell? ⟨pf,0,none⟩=some v1)(h2:w.cell? ⟨pf,1,none⟩=some v2)(f1:w.frozen? ⟨pf,0,none⟩=false)(f2:w.frozen? ⟨pf,1,none⟩=false)(l2:pf<w.heap.size) :
  CallsD Tryz.prog 16 #[.pointer (some ⟨pf,0,none⟩)] (.panicking ({ v:=.iface 59 (.agg #[.int .i64 c,.int .i64 a]),recovered:=false }::older)) w fun e u' w'=>
   e=.returned (.tuple #[])/\u'=.panicking ({ v:=.iface 59 (.agg #[.int .i64 c,.int .i64 a]),recovered:=true }::older)/\w'=((w.alloc (.cells #[.int .i64 c,.int .i64 a] 59)).setCell ⟨pf,0,none⟩ (.int .i64 c)).setCell ⟨pf,1,none⟩ (.int .i64 a):=by
 have hnil:=Qb c a
 have hta:=Ua c a
 refine callsD_of_wpS Tryz.func16 rfl fun c₀ cs hu=>?_
 apply wpS_seq
 apply wpS_region
 simp[wpOpsS,go_sem,recoverD,hu,Tryz.ntmps16,Exit.thenS]
 refine wpS_of_wp ?_
 rw[Jp]
 refine Code.wp_mono (Q:=fun e a' w'=>e=.normal/\a'.defers=[]/\w'=((w.alloc (.cells #[.int .i64 c,.int .i64 a] 59)).setCell ⟨pf,0,none⟩ (.int .i64 c)).setCell ⟨pf,1,none⟩ (.int .i64 a)) (fun e a' w' h=>?_) ?_
 ·obtain⟨rfl,h2,rfl⟩:=h
  cases c₀;simp_all [bodyPostS,results,Tryz.results16]
 ·go_wp2
def Ub(g:Chk Unit):Int×Int:=match g with
 | .ok _=>(0,0)
 | .error f=>f
theorem TQ(w:World):(Instr.makeMap 61 none).run Tryz.prog w=.ok (.map (some w.heap.size)) (w.alloc (Aw [])):=by kernel_rfl
theorem P6(k:Int)(tx:List Int)(nm:Int)(m:Nat)(ks:List Nd)(hks:ks.length=m+1)(Mx:Nat->Prop)(u:Value)(w:World)(hu:NodeV w Mx u (.mk k tx nm ks))(hsh:∀i (hi:i<ks.length),i<m->∀j (h':j<ks[i].kids.length),(ks[i].kids[j]).kind=4->∃na:Nat,(ks[i].kids[j]).num=(na:Int)/\(ks[i].kids[j]).kids.length=na+1)(hN:1+A2 ks<=90000) :
  Calls Tryz.prog 8 #[u] w fun e w'=>e=.returned (.agg #[.int .i64 (Ub (DX (.mk k tx nm ks))).1,.int .i64 (Ub (DX (.mk k tx nm ks))).2])/\Below w.heap.size w w':=by
 have hmf:∀(fn:Fn) (first cap:Array Value) (w:World),(Instr.makeFunc fn first cap).run Tryz.prog w=.ok (.func fn first cap) w:=fun _ _ _ _=>rfl
 have hmk:=TQ
 obtain⟨a,b,c,ad,ln,cp,hu1⟩:=NodeV.any hu
 subst hu1
 obtain⟨W,hW⟩:∃W,W=(((w.alloc (.cells #[.int .i64 a,.string b,.int .i64 c,.slice ad ln cp] 39)).alloc AV).alloc (Aw [])).alloc (.cells #[.int .i64 0,.map (some (w.heap.size+2)),.slice none 0 0,.slice none 0 0,.slice none 0 0,.int .i64 0,.bool false,.bool false] 65):=⟨_,rfl⟩
 have hb0:Below w.heap.size w W:=by rw[hW];exact(((((Zg _ w).alloc (Z0 _) _).alloc (by simp) _).alloc (by simp;omega) _).alloc (by simp;omega) _)
 have hsz:W.heap.size=w.heap.size+4:=by rw[hW];simp
 have hO:WObj W (w.heap.size+3) 0 (w.heap.size+2) (.slice none 0 0) (.slice none 0 0) (.slice none 0 0) 0 false false:=by
  have hx:=heap_alloc_new (((w.alloc (.cells #[.int .i64 a,.string b,.int .i64 c,.slice ad ln cp] 39)).alloc AV).alloc (Aw [])) (.cells #[.int .i64 0,.map (some (w.heap.size+2)),.slice none 0 0,.slice none 0 0,.slice none 0 0,.int .i64 0,.bool false,.bool false] 65)
  rw[<-hW]at hx
  simpa [WObj] using hx
 have hM:W.heap[w.heap.size+2]?=some (Aw []):=by
  have hx:=heap_alloc_new ((w.alloc (.cells #[.int .i64 a,.string b,.int .i64 c,.slice ad ln cp] 39)).alloc AV) (Aw [])
  have hy:=((Zg _ (((w.alloc (.cells #[.int .i64 a,.string b,.int .i64 c,.slice ad ln cp] 39)).alloc AV).alloc (Aw []))).alloc (Z0 _) (.cells #[.int .i64 0,.map (some (w.heap.size+2)),.slice none 0 0,.slice none 0 0,.slice none 0 0,.int .i64 0,.bool false,.bool false] 65)).block (w.heap.size+2) (by simp)
  rw[<-hW]at hy
  rw[hy]
  simpa using hx
 have hF:Box2 W (w.heap.size+1) (.int .i64 0) (.int .i64 0):=by
  have hx:=heap_alloc_new (w.alloc (.cells #[.int .i64 a,.string b,.int .i64 c,.slice ad ln cp] 39)) AV
  rw[show(w.alloc (.cells #[.int .i64 a,.string b,.int .i64 c,.slice ad ln cp] 39)).heap.size=w.heap.size+1 by simp]at hx
  have hy:=(Au ((w.alloc (.cells #[.int .i64 a,.string b,.int .i64 c,.slice ad ln cp] 39)).alloc AV) (Aw []) (.cells #[.int .i64 0,.map (some (w.heap.size+2)),.slice none 0 0,.slice none 0 0,.slice none 0 0,.int .i64 0,.bool false,.bool false] 65)).block (w.heap.size+1) (by simp)
  rw[<-hW]at hy
  exact hy.trans hx
 have hr:=OA (w.heap.size+3) (w.heap.size+2) _ k tx nm m ks hks W hO hM (by omega) ((hu.mono (M':=fun j=>j<w.heap.size) (fun j _ hl=>hl) |>.above (Zk hb0)).mono (fun j hj _=>by have hj':j<w.heap.size:=hj;exact⟨by omega,by omega⟩)) hsh hN
 have HF:Hid (Box2 W (w.heap.size+1) (.int .i64 0) (.int .i64 0)):=hF
 have HB:Hid (Below w.heap.size w W):=hb0
 generalize DX (.mk k tx nm ks)=G at *
 clear hu hO hM hF hb0 hsh hN hks
 rw[hW]at hr HF HB
 have hbw:∀w2,Fr2 ((((w.alloc (.cells #[.int .i64 a,.string b,.int .i64 c,.slice ad ln cp] 39)).alloc AV).alloc (Aw [])).alloc (.cells #[.int .i64 0,.map (some (w.heap.size+2)),.slice none 0 0,.slice none 0 0,.slice none 0 0,.int .i64 0,.bool false,.bool false] 65)) w2 (w.heap.size+3) (w.heap.size+2)->Below w.heap.size w w2/\Box2 w2 (w.heap.size+1) (.int .i64 0) (.int .i64 0):=fun w2 hf2=>⟨⟨hf2.os.trans HB.out.os,hf2.tape.trans HB.out.tape,hf2.output.trans HB.out.output,Za HB.out.size hf2.size,fun j hj=>(hf2.block j (Z5 hj HB.out.size) (by omega) (by omega)).trans (HB.out.block j hj)⟩,HF.out.keep (hf2.block (w.heap.size+1) HF.out.facts.1 (by omega) (by omega))⟩
 clear hW hsz
 cases G with
 | error f=>
  obtain⟨f1,f2⟩:=f
  go_enter_defers Tryz.func8,Tryz.ntmps8
  go_wp2_with (first | (go_at_call 17;refine hr.mono ?_;rintro e w2 ⟨hf2,rfl⟩))
  obtain⟨hb2,hF2⟩:=hbw w2 hf2
  have hs2:=hb2.size
  obtain⟨hl2,⟨c1,c2⟩,z1,z2⟩:=hF2.facts
  refine leaves_cons (f:=16) (args:=#[.pointer (some ⟨w.heap.size+1,0,none⟩)]) (by simp) (by simp[go_sem]) ?_
  refine(S5 (w.heap.size+1) f1 f2 _ _ [] w2 c1 c2 z1 z2 hl2).mono ?_
  rintro e u' w'' ⟨rfl,rfl,rfl⟩
  have hF4:=(hF2.keep (((Zg _ w2).alloc (Z0 _) (.cells #[.int .i64 f1,.int .i64 f2] 59)).block _ hl2)).put (.int .i64 f1) (.int .i64 f2)
  obtain⟨_,⟨k1,k2⟩,_⟩:=hF4.facts
  refine⟨.agg #[.int .i64 f1,.int .i64 f2],?_,rfl,?_⟩
  ·simp[results,Tryz.results8,go_sem,k1,k2]
  ·exact((hb2.alloc hs2 _).setCell (by dsimp only;omega) _).setCell (by dsimp only;omega) _
 | ok _=>
  go_enter_defers Tryz.func8,Tryz.ntmps8
  go_wp2_with (first | (go_at_call 17;refine hr.mono ?_;rintro e w2 ⟨hf2,rfl⟩;obtain⟨hb2,hF2⟩:=hbw w2 hf2;have hs2:=hb2.size;obtain⟨hl2,⟨c1,c2⟩,z1,z2⟩:=hF2.facts))
  refine leaves_cons (f:=16) (args:=#[.pointer (some ⟨w.heap.size+1,0,none⟩)]) (by simp) (by simp[go_sem]) ?_
  refine(P5 ⟨w.heap.size+1,0,none⟩ _).mono ?_
  rintro e u' w'' ⟨rfl,rfl,rfl⟩
  have hF4:=hF2.put (.int .i64 0) (.int .i64 0)
  obtain⟨_,⟨k1,k2⟩,_⟩:=hF4.facts
  refine⟨.agg #[.int .i64 0,.int .i64 0],?_,rfl,?_⟩
  ·simp[results,Tryz.results8,go_sem,k1,k2]
  ·exact(hb2.setCell (by dsimp only;omega) _).setCell (by dsimp only;omega) _
theorem PG{T:List Int}{n:Nd}(h:CD T=.ok n):A0 n<=600:=by
 unfold CD at h
 cases hq:CW T with
 | error e=>rw[hq]at h;cases h
 | ok l=>
  rw[hq]at h
  have h':EN ⟨l,T.length⟩ (ED ⟨l,T.length⟩)=.ok n:=h
  rw[M6 _ (FV hq)]at h'
  cases hp:EZ ⟨l,T.length⟩ ⟨0,0,0⟩with
  | error e=>rw[hp]at h';cases h'
  | ok y=>
   obtain⟨m,s⟩:=y
   rw[hp]at h'
   dsimp only at h'
   split at h'
   ·cases h'
   ·cases h';omega
theorem Mq{T:List Int}{f:Int×Int}(h:CD T=.error f):f.1≠0:=by
 unfold CD at h
 cases hq:CW T with
 | error e=>rw[hq]at h;cases h;exact Mo hq
 | ok l=>
  rw[hq]at h
  have h':EN ⟨l,T.length⟩ (ED ⟨l,T.length⟩)=.error f:=h
  rw[M6 _ (FV hq)]at h'
  cases hp:EZ ⟨l,T.length⟩ ⟨0,0,0⟩with
  | error e=>rw[hp]at h';cases h';exact Mp hp
  | ok y=>
   obtain⟨m,s⟩:=y
   rw[hp]at h'
   dsimp only at h'
   split at h'
   ·cases h';decide
   ·cases h'
def Km(w:World)(T:List Int)(e:Ending)(w':World):Prop:=Below w.heap.size w w'/\match Ee T with
 | .ok n=>∃u,e=.returned (.tuple #[u,.agg #[.int .i64 0,.int .i64 0]])/\NodeV w' (Bd w.heap.size) u n
 | .error f=>e=.returned (.tuple #[.agg #[.int .i64 0,.string ⟨#[]⟩,.int .i64 0,.slice none 0 0],.agg #[.int .i64 f.1,.int .i64 f.2]])
theorem Il(w:World)(o:Obj)(x y:Value):Box2 ((w.alloc o).alloc (.cells #[x,y] 30)) (w.heap.size+1) x y:=by
 have h:=heap_alloc_new (w.alloc o) (.cells #[x,y] 30)
 rw[show(w.alloc o).heap.size=w.heap.size+1 by simp]at h
 exact h
theorem Qj(t:ByteArray)(w:World)(he:Errs w)(hm:t.size<=maxLen) :
  Calls Tryz.prog 5 #[.string t] w fun e w'=>Km w (A7 t) e w':=by
 have hb0:Below w.heap.size w ((w.alloc A6).alloc AV):=((Zg _ w).alloc (Z0 _) _).alloc (by simp) _
 have hps:=Qi t ((w.alloc A6).alloc AV) (he.lasts hb0) hm
 have HN:Hid (Box4 ((w.alloc A6).alloc AV) w.heap.size (.int .i64 0) (.string ⟨#[]⟩) (.int .i64 0) (.slice none 0 0)):=(Box4.new w (.int .i64 0) (.string ⟨#[]⟩) (.int .i64 0) (.slice none 0 0)).alloc _
 have HF:Hid (Box2 ((w.alloc A6).alloc AV) (w.heap.size+1) (.int .i64 0) (.int .i64 0)):=by
  show Box2 _ _ _ _
  have:=heap_alloc_new (w.alloc A6) AV
  rw[show(w.alloc A6).heap.size=w.heap.size+1 by simp]at this
  exact this
 have hsz0:((w.alloc A6).alloc AV).heap.size=w.heap.size+2:=by simp
 unfold Kl at hps
 rw[hsz0]at hps
 unfold Km Ee
 cases hp:CD (A7 t)with
 | error f=>
  have hc:=Mq hp
  rw[hp]at hps
  obtain⟨c,a⟩:=f
  have hc0:¬c=0:=hc
  clear hp hc hsz0
  go_enter Tryz.func5,Tryz.ntmps5
  go_wp2_with (first | (go_at_call 7;refine hps.mono ?_;rintro e w1 ⟨hb1,rfl⟩;have hN1:=HN.out.below hb1 (by omega);have hF1:=HF.out.below hb1 (by omega);obtain⟨⟨n0,n1,n2,n3⟩,m0,m1,m2,m3⟩:=hN1.facts;obtain⟨hl1,⟨c1,c3⟩,z1,z2⟩:=hF1.facts;have hl0:=hN1.lt))
  have e1:¬w.heap.size=w1.heap.size:=by omega
  have e2:¬w.heap.size+1=w1.heap.size:=by omega
  have e3:¬w.heap.size=w1.heap.size+1:=by omega
  have e4:¬w.heap.size+1=w1.heap.size+1:=by omega
  go_region
  all_goals go_wp2_with fail
  obtain⟨hN6,hF6⟩:=Er hN1 hF1 (.int .i64 0) (.string ⟨#[]⟩) (.int .i64 0) (.slice none 0 0) (.int .i64 c) (.int .i64 a)
  have hbA:=Dr (hb0.trans (hb1.mono (by omega))) (.int .i64 0) (.string ⟨#[]⟩) (.int .i64 0) (.slice none 0 0) (.int .i64 c) (.int .i64 a)
  obtain⟨⟨k0,k1,k2,k3⟩,_⟩:=((hN6.alloc (.cells #[.int .i64 0,.string ⟨#[]⟩,.int .i64 0,.slice none 0 0] 39)).alloc (.cells #[.int .i64 c,.int .i64 a] 30)).facts
  obtain⟨_,⟨k4,k5⟩,_⟩:=(hF6.below (Au _ (.cells #[.int .i64 0,.string ⟨#[]⟩,.int .i64 0,.slice none 0 0] 39) (.cells #[.int .i64 c,.int .i64 a] 30)) hF6.facts.1).facts
  refine bodyPost_ret (v:=.tuple #[.agg #[.int .i64 0,.string ⟨#[]⟩,.int .i64 0,.slice none 0 0],.agg #[.int .i64 c,.int .i64 a]]) (by simp[results,Tryz.results5,go_sem,k0,k1,k2,k3,k4,k5]) rfl ⟨?_,rfl⟩
  exact(hbA.trans ((Au _ (.cells #[.int .i64 0,.string ⟨#[]⟩,.int .i64 0,.slice none 0 0] 39) (.cells #[.int .i64 c,.int .i64 a] 30)).mono hbA.size)).drew
 | ok n=>
  rw[hp]at hps
  obtain⟨ks,b,hn,hsh⟩:=P8 hp
  have hsm:=PG hp
  subst hn
  have hfo:∀Mx u w',NodeV w' Mx u (.mk 1 [] 0 (ks++[b]))->_:=fun Mx u w' hu'=>P6 1 [] 0 ks.length (ks++[b]) (by simp) Mx u w' hu' (fun i hi him j hj=>by
   have e:(ks++[b])[i]=ks[i]:=Zb him
   exact hsh _ (by rw[e];exact Z6 him) _ (Z6 hj)) (by have:=GN (.mk 1 [] 0 (ks++[b]));have e:(Nd.mk 1 [] 0 (ks++[b])).kids=ks++[b]:=rfl;rw[e]at this;omega)
  have hbad:=Mk (.mk 1 [] 0 (ks++[b]))
  dsimp only
  generalize Nd.mk 1 [] 0 (ks++[b])=n at *
  clear hp hsh hsm hsz0
  cases hz:DX n with
  | error f=>
   rw[hz]at hfo
   have hc0:¬f.1=0:=hbad f hz
   obtain⟨c,a⟩:=f
   have hc1:¬c=0:=hc0
   have hfo':∀Mx u w',NodeV w' Mx u n->Calls Tryz.prog 8 #[u] w' fun e w''=>e=.returned (.agg #[.int .i64 c,.int .i64 a])/\Below w'.heap.size w' w'':=hfo
   clear hz hfo hc0 hbad
   go_enter Tryz.func5,Tryz.ntmps5
   go_wp2_with (first
     | (go_at_call 7;refine hps.mono ?_;rintro e w1 ⟨hb1,u1,rfl,hv1⟩;obtain⟨a1,b1,c1,ad1,n1,cc1,hu1⟩:=hv1.any;subst hu1;have hN1:=HN.out.below hb1 (by omega);have hF1:=HF.out.below hb1 (by omega);have hl0:=hN1.lt;have hl1:=hF1.facts.1;have hv2:=NodeV.above (Zi hv1 (M':=fun j=>w.heap.size+2<=j/\j<w1.heap.size) (fun j hj hl=>⟨hj,hl⟩)) (Zk (Au w1 (.cells #[.int .i64 a1,.string b1,.int .i64 c1,.slice ad1 n1 cc1] 39) AV)))
     | (go_at_call 8;refine(hfo' _ _ _ hv2).mono ?_;rintro e w3 ⟨rfl,hb3⟩;have hz3:=hb3.size;have hN3:=((hN1.alloc (.cells #[.int .i64 a1,.string b1,.int .i64 c1,.slice ad1 n1 cc1] 39)).alloc AV).below hb3 (by simp;omega);have hF3:=(hF1.below (Au w1 (.cells #[.int .i64 a1,.string b1,.int .i64 c1,.slice ad1 n1 cc1] 39) AV) hl1).below hb3 (by simp;omega);have hX3:Box4 w3 w1.heap.size (.int .i64 a1) (.string b1) (.int .i64 c1) (.slice ad1 n1 cc1):=((Box4.new w1 _ _ _ _).alloc AV).below hb3 (by simp;omega);have hY3:Box2 w3 (w1.heap.size+1) (.int .i64 0) (.int .i64 0):=Box2.below (Il w1 (.cells #[.int .i64 a1,.string b1,.int .i64 c1,.slice ad1 n1 cc1] 39) _ _) hb3 (by simp);have hw3:w1.heap.size+2<=w3.heap.size:=(by simp at hz3;omega);obtain⟨⟨n0,nn1,nn2,nn3⟩,m0,m1,m2,m3⟩:=hN3.facts;obtain⟨hlf,⟨cc,cd⟩,z1,z2⟩:=hF3.facts;obtain⟨⟨x0,x1,x2,x3⟩,v0,v1,v2,v3⟩:=hX3.facts;obtain⟨hly,⟨y0,y1⟩,e0,e1⟩:=hY3.facts;have hln:=hN3.lt))
   have hB3:Below w.heap.size w w3:=((hb0.trans (hb1.mono (by omega))).trans ((Au w1 (.cells #[.int .i64 a1,.string b1,.int .i64 c1,.slice ad1 n1 cc1] 39) AV).mono (by have:=hb1.size;omega))).trans (hb3.mono (by simp;omega))
   have hN4:=(hN3.setAt (N:=w1.heap.size+1) (j:=0) (by omega) (.int .i64 c)).setAt (N:=w1.heap.size+1) (j:=1) (by omega) (.int .i64 a)
   have hF4:=(hF3.setAt (N:=w1.heap.size+1) (j:=0) (by omega) (.int .i64 c)).setAt (N:=w1.heap.size+1) (j:=1) (by omega) (.int .i64 a)
   have hB4:=(hB3.setCell (p:=⟨w1.heap.size+1,0,none⟩) (by dsimp only;omega) (.int .i64 c)).setCell (p:=⟨w1.heap.size+1,1,none⟩) (by dsimp only;omega) (.int .i64 a)
   have hY4:=hY3.put (.int .i64 c) (.int .i64 a)
   generalize (w3.setCell ⟨w1.heap.size+1,0,none⟩ (.int .i64 c)).setCell ⟨w1.heap.size+1,1,none⟩ (.int .i64 a)=w4 at *
   clear n0 nn1 nn2 nn3 m0 m1 m2 m3 cc cd z1 z2 y0 y1 e0 e1 hlf hly hln
   obtain⟨⟨n0,nn1,nn2,nn3⟩,m0,m1,m2,m3⟩:=hN4.facts
   obtain⟨hlf,⟨cc,cd⟩,z1,z2⟩:=hF4.facts
   obtain⟨hly,⟨y0,y1⟩,e0,e1⟩:=hY4.facts
   have hln:=hN4.lt
   go_region
   all_goals go_wp2_with fail
   obtain⟨hN6,hF6⟩:=Er hN4 hF4 (.int .i64 0) (.string ⟨#[]⟩) (.int .i64 0) (.slice none 0 0) (.int .i64 c) (.int .i64 a)
   have hbA:=Dr hB4 (.int .i64 0) (.string ⟨#[]⟩) (.int .i64 0) (.slice none 0 0) (.int .i64 c) (.int .i64 a)
   obtain⟨⟨k0,k1,k2,k3⟩,_⟩:=hN6.facts
   obtain⟨_,⟨k4,k5⟩,_⟩:=hF6.facts
   exact bodyPost_ret (v:=.tuple #[.agg #[.int .i64 0,.string ⟨#[]⟩,.int .i64 0,.slice none 0 0],.agg #[.int .i64 c,.int .i64 a]]) (by simp[results,Tryz.results5,go_sem,k0,k1,k2,k3,k4,k5]) rfl ⟨hbA.drew,rfl⟩
  | ok _=>
   rw[hz]at hfo
   have hfo':∀Mx u w',NodeV w' Mx u n->Calls Tryz.prog 8 #[u] w' fun e w''=>e=.returned (.agg #[.int .i64 0,.int .i64 0])/\Below w'.heap.size w' w'':=hfo
   clear hz hfo hbad
   go_enter Tryz.func5,Tryz.ntmps5
   go_wp2_with (first
     | (go_at_call 7;refine hps.mono ?_;rintro e w1 ⟨hb1,u1,rfl,hv1⟩;obtain⟨a1,b1,c1,ad1,n1,cc1,hu1⟩:=hv1.any;subst hu1;have hN1:=HN.out.below hb1 (by omega);have hF1:=HF.out.below hb1 (by omega);have hl0:=hN1.lt;have hl1:=hF1.facts.1;have hv2:=NodeV.above (Zi hv1 (M':=fun j=>w.heap.size+2<=j/\j<w1.heap.size) (fun j hj hl=>⟨hj,hl⟩)) (Zk (Au w1 (.cells #[.int .i64 a1,.string b1,.int .i64 c1,.slice ad1 n1 cc1] 39) AV)))
     | (go_at_call 8;refine(hfo' _ _ _ hv2).mono ?_;rintro e w3 ⟨rfl,hb3⟩;have hz3:=hb3.size;have hN3:=((hN1.alloc (.cells #[.int .i64 a1,.string b1,.int .i64 c1,.slice ad1 n1 cc1] 39)).alloc AV).below hb3 (by simp;omega);have hF3:=(hF1.below (Au w1 (.cells #[.int .i64 a1,.string b1,.int .i64 c1,.slice ad1 n1 cc1] 39) AV) hl1).below hb3 (by simp;omega);have hX3:Box4 w3 w1.heap.size (.int .i64 a1) (.string b1) (.int .i64 c1) (.slice ad1 n1 cc1):=((Box4.new w1 _ _ _ _).alloc AV).below hb3 (by simp;omega);have hY3:Box2 w3 (w1.heap.size+1) (.int .i64 0) (.int .i64 0):=Box2.below (Il w1 (.cells #[.int .i64 a1,.string b1,.int .i64 c1,.slice ad1 n1 cc1] 39) _ _) hb3 (by simp);have hw3:w1.heap.size+2<=w3.heap.size:=(by simp at hz3;omega);obtain⟨⟨n0,nn1,nn2,nn3⟩,m0,m1,m2,m3⟩:=hN3.facts;obtain⟨hlf,⟨cc,cd⟩,z1,z2⟩:=hF3.facts;obtain⟨⟨x0,x1,x2,x3⟩,v0,v1,v2,v3⟩:=hX3.facts;obtain⟨hly,⟨y0,y1⟩,e0,e1⟩:=hY3.facts;have hln:=hN3.lt))
   have hB3:Below w.heap.size w w3:=((hb0.trans (hb1.mono (by omega))).trans ((Au w1 (.cells #[.int .i64 a1,.string b1,.int .i64 c1,.slice ad1 n1 cc1] 39) AV).mono (by have:=hb1.size;omega))).trans (hb3.mono (by simp;omega))
   have hN4:=(hN3.setAt (N:=w1.heap.size+1) (j:=0) (by omega) (.int .i64 0)).setAt (N:=w1.heap.size+1) (j:=1) (by omega) (.int .i64 0)
   have hF4:=(hF3.setAt (N:=w1.heap.size+1) (j:=0) (by omega) (.int .i64 0)).setAt (N:=w1.heap.size+1) (j:=1) (by omega) (.int .i64 0)
   have hB4:=(hB3.setCell (p:=⟨w1.heap.size+1,0,none⟩) (by dsimp only;omega) (.int .i64 0)).setCell (p:=⟨w1.heap.size+1,1,none⟩) (by dsimp only;omega) (.int .i64 0)
   have hv3:NodeV w3 (Bd (w.heap.size+2)) (.agg #[.int .i64 a1,.string b1,.int .i64 c1,.slice ad1 n1 cc1]) n:=Zi (NodeV.above hv2 (Zk hb3)) (fun j hj _=>hj.1)
   have hv4:=Zi (NodeV.above (Zi (NodeV.above hv2 (Zk hb3)) (M':=fun j=>w.heap.size+2<=j/\j<w1.heap.size) (fun j hj _=>hj)) ((((Above.refl _ w3).set (a:=⟨w1.heap.size+1,0,none⟩) (by rintro⟨_,h⟩;dsimp only at h;omega) (.int .i64 0)).set (a:=⟨w1.heap.size+1,1,none⟩) (by rintro⟨_,h⟩;dsimp only at h;omega) (.int .i64 0)))) (M':=Bd (w.heap.size+2)) (fun j hj _=>hj.1)
   generalize (w3.setCell ⟨w1.heap.size+1,0,none⟩ (.int .i64 0)).setCell ⟨w1.heap.size+1,1,none⟩ (.int .i64 0)=w4 at *
   obtain⟨hN6,hF6⟩:=Er hN4 hF4 (.int .i64 a1) (.string b1) (.int .i64 c1) (.slice ad1 n1 cc1) (.int .i64 0) (.int .i64 0)
   have hbA:=Dr hB4 (.int .i64 a1) (.string b1) (.int .i64 c1) (.slice ad1 n1 cc1) (.int .i64 0) (.int .i64 0)
   obtain⟨⟨k0,k1,k2,k3⟩,_⟩:=hN6.facts
   obtain⟨_,⟨k4,k5⟩,_⟩:=hF6.facts
   exact bodyPost_ret (v:=.tuple #[.agg #[.int .i64 a1,.string b1,.int .i64 c1,.slice ad1 n1 cc1],.agg #[.int .i64 0,.int .i64 0]]) (by simp[results,Tryz.results5,go_sem,k0,k1,k2,k3,k4,k5]) rfl ⟨hbA,_,rfl,OI (Z0 _) hv4 _ _ _ _ _ _⟩
end Go.Proofs.YtpfdgbalchmmfaaGreatDoor
