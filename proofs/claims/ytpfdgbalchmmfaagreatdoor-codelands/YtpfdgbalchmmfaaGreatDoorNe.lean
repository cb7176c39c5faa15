/- Texts in one. -/
import Derived.Test.YtpfdgbalchmmfaaGreatDoorNd
set_option maxHeartbeats 16000000
set_option maxRecDepth 20000
namespace Go.Proofs.YtpfdgbalchmmfaaGreatDoor
open Go.RowKit
def V2(w:World)(Q mb B:Nat)(M:List (ByteArray×Int))(names:List ByteArray)(vp:Value)(past:List (List ByteArray))(g:Chk (Nat×List ByteArray))(e:Ending)(w':World):Prop:=match g with
 | .ok y=>∃vp' vals',e=.returned (.tuple #[])/\Wc w' Q mb M vp' names y.1/\PastR w' Q B vp' (past++[y.2]) vals'/\Keeps w w' Q vp past.length/\Onto w vp vp'
 | .error f=>e=.panicked [{ v:=F0 f,recovered:=false }]/\Keeps w w' Q vp past.length
theorem FrQ.keeps0{w w':World}{N Q m:Nat}{v:Value}(h:FrQ w w' N Q)(hN:w.heap.size<=N):Keeps w w' Q v m:=
 ⟨h.os,h.tape,h.output,h.size,fun k hk hq _=>h.block k (by omega) hq,fun g cur e hg hq hc=>⟨cur,by rw[h.block g (by have:=(Array.getElem?_eq_some_iff.1 hc).1;omega) hq];exact hc,rfl,rfl⟩⟩
theorem O1(n:Nd):n=.mk n.kind n.text n.num n.kids:=by cases n;rfl
theorem StrsV.mono{w:World}{M M':Nat->Prop}{v:Value}{l:List ByteArray}(h:StrsV w M v l)(hm:∀k,M k->k<w.heap.size->M' k):StrsV w M' v l:=by
 obtain⟨ad,c,e,h1,h2,h3,h4⟩:=h
 refine⟨ad,c,e,h1,h2,h3,fun a ea=>?_⟩
 obtain⟨b,o,e2,hM,hb,hc⟩:=h4 a ea
 exact⟨b,o,e2,hm b hM hb,hb,hc⟩
theorem StrsV.kept2{w w':World}{M M':Nat->Prop}{v:Value}{l:List ByteArray}(h:StrsV w M v l)(hm:∀k,M k->k<w.heap.size->w'.heap[k]?=w.heap[k]?/\M' k)(hs:w.heap.size<=w'.heap.size):StrsV w' M' v l:=by
 obtain⟨ad,c,e,h1,h2,h3,h4⟩:=h
 refine⟨ad,c,e,h1,h2,h3,fun a ea=>?_⟩
 obtain⟨b,o,e2,hM,hb,hc⟩:=h4 a ea
 refine⟨b,o,e2,(hm b hM hb).2,by omega,fun i hi=>?_⟩
 rw[World.cell?_of_block (w:=w) (a:=⟨b,o+i,none⟩) (hm b hM hb).1]
 exact hc i hi
theorem WObj.setPast{w:World}{Q nx mb own:Nat}{vp vs v:Value}{self ret:Bool}(h:WObj w Q nx mb vp vs v own self ret)(vp':Value):WObj (w.setCell ⟨Q,2,none⟩ vp') Q nx mb vp' vs v own self ret:=heap_setCell_same _ _ _ _ _ _ h
theorem GN(n:Nd):A0 n=1+A2 n.kids:=by
 cases n with
 | mk a b c d=>
  conv=>lhs;unfold A0
  rfl
theorem JU{names slots:List ByteArray}{k:Int}{tx:List Int}{na:Nat}{ks:List Nd}(hks:ks.length=na+1){nx y:Nat}(h:CI names slots (.mk k tx (na:Int) ks) nx=.ok y):y<=nx+A2 ks:=by
 unfold CI at h
 have e0:(Nd.mk k tx (na:Int) ks).num.toNat=na:=by show((na:Int)).toNat=na;exact Int.toNat_natCast na
 have e1:(Nd.mk k tx (na:Int) ks).kids=ks:=rfl
 rw[e0,e1]at h
 cases ha:DG (ks.take na) (nx,[])with
 | error f=>rw[ha]at h;cases h
 | ok z=>
  rw[ha,chk_ok,List.getElem?_eq_getElem (by omega)]at h
  dsimp only at h
  have h1:=LV _ _ _ ha
  rw[List.length_take]at h1
  cases hk:At ⟨names,slots,true,true⟩ 0 (ks[na]'(by omega)).kids (z.1+1,z.2)with
  | error f=>rw[hk]at h;cases h
  | ok t=>
   rw[hk,chk_ok]at h
   have h2:=Fm _ _ _ _ _ hk
   have h3:=Ie ks na (by omega)
   have h4:=GN (ks[na]'(by omega))
   have h5:t.1=z.1+1+A2 (ks[na]'(by omega)).kids:=h2
   have h6:z.1=nx+min na ks.length:=h1
   injection h with h
   omega
theorem TP(w:World):(Instr.makeMap 102 none).run Tryz.prog w=.ok (.map (some w.heap.size)) (w.alloc (Cy [])):=by kernel_rfl
theorem QX(Q mb B:Nat)(M:List (ByteArray×Int))(vp u:Value)(names:List ByteArray)(past:List (List ByteArray))(vals:List Value)(nx:Nat)(k:Int)(tx:List Int)(nm:Int)(ks:List Nd)(w:World)(h:Wc w Q mb M vp names nx)(hp:PastR w Q B vp past vals)(hu:NodeV w (fun j=>j≠Q/\vp.ownBlock≠some j) u (.mk k tx nm ks))(hsh:∀i (h:i<ks.length),(ks[i]).kind=4->∃na:Nat,(ks[i]).num=(na:Int)/\(ks[i]).kids.length=na+1)(hN:nx+1+A2 ks<=100000)(hq:vp.ownBlock≠some Q)(hmb:vp.ownBlock≠some mb)(hB:B<=w.heap.size)(hpl:past.length<=100000) :
  Calls Tryz.prog 29 #[.pointer (some ⟨Q,0,none⟩),u] w fun e w'=>V2 w Q mb B M names vp past (EO names past (.mk k tx nm ks) nx) e w':=by
 obtain⟨xk,hu1,ad,c0,hx1,hkk⟩:=hu
 obtain⟨c,hcc⟩:∃c,c0+ks.length=c:=⟨_,rfl⟩
 have hx2:xk=.slice ad ks.length c:=by rw[<-hcc];exact hx1
 subst hx2
 have hu2:u=.agg #[.int .i64 k,.string (strOfNums tx),.int .i64 nm,.slice ad ks.length c]:=hu1
 subst hu2
 obtain⟨pa,pc,hvp,hpc1,hpc2⟩:=BS hp.own
 subst hvp
 have hql:=h.obj.lt
 have hml:mb<w.heap.size:=(Array.getElem?_eq_some_iff.1 h.map).1
 have hkl:=EL ks
 have HX:Hid (Box4 (w.alloc (.cells #[.int .i64 k,.string (strOfNums tx),.int .i64 nm,.slice ad ks.length c] 39)) w.heap.size (.int .i64 k) (.string (strOfNums tx)) (.int .i64 nm) (.slice ad ks.length c)):=Box4.new _ _ _ _ _
 have hb0:Below w.heap.size w (w.alloc (.cells #[.int .i64 k,.string (strOfNums tx),.int .i64 nm,.slice ad ks.length c] 39)):=(Zg _ w).alloc (Z0 _) _
 have hen0:=O0 Q mb nx M _ names _ (h.below hb0) (by omega)
 have hip:=fun w' (h':Wc w' Q mb M (.slice pa past.length pc) names (nx+1))=>LW Q mb M pa past.length pc names (nx+1) (strOfNums tx) w' h'
 have hth:=FW
 have HF0:Hid (FrQ w (w.alloc (.cells #[.int .i64 k,.string (strOfNums tx),.int .i64 nm,.slice ad ks.length c] 39)) w.heap.size Q):=(FrQ.refl _ _ _).below hb0 (Z0 _)
 have HKV:Hid (KidsV w (fun j=>j≠Q/\j<w.heap.size) (.slice ad ks.length c) ks):=KidsV.mono (M:=(fun j=>j≠Q/\(Value.slice pa past.length pc).ownBlock≠some j)) ⟨ad,c0,by rw[hcc],hkk⟩ (fun j hj hl=>⟨hj.1,hl⟩)
 have HWC:Hid (Wc w Q mb M (.slice pa past.length pc) names nx):=h
 have HP:Hid (PastR w Q B (.slice pa past.length pc) past vals):=hp
 have HSH:Hid (∀i (h:i<ks.length),(ks[i]).kind=4->∃na:Nat,(ks[i]).num=(na:Int)/\(ks[i]).kids.length=na+1):=hsh
 have hcz:EO names past (.mk k tx nm ks) nx=if(Eu names past.length (strOfNums tx)).isSome=true then .error (5,(nx:Int))else(Ap names past ks ⟨nx+1,[],[]⟩).then fun c=>.ok (c.next,c.slots):=rfl
 rw[hcz]
 clear hcz h hp hsh hkk hx1 hu1 hcc hb0
 generalize strOfNums tx=x0 at *
 cases hpz:(Eu names past.length x0).isSome with
 | true=>
  rw[if_pos rfl]
  rw[hpz]at hip
  clear hpz
  go_enter Tryz.func29,Tryz.ntmps29
  go_wp2_with (first
   | (go_at_call 28;refine hen0.mono ?_;rintro e w1 ⟨rfl,hw1,hg1⟩;obtain⟨⟨a0,a1,a2,a3⟩,_⟩:=(HX.out.grown hg1 (by omega)).facts;have hlx:=(HX.out.grown hg1 (by omega)).lt)
   | (go_at_call 51;refine(hip _ hw1).mono ?_;rintro e w2 ⟨rfl,rfl⟩)
   | (go_at_call 52;refine(hth _ _ _).mono ?_;rintro e w3 ⟨rfl,rfl⟩))
  exact⟨rfl,rfl,(HF0.out.grown hg1 (Or.inl rfl) (by simp)).keeps0 (Z0 _)⟩
 | false=>
  rw[if_neg (by decide)]
  rw[hpz]at hip
  clear hpz
  have hmk:=TP
  obtain⟨R,HR⟩:∃R,Hid (Ap names past ks ⟨nx+1,[],[]⟩=R):=⟨_,rfl⟩
  rw[HR.out]
  obtain⟨G,HG⟩:∃G,Hid (G=R.then fun c=>.ok (c.next,c.slots)):=⟨_,rfl⟩
  rw[<-HG.out]
  go_enter Tryz.func29,Tryz.ntmps29
  go_wp2_with (first
   | (go_at_call 28;refine hen0.mono ?_;rintro e w1 ⟨rfl,hw1,hg1⟩;have hX1:=HX.out.grown hg1 (by omega);obtain⟨⟨a0,a1,a2,a3⟩,_⟩:=hX1.facts;have hlx:=hX1.lt)
   | (go_at_call 51;refine(hip _ hw1).mono ?_;rintro e w2 ⟨rfl,rfl⟩))
  obtain⟨ms,hms⟩:∃ms,ms=w2.heap.size:=⟨_,rfl⟩
  have hlw:w.heap.size<ms:=by rw[hms];exact hlx
  have HC0:Hid (ClR (w2.alloc (Cy [])) Q mb M (.slice pa past.length pc) names ms (.slice none 0 0) ⟨nx+1,[],[]⟩):=⟨hw1.below ((Zg _ _).alloc (Z0 _) _),Zl _ _ _ _,by rw[hms];exact heap_alloc_new w2 _,by simp,by rw[hms];simp⟩
  have HFW:Hid (FrQ w (w2.alloc (Cy [])) w.heap.size Q):=(HF0.out.grown hg1 (Or.inl rfl) (by simp)).below ((Zg _ _).alloc (Z0 _) _) (by omega)
  rw[<-hms]
  have HNN:Hid (nx+1+A2 ks<=100000):=hN
  have HPL:Hid (past.length<=100000):=hpl
  clear hN hpl a0 a1 a2 a3 hX1 hen0 hip hw1 hg1 HX HF0
  generalize w2.alloc (Cy [])=W2 at *
  clear hms hlx
  go_loopw [5,22] (fun s5 s22 wr=>∃(i:Nat) (c1:ClZ) (ra:Option Addr) (rc:Nat),s22=.int .i64 i/\s5=.slice ra c1.slots.length rc/\i<=ks.length/\Hid (Ap names past (ks.drop i) c1=R)/\Hid (c1.next+A2 (ks.drop i)<=100000)/\Hid (ClR wr Q mb M (.slice pa past.length pc) names ms (.slice ra c1.slots.length rc) c1)/\Hid (FrQ w wr w.heap.size Q)) (fun _ s22 _=>ks.length-(intOf s22).toNat)
  case atStart=>exact⟨0,⟨nx+1,[],[]⟩,none,0,rfl,rfl,Z3 _,HR,HNN,HC0,HFW⟩
  case round=>
   clear HR HC0 HFW
   obtain⟨i,c1,ra,rc,rfl,rfl,hi,HR1,HN1,HC,HF⟩:=hrel
   have hszr:w.heap.size<=wr.heap.size:=HF.out.size
   have hrq:(Value.slice ra c1.slots.length rc).ownBlock≠some Q:=fun e=>by have:=(HC.out.row.lt Q e).1;omega
   have hkz:ks.length<=100000:=by have:=HNN.out;omega
   by_cases hlt:i<ks.length
   ·have hil:(i:Int)<(ks.length:Int):=by omega
    have hwi:=Ao (x:=(i:Int)+1) (by omega) (by omega)
    have hab:Above (fun j=>j≠Q/\j<w.heap.size) w wr:=⟨hszr,fun j h1 h2=>HF.out.block j h2 h1.1⟩
    obtain⟨adk,ck,ek,hkk⟩:=HKV.out.above hab
    injection ek with ek1 _ ek3
    obtain⟨b,o,eb,hMb,hbw,hkw⟩:=hkk (by omega)
    rw[<-ek1]at eb
    subst eb
    obtain⟨xx,hkx,c0,c2,c3,c4⟩:=CV hkw hlt
    have HKX:Hid (KidsV wr (fun j=>j≠Q/\j<w.heap.size) xx ks[i].kids):=hkx
    obtain⟨adx,cx0,hxx,_⟩:=hkx
    obtain⟨cx,hcx⟩:∃cx,cx0+ks[i].kids.length=cx:=⟨_,rfl⟩
    rw[hcx]at hxx
    clear hcx
    subst hxx
    have hdr:ks.drop i=ks[i]::ks.drop (i+1):=Z4 hlt
    have hsz:A2 (ks.drop i)=A0 ks[i]+A2 (ks.drop (i+1)):=by rw[hdr];conv=>lhs;unfold A2
    have hsk:=GN ks[i]
    have hnn:c1.next+1+A2 ks[i].kids+A2 (ks.drop (i+1))<=100000:=by have:=HN1.out;omega
    have hsh4:=HSH.out i hlt
    have HRE:=HR1.out
    rw[hdr,Ap]at HRE
    clear hkw hdr hsz hsk HR1 hab ek1 ek3 hkk
    generalize ks[i]=kid at *
    have hen:=O0 Q mb c1.next M _ names _ (HC.out.wc.below ((Zg _ wr).alloc (Z0 _) (.cells #[.int .i64 kid.kind,.string (strOfNums kid.text),.int .i64 kid.num,.slice adx kid.kids.length cx] 39))) (by omega)
    have hms1:=HC.out.size
    have hstr:kid.str=strOfNums kid.text:=rfl
    by_cases e31:kid.kind=31
    ·rw[e31]at hen c0
     have hm31:C3 names past kid c1=match Eu names past.length (strOfNums kid.text)with
      | some j=>.ok { c1 with next:=c1.next+1,slots:=past.getD j [] }
      | none=>.error (14,(c1.next:Int)):=by unfold C3;rw[if_pos e31];rfl
     rw[hm31]at HRE
     clear hm31 e31 hsh4 HKX hstr
     generalize strOfNums kid.text=x at *
     generalize kid.num=y2 at *
     generalize kid.kids.length=lx at *
     cases hpz:Eu names past.length x with
     | none=>
      rw[hpz]at HRE
      have HE:Hid (R=.error (14,(c1.next:Int))):=by show _=_;rw[<-HRE];rfl
      clear HRE
      have hov:=fun w' (h':Wc w' Q mb M (.slice pa past.length pc) names (c1.next+1)) (hp':PastR w' Q B (.slice pa past.length pc) past vals)=>Nz Q mb B M _ names past vals (c1.next+1) c1.next x w' h' hp'
      rw[hpz]at hov
      clear hpz
      go_wp2_with (first
       | (go_at_call 28;refine hen.mono ?_;rintro e w4 ⟨rfl,hw4,hg4⟩;have hgA:=(A1 Q ((Zg _ wr).alloc (Z0 _) (.cells #[.int .i64 31,.string x,.int .i64 y2,.slice adx lx cx] 39))).trans hg4;have hX4:Box4 w4 wr.heap.size (.int .i64 31) (.string x) (.int .i64 y2) (.slice adx lx cx):=Box4.grown (Box4.new wr _ _ _ _) hg4 (by omega);obtain⟨⟨s0,s1,s2,s3⟩,_⟩:=hX4.facts;have hls:=hX4.lt;have hF4:=HF.out.grown hgA (Or.inl rfl) hszr;have hrow4:=(Keeps.of_grown (m:=c1.slots.length) (v:=.slice ra c1.slots.length rc) hgA).own HC.out.row hrq;have hsig4:w4.heap[ms]?=some (Cy c1.sigs):=(hgA.block _ (by have:=HC.out.size;omega) (fun e=>by injection e with e;omega)).trans HC.out.sig;have hz4:=hgA.size)
       | (go_at_call 53;refine(hov _ hw4 (HP.out.fr hF4 (Z0 _) hq)).mono ?_;rintro e w5 ⟨rfl,rfl⟩))
      refine⟨rfl,?_⟩
      rw[HG.out,HE.out]
      exact⟨rfl,(hF4).keeps0 (Z0 _)⟩
     | some j=>
      rw[hpz]at HRE
      have HRY:Hid (Ap names past (ks.drop (i+1)) ⟨c1.next+1,past.getD j [],c1.sigs⟩=R):=HRE
      have HNY:Hid ((⟨c1.next+1,past.getD j [],c1.sigs⟩:ClZ).next+A2 (ks.drop (i+1))<=100000):=(by show c1.next+1+_<=_;omega)
      clear HRE
      have hov:=fun w' (h':Wc w' Q mb M (.slice pa past.length pc) names (c1.next+1)) (hp':PastR w' Q B (.slice pa past.length pc) past vals)=>Nz Q mb B M _ names past vals (c1.next+1) c1.next x w' h' hp'
      rw[hpz]at hov
      have hgf:(past.getD j []).length<=59:=by
       rw[Z2]
       cases hj:past[j]? with
       | none=>simp
       | some l=>exact HP.out.few l (List.mem_of_getElem? hj)
      clear hpz
      dsimp only at hov
      generalize past.getD j []=lj at *
      go_wp2_with (first
       | (go_at_call 28;refine hen.mono ?_;rintro e w4 ⟨rfl,hw4,hg4⟩;have hgA:=(A1 Q ((Zg _ wr).alloc (Z0 _) (.cells #[.int .i64 31,.string x,.int .i64 y2,.slice adx lx cx] 39))).trans hg4;have hX4:Box4 w4 wr.heap.size (.int .i64 31) (.string x) (.int .i64 y2) (.slice adx lx cx):=Box4.grown (Box4.new wr _ _ _ _) hg4 (by omega);obtain⟨⟨s0,s1,s2,s3⟩,_⟩:=hX4.facts;have hls:=hX4.lt;have hF4:=HF.out.grown hgA (Or.inl rfl) hszr;have hrow4:=(Keeps.of_grown (m:=c1.slots.length) (v:=.slice ra c1.slots.length rc) hgA).own HC.out.row hrq;have hsig4:w4.heap[ms]?=some (Cy c1.sigs):=(hgA.block _ (by have:=HC.out.size;omega) (fun e=>by injection e with e;omega)).trans HC.out.sig;have hz4:=hgA.size)
       | (go_at_call 53;refine(hov _ hw4 (HP.out.fr hF4 (Z0 _) hq)).mono ?_;rintro e w5 ⟨v5,rfl,ho5,hb5⟩;obtain⟨ra5,rc5,hv5,_,_⟩:=BS ho5;subst hv5))
      exact⟨⟨i+1,⟨c1.next+1,lj,c1.sigs⟩,ra5,rc5,by simp,rfl,by omega,HRY,HNY,⟨hw4.below hb5,TO ho5 (by omega),(hb5.block ms (by omega)).trans hsig4,hgf,(by have:=hb5.size;show ms+1<=_;omega)⟩,hF4.below hb5 (by omega)⟩,by simp[intOf];omega⟩
    ·by_cases e3:kid.kind=3
     ·rw[e3]at hen c0
      have n31:((3:Int)==31)=false:=by decide
      have hm3:C3 names past kid c1=(Lz c1.slots (strOfNums kid.text) c1.next).then fun l=>.ok { c1 with next:=c1.next+1,slots:=l }:=by
       unfold C3 Lz
       rw[if_neg e31,if_pos e3,hstr]
       split
       ·rfl
       ·split<;>rfl
      rw[hm3]at HRE
      have hon:=fun w' (h':w'.ownsRow (ms+1) 9 1 (.slice ra c1.slots.length rc) c1.slots.length (B5 c1.slots)) (hB':ms+1<=w'.heap.size)=>Ou (ms+1) _ c1.slots (strOfNums kid.text) c1.next w' h' hB' HC.out.few
      clear hm3 e31 e3 hsh4 HKX hstr
      generalize strOfNums kid.text=x at *
      generalize kid.num=y2 at *
      generalize kid.kids.length=lx at *
      cases hoz:Lz c1.slots x c1.next with
      | error f=>
       rw[hoz]at HRE hon
       have HE:Hid (R=.error f):=by show _=_;rw[<-HRE];rfl
       clear HRE hoz
       go_wp2_with (first
        | (go_at_call 28;refine hen.mono ?_;rintro e w4 ⟨rfl,hw4,hg4⟩;have hgA:=(A1 Q ((Zg _ wr).alloc (Z0 _) (.cells #[.int .i64 3,.string x,.int .i64 y2,.slice adx lx cx] 39))).trans hg4;have hX4:Box4 w4 wr.heap.size (.int .i64 3) (.string x) (.int .i64 y2) (.slice adx lx cx):=Box4.grown (Box4.new wr _ _ _ _) hg4 (by omega);obtain⟨⟨s0,s1,s2,s3⟩,_⟩:=hX4.facts;have hls:=hX4.lt;have hF4:=HF.out.grown hgA (Or.inl rfl) hszr;have hrow4:=(Keeps.of_grown (m:=c1.slots.length) (v:=.slice ra c1.slots.length rc) hgA).own HC.out.row hrq;have hsig4:w4.heap[ms]?=some (Cy c1.sigs):=(hgA.block _ (by have:=HC.out.size;omega) (fun e=>by injection e with e;omega)).trans HC.out.sig;have hz4:=hgA.size)
        | (go_at_call 54;refine(hon _ hrow4 (by omega)).mono ?_;rintro e w5 ⟨rfl,rfl⟩))
       refine⟨rfl,?_⟩
       rw[HG.out,HE.out]
       exact⟨rfl,(hF4).keeps0 (Z0 _)⟩
      | ok l2=>
       rw[hoz]at HRE hon
       have HRY:Hid (Ap names past (ks.drop (i+1)) ⟨c1.next+1,l2,c1.sigs⟩=R):=HRE
       have HNY:Hid ((⟨c1.next+1,l2,c1.sigs⟩:ClZ).next+A2 (ks.drop (i+1))<=100000):=(by show c1.next+1+_<=_;omega)
       have hl2:l2.length<=59:=by
        have hfw:=HC.out.few
        unfold Lz at hoz
        split at hoz
        ·cases hoz
        ·split at hoz
         ·cases hoz
         ·injection hoz with hoz
          rw[<-hoz,Z1]
          simp
          omega
       clear HRE hoz
       dsimp only at hon
       go_wp2_with (first
        | (go_at_call 28;refine hen.mono ?_;rintro e w4 ⟨rfl,hw4,hg4⟩;have hgA:=(A1 Q ((Zg _ wr).alloc (Z0 _) (.cells #[.int .i64 3,.string x,.int .i64 y2,.slice adx lx cx] 39))).trans hg4;have hX4:Box4 w4 wr.heap.size (.int .i64 3) (.string x) (.int .i64 y2) (.slice adx lx cx):=Box4.grown (Box4.new wr _ _ _ _) hg4 (by omega);obtain⟨⟨s0,s1,s2,s3⟩,_⟩:=hX4.facts;have hls:=hX4.lt;have hF4:=HF.out.grown hgA (Or.inl rfl) hszr;have hrow4:=(Keeps.of_grown (m:=c1.slots.length) (v:=.slice ra c1.slots.length rc) hgA).own HC.out.row hrq;have hsig4:w4.heap[ms]?=some (Cy c1.sigs):=(hgA.block _ (by have:=HC.out.size;omega) (fun e=>by injection e with e;omega)).trans HC.out.sig;have hz4:=hgA.size)
        | (go_at_call 54;refine(hon _ hrow4 (by omega)).mono ?_;rintro e w5 ⟨v5,rfl,ho5,hk5,hn5⟩;obtain⟨ra5,rc5,hv5,_,_⟩:=BS ho5;subst hv5))
       have hvr:∀g,(Value.slice ra c1.slots.length rc).ownBlock=some g->ms+1<=g:=fun g e=>(HC.out.row.lt g e).1
       have hQ5:Wc w5 Q mb M (.slice pa past.length pc) names (c1.next+1):=⟨((hk5 ms).block Q (by omega) (by omega) (fun e=>by have:=hvr Q e;omega)).trans hw4.obj,((hk5 ms).block mb (by omega) (by omega) (fun e=>by have:=hvr mb e;omega)).trans hw4.map,hw4.mq,hw4.names⟩
       exact⟨⟨i+1,⟨c1.next+1,l2,c1.sigs⟩,ra5,rc5,by simp,rfl,by omega,HRY,HNY,⟨hQ5,ho5,((hk5 Q).block ms (by omega) (by omega) (fun e=>by have:=hvr ms e;omega)).trans hsig4,hl2,(by have:=(hk5 Q).size;show ms+1<=_;omega)⟩,hF4.keeps (hk5 Q) (fun g e=>by have:=hvr g e;omega) (by omega)⟩,by simp[intOf];omega⟩
     ·by_cases e4:kid.kind=4
      ·obtain⟨na,hnum,hkl2⟩:=hsh4 e4
       have n31:((4:Int)==31)=false:=by decide
       have n3:((4:Int)==3)=false:=by decide
       have hkid:kid=.mk kid.kind kid.text (na:Int) kid.kids:=(O1 kid).trans (by rw[hnum])
       have hm4:C3 names past kid c1=if F6 c1.sigs (strOfNums kid.text,kid.num)=true then .error (5,(c1.next:Int))else(CI names c1.slots kid (c1.next+1)).then fun nx=>.ok { c1 with next:=nx,sigs:=c1.sigs++[(strOfNums kid.text,kid.num)] }:=by
        unfold C3
        rw[if_neg e31,if_neg e3,if_pos e4]
        rfl
       rw[hm4]at HRE
       rw[e4]at hen c0
       have hon:=fun w' (h':w'.heap[ms]?=some (Cy c1.sigs))=>TE c1.sigs ms (strOfNums kid.text,kid.num) c1.next w' h'
       unfold Bn at hon
       dsimp only at hon
       clear hm4
       cases hss:F6 c1.sigs (strOfNums kid.text,kid.num)with
       | true=>
        rw[hss,if_pos rfl]at HRE
        have HE:Hid (R=.error (5,(c1.next:Int))):=by show _=_;rw[<-HRE];rfl
        simp only[hss,if_true]at hon
        clear HRE hss hkid e31 e3 e4 hstr hnum hkl2
        generalize strOfNums kid.text=x at *
        generalize kid.num=y2 at *
        generalize kid.kids.length=lx at *
        go_wp2_with (first
         | (go_at_call 28;refine hen.mono ?_;rintro e w4 ⟨rfl,hw4,hg4⟩;have hgA:=(A1 Q ((Zg _ wr).alloc (Z0 _) (.cells #[.int .i64 4,.string x,.int .i64 y2,.slice adx lx cx] 39))).trans hg4;have hX4:Box4 w4 wr.heap.size (.int .i64 4) (.string x) (.int .i64 y2) (.slice adx lx cx):=Box4.grown (Box4.new wr _ _ _ _) hg4 (by omega);obtain⟨⟨s0,s1,s2,s3⟩,_⟩:=hX4.facts;have hls:=hX4.lt;have hF4:=HF.out.grown hgA (Or.inl rfl) hszr;have hrow4:=(Keeps.of_grown (m:=c1.slots.length) (v:=.slice ra c1.slots.length rc) hgA).own HC.out.row hrq;have hsig4:w4.heap[ms]?=some (Cy c1.sigs):=(hgA.block _ (by have:=HC.out.size;omega) (fun e=>by injection e with e;omega)).trans HC.out.sig;have hz4:=hgA.size)
         | (go_at_call 55;refine(hon _ hsig4).mono ?_;rintro e w5 ⟨rfl,hb5⟩))
        refine⟨rfl,?_⟩
        rw[HG.out,HE.out]
        exact⟨rfl,(hF4.below hb5 (by omega)).keeps0 (Z0 _)⟩
       | false=>
        rw[hss,if_neg (by decide)]at HRE
        simp only[hss,Bool.false_eq_true,if_false]at hon
        have hcm:=fun w' (h':Wc w' Q mb M (.slice pa past.length pc) names (c1.next+1)) (hu':NodeV w' (fun j=>j≠Q) (.agg #[.int .i64 4,.string (strOfNums kid.text),.int .i64 kid.num,.slice adx kid.kids.length cx]) kid) (hs':StrsV w' (fun j=>j≠Q) (.slice ra c1.slots.length rc) c1.slots)=>Ot Q mb M _ (.slice ra c1.slots.length rc) (.agg #[.int .i64 4,.string (strOfNums kid.text),.int .i64 kid.num,.slice adx kid.kids.length cx]) names c1.slots kid.kind kid.text na kid.kids hkl2 (c1.next+1) w' h' (hkid ▸ hu') hs' (by omega)
        rw[<-hkid]at hcm
        have hmn:∀y,CI names c1.slots kid (c1.next+1)=.ok y->y<=c1.next+1+A2 kid.kids:=fun y e=>by rw[hkid]at e;exact JU hkl2 e
        have hnv:∀w',KidsV w' (fun j=>j≠Q/\j<w.heap.size) (.slice adx kid.kids.length cx) kid.kids->NodeV w' (fun j=>j≠Q) (.agg #[.int .i64 4,.string (strOfNums kid.text),.int .i64 kid.num,.slice adx kid.kids.length cx]) kid:=fun w' hk'=>⟨_,by rw[<-e4];rfl,hk'.mono (fun j hj _=>hj.1)⟩
        have hrs:∀w',w'.ownsRow (ms+1) 9 1 (.slice ra c1.slots.length rc) c1.slots.length (B5 c1.slots)->StrsV w' (fun j=>j≠Q) (.slice ra c1.slots.length rc) c1.slots:=fun w' hr'=>(EH hr').mono (fun j hj _=>by have hj':ms+1<=j:=hj;omega)
        clear hss hkid e31 e3 e4 hstr hnum hkl2
        cases hmz:CI names c1.slots kid (c1.next+1)with
        | error f=>
         rw[hmz]at HRE hcm
         have HE:Hid (R=.error f):=by show _=_;rw[<-HRE];rfl
         clear HRE hmz hmn
         generalize strOfNums kid.text=x at *
         generalize kid.num=y2 at *
         generalize hlx:kid.kids.length=lx at *
         clear hlx
         go_wp2_with (first
          | (go_at_call 28;refine hen.mono ?_;rintro e w4 ⟨rfl,hw4,hg4⟩;have hgA:=(A1 Q ((Zg _ wr).alloc (Z0 _) (.cells #[.int .i64 4,.string x,.int .i64 y2,.slice adx lx cx] 39))).trans hg4;have hX4:Box4 w4 wr.heap.size (.int .i64 4) (.string x) (.int .i64 y2) (.slice adx lx cx):=Box4.grown (Box4.new wr _ _ _ _) hg4 (by omega);obtain⟨⟨s0,s1,s2,s3⟩,_⟩:=hX4.facts;have hls:=hX4.lt;have hF4:=HF.out.grown hgA (Or.inl rfl) hszr;have hrow4:=(Keeps.of_grown (m:=c1.slots.length) (v:=.slice ra c1.slots.length rc) hgA).own HC.out.row hrq;have hsig4:w4.heap[ms]?=some (Cy c1.sigs):=(hgA.block _ (by have:=HC.out.size;omega) (fun e=>by injection e with e;omega)).trans HC.out.sig;have hz4:=hgA.size)
          | (go_at_call 55;refine(hon _ hsig4).mono ?_;rintro e w5 ⟨rfl,hs5,hg5⟩;have hX5:Box4 w5 wr.heap.size (.int .i64 4) (.string x) (.int .i64 y2) (.slice adx lx cx):=(hg5.block wr.heap.size (by omega) (fun e=>by injection e with e;omega)).trans hX4;obtain⟨⟨t0,t1,t2,t3⟩,_⟩:=hX5.facts;have hlt5:=hX5.lt;have hw5:=hw4.grown hg5 (by omega) (by omega);have hF5:=hF4.grown hg5 (Or.inr (by omega)) (by omega);have hrow5:=hrow4.kept hg5 (Or.inr (by intro e;have:=(HC.out.row.lt ms e).1;omega));have hz5:=hg5.size;have hv5:=(HKX.out.above (Zh hgA (fun j e=>by injection e with e;rintro⟨h,_⟩;exact h e.symm))).above (Zh hg5 (fun j e=>by injection e with e;rintro⟨_,h⟩;omega)))
          | (go_at_call 56;refine(hcm _ hw5 (hnv _ hv5) (hrs _ hrow5)).mono ?_;rintro e w6 ⟨rfl,hg6⟩))
         refine⟨rfl,?_⟩
         rw[HG.out,HE.out]
         exact⟨rfl,(hF5.grown hg6 (Or.inl rfl) (by omega)).keeps0 (Z0 _)⟩
        | ok y=>
         rw[hmz]at HRE hcm
         have hyb:=hmn y hmz
         have HRY:Hid (Ap names past (ks.drop (i+1)) ⟨y,c1.slots,c1.sigs++[(strOfNums kid.text,kid.num)]⟩=R):=HRE
         have HNY:Hid ((⟨y,c1.slots,c1.sigs++[(strOfNums kid.text,kid.num)]⟩:ClZ).next+A2 (ks.drop (i+1))<=100000):=(by show y+_<=_;omega)
         clear HRE hmz hmn hyb hnn
         generalize strOfNums kid.text=x at *
         generalize kid.num=y2 at *
         generalize hlx:kid.kids.length=lx at *
         clear hlx
         go_wp2_with (first
          | (go_at_call 28;refine hen.mono ?_;rintro e w4 ⟨rfl,hw4,hg4⟩;have hgA:=(A1 Q ((Zg _ wr).alloc (Z0 _) (.cells #[.int .i64 4,.string x,.int .i64 y2,.slice adx lx cx] 39))).trans hg4;have hX4:Box4 w4 wr.heap.size (.int .i64 4) (.string x) (.int .i64 y2) (.slice adx lx cx):=Box4.grown (Box4.new wr _ _ _ _) hg4 (by omega);obtain⟨⟨s0,s1,s2,s3⟩,_⟩:=hX4.facts;have hls:=hX4.lt;have hF4:=HF.out.grown hgA (Or.inl rfl) hszr;have hrow4:=(Keeps.of_grown (m:=c1.slots.length) (v:=.slice ra c1.slots.length rc) hgA).own HC.out.row hrq;have hsig4:w4.heap[ms]?=some (Cy c1.sigs):=(hgA.block _ (by have:=HC.out.size;omega) (fun e=>by injection e with e;omega)).trans HC.out.sig;have hz4:=hgA.size)
          | (go_at_call 55;refine(hon _ hsig4).mono ?_;rintro e w5 ⟨rfl,hs5,hg5⟩;have hX5:Box4 w5 wr.heap.size (.int .i64 4) (.string x) (.int .i64 y2) (.slice adx lx cx):=(hg5.block wr.heap.size (by omega) (fun e=>by injection e with e;omega)).trans hX4;obtain⟨⟨t0,t1,t2,t3⟩,_⟩:=hX5.facts;have hlt5:=hX5.lt;have hw5:=hw4.grown hg5 (by omega) (by omega);have hF5:=hF4.grown hg5 (Or.inr (by omega)) (by omega);have hrow5:=hrow4.kept hg5 (Or.inr (by intro e;have:=(HC.out.row.lt ms e).1;omega));have hz5:=hg5.size;have hv5:=(HKX.out.above (Zh hgA (fun j e=>by injection e with e;rintro⟨h,_⟩;exact h e.symm))).above (Zh hg5 (fun j e=>by injection e with e;rintro⟨_,h⟩;omega)))
          | (go_at_call 56;refine(hcm _ hw5 (hnv _ hv5) (hrs _ hrow5)).mono ?_;rintro e w6 ⟨rfl,hw6,hg6⟩))
         have hz6:=hg6.size
         exact⟨⟨i+1,⟨y,c1.slots,c1.sigs++[(x,y2)]⟩,ra,rc,by simp,rfl,by omega,HRY,HNY,⟨hw6,hrow5.kept hg6 (Or.inr hrq),(hg6.block ms (by omega) (fun e=>by injection e with e;omega)).trans hs5,HC.out.few,(by show ms+1<=_;omega)⟩,hF5.grown hg6 (Or.inl rfl) (by omega)⟩,by simp[intOf];omega⟩
      ·rw[show C3 names past kid c1=.ok { c1 with next:=c1.next+1 } from by unfold C3;rw[if_neg e31,if_neg e3,if_neg e4],chk_ok]at HRE
       have HRY:Hid (Ap names past (ks.drop (i+1)) ⟨c1.next+1,c1.slots,c1.sigs⟩=R):=HRE
       have HNY:Hid ((⟨c1.next+1,c1.slots,c1.sigs⟩:ClZ).next+A2 (ks.drop (i+1))<=100000):=(by show c1.next+1+_<=_;omega)
       have n31:(kid.kind==31)=false:=by simpa using e31
       have n3:(kid.kind==3)=false:=by simpa using e3
       have n4:(kid.kind==4)=false:=by simpa using e4
       clear HRE hstr hsh4 HKX e31 e3 e4
       generalize strOfNums kid.text=x at *
       generalize kid.kind=y0 at *
       generalize kid.num=y2 at *
       generalize kid.kids.length=lx at *
       go_wp2_with (first
        | (go_at_call 28;refine hen.mono ?_;rintro e w4 ⟨rfl,hw4,hg4⟩;have hgA:=(A1 Q ((Zg _ wr).alloc (Z0 _) (.cells #[.int .i64 y0,.string x,.int .i64 y2,.slice adx lx cx] 39))).trans hg4;have hX4:Box4 w4 wr.heap.size (.int .i64 y0) (.string x) (.int .i64 y2) (.slice adx lx cx):=Box4.grown (Box4.new wr _ _ _ _) hg4 (by omega);obtain⟨⟨s0,s1,s2,s3⟩,_⟩:=hX4.facts;have hls:=hX4.lt;have hF4:=HF.out.grown hgA (Or.inl rfl) hszr;have hrow4:=(Keeps.of_grown (m:=c1.slots.length) (v:=.slice ra c1.slots.length rc) hgA).own HC.out.row hrq;have hsig4:w4.heap[ms]?=some (Cy c1.sigs):=(hgA.block _ (by have:=HC.out.size;omega) (fun e=>by injection e with e;omega)).trans HC.out.sig))
       exact⟨⟨i+1,⟨c1.next+1,c1.slots,c1.sigs⟩,ra,rc,by simp,rfl,by omega,HRY,HNY,⟨hw4,hrow4,hsig4,HC.out.few,(by have:=hgA.size;omega)⟩,hF4⟩,by simp[intOf];omega⟩
   ·have hil:¬(i:Int)<(ks.length:Int):=by omega
    have HGE:Hid (G=.ok (c1.next,c1.slots)):=by
     show _=_
     have hR:R=.ok c1:=by rw[<-HR1.out,Z9 (by omega),Ap]
     rw[HG.out,hR]
     rfl
    obtain⟨⟨_,_,q2⟩,_⟩:=HC.out.wc.obj.cells
    have hqr:=HC.out.wc.obj.lt
    have hPr:=HP.out.fr HF.out (Z0 _) hq
    have HPR:Hid (PastR wr Q B (.slice pa past.length pc) past vals):=hPr
    have hpl:=HPL.out
    have hvl:∀g,((.slice pa past.length pc):Value).ownBlock=some g->g<w.heap.size:=fun g e=>(HP.out.own.lt g e).2
    clear HR1 hPr
    go_wp2_with (first
     | (at_builtin;refine Ix Uu rfl (.tmp 63) (.tmp 65) rfl B past.length 1 (.slice pa past.length pc) vals (.slice ra c1.slots.length rc) rfl rfl (HPR.out.own.alloc (.cells #[.slice ra c1.slots.length rc] 23)) ⟨wr.heap.size,0,none⟩ rfl (by simp) (by omega) (by simp;omega) ?_;intro g' cap' w7 O7 hk7 hon7;have hQ7:w7.heap[Q]?=wr.heap[Q]?:=((hk7 (Q+1)).block Q (by simp;omega) (by omega) hq).trans (((Zg _ wr).alloc (Z0 _) _).block Q hqr);have ho7:=WObj.lt (hQ7.trans HC.out.wc.obj);have hoo:WObj w7 Q c1.next mb (.slice pa past.length pc) (.slice none 0 0) (.slice none 0 0) 0 false false:=hQ7.trans HC.out.wc.obj;have z7:=hoo.frozen 2;obtain⟨⟨_,_,r2⟩,_⟩:=hoo.cells))
    have hkA:Keeps wr (wr.alloc (.cells #[.slice ra c1.slots.length rc] 23)) Q (.slice pa past.length pc) past.length:=Keeps.of_below ((Zg _ _).alloc (Z0 _) _)
    have hkB:=(hkA.trans (hk7 Q) (Or.inl rfl) (fun _=>Z0 _)).trans (Keeps.of_grown (m:=past.length) (v:=(.slice pa past.length pc)) (Am w7 Q 2 (.slice (some ⟨g',0,none⟩) (past.length+1) cap'))) (Or.inl rfl) (fun _=>Z0 _)
    have hkW:=(HF.out.keeps0 (v:=(.slice pa past.length pc)) (m:=past.length) (Z0 _)).trans hkB (Or.inl rfl) (fun _=>Z0 _)
    have hgw:(some g':Option Nat)=((.slice pa past.length pc):Value).ownBlock\/wr.heap.size<g':=by
     rcases hon7 with h | h
     ·exact Or.inl h
     ·have:=h g' rfl
      simp at this
      exact Or.inr (by omega)
    have hgq:g'≠Q:=fun e=>by
     rcases hgw with h | h
     ·exact hq (by rw[<-h,e])
     ·omega
    have hr8:=(Keeps.of_grown (m:=past.length+1) (v:=.slice (some ⟨g',0,none⟩) (past.length+1) cap') (Am w7 Q 2 (.slice (some ⟨g',0,none⟩) (past.length+1) cap'))).own O7 (fun e=>by injection e with e;exact hgq e)
    have hvv:vals.length=past.length:=by have:=HPR.out.own.1;omega
    have hkeep:∀k,k<wr.heap.size->k≠Q->((.slice pa past.length pc):Value).ownBlock≠some k->(w7.setCell ⟨Q,2,none⟩ (.slice (some ⟨g',0,none⟩) (past.length+1) cap')).heap[k]?=wr.heap[k]?/\(Value.slice (some ⟨g',0,none⟩) (past.length+1) cap').ownBlock≠some k:=fun k h1 h2 h3=>⟨hkB.block k h1 h2 h3,fun e=>by
     injection e with e
     have e':g'=k:=e
     rcases hgw with h | h
     ·exact h3 (by rw[<-h,e'])
     ·omega⟩
    refine bodyPost_end (v:=.tuple #[]) (by simp[results,Tryz.results29,go_sem]) rfl ?_
    rw[HGE.out]
    refine⟨_,vals++[(.slice ra c1.slots.length rc)],rfl,⟨hoo.setPast _,?_,HC.out.wc.mq,HC.out.wc.names⟩,⟨?_,fun j h1 h2=>?_,fun l hl=>?_⟩,hkW,(Onto.refl w _).trans hon7 (by have:=HF.out.size;simp;omega)⟩
    ·rw[hkB.block mb (by omega) (fun e=>HC.out.wc.mq e) hmb]
     exact HC.out.wc.map
    ·rw[Z1]
     exact hr8
    ·by_cases hj:j<past.length
     ·rw[Zb (by omega),Zb hj]
      exact(HPR.out.each j hj (by omega)).kept2 (fun k hk hkl=>⟨(hkeep k hkl hk.1 hk.2).1,hk.1,(hkeep k hkl hk.1 hk.2).2⟩) hkB.size
     ·have hjl:j=past.length:=by rw[Z1]at h1;simp at h1;omega
      subst hjl
      rw[Zc (by omega),Zc (by omega)]
      simp only[hvv,Nat.sub_self,List.getElem_cons_zero]
      exact(EH HC.out.row).kept2 (fun k hk hkl=>by
       have hk':ms+1<=k:=hk
       have h5:=hkeep k hkl (by omega) (fun e=>by have:=hvl k e;omega)
       exact⟨h5.1,by omega,h5.2⟩) hkB.size
    ·rcases List.mem_append.1 hl with hl | hl
     ·exact HPR.out.few l hl
     ·simp at hl
      subst hl
      exact HC.out.few
theorem S2{M:List (ByteArray×Int)}{x:ByteArray}{k:Int}{m:Nat}(h:BZ M x=none){w:World}(hb':w.heap[m]?=some (Aw M)):(Instr.mapUpdate 61 (.map (some m)) (.string x) (.int .i64 k)).run Tryz.prog w=.ok () (E6 w m (Aw (M++[(x,k)]))):=by
 have hf:=Fi x M 0 0
 rw[h,Option.map_none]at hf
 have hc:∀em,(Instr.checkKey em 10000 9 (.string x)).run Tryz.prog w=.ok () w:=fun em=>MapKept.run_checkKey (P:=Tryz.prog) Do (by constructor) em 9999
 have h2:(Instr.findKey 9 (.string x) (CH M 0).toArray.toList).run Tryz.prog w=.ok none w:=MapKept.run_findKey Do hf
 have e:Aw (M++[(x,k)])=.map ((CH M 0).toArray.push { key:=.string x,val:=.int .i64 k,born:=M.length }) (M.length+1):=by
  have e1:CH (M++[(x,k)]) 0=CH M 0++[{ key:=.string x,val:=.int .i64 k,born:=M.length }]:=by rw[JD,Nat.zero_add];rfl
  unfold Aw
  rw[e1,Z1,List.push_toArray]
  rfl
 rw[e]
 have hb:w.heap[m]?=some (.map (CH M 0).toArray M.length):=hb'
 unfold E6
 clear hf e hb'
 generalize (CH M 0).toArray=es at *
 simp[Instr.mapUpdate,run_underlying Ez,MapKept.run_getObj_map hb,hc,h2,MapKept.run_setObj_map _ hb,Result.andThen]
theorem Mh(y x:ByteArray)(k:Int):∀(M:List (ByteArray×Int)),BZ (M++[(y,k)]) x=match BZ M x with
  | some j=>some j
  | none=>if y=x then some k else none
 | []=>by
  show(if x=y then some k else none)=if y=x then some k else none
  by_cases h:x=y
  ·rw[if_pos h,if_pos h.symm]
  ·rw[if_neg h,if_neg (fun e=>h e.symm)]
 | p::r=>by
  show(if x=p.1 then some p.2 else BZ (r++[(y,k)]) x)=match (if x=p.1 then some p.2 else BZ r x)with
   | some j=>some j
   | none=>if y=x then some k else none
  by_cases h:x=p.1
  ·rw[if_pos h,if_pos h]
  ·rw[if_neg h,if_neg h]
   exact Mh y x k r
theorem Pk(l:List ByteArray)(y x:ByteArray):(l++[y]).findIdx? (fun z=>decide (z=x))=match l.findIdx? (fun z=>decide (z=x))with
  | some j=>some j
  | none=>if y=x then some l.length else none:=by
 rw[List.findIdx?_append]
 cases l.findIdx? (fun z=>decide (z=x))with
 | some j=>rfl
 | none=>
  by_cases h:y=x
  ·simp[h]
  ·simp[h]
theorem QY{M:List (ByteArray×Int)}{l:List ByteArray}{y:ByteArray}(h:FB M l)(hy:(BZ M y).isSome=true):FB M (l++[y]):=fun x=>by
 rw[h x,Pk]
 cases hx:l.findIdx? (fun z=>decide (z=x))with
 | some j=>rfl
 | none=>
  by_cases e:y=x
  ·subst e
   rw[h y,hx]at hy
   cases hy
  ·dsimp only
   rw[if_neg e]
theorem QZ{M:List (ByteArray×Int)}{l:List ByteArray}{y:ByteArray}(h:FB M l):FB (M++[(y,(l.length:Int))]) (l++[y]):=fun x=>by
 rw[Mh,h x,Pk]
 cases hx:l.findIdx? (fun z=>decide (z=x))with
 | some j=>rfl
 | none=>
  by_cases e:y=x
  ·subst e
   dsimp only
   simp
  ·dsimp only
   simp[e]
end Go.Proofs.YtpfdgbalchmmfaaGreatDoor
