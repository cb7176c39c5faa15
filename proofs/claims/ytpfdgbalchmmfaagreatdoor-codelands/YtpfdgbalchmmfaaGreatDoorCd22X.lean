/- Texts in one. -/
import Derived.Test.YtpfdgbalchmmfaaGreatDoorOf
set_option linter.unusedSimpArgs false
set_option linter.unusedVariables false
set_option maxHeartbeats 32000000
set_option maxRecDepth 20000
namespace Go.Proofs.YtpfdgbalchmmfaaGreatDoor
open Go.RowKit
theorem M3{past:List ClW}{kids:List Nd}{i:Nat}{y:ClW×Nat}(h:i<kids.length):An past (kids.drop i) y=An past (kids.drop (i+1)) (Bg past kids[i] y):=by
 rw[Z4 h]
 conv=>lhs;unfold An
theorem P1{w w1 w7:World}{m:Option Nat}(hb:Below w.heap.size w w1)(hg:w1.grownBy w7 m):w.grownBy w7 m:=⟨hg.os.trans hb.os,hg.tape.trans hb.tape,hg.output.trans hb.output,Za hb.size hg.size,fun k h1 h2=>(hg.block k (Z5 h1 hb.size) h2).trans (hb.block k h1)⟩
theorem InCl.began{w wr w1:World}{c:CnO}{X:Nat}{y:ClW×Nat}{vM vs:Value}(h:InCl w wr c X y vM vs)(hf:FrO wr w1 c.Q c.Q (.slice none 0 0) (.slice none 0 0)):CBox w1 X y.1.name y.1.over 0 vM/\w1.ownsRow w.heap.size 72 3 vM y.1.meths.length (Cz y.1.meths):=by
 have hxb:=h.xb
 have hq:=h.q
 have nn:∀k,(Value.slice none 0 0).ownBlock≠some k:=fun k e=>by cases e
 exact⟨(hf.block X h.box.lt (by omega) (by omega) (nn X) (nn X) (Or.inr (D4 h.box (by decide) (by decide) (by decide)))).trans h.box,AF h.rowM fun g e=>hf.block g (h.rowM.lt g e).2 (by have:=(h.rowM.lt g e).1;omega) (by have:=(h.rowM.lt g e).1;omega) (nn g) (nn g) (Or.inr (CB h.rowM (by decide) (by decide) (by decide) e))⟩
structure FewCl(y:ClW×Nat)(nl i:Nat):Prop where
 slots:y.1.slots.length<=59+i
 meths:y.1.meths.length<=i
 lists:y.2<=nl+i
theorem FewCl.next{L:List ClW}(hL:∀c∈L,c.slots.length<=59){y:ClW×Nat}{nl i:Nat}(h:FewCl y nl i)(n:Nd):FewCl (Bg L n y) nl (i+1):=by
 have h1:=h.slots
 have h2:=h.meths
 have h3:=h.lists
 unfold Bg
 split
 ·refine⟨?_,by show y.1.meths.length<=i+1;omega,by show y.2<=nl+(i+1);omega⟩
  show(((L[(AX (L.map (·.name)) n.str).toNat]?).map (·.slots)).getD []).length<=59+(i+1)
  cases e:L[(AX (L.map (·.name)) n.str).toNat]? with
  | none=>exact Z3 _
  | some c=>have:=hL c (List.mem_of_getElem? e);show c.slots.length<=_;omega
 ·split
  ·exact⟨by show(y.1.slots++[n.str]).length<=_;rw[Z1];show y.1.slots.length+1<=_;omega,by show y.1.meths.length<=i+1;omega,by show y.2<=nl+(i+1);omega⟩
  ·split
   ·exact⟨by show y.1.slots.length<=_;omega,by show(y.1.meths++[(n.str,n.num,y.2)]).length<=_;rw[Z1];show y.1.meths.length+1<=_;omega,by show y.2+1<=nl+(i+1);omega⟩
   ·exact⟨by omega,by omega,by omega⟩
theorem Rx(Q nl:Nat)(L:List ClW)(vC vS:Value)(xs ss:List Value)(tx:List Int)(kids:List Nd)(u:Value)(w:World)(hm:MkO w ⟨Q,Q+1,vC,vS,L.map (·.name)⟩ (As nl) (.slice none 0 0))(hC:ClsF w Q w.heap.size vC vS L xs ss)(hsl:∀c∈L,c.slots.length<=59)(hL:L.length<=90000)(hnl:nl+kids.length<=90000)(hov:∀i (h:i<kids.length),kids[i].kind=31->0<=AX (L.map (·.name)) kids[i].str)(hu:NodeV w (Ahd Q) u (.mk 2 tx 0 kids)) :
  Calls Tryz.prog 10 #[.pointer (some ⟨Q,0,none⟩),u] w fun e w'=>e=.returned (.tuple #[])/\ClsEndO w w' Q L (B7 L (.mk 2 tx 0 kids) nl):=by
 obtain⟨xk,hu1,ad,c0,hx1,hkk⟩:=hu
 obtain⟨cc,hcc⟩:∃cc,c0+kids.length=cc:=⟨_,rfl⟩
 have hx2:xk=.slice ad kids.length cc:=by rw[<-hcc];exact hx1
 subst hx2
 have hu2:u=.agg #[.int .i64 2,.string (strOfNums tx),.int .i64 0,.slice ad kids.length cc]:=hu1
 subst hu2
 have hb2:Below w.heap.size w ((w.alloc (.cells #[.int .i64 2,.string (strOfNums tx),.int .i64 0,.slice ad kids.length cc] 39)).alloc (.cells #[.string (strOfNums tx),.int .i64 (-1),.int .i64 0,.slice none 0 0] 68)):=Au _ _ _
 obtain⟨vL0,vK0,vis0,ho0,_,_⟩:=hm.obj
 have hq0:Q<w.heap.size:=ho0.lt
 have HI0:Hid (InCl w ((w.alloc (.cells #[.int .i64 2,.string (strOfNums tx),.int .i64 0,.slice ad kids.length cc] 39)).alloc (.cells #[.string (strOfNums tx),.int .i64 (-1),.int .i64 0,.slice none 0 0] 68)) ⟨Q,Q+1,vC,vS,L.map (·.name)⟩ (w.heap.size+1) (⟨strOfNums tx,-1,[],[]⟩,nl) (.slice none 0 0) (.slice none 0 0)):=by
  refine⟨hm.below hb2,?_,Zl _ _ _ _,Zl _ _ _ _,FrO.of_below hb2,Nat.le_succ _,hq0,fun g e=>(hC.rowC.lt g e).2⟩
  have h1:=heap_alloc_new (w.alloc (.cells #[.int .i64 2,.string (strOfNums tx),.int .i64 0,.slice ad kids.length cc] 39)) (.cells #[.string (strOfNums tx),.int .i64 (-1),.int .i64 0,.slice none 0 0] 68)
  rw[show(w.alloc (.cells #[.int .i64 2,.string (strOfNums tx),.int .i64 0,.slice ad kids.length cc] 39)).heap.size=w.heap.size+1 by simp]at h1
  exact h1
 obtain⟨Z,hZ⟩:∃Z,An L kids (⟨strOfNums tx,-1,[],[]⟩,nl)=Z:=⟨_,rfl⟩
 have HZ:Hid (An L kids (⟨strOfNums tx,-1,[],[]⟩,nl)=Z):=hZ
 have ecw:B7 L (.mk 2 tx 0 kids) nl=Z:=hZ
 rw[ecw]
 clear ecw
 have HKK:Hid (0<kids.length->∃b o,ad=some ⟨b,o,none⟩/\Ahd Q b/\b<w.heap.size/\NodesAt w (Ahd Q) b o kids):=hkk
 have HCF:Hid (ClsF w Q w.heap.size vC vS L xs ss):=hC
 have HSL:Hid (∀c∈L,c.slots.length<=59):=hsl
 have HOV:Hid (∀i (h:i<kids.length),kids[i].kind=31->0<=AX (L.map (·.name)) kids[i].str):=hov
 have hkl:kids.length<=90000:=by omega
 clear hm hC hsl hov hkk hZ hx1 hu1 ho0 hb2 hcc
 go_enter Tryz.func10,Tryz.ntmps10
 go_wp2_with fail
 go_loopw [5,14] (fun s5 s14 wr=>∃(i:Nat) (y:ClW×Nat) (vM:Value),s14=.int .i64 i/\i<=kids.length/\Hid (An L (kids.drop i) y=Z)/\Hid (FewCl y nl i)/\Hid (InCl w wr ⟨Q,Q+1,vC,vS,L.map (·.name)⟩ (w.heap.size+1) y vM s5)) (fun _ s14 _=>90001-(intOf s14).toNat)
 case atStart=>exact⟨0,_,_,rfl,Z3 _,HZ,⟨by simp,by simp,by simp⟩,HI0⟩
 case round=>
  obtain⟨i,y,vM,rfl,hi,HZ1,HFC,HI⟩:=hrel
  obtain⟨sa,sc,es⟩:=Aq HI.out.rowS
  subst es
  by_cases hlt:i<kids.length
  ·have hil:(i:Int)<(kids.length:Int):=by omega
   have hwi:=Ao (x:=(i:Int)+1) (by omega) (by omega)
   obtain⟨kb,ko,ead,hMb,hbw,hnodes⟩:=HKK.out (by omega)
   subst ead
   have hkQ:kb<Q:=hMb
   have hkw:wr.heap[kb]?=w.heap[kb]?:=HI.out.fr.block kb hbw (by show kb≠Q;omega) (by show kb≠Q;omega) (fun e=>by cases e) (fun e=>by cases e) (Or.inl (by show kb<=Q;omega))
   obtain⟨xk,hkx,c0',c1',c2',c3'⟩:=CV hnodes hlt
   obtain⟨adx,cx0,hxx,_⟩:=id hkx
   subst hxx
   have d0:=(World.cell?_of_block (w:=w) (a:=⟨kb,ko+i*4,none⟩) hkw).trans c0'
   have d1:=(World.cell?_of_block (w:=w) (a:=⟨kb,ko+i*4+1,none⟩) hkw).trans c1'
   have d2:=(World.cell?_of_block (w:=w) (a:=⟨kb,ko+i*4+2,none⟩) hkw).trans c2'
   have d3:=(World.cell?_of_block (w:=w) (a:=⟨kb,ko+i*4+3,none⟩) hkw).trans c3'
   have d4:kb<wr.heap.size:=Z5 hbw HI.out.fr.size
   have HZ2:Hid (An L (kids.drop (i+1)) (Bg L kids[i] y)=Z):=by show _=_;rw[<-HZ1.out];exact(M3 hlt).symm
   have HF2:Hid (FewCl (Bg L kids[i] y) nl (i+1)):=HFC.out.next HSL.out kids[i]
   have hov:=HOV.out i hlt
   have HMW:Hid (Bg L kids[i] y=Bg L kids[i] y):=rfl
   have hmw:Bg L kids[i] y=(if kids[i].kind=31 then({ y.1 with over:=AX (L.map (·.name)) (strOfNums kids[i].text),slots:=((L[(AX (L.map (·.name)) (strOfNums kids[i].text)).toNat]?).map (·.slots)).getD [] },y.2)else if kids[i].kind=3 then({ y.1 with slots:=y.1.slots++[strOfNums kids[i].text] },y.2)else if kids[i].kind=4 then({ y.1 with meths:=y.1.meths++[(strOfNums kids[i].text,kids[i].num,y.2)] },y.2+1)else y):=rfl
   rw[hmw]at HZ2 HF2
   have hov':kids[i].kind=31->0<=AX (L.map (·.name)) (strOfNums kids[i].text):=hov
   clear hov HMW hmw hkx c0' c1' c2' c3'
   generalize cx0+kids[i].kids.length=cx at *
   generalize kids[i].kids.length=lx at *
   generalize kids[i].kind=kd at *
   generalize strOfNums kids[i].text=x at *
   generalize kids[i].num=nm at *
   have HIA:Hid (InCl w (wr.alloc (.cells #[.int .i64 kd,.string x,.int .i64 nm,.slice adx lx cx] 39)) ⟨Q,Q+1,vC,vS,L.map (·.name)⟩ (w.heap.size+1) y vM (.slice sa y.1.slots.length sc)):=HI.out.below ((Zg _ _).alloc (Z0 _) _)
   by_cases h31:kd=31
   ·subst h31
    rw[if_pos rfl]at HZ2 HF2
    have hp0:=hov' rfl
    have hp1:=(J9 (L.map (·.name)) x).1
    rw[List.length_map]at hp1
    obtain⟨vL,vK,vis,ho,_,_⟩:=HIA.out.mkr.obj
    have hco:=K2 Q x (L.map (·.name)) vC (.slice none 0 0) vL vK vS (wr.alloc (.cells #[.int .i64 31,.string x,.int .i64 nm,.slice adx lx cx] 39)) ho HIA.out.mkr.cls (by rw[List.length_map];omega)
    generalize AX (L.map (·.name)) x=p at *
    obtain⟨pi,rfl⟩:∃pi:Nat,p=(pi:Int):=⟨p.toNat,by omega⟩
    have hpl:pi<L.length:=by omega
    have esl:((L[((pi:Int)).toNat]?).map (·.slots)).getD []=L[pi].slots:=by rw[Int.toNat_natCast,List.getElem?_eq_getElem hpl];rfl
    rw[esl]at HZ2 HF2
    obtain⟨vMi,vsi,hIi,ei⟩:=HCF.out.each pi hpl
    obtain⟨va,vc,ev⟩:=Aq hIi.rowS
    subst ev
    obtain⟨sa',sc',eS⟩:=Aq HCF.out.rowS
    obtain⟨gS,egS⟩:∃gS,sa'=some ⟨gS,0,none⟩:=by
     rcases HCF.out.rowS.2 with⟨_,h0⟩ | ⟨g,cap,cur,e,_⟩
     ·omega
     ·rw[eS]at e;injection e with e;exact⟨g,e⟩
    subst egS
    have hsl9:L[pi].slots.length<=59:=HSL.out _ (Z6 hpl)
    have HSI:Hid (w.ownsRow (Q+1) 9 1 (.slice va L[pi].slots.length vc) L[pi].slots.length (B5 L[pi].slots)):=hIi.rowS
    have HRS:Hid (w.ownsRow (Q+1) 23 1 (.slice (some ⟨gS,0,none⟩) L.length sc') L.length ss):=by rw[<-eS];exact HCF.out.rowS
    have HEI:Hid (ss[pi]?=some (.slice va L[pi].slots.length vc)):=ei
    have hpi:(pi:Int)<(L.length:Int):=by omega
    have hpn:(0:Int)<=(pi:Int):=by omega
    generalize L[pi].slots=sl9 at *
    have HOO:Hid (MkObj (wr.alloc (.cells #[.int .i64 31,.string x,.int .i64 nm,.slice adx lx cx] 39)) Q vC (.slice none 0 0) vL vK vS):=ho
    clear ho hIi ei esl hp0 hp1 hov'
    go_wp2_with (first
     | (go_at_call 18;refine hco.mono ?_;rintro e w1 ⟨rfl,hb1⟩;have h1:=HIA.out.below hb1;obtain⟨⟨_,v1,_,_⟩,vz⟩:=h1.box.facts;have vz1:=vz 1;have hl1:=h1.box.lt))
    have h2:=h1.overW (pi:Int)
    have ho2:MkObj (w1.setCell ⟨w.heap.size+1,1,none⟩ (.int .i64 (pi:Int))) Q vC (.slice none 0 0) vL vK vS:=(Zm _ _ _ _ (by show Q≠w.heap.size+1;omega)).trans ((hb1.block _ HOO.out.lt).trans HOO.out)
    rw[eS]at ho2
    obtain⟨⟨_,_,_,_,q4⟩,_⟩:=ho2.cells
    have hlq2:=ho2.lt
    obtain⟨⟨_,q1,_,_⟩,_⟩:=h2.box.facts
    have hlX2:=h2.box.lt
    have hrn:∀g,(Value.slice none 0 0).ownBlock=some g->w.heap.size<=g/\∃cc fz,w.heap[g]?=some (.cells cc 9 fz):=fun g e=>(by cases e)
    have rS2:=h2.fr.keepRow hrn HRS.out (by decide) (by decide) (by decide) (Or.inl (by decide))
    have rV2:=h2.fr.keepRow hrn HSI.out (by decide) (by decide) (by decide) (Or.inr fun g e=>(HSI.out.lt g e).2)
    have g1:=(rS2.cellAt pi (by omega)).trans HEI.out
    have g2:=(rS2.lt gS rfl).2
    have hclo:=JR sl9 (fun k=>Q+1<=k) (.slice va sl9.length vc) (w1.setCell ⟨w.heap.size+1,1,none⟩ (.int .i64 (pi:Int))).drew (EH (AF rV2 fun _ _=>rfl)) (Za hsl9 (by decide))
    have H2D:=h2.below (Zg _ _).drew
    go_region_law (first
     | (refine FO rfl 19 (.tmp 34) _ rfl (.slice va sl9.length vc) (by first | (simp[Act.eval];done) | simp[Act.eval,Act.put]) (fun w=>by kernel_rfl) hclo ?_;rintro e w3 ⟨v3,rfl,hr3,hb3⟩;refine⟨_,rfl,?_⟩;have hfin:=H2D.clone hb3 hr3))
    all_goals (go_wp2_with fail)
    all_goals (exact⟨⟨i+1,_,_,by simp,by omega,HZ2,HF2,hfin⟩,by simp[intOf];omega⟩)
   ·by_cases h3:kd=3
    ·subst h3
     rw[if_neg (by decide),if_pos rfl]at HZ2 HF2
     have hb9:y.1.slots.length<=900000:=by have:=HFC.out.slots;omega
     have hbX:Below (wr.alloc (.cells #[.int .i64 3,.string x,.int .i64 nm,.slice adx lx cx] 39)).heap.size (wr.alloc (.cells #[.int .i64 3,.string x,.int .i64 nm,.slice adx lx cx] 39)) ((wr.alloc (.cells #[.int .i64 3,.string x,.int .i64 nm,.slice adx lx cx] 39)).alloc (.cells #[.string x] 9)):=(Zg _ _).alloc (Z0 _) _
     have HIB:=HIA.out.below hbX
     have hrow:=HIB.rowS
     have hn1:=EA (wr.alloc (.cells #[.int .i64 3,.string x,.int .i64 nm,.slice adx lx cx] 39)) [.string x] 9
     rw[show(wr.alloc (.cells #[.int .i64 3,.string x,.int .i64 nm,.slice adx lx cx] 39)).heap.size=wr.heap.size+1 by simp]at hn1
     have hbase:=Za HI.out.fr.size (Za ((Zg _ wr).alloc (Z0 _) (.cells #[.int .i64 3,.string x,.int .i64 nm,.slice adx lx cx] 39)).size hbX.size)
     have HIBH:Hid (InCl w ((wr.alloc (.cells #[.int .i64 3,.string x,.int .i64 nm,.slice adx lx cx] 39)).alloc (.cells #[.string x] 9)) ⟨Q,Q+1,vC,vS,L.map (·.name)⟩ (w.heap.size+1) y vM (.slice sa y.1.slots.length sc)):=HIB
     clear HIB hbX
     go_wp2_with (first
      | (at_builtin;refine Az Hw rfl (.tmp 38) (.tmp 41) rfl w.heap.size y.1.slots.length 1 (.slice sa y.1.slots.length sc) (B5 y.1.slots) [.string x] rfl hrow ⟨wr.heap.size+1,0,none⟩ rfl rfl hn1 (Lr [x]) (Za hb9 (by decide)) hbase ?_;intro g7 cap7 w7 O7 hg7 hw7))
     have hfin:=HIBH.out.slot hg7 O7
     exact⟨⟨i+1,_,_,by simp,by omega,HZ2,HF2,hfin⟩,by simp[intOf];omega⟩
    ·by_cases h4:kd=4
     ·subst h4
      rw[if_neg (by decide),if_neg (by decide),if_pos rfl]at HZ2 HF2
      obtain⟨ma,mc,em⟩:=Aq HIA.out.rowM
      subst em
      have hbg:=JF ⟨Q,Q+1,vC,vS,L.map (·.name)⟩ (.slice none 0 0) (As y.2) 0 (wr.alloc (.cells #[.int .i64 4,.string x,.int .i64 nm,.slice adx lx cx] 39)).drew (HIA.out.mkr.below (Zg _ _).drew) (by unfold As;rw[List.length_replicate];have:=HFC.out.lists;omega) (by unfold As;rw[List.length_replicate];have:=HFC.out.lists;omega)
      have hfl:(As y.2).lists.length=y.2:=by unfold As;rw[List.length_replicate]
      rw[hfl]at hbg
      have hm9:y.1.meths.length<=900000:=by have:=HFC.out.meths;omega
      obtain⟨⟨b0,b1,b2,b3⟩,bz⟩:=HIA.out.box.facts
      have hlX:=HIA.out.box.lt
      have hKB:Box4 (wr.alloc (.cells #[.int .i64 4,.string x,.int .i64 nm,.slice adx lx cx] 39)) wr.heap.size (.int .i64 4) (.string x) (.int .i64 nm) (.slice adx lx cx):=heap_alloc_new wr _
      obtain⟨⟨z0,z1,z2,z3⟩,_⟩:=hKB.facts
      have hlz:=hKB.lt
      have HKB:Hid (Box4 (wr.alloc (.cells #[.int .i64 4,.string x,.int .i64 nm,.slice adx lx cx] 39)) wr.heap.size (.int .i64 4) (.string x) (.int .i64 nm) (.slice adx lx cx)):=hKB
      have HID:Hid (InCl w (wr.alloc (.cells #[.int .i64 4,.string x,.int .i64 nm,.slice adx lx cx] 39)).drew ⟨Q,Q+1,vC,vS,L.map (·.name)⟩ (w.heap.size+1) y (.slice ma y.1.meths.length mc) (.slice sa y.1.slots.length sc)):=HIA.out.below (Zg _ _).drew
      have hwq:Q<wr.heap.size:=Z5 hq0 HI.out.fr.size
      clear hKB hfl
      go_wp2_with fail
      go_region_law (first
       | (refine EY Us rfl (.tmp 46) (.tmp 54) rfl (base:=w.heap.size) (c:=1) (.slice (ma) y.1.meths.length mc) ⟨w1.heap.size,0,none⟩ (xs:=Cz y.1.meths) (news:=Ih (x,nm,y.2)) (by first | (simp[Act.eval];done) | simp[Act.eval,Act.put]) (by first | (simp[Act.eval];done) | simp[Act.eval,Act.put]) (AF hbn.2 fun g e=>((Zg _ w1).alloc (Z0 _) _).block g (hbn.2.lt g e).2) rfl (EA w1 [.string x,.int .i64 nm,.int .i64 (y.2:Int)] _) (Ru _) hm9 (by have:=hf1.size;have:=HID.out.fr.size;simp at *;omega) ?_;intro g7 cap7 w7 O7 hg7 hon7;have hg8:=P1 ((Zg _ w1).alloc (Z0 _) _) hg7;have hb7:CBox w7 (w.heap.size+1) y.1.name y.1.over 0 (.slice ma y.1.meths.length mc):=(hg8.block _ hbn.1.lt (fun e=>AJ hbn.2 hbn.1 (by decide) e.symm)).trans hbn.1;obtain⟨⟨_,_,_,v3⟩,vz⟩:=hb7.facts;have vz3:=vz 3;have hl7:=hb7.lt)
       | (refine F1 rfl 9 (.tmp 51) (.const (.int .i64 0)) _ _ rfl (.pointer (some ⟨Q,0,none⟩)) (.int .i64 0) (by first | (simp[Act.eval];done) | simp[Act.eval,Act.put]) (by first | (simp[Act.eval];done) | simp[Act.eval,Act.put]) (fun w=>by kernel_rfl) hbg ?_;rintro e w1 ⟨rfl,hm1,hf1⟩;refine⟨_,rfl,?_⟩;have hbn:=HID.out.began hf1;obtain⟨⟨_,_,_,n3⟩,nz⟩:=hbn.1.facts;have hln:=hbn.1.lt;have hkn:Box4 w1 wr.heap.size (.int .i64 4) (.string x) (.int .i64 nm) (.slice adx lx cx):=(hf1.block _ HKB.out.lt (Nat.ne_of_gt hwq) (Nat.ne_of_gt hwq) (fun e=>by cases e) (fun e=>by cases e) (Or.inr (D4 HKB.out (by decide) (by decide) (by decide)))).trans HKB.out;obtain⟨⟨_,m1,m2,_⟩,_⟩:=hkn.facts;have hlk:=hkn.lt))
      all_goals (go_wp2_with fail)
      all_goals (have hfin:=HID.out.meth hm1 hf1 hg8 O7)
      all_goals (exact⟨⟨i+1,_,_,by simp,by omega,HZ2,HF2,hfin⟩,by simp[intOf];omega⟩)
     ·rw[if_neg h31,if_neg h3,if_neg h4]at HZ2 HF2
      have n31:(kd==31)=false:=by rw[beq_eq_false_iff_ne];exact h31
      have n3:(kd==3)=false:=by rw[beq_eq_false_iff_ne];exact h3
      have n4:(kd==4)=false:=by rw[beq_eq_false_iff_ne];exact h4
      go_wp2_with fail
      exact⟨⟨i+1,_,_,by simp,by omega,HZ2,HF2,HIA⟩,by simp[intOf];omega⟩
  ·have hil:¬(i:Int)<(kids.length:Int):=by omega
   have HE:Hid (Z=y):=by
    show _=_
    rw[<-HZ1.out,Z9 (by omega)]
    rfl
   obtain⟨vL,vK,vis,ho,_,_⟩:=HI.out.mkr.obj
   obtain⟨ca,ccp,eC⟩:=Aq HCF.out.rowC
   obtain⟨sa',sc',eS⟩:=Aq HCF.out.rowS
   obtain⟨ma,mc,eM⟩:=Aq HI.out.rowM
   subst eM
   have nn:∀g,(Value.slice none 0 0).ownBlock=some g->w.heap.size<=g/\∃cc fz,w.heap[g]?=some (.cells cc 9 fz):=fun g e=>(by cases e)
   have hCr:=HCF.out.fr HI.out.fr nn
   have hxq:Q<w.heap.size+1:=by omega
   have ho':=ho
   rw[eC,eS]at ho'
   obtain⟨⟨k0,_,_,_,k4⟩,kz⟩:=ho'.cells
   have kz0:=kz 0
   have kz4:=kz 4
   have hlq:=ho.lt
   obtain⟨⟨b0,b1,b2,b3⟩,bz⟩:=HI.out.box.facts
   have bz2:=bz 2
   have hlX:=HI.out.box.lt
   obtain⟨w1,EW1⟩:∃w1,Hid (w1=wr.setCell ⟨w.heap.size+1,2,none⟩ (.int .i64 (y.1.slots.length:Int))):=⟨_,rfl⟩
   have hbB:Below w1.heap.size w1 (w1.alloc (.cells #[.string y.1.name,.int .i64 y.1.over,.int .i64 (y.1.slots.length:Int),.slice ma y.1.meths.length mc] 68)).drew:=((Zg _ _).alloc (Z0 _) _).drew
   have rC1:w1.ownsRow (Q+1) 68 4 (.slice ca L.length ccp) L.length xs:=by
    rw[EW1.out,<-eC]
    exact ownsRow_setCell_other hCr.rowC (a:=⟨w.heap.size+1,2,none⟩) (fun e=>by have:=(HCF.out.rowC.lt _ e).2;have e2:(⟨w.heap.size+1,2,none⟩:Addr).block=w.heap.size+1:=rfl;omega) _
   have ho1:MkObj w1 Q (.slice ca L.length ccp) (.slice none 0 0) vL vK (.slice sa' L.length sc'):=by rw[EW1.out];exact(Zm _ _ _ _ (by show Q≠w.heap.size+1;omega)).trans ho'
   have bx1:CBox w1 (w.heap.size+1) y.1.name y.1.over (y.1.slots.length:Int) (.slice ma y.1.meths.length mc):=by rw[EW1.out];exact HI.out.box.setMany _
   obtain⟨⟨j0,_,_,_,j4⟩,_⟩:=ho1.cells
   have hlq1:=ho1.lt
   obtain⟨⟨i0,i1,i2,i3⟩,_⟩:=bx1.facts
   have hlX1:=bx1.lt
   have HO1:Hid (MkObj w1 Q (.slice ca L.length ccp) (.slice none 0 0) vL vK (.slice sa' L.length sc')):=ho1
   have HRC:Hid (w1.ownsRow (Q+1) 68 4 (.slice ca L.length ccp) L.length xs):=rC1
   have HBB:Hid (Below w1.heap.size w1 (w1.alloc (.cells #[.string y.1.name,.int .i64 y.1.over,.int .i64 (y.1.slots.length:Int),.slice ma y.1.meths.length mc] 68)).drew):=hbB
   have hqc:(Value.slice ca L.length ccp).ownBlock≠some Q:=AJ rC1 ho1 (by decide)
   have rS1:w1.ownsRow (Q+1) 23 1 (.slice sa' L.length sc') L.length ss:=by
    rw[EW1.out,<-eS]
    exact ownsRow_setCell_other hCr.rowS (a:=⟨w.heap.size+1,2,none⟩) (fun e=>by have:=(HCF.out.rowS.lt _ e).2;have e2:(⟨w.heap.size+1,2,none⟩:Addr).block=w.heap.size+1:=rfl;omega) _
   have HRS1:Hid (w1.ownsRow (Q+1) 23 1 (.slice sa' L.length sc') L.length ss):=rS1
   have hone4:∀u∈([.string y.1.name,.int .i64 y.1.over,.int .i64 (y.1.slots.length:Int),.slice ma y.1.meths.length mc]:List Value),u.oneCell'=true:=fun u hu=>by simp at hu;rcases hu with rfl | rfl | rfl | rfl<;>rfl
   have hone1:∀u∈([.slice sa y.1.slots.length sc]:List Value),u.oneCell'=true:=fun u hu=>by simp at hu;subst hu;rfl
   clear ho ho' ho1 bx1 rC1 rS1 hbB hCr HKK HOV
   go_wp2_with fail
   rw[<-EW1.out]
   go_region_law (first
    | (refine EY Ut rfl (.tmp 66) (.tmp 68) rfl (base:=Q+1) (c:=1) (.slice ca L.length ccp) ⟨w1.heap.size,0,none⟩ (xs:=xs) (news:=[.string y.1.name,.int .i64 y.1.over,.int .i64 (y.1.slots.length:Int),.slice ma y.1.meths.length mc]) (by first | (simp[Act.eval];done) | simp[Act.eval,Act.put]) (by first | (simp[Act.eval];done) | simp[Act.eval,Act.put]) (AF HRC.out fun g e=>HBB.out.block g (HRC.out.lt g e).2) rfl (EA w1 [.string y.1.name,.int .i64 y.1.over,.int .i64 (y.1.slots.length:Int),.slice ma y.1.meths.length mc] _) hone4 (by omega) (Za hlq1 HBB.out.size) ?_;intro g7 cap7 w7 O7 hg7 hon7;have ho7:MkObj w7 Q (.slice ca L.length ccp) (.slice none 0 0) vL vK (.slice sa' L.length sc'):=(hg7.block Q (Z5 hlq1 HBB.out.size) (fun e=>hqc e.symm)).trans ((HBB.out.block Q hlq1).trans HO1.out);obtain⟨⟨t0,_,_,_,t4⟩,tz⟩:=ho7.cells;have tz0:=tz 0;have tz4:=tz 4;have hl7:=ho7.lt))
   all_goals (have rS7:w7.ownsRow (Q+1) 23 1 (.slice sa' L.length sc') L.length ss:=AF HRS1.out fun g e=>(hg7.block g (Z5 (HRS1.out.lt g e).2 HBB.out.size) (fun e'=>BI HRS1.out HRC.out (by decide) e e'.symm)).trans (HBB.out.block g (HRS1.out.lt g e).2))
   all_goals (have rS8:=ownsRow_setCell_other rS7 (a:=⟨Q,0,none⟩) (AJ rS7 ho7 (by decide)) (.slice (some ⟨g7,0,none⟩) (L.length+1) cap7))
   all_goals (have hbC:Below (w7.setCell ⟨Q,0,none⟩ (.slice (some ⟨g7,0,none⟩) (L.length+1) cap7)).heap.size (w7.setCell ⟨Q,0,none⟩ (.slice (some ⟨g7,0,none⟩) (L.length+1) cap7)) ((w7.setCell ⟨Q,0,none⟩ (.slice (some ⟨g7,0,none⟩) (L.length+1) cap7)).alloc (.cells #[.slice sa y.1.slots.length sc] 23)):=(Zg _ _).alloc (Z0 _) _)
   all_goals (have hown9:=AF rS8 fun g e=>hbC.block g (rS8.lt g e).2)
   all_goals (have hn9:=Pa w7 ⟨Q,0,none⟩ (.slice (some ⟨g7,0,none⟩) (L.length+1) cap7) [.slice sa y.1.slots.length sc] 23)
   all_goals (have ho8:=ho7.setC (.slice (some ⟨g7,0,none⟩) (L.length+1) cap7))
   all_goals (have hq9:Q+1<=((w7.setCell ⟨Q,0,none⟩ (.slice (some ⟨g7,0,none⟩) (L.length+1) cap7)).alloc (.cells #[.slice sa y.1.slots.length sc] 23)).heap.size:=Za ho8.lt hbC.size)
   all_goals (have hqs:(Value.slice sa' L.length sc').ownBlock≠some Q:=AJ rS7 ho7 (by decide))
   all_goals (clear rS7 rS8)
   all_goals (go_wp2_with (first
    | (at_builtin;refine Az UX rfl (.tmp 77) (.tmp 79) rfl (Q+1) L.length 1 (.slice sa' L.length sc') ss [.slice sa y.1.slots.length sc] rfl hown9 ⟨w7.heap.size,0,none⟩ rfl rfl hn9 hone1 (by omega) hq9 ?_;intro g9 cap9 w9 O9 hg9 hw9;have ho9:MkObj w9 Q (.slice (some ⟨g7,0,none⟩) (L.length+1) cap7) (.slice none 0 0) vL vK (.slice sa' L.length sc'):=(hg9.block Q (Z5 ho8.lt hbC.size) (fun e=>hqs e.symm)).trans ((hbC.block Q ho8.lt).trans ho8);obtain⟨⟨_,_,_,_,p4⟩,pz⟩:=ho9.cells;have pz4:=pz 4;have hl9:=ho9.lt)))
   all_goals (refine bodyPost_end (v:=.tuple #[]) (by simp[results,Tryz.results10,go_sem]) rfl ⟨rfl,?_⟩)
   all_goals (rw[HE.out])
   all_goals (exact Rw HI.out HCF.out (by rw[<-EW1.out];exact HBB.out) (by rw[eC];exact hg7) O7 hbC (by rw[eS];exact hg9) O9)
end Go.Proofs.YtpfdgbalchmmfaaGreatDoor
