/- Texts in one. -/
import Derived.Test.YtbglpanjpadldaaGreatDoorMt
import Derived.Deep.CutRange
import Derived.Deep.DeepCutAuto
set_option maxHeartbeats 32000000
set_option maxRecDepth 20000
namespace Go.Proofs.YtbglpanjpadldaaGreatDoor
open Go.RowKit
def Ex(S:Src9)(x:List Int)(up:List Nd)(s:PS):Got Nd:=(A8 S Ai s).then fun _ s=>(DT S s).then fun ks s=>(Ch S s).then fun ms s=>(A8 S Au s).then fun _ s=>AJ 2 x 0 (up++ks++ms) s
theorem Nc(Q B:Nat)(v:Value)(S:Src9)(hl:AP S)(hnf:CE S)(s:PS):AM 33 (Fc S) Q B v S s:=by
 intro w hp
 have hB:=hp.size
 have hqb:=hp.qb
 have HPA:Hid (Rdr (w.alloc A6) Q B v S s):=hp.below ((Zg _ w).alloc (Z0 _) _)
 have HX:=ZC w
 have hnd:=fun w' (h':Rdr w' Q B v S s)=>DM Q B v S hl s 2 w' h'
 have hmf:∀(fn:Fn) (first cap:Array Value) (w:World),(Instr.makeFunc fn first cap).run Tryz.prog w=.ok (.func fn first cap) w:=fun _ _ _ _=>rfl
 have e1:A7 ⟨#[58]⟩=DP:=by decide
 have e2:A7 ⟨#[123]⟩=Ai:=by decide
 have e3:A7 ⟨#[125]⟩=Au:=by decide
 have ec:Fc S s=(Ae S s).then fun x s=>(upC S s).then fun up s=>Ex S x up s:=rfl
 rw[ec]
 clear hp ec
 cases h1:Ae S s with
 | error f=>
  rw[h1]at hnd
  clear h1
  go_enter Tryz.func33,Tryz.ntmps33
  go_wp2_with (first | (go_at_call 50;refine(hnd _ HPA.out).mono ?_;rintro e w1 ⟨rfl,hg1⟩))
  exact⟨rfl,rfl,(Zf w A6 (some Q)).trans hg1⟩
 | ok y=>
  obtain⟨x,s1⟩:=y
  rw[h1]at hnd
  rw[then_ok]
  generalize hGz:((upC S s1).then fun up s=>Ex S x up s)=Gz
  have HGz:Hid (((upC S s1).then fun up s=>Ex S x up s)=Gz):=hGz
  clear hGz h1
  go_enter Tryz.func33,Tryz.ntmps33
  go_upto_region 2 with(first | (go_at_call 50;refine(hnd _ HPA.out).mono ?_;rintro e w1 ⟨u1,rfl,rfl,hp1,hg1⟩;have hX1:=HX.out.grown hg1 (by omega);have hl1:=hX1.lt))
  have HC1:Hid (ClsS w (w1.alloc (.cells #[.int .i64 2,.string (strOfNums x),.int .i64 0,.slice none 0 0] 24)) Q B v S s1 w1.heap.size x [] none 0):=⟨hp1.below ((Zg _ _).alloc (Z0 _) _),Box4.new _ _ _ _ _,⟨Zl _ _ _ _,fun z hz=>by cases hz⟩,hX1.alloc _,((Zf w A6 (some Q)).trans hg1).trans (Zf _ _ _),by omega,fun e=>by cases e⟩
  cases hse:A2 S DP s1 with
  | false=>
   have HE:Hid (Ex S x [] s1=Gz):=by
    have h:=HGz.out
    unfold upC at h
    rw[hse,if_neg (by decide),then_ok]at h
    exact h
   have htk:=fun w' (h':Rdr w' Q B v S s1)=>Az hl e1 (by decide) hse w' h'
   clear hse HGz
   go_upto_region 4 with(first | (go_at_call 49;refine(htk _ HC1.out.rdr).mono ?_;rintro e w2 ⟨rfl,hp2,hg2⟩;have HC2:Hid (ClsS w w2 Q B v S s1 w1.heap.size x [] none 0):=HC1.out.grown hB hqb hp2 hg2))
   obtain⟨lA,adA,cpA,HLA,HCA⟩:∃(lA:List (Nd×Value)) (adA:Option Addr) (cpA:Nat),Hid (lA.map Prod.fst=([]:List Nd)/\lA.length<=1)/\Hid (ClsS w w2 Q B v S s1 w1.heap.size x lA adA cpA):=⟨[],none,0,⟨rfl,by decide⟩,HC2⟩
   clear HC2
   cases q4:A8 S Ai s1 with
   | error f=>
    have HE4:Hid (Gz=.error f):=by have h:=HE.out;unfold Ex at h;rw[q4]at h;exact h.symm
    have hw4:=fun w' b (hb:b=w'.heap.size) (h':Rdr w' Q B v S s1)=>DH hl e2 (by decide) w' b hb h'
    rw[q4]at hw4
    clear q4 HE
    go_wp2_with (first | (go_at_call 34;refine(hw4 _ _ (by simp) HCA.out.rdr).mono ?_;rintro e w4 ⟨rfl,hg4⟩))
    refine⟨rfl,?_⟩
    rw[HE4.out]
    exact⟨rfl,HCA.out.gro.trans hg4⟩
   | ok y=>
    obtain⟨⟨⟩,s4⟩:=y
    have HE4:Hid (((DT S s4).then fun ks s=>(Ch S s).then fun ms s=>(A8 S Au s).then fun _ s=>AJ 2 x 0 (([]:List Nd)++ks++ms) s)=Gz):=by have h:=HE.out;unfold Ex at h;rw[q4,then_ok]at h;exact h
    have hw4:=fun w' b (hb:b=w'.heap.size) (h':Rdr w' Q B v S s1)=>DH hl e2 (by decide) w' b hb h'
    rw[q4]at hw4
    have hsl:=fun w' (h':Rdr w' Q B v S s4)=>GK 51 (Hh S) (DT S) Q B v S hl ⟨#[115,108,111,116]⟩ Ej (by decide) (by decide) (by decide) (by decide) (LC S) (fun s n s' e=>NV e) s4 ⟨fun args w=>by kernel_rfl,fun s1 _ _=>Jz Q B v S hl s1⟩ w' h'
    clear q4 HE
    go_upto_region 5 with(first | (go_at_call 34;refine(hw4 _ _ (by simp) HCA.out.rdr).mono ?_;rintro e w4 ⟨u4,rfl,rfl,hp4,hg4⟩;have HC4:Hid (ClsS w w4 Q B v S s4 w1.heap.size x lA adA cpA):=HCA.out.grown hB hqb hp4 hg4;obtain⟨⟨b0,b1,b2,b3⟩,o0,o1,o2,o3⟩:=HC4.out.box.facts;have hlx:=HC4.out.box.lt))
    cases q5:DT S s4 with
    | error f=>
     have HE5:Hid (Gz=.error f):=by have h:=HE4.out;rw[q5]at h;exact h.symm
     rw[q5]at hsl
     clear q5 HE4
     have hRW:Rdr w4.drew Q B v S s4:=hp4.drew
     go_region_dies
     all_goals (refine(hsl _ hRW).mono ?_;rintro e w6 ⟨rfl,hg6⟩;refine⟨rfl,?_⟩;rw[HE5.out];exact⟨rfl,(HC4.out.drew hB hqb).gro.trans hg6⟩)
    | ok y=>
     obtain⟨ks,s5⟩:=y
     have HE5:Hid (((Ch S s5).then fun ms s=>(A8 S Au s).then fun _ s=>AJ 2 x 0 (([]:List Nd)++ks++ms) s)=Gz):=by have h:=HE4.out;rw[q5,then_ok]at h;exact h
     rw[q5]at hsl
     clear q5 HE4
     have h4d:=HC4.out.drew hB hqb
     go_cut [] from 18 to 25 (fun wx=>∃(l5:List (Nd×Value)) (ad5:Option Addr) (cp5:Nat),Hid (l5.map Prod.fst=([]:List Nd)++ks/\l5.length<=4001)/\Hid (ClsS w wx Q B v S s5 w1.heap.size x l5 ad5 cp5))
     case first=>
      have hlt5:∀j,Value.ownBlock (.slice adA lA.length cpA)=some j->w.heap.size+1<=j/\j<w4.heap.size:=fun j e=>HC4.out.row.lt j e
      have hrs5:=HC4.out.res.lt
      have hll5:=HLA.out.2
      go_region_law (first
       | (refine GX rfl 32 (.tmp 20) _ (.tmp 22) _ _ _ rfl (.pointer (some ⟨Q,0,none⟩)) (.string ⟨#[115,108,111,116]⟩) (.func (.func 51) #[.pointer (some ⟨Q,0,none⟩)] #[]) (by first | (simp[Act.eval];done) | simp[Act.eval,Act.put]) (by first | (simp[Act.eval];done) | simp[Act.eval,Act.put]) (by first | (simp[Act.eval];done) | simp[Act.eval,Act.put]) (fun w=>by kernel_rfl) (hsl _ h4d.rdr) ?_;rintro e w6 ⟨u6,rfl,⟨lk,hmk,hRS,hlk⟩,hp6,hg6⟩;refine⟨_,rfl,?_⟩;obtain⟨adk,ck,huk,_⟩:=hRS.slice;subst huk;have h6:=h4d.grown hB hqb hp6 hg6;have hN6:=h6.box;obtain⟨⟨q0,q1,q2,q3⟩,_⟩:=hN6.facts;have hl6:=hN6.lt;have hsz6:w4.heap.size<=w6.heap.size:=hg6.size)
       | (refine Ck rfl (.tmp 19) (.tmp 23) rfl (.slice adA lA.length cpA) (.slice adk lk.length ck) (by first | (simp[Act.eval];done) | simp[Act.eval,Act.put]) (by first | (simp[Act.eval];done) | simp[Act.eval,Act.put]) h6.row hRS.1 (fun z hz=>(hRS.2 z hz).mono (fun j hj _=>by have h1:w4.heap.size<=j:=hj.1;exact⟨⟨by omega,by omega⟩,fun e=>by have:=(hlt5 j e).2;omega⟩)) (by omega) (by omega) ?_;intro v7 w7 hR7 hg7 hor7;obtain⟨ad7,cp7,hv7,hX7,hC7⟩:=ClsS.more h6 hB (Zg _ _) hR7 hg7 hor7;subst hv7;obtain⟨⟨p0,p1,p2,p3⟩,r0,r1,r2,r3⟩:=hX7.facts;have hl7:=hX7.lt))
      all_goals go_wp2_with fail
      all_goals go_meet
      all_goals exact⟨lA++lk,ad7,cp7,⟨by rw[List.map_append,hmk,HLA.out.1],by rw[Z1];omega⟩,(by have h:=hC7;rw[show(Value.slice ad7 (lA++lk).length cp7)=.slice ad7 (lA.length+lk.length) cp7 by rw[Z1]]at h;exact h)⟩
     case rest=>
      obtain⟨l5,ad5,cp5,HL5,HC5⟩:=hcut
      have hme:=fun w' (h':Rdr w' Q B v S s5)=>GK 52 (Es S) (Ch S) Q B v S hl ⟨#[116,111]⟩ wTo (by decide) (by decide) (by decide) (by decide) (Ko S) (fun s n s' e=>by have:=(Ha e).1;omega) s5 ⟨fun args w=>by kernel_rfl,fun s1 _ _=>Il Q B v S hl s1 (fun s2 _ _=>Ib Q B v S hl hnf s2)⟩ w' h'
      clear b0 b1 b2 b3 o0 o1 o2 o3 hlx hsl h4d HC4
      obtain⟨⟨b0,b1,b2,b3⟩,o0,o1,o2,o3⟩:=HC5.out.box.facts
      have hlx:=HC5.out.box.lt
      go_upto_region 6 with fail
      cases q6:Ch S s5 with
      | error f=>
       have HE6:Hid (Gz=.error f):=by have h:=HE5.out;rw[q6]at h;exact h.symm
       rw[q6]at hme
       clear q6 HE5
       have hRW:Rdr wc.drew Q B v S s5:=HC5.out.rdr.drew
       go_region_dies
       all_goals (refine(hme _ hRW).mono ?_;rintro e w6 ⟨rfl,hg6⟩;refine⟨rfl,?_⟩;rw[HE6.out];exact⟨rfl,(HC5.out.drew hB hqb).gro.trans hg6⟩)
      | ok y=>
       obtain⟨ms,s6⟩:=y
       have HE6:Hid (((A8 S Au s6).then fun _ s=>AJ 2 x 0 (([]:List Nd)++ks++ms) s)=Gz):=by have h:=HE5.out;rw[q6,then_ok]at h;exact h
       rw[q6]at hme
       clear q6 HE5
       have h5d:=HC5.out.drew hB hqb
       go_cut [] from 26 to 33 (fun wx=>∃(l6:List (Nd×Value)) (ad6:Option Addr) (cp6:Nat),Hid (l6.map Prod.fst=([]:List Nd)++ks++ms/\l6.length<=8001)/\Hid (ClsS w wx Q B v S s6 w1.heap.size x l6 ad6 cp6))
       case first=>
        have hlt6:∀j,Value.ownBlock (.slice ad5 l5.length cp5)=some j->w.heap.size+1<=j/\j<wc.heap.size:=fun j e=>HC5.out.row.lt j e
        have hrs6:=HC5.out.res.lt
        have hll6:=HL5.out.2
        go_region_law (first
         | (refine GX rfl 32 (.tmp 28) _ (.tmp 30) _ _ _ rfl (.pointer (some ⟨Q,0,none⟩)) (.string ⟨#[116,111]⟩) (.func (.func 52) #[.pointer (some ⟨Q,0,none⟩)] #[]) (by first | (simp[Act.eval];done) | simp[Act.eval,Act.put]) (by first | (simp[Act.eval];done) | simp[Act.eval,Act.put]) (by first | (simp[Act.eval];done) | simp[Act.eval,Act.put]) (fun w=>by kernel_rfl) (hme _ h5d.rdr) ?_;rintro e w6 ⟨u6,rfl,⟨lk,hmk,hRS,hlk⟩,hp6,hg6⟩;refine⟨_,rfl,?_⟩;obtain⟨adk,ck,huk,_⟩:=hRS.slice;subst huk;have h6:=h5d.grown hB hqb hp6 hg6;have hN6:=h6.box;obtain⟨⟨q0,q1,q2,q3⟩,_⟩:=hN6.facts;have hl6:=hN6.lt;have hsz6:wc.heap.size<=w6.heap.size:=hg6.size)
         | (refine Ck rfl (.tmp 27) (.tmp 31) rfl (.slice ad5 l5.length cp5) (.slice adk lk.length ck) (by first | (simp[Act.eval];done) | simp[Act.eval,Act.put]) (by first | (simp[Act.eval];done) | simp[Act.eval,Act.put]) h6.row hRS.1 (fun z hz=>(hRS.2 z hz).mono (fun j hj _=>by have h1:wc.heap.size<=j:=hj.1;exact⟨⟨by omega,by omega⟩,fun e=>by have:=(hlt6 j e).2;omega⟩)) (by omega) (by omega) ?_;intro v7 w7 hR7 hg7 hor7;obtain⟨ad7,cp7,hv7,hX7,hC7⟩:=ClsS.more h6 hB (Zg _ _) hR7 hg7 hor7;subst hv7;obtain⟨⟨p0,p1,p2,p3⟩,r0,r1,r2,r3⟩:=hX7.facts;have hl7:=hX7.lt))
        all_goals go_wp2_with fail
        all_goals go_meet
        all_goals exact⟨l5++lk,ad7,cp7,⟨by rw[List.map_append,hmk,HL5.out.1],by rw[Z1];omega⟩,(by have h:=hC7;rw[show(Value.slice ad7 (l5++lk).length cp7)=.slice ad7 (l5.length+lk.length) cp7 by rw[Z1]]at h;exact h)⟩
       case rest=>
        obtain⟨l6,ad6,cp6,HL6,HC6⟩:=hcut
        cases q7:A8 S Au s6 with
        | error f=>
         have HE7:Hid (Gz=.error f):=by have h:=HE6.out;rw[q7]at h;exact h.symm
         have hw7:=fun w' b (hb:b=w'.heap.size) (h':Rdr w' Q B v S s6)=>DH hl e3 (by decide) w' b hb h'
         rw[q7]at hw7
         clear q7 HE6
         go_wp2_with (first | (go_at_call 34;refine(hw7 _ _ (by simp) HC6.out.rdr).mono ?_;rintro e w8 ⟨rfl,hg8⟩))
         refine⟨rfl,?_⟩
         rw[HE7.out]
         exact⟨rfl,HC6.out.gro.trans hg8⟩
        | ok y=>
         obtain⟨⟨⟩,s7⟩:=y
         have HE7:Hid (Gz=AJ 2 x 0 (([]:List Nd)++ks++ms) s7):=by have h:=HE6.out;rw[q7,then_ok]at h;exact h.symm
         have hw7:=fun w' b (hb:b=w'.heap.size) (h':Rdr w' Q B v S s6)=>DH hl e3 (by decide) w' b hb h'
         rw[q7]at hw7
         clear q7 HE6
         go_wp2_with (first | (go_at_call 34;refine(hw7 _ _ (by simp) HC6.out.rdr).mono ?_;rintro e w8 ⟨u8,rfl,rfl,hp8,hg8⟩;have hC8:=HC6.out.grown hB hqb hp8 hg8;obtain⟨⟨a0,a1,a2,a3⟩,_⟩:=hC8.box.facts;obtain⟨⟨q0,q1,q2,q3⟩,f0,f1,f2,f3⟩:=hC8.res.facts))
         have hK8:=hC8.row.kids (fun j e=>⟨(hC8.row.lt j e).1,fun e'=>hC8.own (by rw[<-e'];exact e)⟩)
         rw[HL6.out.1]at hK8
         refine bodyPost_ret (v:=.agg #[.int .i64 2,.string (strOfNums x),.int .i64 0,.slice ad6 l6.length cp6]) (by simp[results,Tryz.results33,go_sem,q0,q1,q2,q3]) rfl ?_
         rw[HE7.out]
         unfold AJ
         exact B5 (n:=.mk 2 x 0 (([]:List Nd)++ks++ms)) (s':=s7.node) (Zi (M:=(fun j=>w.heap.size+1<=j/\j≠w1.heap.size)) ⟨_,rfl,hK8⟩ (fun j hj _=>hj.1)) (hC8.rdr.many _) hC8.gro hB
  | true=>
   have htk:=fun w' (h':Rdr w' Q B v S s1)=>BC hl e1 (by decide) (by decide) (by decide) hse w' h'
   have hnm:=fun w' (h':Rdr w' Q B v S s1.step)=>DM Q B v S hl s1.step 31 w' h'
   cases q3:Ae S s1.step with
   | error f=>
    have HE3:Hid (Gz=.error f):=by have h:=HGz.out;unfold upC at h;rw[hse,if_pos rfl,q3]at h;exact h.symm
    rw[q3]at hnm
    clear hse HGz q3
    go_upto_region 3 with(first | (go_at_call 49;refine(htk _ HC1.out.rdr).mono ?_;rintro e w2 ⟨rfl,hp2,hg2⟩;have HC2:Hid (ClsS w w2 Q B v S s1.step w1.heap.size x [] none 0):=HC1.out.grown hB hqb hp2 hg2;obtain⟨⟨b0,b1,b2,b3⟩,o0,o1,o2,o3⟩:=HC2.out.box.facts;have hlx:=HC2.out.box.lt))
    have hRW:Rdr w2.drew Q B v S s1.step:=hp2.drew
    go_region_dies
    all_goals (refine(hnm _ hRW).mono ?_;rintro e w6 ⟨rfl,hg6⟩;refine⟨rfl,?_⟩;rw[HE3.out];exact⟨rfl,(HC2.out.drew hB hqb).gro.trans hg6⟩)
   | ok y=>
    obtain⟨z,s2⟩:=y
    have HE:Hid (Ex S x [.mk 31 z 0 []] s2.node=Gz):=by have h:=HGz.out;unfold upC at h;rw[hse,if_pos rfl,q3,then_ok]at h;exact h
    rw[q3]at hnm
    clear hse HGz q3
    go_upto_region 3 with(first | (go_at_call 49;refine(htk _ HC1.out.rdr).mono ?_;rintro e w2 ⟨rfl,hp2,hg2⟩;have HC2:Hid (ClsS w w2 Q B v S s1.step w1.heap.size x [] none 0):=HC1.out.grown hB hqb hp2 hg2;obtain⟨⟨b0,b1,b2,b3⟩,o0,o1,o2,o3⟩:=HC2.out.box.facts;have hlx:=HC2.out.box.lt))
    have h2d:=HC2.out.drew hB hqb
    go_cut [] from 8 to 14 (fun wx=>∃(lA:List (Nd×Value)) (adA:Option Addr) (cpA:Nat),Hid (lA.map Prod.fst=[.mk 31 z 0 []]/\lA.length<=1)/\Hid (ClsS w wx Q B v S s2.node w1.heap.size x lA adA cpA))
    case first=>
     have hrs3:=HC2.out.res.lt
     go_region_law (first
      | (refine Ia rfl 50 (.tmp 10) _ _ _ rfl (.pointer (some ⟨Q,0,none⟩)) (.int .i64 31) (by first | (simp[Act.eval];done) | simp[Act.eval,Act.put]) (by first | (simp[Act.eval];done) | simp[Act.eval,Act.put]) (fun w=>by kernel_rfl) (hnm _ h2d.rdr) ?_;rintro e w6 ⟨u6,rfl,rfl,hp6,hg6⟩;refine⟨_,rfl,?_⟩;have hp6n:Rdr w6 Q B v S s2.node:=hp6.many _;have h6:=h2d.grown hB hqb hp6n hg6;have hN6:=h6.box;obtain⟨⟨q0,q1,q2,q3⟩,_⟩:=hN6.facts;have hl6:=hN6.lt;have hsz6:w2.heap.size<=w6.heap.size:=hg6.size)
      | (obtain⟨x4,hF4⟩:=RowM.first (w:=w6) (BB:=w.heap.size+1) (M:=Be w2.heap.size) (n:=.mk 31 z 0 []) (a:=.int .i64 31) (b:=.string (strOfNums z)) (c:=.int .i64 0) (d:=.slice none 0 0) ⟨_,rfl,Dw _ _ _⟩ (by omega);refine Ck rfl (.tmp 9) (.tmp 12) rfl (.slice none 0 0) (.slice (some ⟨w6.heap.size,0,none⟩) 1 1) (by first | (simp[Act.eval];done) | simp[Act.eval,Act.put]) (by first | (simp[Act.eval];done) | simp[Act.eval,Act.put]) (h6.row.alloc (.cells #[.int .i64 31,.string (strOfNums z),.int .i64 0,.slice none 0 0] 24)) hF4.1 (fun z hz=>(hF4.2 z hz).mono (fun j hj _=>by have h1:w2.heap.size<=j:=hj.1;exact⟨⟨by omega,by omega⟩,fun e=>by cases e⟩)) (by simp) (by simp;omega) ?_;intro v7 w7 hR7 hg7 hor7;obtain⟨ad7,cp7,hv7,hX7,hC7⟩:=ClsS.more h6 hB ((Zg _ w6).alloc (Z0 _) (.cells #[.int .i64 31,.string (strOfNums z),.int .i64 0,.slice none 0 0] 24)) hR7 hg7 hor7;subst hv7;obtain⟨⟨p0,p1,p2,p3⟩,r0,r1,r2,r3⟩:=hX7.facts;have hl7:=hX7.lt))
     all_goals go_wp2_with fail
     all_goals go_meet
     all_goals exact⟨[(.mk 31 z 0 [],x4)],ad7,cp7,⟨rfl,Z0 _⟩,hC7⟩
    case rest=>
     obtain⟨lA,adA,cpA,HLA,HCA⟩:=hcut
     clear b0 b1 b2 b3 o0 o1 o2 o3 hlx h2d HC2
     go_upto_region 4 with fail
     cases q4:A8 S Ai s2.node with
     | error f=>
      have HE4:Hid (Gz=.error f):=by have h:=HE.out;unfold Ex at h;rw[q4]at h;exact h.symm
      have hw4:=fun w' b (hb:b=w'.heap.size) (h':Rdr w' Q B v S s2.node)=>DH hl e2 (by decide) w' b hb h'
      rw[q4]at hw4
      clear q4 HE
      go_wp2_with (first | (go_at_call 34;refine(hw4 _ _ (by simp) HCA.out.rdr).mono ?_;rintro e w4 ⟨rfl,hg4⟩))
      refine⟨rfl,?_⟩
      rw[HE4.out]
      exact⟨rfl,HCA.out.gro.trans hg4⟩
     | ok y=>
      obtain⟨⟨⟩,s4⟩:=y
      have HE4:Hid (((DT S s4).then fun ks s=>(Ch S s).then fun ms s=>(A8 S Au s).then fun _ s=>AJ 2 x 0 ([.mk 31 z 0 []]++ks++ms) s)=Gz):=by have h:=HE.out;unfold Ex at h;rw[q4,then_ok]at h;exact h
      have hw4:=fun w' b (hb:b=w'.heap.size) (h':Rdr w' Q B v S s2.node)=>DH hl e2 (by decide) w' b hb h'
      rw[q4]at hw4
      have hsl:=fun w' (h':Rdr w' Q B v S s4)=>GK 51 (Hh S) (DT S) Q B v S hl ⟨#[115,108,111,116]⟩ Ej (by decide) (by decide) (by decide) (by decide) (LC S) (fun s n s' e=>NV e) s4 ⟨fun args w=>by kernel_rfl,fun s1 _ _=>Jz Q B v S hl s1⟩ w' h'
      clear q4 HE
      go_upto_region 5 with(first | (go_at_call 34;refine(hw4 _ _ (by simp) HCA.out.rdr).mono ?_;rintro e w4 ⟨u4,rfl,rfl,hp4,hg4⟩;have HC4:Hid (ClsS w w4 Q B v S s4 w1.heap.size x lA adA cpA):=HCA.out.grown hB hqb hp4 hg4;obtain⟨⟨b0,b1,b2,b3⟩,o0,o1,o2,o3⟩:=HC4.out.box.facts;have hlx:=HC4.out.box.lt))
      cases q5:DT S s4 with
      | error f=>
       have HE5:Hid (Gz=.error f):=by have h:=HE4.out;rw[q5]at h;exact h.symm
       rw[q5]at hsl
       clear q5 HE4
       have hRW:Rdr w4.drew Q B v S s4:=hp4.drew
       go_region_dies
       all_goals (refine(hsl _ hRW).mono ?_;rintro e w6 ⟨rfl,hg6⟩;refine⟨rfl,?_⟩;rw[HE5.out];exact⟨rfl,(HC4.out.drew hB hqb).gro.trans hg6⟩)
      | ok y=>
       obtain⟨ks,s5⟩:=y
       have HE5:Hid (((Ch S s5).then fun ms s=>(A8 S Au s).then fun _ s=>AJ 2 x 0 ([.mk 31 z 0 []]++ks++ms) s)=Gz):=by have h:=HE4.out;rw[q5,then_ok]at h;exact h
       rw[q5]at hsl
       clear q5 HE4
       have h4d:=HC4.out.drew hB hqb
       go_cut [] from 18 to 25 (fun wx=>∃(l5:List (Nd×Value)) (ad5:Option Addr) (cp5:Nat),Hid (l5.map Prod.fst=[.mk 31 z 0 []]++ks/\l5.length<=4001)/\Hid (ClsS w wx Q B v S s5 w1.heap.size x l5 ad5 cp5))
       case first=>
        have hlt5:∀j,Value.ownBlock (.slice adA lA.length cpA)=some j->w.heap.size+1<=j/\j<w4.heap.size:=fun j e=>HC4.out.row.lt j e
        have hrs5:=HC4.out.res.lt
        have hll5:=HLA.out.2
        go_region_law (first
         | (refine GX rfl 32 (.tmp 20) _ (.tmp 22) _ _ _ rfl (.pointer (some ⟨Q,0,none⟩)) (.string ⟨#[115,108,111,116]⟩) (.func (.func 51) #[.pointer (some ⟨Q,0,none⟩)] #[]) (by first | (simp[Act.eval];done) | simp[Act.eval,Act.put]) (by first | (simp[Act.eval];done) | simp[Act.eval,Act.put]) (by first | (simp[Act.eval];done) | simp[Act.eval,Act.put]) (fun w=>by kernel_rfl) (hsl _ h4d.rdr) ?_;rintro e w6 ⟨u6,rfl,⟨lk,hmk,hRS,hlk⟩,hp6,hg6⟩;refine⟨_,rfl,?_⟩;obtain⟨adk,ck,huk,_⟩:=hRS.slice;subst huk;have h6:=h4d.grown hB hqb hp6 hg6;have hN6:=h6.box;obtain⟨⟨q0,q1,q2,q3⟩,_⟩:=hN6.facts;have hl6:=hN6.lt;have hsz6:w4.heap.size<=w6.heap.size:=hg6.size)
         | (refine Ck rfl (.tmp 19) (.tmp 23) rfl (.slice adA lA.length cpA) (.slice adk lk.length ck) (by first | (simp[Act.eval];done) | simp[Act.eval,Act.put]) (by first | (simp[Act.eval];done) | simp[Act.eval,Act.put]) h6.row hRS.1 (fun z hz=>(hRS.2 z hz).mono (fun j hj _=>by have h1:w4.heap.size<=j:=hj.1;exact⟨⟨by omega,by omega⟩,fun e=>by have:=(hlt5 j e).2;omega⟩)) (by omega) (by omega) ?_;intro v7 w7 hR7 hg7 hor7;obtain⟨ad7,cp7,hv7,hX7,hC7⟩:=ClsS.more h6 hB (Zg _ _) hR7 hg7 hor7;subst hv7;obtain⟨⟨p0,p1,p2,p3⟩,r0,r1,r2,r3⟩:=hX7.facts;have hl7:=hX7.lt))
        all_goals go_wp2_with fail
        all_goals go_meet
        all_goals exact⟨lA++lk,ad7,cp7,⟨by rw[List.map_append,hmk,HLA.out.1],by rw[Z1];omega⟩,(by have h:=hC7;rw[show(Value.slice ad7 (lA++lk).length cp7)=.slice ad7 (lA.length+lk.length) cp7 by rw[Z1]]at h;exact h)⟩
       case rest=>
        obtain⟨l5,ad5,cp5,HL5,HC5⟩:=hcut
        have hme:=fun w' (h':Rdr w' Q B v S s5)=>GK 52 (Es S) (Ch S) Q B v S hl ⟨#[116,111]⟩ wTo (by decide) (by decide) (by decide) (by decide) (Ko S) (fun s n s' e=>by have:=(Ha e).1;omega) s5 ⟨fun args w=>by kernel_rfl,fun s1 _ _=>Il Q B v S hl s1 (fun s2 _ _=>Ib Q B v S hl hnf s2)⟩ w' h'
        clear b0 b1 b2 b3 o0 o1 o2 o3 hlx hsl h4d HC4
        obtain⟨⟨b0,b1,b2,b3⟩,o0,o1,o2,o3⟩:=HC5.out.box.facts
        have hlx:=HC5.out.box.lt
        go_upto_region 6 with fail
        cases q6:Ch S s5 with
        | error f=>
         have HE6:Hid (Gz=.error f):=by have h:=HE5.out;rw[q6]at h;exact h.symm
         rw[q6]at hme
         clear q6 HE5
         have hRW:Rdr wc.drew Q B v S s5:=HC5.out.rdr.drew
         go_region_dies
         all_goals (refine(hme _ hRW).mono ?_;rintro e w6 ⟨rfl,hg6⟩;refine⟨rfl,?_⟩;rw[HE6.out];exact⟨rfl,(HC5.out.drew hB hqb).gro.trans hg6⟩)
        | ok y=>
         obtain⟨ms,s6⟩:=y
         have HE6:Hid (((A8 S Au s6).then fun _ s=>AJ 2 x 0 ([.mk 31 z 0 []]++ks++ms) s)=Gz):=by have h:=HE5.out;rw[q6,then_ok]at h;exact h
         rw[q6]at hme
         clear q6 HE5
         have h5d:=HC5.out.drew hB hqb
         go_cut [] from 26 to 33 (fun wx=>∃(l6:List (Nd×Value)) (ad6:Option Addr) (cp6:Nat),Hid (l6.map Prod.fst=[.mk 31 z 0 []]++ks++ms/\l6.length<=8001)/\Hid (ClsS w wx Q B v S s6 w1.heap.size x l6 ad6 cp6))
         case first=>
          have hlt6:∀j,Value.ownBlock (.slice ad5 l5.length cp5)=some j->w.heap.size+1<=j/\j<wc.heap.size:=fun j e=>HC5.out.row.lt j e
          have hrs6:=HC5.out.res.lt
          have hll6:=HL5.out.2
          go_region_law (first
           | (refine GX rfl 32 (.tmp 28) _ (.tmp 30) _ _ _ rfl (.pointer (some ⟨Q,0,none⟩)) (.string ⟨#[116,111]⟩) (.func (.func 52) #[.pointer (some ⟨Q,0,none⟩)] #[]) (by first | (simp[Act.eval];done) | simp[Act.eval,Act.put]) (by first | (simp[Act.eval];done) | simp[Act.eval,Act.put]) (by first | (simp[Act.eval];done) | simp[Act.eval,Act.put]) (fun w=>by kernel_rfl) (hme _ h5d.rdr) ?_;rintro e w6 ⟨u6,rfl,⟨lk,hmk,hRS,hlk⟩,hp6,hg6⟩;refine⟨_,rfl,?_⟩;obtain⟨adk,ck,huk,_⟩:=hRS.slice;subst huk;have h6:=h5d.grown hB hqb hp6 hg6;have hN6:=h6.box;obtain⟨⟨q0,q1,q2,q3⟩,_⟩:=hN6.facts;have hl6:=hN6.lt;have hsz6:wc.heap.size<=w6.heap.size:=hg6.size)
           | (refine Ck rfl (.tmp 27) (.tmp 31) rfl (.slice ad5 l5.length cp5) (.slice adk lk.length ck) (by first | (simp[Act.eval];done) | simp[Act.eval,Act.put]) (by first | (simp[Act.eval];done) | simp[Act.eval,Act.put]) h6.row hRS.1 (fun z hz=>(hRS.2 z hz).mono (fun j hj _=>by have h1:wc.heap.size<=j:=hj.1;exact⟨⟨by omega,by omega⟩,fun e=>by have:=(hlt6 j e).2;omega⟩)) (by omega) (by omega) ?_;intro v7 w7 hR7 hg7 hor7;obtain⟨ad7,cp7,hv7,hX7,hC7⟩:=ClsS.more h6 hB (Zg _ _) hR7 hg7 hor7;subst hv7;obtain⟨⟨p0,p1,p2,p3⟩,r0,r1,r2,r3⟩:=hX7.facts;have hl7:=hX7.lt))
          all_goals go_wp2_with fail
          all_goals go_meet
          all_goals exact⟨l5++lk,ad7,cp7,⟨by rw[List.map_append,hmk,HL5.out.1],by rw[Z1];omega⟩,(by have h:=hC7;rw[show(Value.slice ad7 (l5++lk).length cp7)=.slice ad7 (l5.length+lk.length) cp7 by rw[Z1]]at h;exact h)⟩
         case rest=>
          obtain⟨l6,ad6,cp6,HL6,HC6⟩:=hcut
          cases q7:A8 S Au s6 with
          | error f=>
           have HE7:Hid (Gz=.error f):=by have h:=HE6.out;rw[q7]at h;exact h.symm
           have hw7:=fun w' b (hb:b=w'.heap.size) (h':Rdr w' Q B v S s6)=>DH hl e3 (by decide) w' b hb h'
           rw[q7]at hw7
           clear q7 HE6
           go_wp2_with (first | (go_at_call 34;refine(hw7 _ _ (by simp) HC6.out.rdr).mono ?_;rintro e w8 ⟨rfl,hg8⟩))
           refine⟨rfl,?_⟩
           rw[HE7.out]
           exact⟨rfl,HC6.out.gro.trans hg8⟩
          | ok y=>
           obtain⟨⟨⟩,s7⟩:=y
           have HE7:Hid (Gz=AJ 2 x 0 ([.mk 31 z 0 []]++ks++ms) s7):=by have h:=HE6.out;rw[q7,then_ok]at h;exact h.symm
           have hw7:=fun w' b (hb:b=w'.heap.size) (h':Rdr w' Q B v S s6)=>DH hl e3 (by decide) w' b hb h'
           rw[q7]at hw7
           clear q7 HE6
           go_wp2_with (first | (go_at_call 34;refine(hw7 _ _ (by simp) HC6.out.rdr).mono ?_;rintro e w8 ⟨u8,rfl,rfl,hp8,hg8⟩;have hC8:=HC6.out.grown hB hqb hp8 hg8;obtain⟨⟨a0,a1,a2,a3⟩,_⟩:=hC8.box.facts;obtain⟨⟨q0,q1,q2,q3⟩,f0,f1,f2,f3⟩:=hC8.res.facts))
           have hK8:=hC8.row.kids (fun j e=>⟨(hC8.row.lt j e).1,fun e'=>hC8.own (by rw[<-e'];exact e)⟩)
           rw[HL6.out.1]at hK8
           refine bodyPost_ret (v:=.agg #[.int .i64 2,.string (strOfNums x),.int .i64 0,.slice ad6 l6.length cp6]) (by simp[results,Tryz.results33,go_sem,q0,q1,q2,q3]) rfl ?_
           rw[HE7.out]
           unfold AJ
           exact B5 (n:=.mk 2 x 0 ([.mk 31 z 0 []]++ks++ms)) (s':=s7.node) (Zi (M:=(fun j=>w.heap.size+1<=j/\j≠w1.heap.size)) ⟨_,rfl,hK8⟩ (fun j hj _=>hj.1)) (hC8.rdr.many _) hC8.gro hB
end Go.Proofs.YtbglpanjpadldaaGreatDoor
namespace Go.Proofs.YtbglpanjpadldaaGreatDoor
theorem LK(t:ByteArray)(w:World)(he:Errs w)(hm:t.size<=maxLen):Calls Tryz.prog 4 #[.string t] w fun e w'=>Id w (A7 t) e w':=
 Pz t w he hm (fun _ hq Q B v s1 _=>Nc Q B v _ (IG hq) (K6 hq) s1)
end Go.Proofs.YtbglpanjpadldaaGreatDoor
