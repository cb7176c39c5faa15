/- Texts in one. -/
import Derived.Test.YtbglpanjpadldaaGreatDoorMr
import Derived.Deep.CutRange
import Derived.Deep.DeepCutAuto
set_option maxHeartbeats 32000000
set_option maxRecDepth 20000
namespace Go.Proofs.YtbglpanjpadldaaGreatDoor
open Go.RowKit
theorem RowM.two{w:World}{BB:Nat}{M:Nat->Prop}{n m:Nd}{a b c d a' b' c' d':Value}(h:NodeV w M (.agg #[a,b,c,d]) n)(h':NodeV w M (.agg #[a',b',c',d']) m)(hB:BB<=w.heap.size):∃x y,RowM (w.alloc (.cells #[a,b,c,d,a',b',c',d'] 24)) BB M (.slice (some ⟨w.heap.size,0,none⟩) 2 2) [(n,x),(m,y)]:=by
 obtain⟨x,e,hk⟩:=Fk h
 obtain⟨y,e',hk'⟩:=Fk h'
 refine⟨x,y,⟨rfl,.inr ⟨w.heap.size,2,#[a,b,c,d,a',b',c',d'],rfl,hB,heap_alloc_new w _,Z0 _,by decide,rfl,?_⟩⟩,?_⟩
 ·show[a,b,c,d]++[a',b',c',d']=_
  rw[e,e']
  simp[Af]
 ·have key:∀(z:Value) (ks:List Nd),KidsV w M z ks->KidsV (w.alloc (.cells #[a,b,c,d,a',b',c',d'] 24)) (fun k=>M k/\(Value.slice (some ⟨w.heap.size,0,none⟩) 2 2).ownBlock≠some k) z ks:=fun z ks hz=>
   (hz.mono (fun k h1 h2=>⟨h1,fun e=>by have e':w.heap.size=k:=(by injection e);omega⟩)).above (Zh (Zf _ _ none) (fun k e=>by cases e))
  intro z hz
  simp only[List.mem_cons,List.not_mem_nil,or_false]at hz
  rcases hz with rfl | rfl
  ·exact key _ _ hk
  ·exact key _ _ hk'
def ifC(S:Src9)(s:PS):Got Nd:=(Bw S s).then fun k s=>(Aj S s).then fun b s=>if A2 S Cy s=true then(Aj S s.step).then fun c s=>AJ 9 [] 0 [k,b,c] s else AJ 9 [] 0 [k,b] s
structure IfS(w wx:World)(Q B:Nat)(v:Value)(S:Src9)(s:PS)(X g:Nat)(k m:Nd)(x0 x1:Value):Prop where
 rdr:Rdr wx Q B v S s
 box:Box4 wx X (.int .i64 9) (.string ⟨#[]⟩) (.int .i64 0) (.slice (some ⟨g,0,none⟩) 2 2)
 row:RowM wx (w.heap.size+1) (fun j=>w.heap.size+1<=j/\j≠X) (.slice (some ⟨g,0,none⟩) 2 2) [(k,x0),(m,x1)]
 res:Box4 wx w.heap.size (.int .i64 0) (.string ⟨#[]⟩) (.int .i64 0) (.slice none 0 0)
 gro:w.grownBy wx (some Q)
 low:w.heap.size+1<=X/\w.heap.size+1<=g/\X≠g
theorem RowM.kept{w w':World}{BB X:Nat}{M:Nat->Prop}{v:Value}{l:List (Nd×Value)}(h:RowM w BB M v l)(hg:w.grownBy w' (some X))(hq:v.ownBlock≠some X)(hm:¬M X):RowM w' BB M v l:=
 ⟨h.1.kept hg (Or.inr (fun e=>hq e)),fun z hz=>(h.2 z hz).above (Zh hg (fun k e=>by injection e with e;subst e;rintro⟨h,_⟩;exact hm h))⟩
theorem Dp(w:World)(X:Nat)(a b c d:Value):w.grownBy ((((w.setCell ⟨X,0,none⟩ a).setCell ⟨X,1,none⟩ b).setCell ⟨X,2,none⟩ c).setCell ⟨X,3,none⟩ d) (some X):=
 (((D4 w X 0 a).trans (D4 _ X 1 b)).trans (D4 _ X 2 c)).trans (D4 _ X 3 d)
theorem F8{w wn w4 wf:World}{Q B:Nat}{v:Value}{S:Src9}{s:PS}{X g:Nat}{k m:Nd}{x0 x1:Value}(hB:B<=w.heap.size)(hqb:Q<B)(hrow:RowM wn (w.heap.size+1) (fun j=>w.heap.size+1<=j/\j≠X) (.slice (some ⟨g,0,none⟩) 2 2) [(k,x0),(m,x1)])(hX:w.heap.size+1<=X)(hg:w.heap.size+1<=g)(hXg:X≠g)(hp:Rdr wn Q B v S s)(hG:w.grownBy wn (some Q))(hres:Box4 wn w.heap.size (.int .i64 0) (.string ⟨#[]⟩) (.int .i64 0) (.slice none 0 0))(hb4:Below wn.heap.size wn w4)(hf:w4.grownBy wf (some X))(hbox:Box4 wf X (.int .i64 9) (.string ⟨#[]⟩) (.int .i64 0) (.slice (some ⟨g,0,none⟩) 2 2)):IfS w wf Q B v S s X g k m x0 x1:=by
 have hs4:w.heap.size+1<=w4.heap.size:=by have h1:=hres.lt;have h2:=hb4.size;omega
 have hbf:Below (w.heap.size+1) w4 wf:=(Zg _ _).grown hf hs4 (fun j e=>by injection e with e;omega)
 refine⟨(hp.below hb4).apart (hbf.mono (by omega)),hbox,?_,?_,Bf (hG.trans (A3 Q hb4)) (hbf.mono (by omega)),hX,hg,hXg⟩
 ·exact(hrow.grown (A3 Q hb4) (by omega) (by rintro⟨h,_⟩;omega)).kept hf (fun e=>hXg (by injection e with e;exact e.symm)) (by rintro⟨_,h⟩;exact h rfl)
 ·exact(hbf.block w.heap.size (by omega)).trans (hres.grown (A3 Q hb4) (by omega))
theorem Me(Q B:Nat)(v:Value)(S:Src9)(hl:AP S)(s:PS)(hcd:AM 77 (Bw S) Q B v S s)(hbk:∀s1:PS,s.tok+1<=s1.tok->s1.tok<=S.L.length->AM 35 (Aj S) Q B v S s1):AM 76 (ifC S) Q B v S s:=by
 intro w hp
 have hB:=hp.size
 have hqb:=hp.qb
 have HPA:Hid (Rdr (w.alloc A6) Q B v S s):=hp.below ((Zg _ w).alloc (Z0 _) _)
 have HX:=ZC w
 have HBK:Hid (∀s1:PS,s.tok+1<=s1.tok->s1.tok<=S.L.length->AM 35 (Aj S) Q B v S s1):=hbk
 have e1:A7 ⟨#[101,108,115,101]⟩=Cy:=by decide
 unfold AM at hcd
 unfold ifC
 clear hp hbk
 cases hq:Bw S s with
 | error f=>
  rw[hq]at hcd
  clear hq
  go_enter Tryz.func76,Tryz.ntmps76
  go_wp2_with (first | (go_at_call 77;refine(hcd _ HPA.out).mono ?_;rintro e w1 ⟨rfl,hg1⟩))
  exact⟨rfl,rfl,(Zf w A6 (some Q)).trans hg1⟩
 | ok z=>
  obtain⟨k,s2⟩:=z
  have ht2:=NY hq
  rw[hq]at hcd
  rw[then_ok]
  have hr:∀w',Rdr w' Q B v S s2->Calls Tryz.prog 35 #[.pointer (some ⟨Q,0,none⟩)] w' fun e w''=>BW Q B v S w' (Bo w') (Aj S s2) e w'':=fun w' h'=>HBK.out s2 (by omega) h'.tok w' h'
  have HT2:Hid (s.tok+2<=s2.tok):=ht2
  clear hq ht2
  cases hq:Aj S s2 with
  | error f=>
   rw[hq]at hr
   clear hq
   go_enter Tryz.func76,Tryz.ntmps76
   go_wp2_with (first | (go_at_call 77;refine(hcd _ HPA.out).mono ?_;rintro e w1 ⟨u1,rfl,hv1,hp1,hg1⟩;obtain⟨a,b,c,ad,ln,cp,hu⟩:=NodeV.any hv1;subst hu))
   have hG1:w.grownBy w1 (some Q):=(Zf w A6 (some Q)).trans hg1
   have hRA:∀o1 o2,Rdr ((w1.alloc o1).alloc o2).drew Q B v S s2:=fun o1 o2=>hp1.below (((Zg _ _).alloc (Z0 _) _).alloc (by simp) _).drew
   have hRB:∀o1,Rdr (w1.alloc o1).drew Q B v S s2:=fun o1=>hp1.below ((Zg _ _).alloc (Z0 _) _).drew
   have hGA:∀o1 o2,w.grownBy ((w1.alloc o1).alloc o2).drew (some Q):=fun o1 o2=>hG1.trans (A3 Q (((Zg _ _).alloc (Z0 _) _).alloc (by simp) _).drew)
   have hGB:∀o1,w.grownBy (w1.alloc o1).drew (some Q):=fun o1=>hG1.trans (A3 Q ((Zg _ _).alloc (Z0 _) _).drew)
   obtain⟨⟨r0,r1,r2,r3⟩,_⟩:=(Box4.new w1 (.int .i64 a) (.string b) (.int .i64 c) (.slice ad ln cp)).facts
   go_region_dies
   all_goals
    first
     | (refine(hr _ (hRA _ _)).mono ?_;rintro e w3 ⟨rfl,hg3⟩;exact⟨rfl,rfl,(hGA _ _).trans hg3⟩)
     | (refine(hr _ (hRB _)).mono ?_;rintro e w3 ⟨rfl,hg3⟩;exact⟨rfl,rfl,(hGB _).trans hg3⟩)
  | ok z=>
   obtain⟨m,s3⟩:=z
   have ht3:=(Ms hq).1
   rw[hq]at hr
   rw[then_ok]
   have HT3:Hid (s.tok+3<=s3.tok):=(show s.tok+3<=s3.tok by have:=HT2.out;omega)
   clear hq ht3 HT2
   generalize hGz:(if A2 S Cy s3=true then _ else _:Got Nd)=Gz
   have HGz:Hid ((if A2 S Cy s3=true then(Aj S s3.step).then fun c s=>AJ 9 [] 0 [k,m,c] s else AJ 9 [] 0 [k,m] s3)=Gz):=hGz
   clear hGz
   go_enter Tryz.func76,Tryz.ntmps76
   go_upto_region 2 with(first | (go_at_call 77;refine(hcd _ HPA.out).mono ?_;rintro e w1 ⟨u1,rfl,hv1,hp1,hg1⟩;obtain⟨a,b,c,ad,ln,cp,hu⟩:=NodeV.any hv1;subst hu;have hX1:=HX.out.grown hg1 (by omega);have hl1:=hX1.lt))
   go_cut [4] from 7 to 11 (fun s4 wx=>∃X g x0 x1,s4=.pointer (some ⟨X,0,none⟩)/\Hid (IfS w wx Q B v S s3 X g k m x0 x1))
   case first=>
    have hG1:w.grownBy w1 (some Q):=(Zf w A6 (some Q)).trans hg1
    have hN1:=Box4.new w1 (.int .i64 a) (.string b) (.int .i64 c) (.slice ad ln cp)
    have hRA:∀o2,Rdr ((w1.alloc (.cells #[.int .i64 a,.string b,.int .i64 c,.slice ad ln cp] 24)).alloc o2).drew Q B v S s2:=fun o2=>hp1.below (((Zg _ _).alloc (Z0 _) _).alloc (by simp) _).drew
    have hRB:Rdr (w1.alloc (.cells #[.int .i64 a,.string b,.int .i64 c,.slice ad ln cp] 24)).drew Q B v S s2:=hp1.below ((Zg _ _).alloc (Z0 _) _).drew
    obtain⟨⟨r0,r1,r2,r3⟩,_⟩:=hN1.facts
    have hi3:∀w3:World,((w1.alloc (.cells #[.int .i64 a,.string b,.int .i64 c,.slice ad ln cp] 24)).alloc A6).drew.grownBy w3 (some Q)->Box4 w3 (w1.heap.size+1) (.int .i64 0) (.string ⟨#[]⟩) (.int .i64 0) (.slice none 0 0):=fun w3 h=>by
     have h0:=Box4.new (w1.alloc (.cells #[.int .i64 a,.string b,.int .i64 c,.slice ad ln cp] 24)) (.int .i64 0) (.string ⟨#[]⟩) (.int .i64 0) (.slice none 0 0)
     rw[show(w1.alloc (.cells #[.int .i64 a,.string b,.int .i64 c,.slice ad ln cp] 24)).heap.size=w1.heap.size+1 by simp]at h0
     exact Box4.grown (w:=((w1.alloc (.cells #[.int .i64 a,.string b,.int .i64 c,.slice ad ln cp] 24)).alloc A6).drew) h0 h (by omega)
    have hi4:∀(w3 w4:World) o,Box4 w3 (w1.heap.size+1) (.int .i64 0) (.string ⟨#[]⟩) (.int .i64 0) (.slice none 0 0)->Below (w3.alloc o).heap.size (w3.alloc o) w4->Box4 w4 (w1.heap.size+1) (.int .i64 0) (.string ⟨#[]⟩) (.int .i64 0) (.slice none 0 0):=fun w3 w4 o h hb=>(h.alloc o).grown (A3 Q hb) (by omega)
    have hii:∀(w3 w4:World) o,Below ((w3.alloc A6).alloc o).heap.size ((w3.alloc A6).alloc o) w4->Q<w3.heap.size->Box4 w4 w3.heap.size (.int .i64 0) (.string ⟨#[]⟩) (.int .i64 0) (.slice none 0 0):=fun w3 w4 o hb hq=>((Box4.new w3 (.int .i64 0) (.string ⟨#[]⟩) (.int .i64 0) (.slice none 0 0)).alloc o).grown (A3 Q hb) hq
    have hiii:∀(w3 w4:World) o,Below ((w3.alloc o).alloc A6).heap.size ((w3.alloc o).alloc A6) w4->Q<w3.heap.size->Box4 w4 (w3.heap.size+1) (.int .i64 0) (.string ⟨#[]⟩) (.int .i64 0) (.slice none 0 0):=fun w3 w4 o hb hq=>by
     have h0:=Box4.new (w3.alloc o) (.int .i64 0) (.string ⟨#[]⟩) (.int .i64 0) (.slice none 0 0)
     rw[show(w3.alloc o).heap.size=w3.heap.size+1 by simp]at h0
     exact h0.grown (A3 Q hb) (by omega)
    go_region_with (first | (go_at_call 37;refine(CY _ _ _ _ _).mono ?_;rintro e w4 ⟨rfl,hb4⟩;(try (have hT:=hi4 _ _ _ hZ3 hb4;obtain⟨⟨y0,y1,y2,y3⟩,g0,g1,g2,g3⟩:=hT.facts));(try (have hT:=hii _ _ _ hb4 hq3;obtain⟨⟨y0,y1,y2,y3⟩,g0,g1,g2,g3⟩:=hT.facts));(try (have hT:=hiii _ _ _ hb4 hq3;obtain⟨⟨y0,y1,y2,y3⟩,g0,g1,g2,g3⟩:=hT.facts))) | (go_at_call 35;refine(hr _ (by first | exact hRA _ | exact hRB)).mono ?_;rintro e w3 ⟨u3,rfl,hv3,hp3,hg3⟩;obtain⟨a',b',c',ad',n',cc',hu'⟩:=NodeV.any hv3;subst hu';have hg3':(w1.alloc (.cells #[.int .i64 a,.string b,.int .i64 c,.slice ad ln cp] 24)).grownBy w3 (some Q):=(by first | exact(A3 Q (((Zg _ _).alloc (Z0 _) _).drew)).trans hg3 | exact(A3 Q (Zg _ _).drew).trans hg3);obtain⟨⟨m0,m1,m2,m3⟩,_⟩:=(hN1.grown hg3' (by omega)).facts;have hsz3:=hg3'.size;have hlt3:w1.heap.size<w3.heap.size:=(by simp at hsz3;omega);have hq3:Q<w3.heap.size:=(by omega);(try (have hZ3:=hi3 _ hg3))))
    all_goals go_wp2_with fail
    all_goals
     have hG3:w.grownBy w3 (some Q):=(hG1.trans (Zf _ _ _)).trans hg3'
     have hX3:=(hX1.alloc (.cells #[.int .i64 a,.string b,.int .i64 c,.slice ad ln cp] 24)).grown hg3' (by omega)
     have hs4:=hb4.size
     simp at hs4
     go_meet
    ·obtain⟨x0,x1,hrow⟩:=RowM.two (BB:=w.heap.size+1) (M:=(fun j=>w.heap.size+1<=j/\j≠w4.heap.size)) (NodeV.kept (Zi hv1 (M':=(fun j=>w.heap.size+1<=j/\j≠w4.heap.size)) (fun j hj hlt=>by have hj':_<=j:=hj;simp at hj';exact⟨by omega,by omega⟩)) ((Zf _ _ _).trans hg3') (by rintro⟨h,_⟩;omega)) (Zi hv3 (M':=(fun j=>w.heap.size+1<=j/\j≠w4.heap.size)) (fun j hj hlt=>by have hj':_<=j:=hj;simp at hj';exact⟨by omega,by omega⟩)) (by omega)
     exact⟨w4.heap.size,w3.heap.size,x0,x1,by first | rfl | simp,F8 hB hqb hrow (by omega) (by omega) (by omega) (hp3.below ((Zg _ _).alloc (Z0 _) _)) (hG3.trans (Zf _ _ _)) (hX3.alloc _) hb4 (Zf _ _ _) (Box4.new _ _ _ _ _)⟩
    ·have hT2:Box4 w4 (w3.heap.size+1) (.int .i64 0) (.string ⟨#[]⟩) (.int .i64 0) (.slice none 0 0):=hT
     obtain⟨x0,x1,hrow⟩:=RowM.two (BB:=w.heap.size+1) (M:=(fun j=>w.heap.size+1<=j/\j≠w3.heap.size+1)) (NodeV.kept (Zi hv1 (M':=(fun j=>w.heap.size+1<=j/\j≠w3.heap.size+1)) (fun j hj hlt=>by have hj':_<=j:=hj;simp at hj';exact⟨by omega,by omega⟩)) ((Zf _ _ _).trans hg3') (by rintro⟨h,_⟩;omega)) (Zi hv3 (M':=(fun j=>w.heap.size+1<=j/\j≠w3.heap.size+1)) (fun j hj hlt=>by have hj':_<=j:=hj;simp at hj';exact⟨by omega,by omega⟩)) (by omega)
     exact⟨w3.heap.size+1,w3.heap.size,x0,x1,by first | rfl | simp,F8 hB hqb (hrow.alloc A6) (by omega) (by omega) (by omega) (hp3.below (((Zg _ _).alloc (Z0 _) _).alloc (by simp) _)) ((hG3.trans (Zf _ _ _)).trans (Zf _ _ _)) ((hX3.alloc _).alloc _) hb4 (Dp _ _ _ _ _ _) (hT2.put _ _ _ _)⟩
    ·have hT2:Box4 w4 (w3.heap.size) (.int .i64 0) (.string ⟨#[]⟩) (.int .i64 0) (.slice none 0 0):=hT
     obtain⟨x0,x1,hrow0⟩:=RowM.two (w:=w3.alloc A6) (BB:=w.heap.size+1) (M:=(fun j=>w.heap.size+1<=j/\j≠w3.heap.size)) (NodeV.above (NodeV.kept (Zi hv1 (M':=(fun j=>w.heap.size+1<=j/\j≠w3.heap.size)) (fun j hj hlt=>by have hj':_<=j:=hj;simp at hj';exact⟨by omega,by omega⟩)) ((Zf _ _ _).trans hg3') (by rintro⟨h,_⟩;omega)) (Zh (Zf _ _ none) (fun k e=>by cases e))) (NodeV.above (Zi hv3 (M':=(fun j=>w.heap.size+1<=j/\j≠w3.heap.size)) (fun j hj hlt=>by have hj':_<=j:=hj;simp at hj';exact⟨by omega,by omega⟩)) (Zh (Zf _ _ none) (fun k e=>by cases e))) (by simp;omega)
     have hrow:=hrow0
     rw[show(w3.alloc A6).heap.size=w3.heap.size+1 by simp]at hrow
     exact⟨w3.heap.size,w3.heap.size+1,x0,x1,by first | rfl | simp,F8 hB hqb hrow (by omega) (by omega) (by omega) (hp3.below (((Zg _ _).alloc (Z0 _) _).alloc (by simp) _)) ((hG3.trans (Zf _ _ _)).trans (Zf _ _ _)) ((hX3.alloc _).alloc _) hb4 (Dp _ _ _ _ _ _) (hT2.put _ _ _ _)⟩
    ·have hz3:=hZ3.lt
     have hT2:Box4 w4 (w1.heap.size+1) (.int .i64 0) (.string ⟨#[]⟩) (.int .i64 0) (.slice none 0 0):=hT
     obtain⟨x0,x1,hrow⟩:=RowM.two (BB:=w.heap.size+1) (M:=(fun j=>w.heap.size+1<=j/\j≠w1.heap.size+1)) (NodeV.kept (Zi hv1 (M':=(fun j=>w.heap.size+1<=j/\j≠w1.heap.size+1)) (fun j hj hlt=>by have hj':_<=j:=hj;simp at hj';exact⟨by omega,by omega⟩)) ((Zf _ _ _).trans hg3') (by rintro⟨h,_⟩;omega)) (Zi hv3 (M':=(fun j=>w.heap.size+1<=j/\j≠w1.heap.size+1)) (fun j hj hlt=>by have hj':_<=j:=hj;simp at hj';exact⟨by omega,by omega⟩)) (by omega)
     exact⟨w1.heap.size+1,w3.heap.size,x0,x1,by first | rfl | simp,F8 hB hqb hrow (by omega) (by omega) (by omega) (hp3.below ((Zg _ _).alloc (Z0 _) _)) (hG3.trans (Zf _ _ _)) (hX3.alloc _) hb4 (Dp _ _ _ _ _ _) (hT2.put _ _ _ _)⟩
    ·obtain⟨x0,x1,hrow⟩:=RowM.two (BB:=w.heap.size+1) (M:=(fun j=>w.heap.size+1<=j/\j≠w4.heap.size)) (NodeV.kept (Zi hv1 (M':=(fun j=>w.heap.size+1<=j/\j≠w4.heap.size)) (fun j hj hlt=>by have hj':_<=j:=hj;simp at hj';exact⟨by omega,by omega⟩)) ((Zf _ _ _).trans hg3') (by rintro⟨h,_⟩;omega)) (Zi hv3 (M':=(fun j=>w.heap.size+1<=j/\j≠w4.heap.size)) (fun j hj hlt=>by have hj':_<=j:=hj;simp at hj';exact⟨by omega,by omega⟩)) (by omega)
     exact⟨w4.heap.size,w3.heap.size,x0,x1,by first | rfl | simp,F8 hB hqb hrow (by omega) (by omega) (by omega) (hp3.below ((Zg _ _).alloc (Z0 _) _)) (hG3.trans (Zf _ _ _)) (hX3.alloc _) hb4 (Zf _ _ _) (Box4.new _ _ _ _ _)⟩
    ·have hT2:Box4 w4 (w3.heap.size+1) (.int .i64 0) (.string ⟨#[]⟩) (.int .i64 0) (.slice none 0 0):=hT
     obtain⟨x0,x1,hrow⟩:=RowM.two (BB:=w.heap.size+1) (M:=(fun j=>w.heap.size+1<=j/\j≠w3.heap.size+1)) (NodeV.kept (Zi hv1 (M':=(fun j=>w.heap.size+1<=j/\j≠w3.heap.size+1)) (fun j hj hlt=>by have hj':_<=j:=hj;simp at hj';exact⟨by omega,by omega⟩)) ((Zf _ _ _).trans hg3') (by rintro⟨h,_⟩;omega)) (Zi hv3 (M':=(fun j=>w.heap.size+1<=j/\j≠w3.heap.size+1)) (fun j hj hlt=>by have hj':_<=j:=hj;simp at hj';exact⟨by omega,by omega⟩)) (by omega)
     exact⟨w3.heap.size+1,w3.heap.size,x0,x1,by first | rfl | simp,F8 hB hqb (hrow.alloc A6) (by omega) (by omega) (by omega) (hp3.below (((Zg _ _).alloc (Z0 _) _).alloc (by simp) _)) ((hG3.trans (Zf _ _ _)).trans (Zf _ _ _)) ((hX3.alloc _).alloc _) hb4 (Dp _ _ _ _ _ _) (hT2.put _ _ _ _)⟩
    ·have hT2:Box4 w4 (w3.heap.size) (.int .i64 0) (.string ⟨#[]⟩) (.int .i64 0) (.slice none 0 0):=hT
     obtain⟨x0,x1,hrow0⟩:=RowM.two (w:=w3.alloc A6) (BB:=w.heap.size+1) (M:=(fun j=>w.heap.size+1<=j/\j≠w3.heap.size)) (NodeV.above (NodeV.kept (Zi hv1 (M':=(fun j=>w.heap.size+1<=j/\j≠w3.heap.size)) (fun j hj hlt=>by have hj':_<=j:=hj;simp at hj';exact⟨by omega,by omega⟩)) ((Zf _ _ _).trans hg3') (by rintro⟨h,_⟩;omega)) (Zh (Zf _ _ none) (fun k e=>by cases e))) (NodeV.above (Zi hv3 (M':=(fun j=>w.heap.size+1<=j/\j≠w3.heap.size)) (fun j hj hlt=>by have hj':_<=j:=hj;simp at hj';exact⟨by omega,by omega⟩)) (Zh (Zf _ _ none) (fun k e=>by cases e))) (by simp;omega)
     have hrow:=hrow0
     rw[show(w3.alloc A6).heap.size=w3.heap.size+1 by simp]at hrow
     exact⟨w3.heap.size,w3.heap.size+1,x0,x1,by first | rfl | simp,F8 hB hqb hrow (by omega) (by omega) (by omega) (hp3.below (((Zg _ _).alloc (Z0 _) _).alloc (by simp) _)) ((hG3.trans (Zf _ _ _)).trans (Zf _ _ _)) ((hX3.alloc _).alloc _) hb4 (Dp _ _ _ _ _ _) (hT2.put _ _ _ _)⟩
    ·have hT2:Box4 w4 (w3.heap.size) (.int .i64 0) (.string ⟨#[]⟩) (.int .i64 0) (.slice none 0 0):=hT
     obtain⟨x0,x1,hrow0⟩:=RowM.two (w:=w3.alloc A6) (BB:=w.heap.size+1) (M:=(fun j=>w.heap.size+1<=j/\j≠w3.heap.size)) (NodeV.above (NodeV.kept (Zi hv1 (M':=(fun j=>w.heap.size+1<=j/\j≠w3.heap.size)) (fun j hj hlt=>by have hj':_<=j:=hj;simp at hj';exact⟨by omega,by omega⟩)) ((Zf _ _ _).trans hg3') (by rintro⟨h,_⟩;omega)) (Zh (Zf _ _ none) (fun k e=>by cases e))) (NodeV.above (Zi hv3 (M':=(fun j=>w.heap.size+1<=j/\j≠w3.heap.size)) (fun j hj hlt=>by have hj':_<=j:=hj;simp at hj';exact⟨by omega,by omega⟩)) (Zh (Zf _ _ none) (fun k e=>by cases e))) (by simp;omega)
     have hrow:=hrow0
     rw[show(w3.alloc A6).heap.size=w3.heap.size+1 by simp]at hrow
     exact⟨w3.heap.size,w3.heap.size+1,x0,x1,by first | rfl | simp,F8 hB hqb hrow (by omega) (by omega) (by omega) (hp3.below (((Zg _ _).alloc (Z0 _) _).alloc (by simp) _)) ((hG3.trans (Zf _ _ _)).trans (Zf _ _ _)) ((hX3.alloc _).alloc _) hb4 (Dp _ _ _ _ _ _) (hT2.put _ _ _ _)⟩
    ·have hz3:=hZ3.lt
     have hT2:Box4 w4 (w1.heap.size+1) (.int .i64 0) (.string ⟨#[]⟩) (.int .i64 0) (.slice none 0 0):=hT
     obtain⟨x0,x1,hrow⟩:=RowM.two (BB:=w.heap.size+1) (M:=(fun j=>w.heap.size+1<=j/\j≠w1.heap.size+1)) (NodeV.kept (Zi hv1 (M':=(fun j=>w.heap.size+1<=j/\j≠w1.heap.size+1)) (fun j hj hlt=>by have hj':_<=j:=hj;simp at hj';exact⟨by omega,by omega⟩)) ((Zf _ _ _).trans hg3') (by rintro⟨h,_⟩;omega)) (Zi hv3 (M':=(fun j=>w.heap.size+1<=j/\j≠w1.heap.size+1)) (fun j hj hlt=>by have hj':_<=j:=hj;simp at hj';exact⟨by omega,by omega⟩)) (by omega)
     exact⟨w1.heap.size+1,w3.heap.size,x0,x1,by first | rfl | simp,F8 hB hqb hrow (by omega) (by omega) (by omega) (hp3.below ((Zg _ _).alloc (Z0 _) _)) (hG3.trans (Zf _ _ _)) (hX3.alloc _) hb4 (Dp _ _ _ _ _ _) (hT2.put _ _ _ _)⟩
    ·have hz3:=hZ3.lt
     have hT2:Box4 w4 (w1.heap.size+1) (.int .i64 0) (.string ⟨#[]⟩) (.int .i64 0) (.slice none 0 0):=hT
     obtain⟨x0,x1,hrow⟩:=RowM.two (BB:=w.heap.size+1) (M:=(fun j=>w.heap.size+1<=j/\j≠w1.heap.size+1)) (NodeV.kept (Zi hv1 (M':=(fun j=>w.heap.size+1<=j/\j≠w1.heap.size+1)) (fun j hj hlt=>by have hj':_<=j:=hj;simp at hj';exact⟨by omega,by omega⟩)) ((Zf _ _ _).trans hg3') (by rintro⟨h,_⟩;omega)) (Zi hv3 (M':=(fun j=>w.heap.size+1<=j/\j≠w1.heap.size+1)) (fun j hj hlt=>by have hj':_<=j:=hj;simp at hj';exact⟨by omega,by omega⟩)) (by omega)
     exact⟨w1.heap.size+1,w3.heap.size,x0,x1,by first | rfl | simp,F8 hB hqb hrow (by omega) (by omega) (by omega) (hp3.below ((Zg _ _).alloc (Z0 _) _)) (hG3.trans (Zf _ _ _)) (hX3.alloc _) hb4 (Dp _ _ _ _ _ _) (hT2.put _ _ _ _)⟩
   case rest=>
    obtain⟨X,g,x0,x1,hu,HC⟩:=hcut
    subst hu
    have hp4:=HC.out.rdr
    have hbx:=HC.out.box
    have hrw4:=HC.out.row
    have hrs:=HC.out.res
    have hG4:=HC.out.gro
    obtain⟨hXl,hgl,hXg⟩:=HC.out.low
    have hls:=hrs.lt
    have hQX:Q<X:=by omega
    have hMQ:¬(fun j=>w.heap.size+1<=j/\j≠X) Q:=by rintro⟨h,_⟩;omega
    have hMX:¬(fun j=>w.heap.size+1<=j/\j≠X) X:=by rintro⟨_,h⟩;exact h rfl
    have HGT:Hid (g<wc.heap.size):=(hrw4.lt g rfl).2
    have HX4:Hid (X<wc.heap.size):=hbx.lt
    clear hX1 hl1 HX HPA HC
    cases hse:A2 S Cy s3 with
    | false=>
     have htk:=fun w' (h':Rdr w' Q B v S s3)=>Az hl e1 (by decide) hse w' h'
     have HE:Hid (AJ 9 [] 0 [k,m] s3=Gz):=by have h:=HGz.out;rw[hse,if_neg (by decide)]at h;exact h
     clear hse
     go_wp2_with (first | (go_at_call 49;refine(htk _ hp4).mono ?_;rintro e w5 ⟨rfl,hp5,hg5⟩;have hb5:=hbx.grown hg5 hQX;have hr5:=hrs.grown hg5 (by omega);obtain⟨⟨p0,p1,p2,p3⟩,o0,o1,o2,o3⟩:=hb5.facts;obtain⟨⟨q0,q1,q2,q3⟩,f0,f1,f2,f3⟩:=hr5.facts))
     have hK5:=(hrw4.grown hg5 (by omega) hMQ).kids (fun j e=>by have e':g=j:=(by injection e);subst e';exact⟨hgl,fun e=>hXg e.symm⟩)
     refine bodyPost_ret (v:=.agg #[.int .i64 9,.string ⟨#[]⟩,.int .i64 0,.slice (some ⟨g,0,none⟩) 2 2]) (by simp[results,Tryz.results76,go_sem,q0,q1,q2,q3]) rfl ?_
     rw[<-HE.out]
     unfold AJ
     exact B5 (n:=.mk 9 [] 0 [k,m]) (s':=s3.node) (Zi (M:=(fun j=>w.heap.size+1<=j/\j≠X)) ⟨_,rfl,hK5⟩ (fun j hj _=>hj.1)) (hp5.many _) (hG4.trans hg5) hB
    | true=>
     have htk:=fun w' (h':Rdr w' Q B v S s3)=>BC hl e1 (by decide) (by decide) (by decide) hse w' h'
     have HE:Hid (((Aj S s3.step).then fun c s=>AJ 9 [] 0 [k,m,c] s)=Gz):=by have h:=HGz.out;rw[hse,if_pos rfl]at h;exact h
     clear hse
     have hr3:∀w',Rdr w' Q B v S s3.step->Calls Tryz.prog 35 #[.pointer (some ⟨Q,0,none⟩)] w' fun e w''=>BW Q B v S w' (Bo w') (Aj S s3.step) e w'':=fun w' h'=>HBK.out s3.step (by have:=HT3.out;show s.tok+1<=s3.tok+1;omega) h'.tok w' h'
     cases hq3:Aj S s3.step with
     | error f=>
      have HE2:Hid (Gz=.error f):=by have h:=HE.out;rw[hq3]at h;exact h.symm
      rw[hq3]at hr3
      clear hq3
      go_wp2_with (first | (go_at_call 49;refine(htk _ hp4).mono ?_;rintro e w5 ⟨rfl,hp5,hg5⟩;have hb5:=hbx.grown hg5 hQX;obtain⟨⟨p0,p1,p2,p3⟩,o0,o1,o2,o3⟩:=hb5.facts))
      have hRW:Rdr w5.drew Q B v S s3.step:=hp5.drew
      go_region_dies
      all_goals (refine(hr3 _ hRW).mono ?_;rintro e w6 ⟨rfl,hg6⟩;refine⟨rfl,?_⟩;rw[HE2.out];exact⟨rfl,((hG4.trans hg5).trans (A3 Q (Zg _ _).drew)).trans hg6⟩)
     | ok z=>
      obtain⟨n3,s4⟩:=z
      have HE2:Hid (Gz=AJ 9 [] 0 [k,m,n3] s4):=by have h:=HE.out;rw[hq3,then_ok]at h;exact h.symm
      rw[hq3]at hr3
      clear hq3
      go_wp2_with (first | (go_at_call 49;refine(htk _ hp4).mono ?_;rintro e w5 ⟨rfl,hp5,hg5⟩;have hb5:=hbx.grown hg5 hQX;have hr5:=hrs.grown hg5 (by omega);obtain⟨⟨p0,p1,p2,p3⟩,o0,o1,o2,o3⟩:=hb5.facts))
      have hRW:Rdr w5.drew Q B v S s3.step:=hp5.drew
      have hR5:RowM w5.drew (w.heap.size+1) (fun j=>w.heap.size+1<=j/\j≠X) (.slice (some ⟨g,0,none⟩) 2 2) [(k,x0),(m,x1)]:=(hrw4.grown hg5 (by omega) hMQ).grown (A3 Q (Zg _ _).drew) (by omega) hMQ
      have hs5:=hg5.size
      have hg5l:g<w5.heap.size:=by have:=HGT.out;omega
      have hX5l:X<w5.heap.size:=by have:=HX4.out;omega
      have hw5l:w.heap.size<w5.heap.size:=by omega
      have hlt2:∀j,Value.ownBlock (.slice (some ⟨g,0,none⟩) 2 2)=some j->j=g:=fun j e=>by injection e with e;exact e.symm
      go_region_law (first
       | (refine LE rfl 35 (.tmp 16) _ rfl (.pointer (some ⟨Q,0,none⟩)) (by first | (simp[Act.eval];done) | simp[Act.eval,Act.put]) (fun w=>by kernel_rfl) (hr3 _ hRW) ?_;rintro e w6 ⟨u6,rfl,hv6,hp6,hg6⟩;refine⟨_,rfl,?_⟩;obtain⟨a',b',c',ad',n',cc',hu6⟩:=NodeV.any hv6;subst hu6;have hN6:Box4 w6 X (.int .i64 9) (.string ⟨#[]⟩) (.int .i64 0) (.slice (some ⟨g,0,none⟩) 2 2):=(Box4.grown (w:=w5.drew) hb5 hg6 hQX);obtain⟨⟨q0,q1,q2,q3⟩,_⟩:=hN6.facts;have hl6:=hN6.lt;have hsz6:w5.heap.size<=w6.heap.size:=hg6.size)
       | (obtain⟨x4,hF4⟩:=RowM.first (BB:=w.heap.size+1) (M:=Be w5.heap.size) (Zi hv6 (fun j hj _=>hj)) (by omega);refine Ck rfl (.tmp 15) (.tmp 18) rfl (.slice (some ⟨g,0,none⟩) 2 2) (.slice (some ⟨w6.heap.size,0,none⟩) 1 1) (by first | (simp[Act.eval];done) | simp[Act.eval,Act.put]) (by first | (simp[Act.eval];done) | simp[Act.eval,Act.put]) ((hR5.grown hg6 (by omega) hMQ).alloc (.cells #[.int .i64 a',.string b',.int .i64 c',.slice ad' n' cc'] 24)) hF4.1 (fun z hz=>(hF4.2 z hz).mono (fun j hj _=>by have h1:w5.heap.size<=j:=hj.1;exact⟨⟨by omega,by omega⟩,fun e=>by have:=hlt2 j e;omega⟩)) (by simp) (by simp;omega) ?_;intro v7 w7 hR7 hg7 hor7;have hk7:∀j,j<w5.heap.size->j≠g->w7.heap[j]?=w6.heap[j]?:=(fun j hj hj2=>(hg7.block j (by simp;omega) (fun e=>hj2 (hlt2 j e.symm))).trans (((Zg _ w6).alloc (Z0 _) _).block j (by omega)));have hN7:Box4 w7 X (.int .i64 9) (.string ⟨#[]⟩) (.int .i64 0) (.slice (some ⟨g,0,none⟩) 2 2):=((hk7 X (by omega) hXg).trans hN6);obtain⟨⟨p0,p1,p2,p3⟩,o0,o1,o2,o3⟩:=hN7.facts;have hX7:Box4 w7 w.heap.size (.int .i64 0) (.string ⟨#[]⟩) (.int .i64 0) (.slice none 0 0):=((hk7 w.heap.size (by omega) (by omega)).trans (Box4.grown (w:=w5.drew) hr5 hg6 (by omega)));obtain⟨⟨y0,y1,y2,y3⟩,f0,f1,f2,f3⟩:=hX7.facts;obtain⟨ad5,c5,hv7⟩:=hR7.slice;rw[show([(k,x0),(m,x1)]++[(n3,x4)]).length=3 by rfl]at hv7;subst hv7))
      all_goals go_wp2_with fail
      all_goals
       have hK7:=hR7.kids (fun j e=>by
        rw[e]at hor7
        rcases hor7 with h | h
        ·have:=hlt2 j h.symm;subst this;exact⟨by omega,fun e=>hXg e.symm⟩
        ·have h':j=w6.heap.size+1:=by injection h with h;simpa using h
         exact⟨by omega,by omega⟩)
       have hb67:Below (w.heap.size+1) w6 w7:=((Zg _ w6).alloc (by omega) _).grown hg7 (by simp;omega) (fun j e=>by have:=hlt2 j e;omega)
       have hb68:Below (w.heap.size+1) w6 (w7.setCell ⟨X,3,none⟩ (.slice ad5 3 c5)):=hb67.setCell (by dsimp only;omega) _
       refine bodyPost_ret (v:=.agg #[.int .i64 9,.string ⟨#[]⟩,.int .i64 0,.slice ad5 3 c5]) (by simp[results,Tryz.results76,go_sem,y0,y1,y2,y3]) rfl ?_
       rw[HE2.out]
       unfold AJ
       exact B5 (n:=.mk 9 [] 0 [k,m,n3]) (s':=s4.node) (Zi (M:=(fun j=>w.heap.size+1<=j/\j≠X)) ⟨_,rfl,hK7.above ((Above.refl _ _).set (a:=⟨X,3,none⟩) hMX _)⟩ (fun j hj _=>hj.1)) ((hp6.apart (hb68.mono (by omega))).many _) (Bf (((hG4.trans hg5).trans (A3 Q (Zg _ _).drew)).trans hg6) (hb68.mono (by omega))) hB
end Go.Proofs.YtbglpanjpadldaaGreatDoor
namespace Go.Proofs.YtbglpanjpadldaaGreatDoor
theorem OP(Q B:Nat)(v:Value)(S:Src9)(hl:AP S)(hnf:CE S)(s:PS)(hbk:∀s1:PS,s.tok+1<=s1.tok->s1.tok<=S.L.length->AM 35 (Aj S) Q B v S s1):AM 53 (Cf S) Q B v S s:=by
 intro w hp
 cases hset:Cv S s with
 | true=>
  have nf:∀x,A2 S x s=false:=fun x=>by
   cases h:A2 S x s with
   | false=>rfl
   | true=>rw[SS h]at hset;cases hset
  have e:Cf S s=EU S 8 s:=by rw[Bt];simp only[nf,hset,Bool.false_eq_true,↓reduceIte]
  rw[e]
  exact RC Q B v S hl hnf s (nf _) hset w hp
 | false=>
  cases y:A2 S CT s with
  | true=>
   have e:Cf S s=(EU S 7 s.step):=by rw[Bt];simp only[y,↓reduceIte]
   rw[e]
   exact RB Q B v S hl hnf s y w hp
  | false=>
   have n0:=y
   clear y
   cases y:A2 S wIf s with
   | true=>
    have e:Cf S s=(ifC S s.step):=by rw[Bt];simp only[n0,y,Bool.false_eq_true,↓reduceIte];rfl
    rw[e]
    exact SU Q B v S hl s n0 hset y (ifC S) (Me Q B v S hl s.step (GJ Q B v S hl hnf s.step) (fun s1 h1 h2=>hbk s1 (by have h3:s.tok+1+1<=s1.tok:=h1;omega) h2)) w hp
   | false=>
    have n1:=y
    clear y
    cases y:A2 S C0 s with
    | true=>
     have e:Cf S s=((Bw S s.step).then fun k s=>(Aj S s).then fun b s=>AJ 10 [] 0 [k,b] s):=by rw[Bt];simp only[n0,n1,y,Bool.false_eq_true,↓reduceIte]
     rw[e]
     exact OO Q B v S hl s n0 n1 hset y (GJ Q B v S hl hnf s.step) hbk w hp
    | false=>
     have n2:=y
     clear y
     cases y:A2 S Bs s with
     | true=>
      have e:Cf S s=((Ao S s.step).then fun k s=>(A8 S AQ s).then fun _ s=>AJ 11 [] 0 [k] s):=by rw[Bt];simp only[n0,n1,n2,y,Bool.false_eq_true,↓reduceIte]
      rw[e]
      exact NW Q B v S hl hnf s n0 n1 n2 hset y w hp
     | false=>
      have n3:=y
      clear y
      cases y:A2 S CN s with
      | true=>
       have e:Cf S s=(Ey S 12 s.step):=by rw[Bt];simp only[n0,n1,n2,n3,y,Bool.false_eq_true,↓reduceIte]
       rw[e]
       exact ON Q B v S hl hnf s n0 n1 n2 n3 hset y w hp
      | false=>
       have n4:=y
       clear y
       cases y:A2 S DX s with
       | true=>
        have e:Cf S s=((Aj S s.step).then fun b s=>AJ 13 [] 0 [b] s):=by rw[Bt];simp only[n0,n1,n2,n3,n4,y,Bool.false_eq_true,↓reduceIte]
        rw[e]
        exact Pu Q B v S hl s n0 n1 n2 n3 n4 hset y (hbk s.step (Z0 _) (AG y)) w hp
       | false=>
        have n5:=y
        clear y
        cases y:A2 S Dd s with
        | true=>
         have e:Cf S s=(Ey S 14 s.step):=by rw[Bt];simp only[n0,n1,n2,n3,n4,n5,y,Bool.false_eq_true,↓reduceIte]
         rw[e]
         exact Ps Q B v S hl hnf s n0 n1 n2 n3 n4 n5 hset y w hp
        | false=>
         have n6:=y
         clear y
         cases y:A2 S Cu s with
         | true=>
          have e:Cf S s=(Ey S 15 s.step):=by rw[Bt];simp only[n0,n1,n2,n3,n4,n5,n6,y,Bool.false_eq_true,↓reduceIte]
          rw[e]
          exact NX Q B v S hl hnf s n0 n1 n2 n3 n4 n5 n6 hset y w hp
         | false=>
          have n7:=y
          clear y
          cases y:A2 S Ek s with
          | true=>
           have e:Cf S s=(Gm S 16 s.step):=by rw[Bt];simp only[n0,n1,n2,n3,n4,n5,n6,n7,y,Bool.false_eq_true,↓reduceIte]
           rw[e]
           exact Pt Q B v S hl hnf s n0 n1 n2 n3 n4 n5 n6 n7 hset y w hp
          | false=>
           have n8:=y
           clear y
           have e:Cf S s=((Ao S s).then fun k s=>(A8 S AQ s).then fun _ s=>AJ 17 [] 0 [k] s):=by rw[Bt];simp only[n0,n1,n2,n3,n4,n5,n6,n7,n8,hset,Bool.false_eq_true,↓reduceIte]
           rw[e]
           exact ST Q B v S hl hnf s n0 n1 n2 n3 n4 n5 n6 n7 n8 hset w hp
structure SV(Q B:Nat)(v:Value)(S:Src9)(s:PS):Prop where
 block:AM 35 (Aj S) Q B v S s
 stmt:AM 53 (Cf S) Q B v S s
theorem P2{Q B:Nat}{v:Value}{S:Src9}(hl:AP S)(hnf:CE S)(s:PS)(hx:∀s1:PS,s.tok+1<=s1.tok->s1.tok<=S.L.length->SV Q B v S s1):SV Q B v S s:=
 ⟨NU Q B v S hl s (fun s1 h1 h2=>(hx s1 h1 h2).stmt),OP Q B v S hl hnf s (fun s1 h1 h2=>(hx s1 h1 h2).block)⟩
theorem RD(Q B:Nat)(v:Value)(S:Src9)(hl:AP S)(hnf:CE S):∀(n:Nat) (s:PS),S.left s<=n->SV Q B v S s:=by
 intro n
 induction n with
 | zero=>exact fun s h=>P2 hl hnf s (fun s1 h1 h2=>by unfold Src9.left at h;omega)
 | succ n ih=>exact fun s h=>P2 hl hnf s (fun s1 h1 h2=>ih s1 (by unfold Src9.left at h⊢;omega))
theorem Ib(Q B:Nat)(v:Value)(S:Src9)(hl:AP S)(hnf:CE S)(s:PS):AM 35 (Aj S) Q B v S s:=(RD Q B v S hl hnf _ s (Z0 _)).block
end Go.Proofs.YtbglpanjpadldaaGreatDoor
