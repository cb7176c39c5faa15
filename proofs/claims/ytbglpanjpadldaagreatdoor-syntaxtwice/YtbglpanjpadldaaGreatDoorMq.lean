/- Texts in one. -/
import Derived.Test.YtbglpanjpadldaaGreatDoorMp
import Derived.Defers
import Derived.Recover
set_option maxHeartbeats 32000000
set_option maxRecDepth 20000
namespace Go.Proofs.YtbglpanjpadldaaGreatDoor
open Go.RowKit
theorem Box4.setKids{w:World}{R:Nat}{a b c d:Value}(h:Box4 w R a b c d)(x:Value):Box4 (w.setCell ⟨R,3,none⟩ x) R a b c x:=heap_setCell_same _ _ _ _ _ _ h
theorem Box4.setAt{w:World}{R N j:Nat}{a b c d:Value}(h:Box4 w R a b c d)(hn:R≠N)(x:Value):Box4 (w.setCell ⟨N,j,none⟩ x) R a b c d:=(Zm _ _ _ _ hn).trans h
theorem DH{Q B:Nat}{v:Value}{S:Src9}(hl:AP S){s:PS}{x:ByteArray}{l:List Int}(e:A7 x=l)(hx:D2 l=true)(w:World)(b:Nat)(hb:b=w.heap.size)(hp:Rdr w Q B v S s) :
  Calls Tryz.prog 34 #[.pointer (some ⟨Q,0,none⟩),.slice (some ⟨b,0,none⟩) 1 1] (w.alloc (.cells #[.string x] 9)) fun e w'=>BW Q B v S w (fun _ u _=>u=.tuple #[]) (A8 S l s) e w':=by
 subst hb
 exact JI hl e hx w hp
theorem Fm(Q B:Nat)(M0:Nat->Prop)(v:Value)(S:Src9)(hl:AP S)(s:PS)(kind:Int)(k:Nd)(a:Int)(b:ByteArray)(c:Int)(ad:Option Addr)(ln cp:Nat)(w:World)(hv:NodeV w M0 (.agg #[.int .i64 a,.string b,.int .i64 c,.slice ad ln cp]) k)(hMq:¬M0 Q)(hMn:∀j,w.heap.size<=j->M0 j)(hp:Rdr w Q B v S s) :
  Calls Tryz.prog 78 #[.pointer (some ⟨Q,0,none⟩),.int .i64 kind,.agg #[.int .i64 a,.string b,.int .i64 c,.slice ad ln cp]] w fun e w'=>BW Q B v S w (fun n u w'=>NodeV w' M0 u n) ((A8 S AQ s).then fun _ s=>AJ kind [] 0 [k] s) e w':=by
 have hB:=hp.size
 have hqb:=hp.qb
 have e1:A7 ⟨#[59]⟩=AQ:=by decide
 have hbA:Below w.heap.size w ((w.alloc (.cells #[.int .i64 a,.string b,.int .i64 c,.slice ad ln cp] 24)).alloc A6):=((Zg _ w).alloc (Z0 _) _).alloc (by simp) _
 have HPA:Hid (Rdr ((w.alloc (.cells #[.int .i64 a,.string b,.int .i64 c,.slice ad ln cp] 24)).alloc A6) Q B v S s):=hp.below hbA
 have HK:Hid (Box4 ((w.alloc (.cells #[.int .i64 a,.string b,.int .i64 c,.slice ad ln cp] 24)).alloc A6) w.heap.size (.int .i64 a) (.string b) (.int .i64 c) (.slice ad ln cp)):=(Box4.new _ _ _ _ _).alloc _
 have HX:Hid (Box4 ((w.alloc (.cells #[.int .i64 a,.string b,.int .i64 c,.slice ad ln cp] 24)).alloc A6) (w.heap.size+1) (.int .i64 0) (.string ⟨#[]⟩) (.int .i64 0) (.slice none 0 0)):=by
  show Box4 _ _ _ _ _ _
  have:=Box4.new (w.alloc (.cells #[.int .i64 a,.string b,.int .i64 c,.slice ad ln cp] 24)) (.int .i64 0) (.string ⟨#[]⟩) (.int .i64 0) (.slice none 0 0)
  simpa using this
 have HV:Hid (NodeV w M0 (.agg #[.int .i64 a,.string b,.int .i64 c,.slice ad ln cp]) k):=hv
 have hw1:=fun w' b (hb:b=w'.heap.size) (h':Rdr w' Q B v S s)=>DH hl e1 (by decide) w' b hb h'
 clear hp hv
 cases h1:A8 S AQ s with
 | error f=>
  rw[h1]at hw1
  clear h1
  go_enter Tryz.func78,Tryz.ntmps78
  go_wp2_with (first | (go_at_call 34;refine(hw1 _ _ (by simp) HPA.out).mono ?_;rintro e w1 ⟨rfl,hg1⟩))
  exact⟨rfl,rfl,(A3 Q hbA).trans hg1⟩
 | ok y=>
  obtain⟨⟨⟩,s1⟩:=y
  rw[h1]at hw1
  clear h1
  go_enter Tryz.func78,Tryz.ntmps78
  go_wp2_with (first | (go_at_call 34;refine(hw1 _ _ (by simp) HPA.out).mono ?_;rintro e w1 ⟨u1,rfl,rfl,hp1,hg1⟩;obtain⟨⟨k0,k1,k2,k3⟩,_⟩:=(HK.out.grown hg1 (by omega)).facts;have hX1:=HX.out.grown hg1 (by omega);have hl1:=hX1.lt) | (go_at_call 37;refine(CY _ _ _ _ _).mono ?_;rintro e w4 ⟨rfl,hb4⟩;obtain⟨⟨x0,x1,x2,x3⟩,f0,f1,f2,f3⟩:=((hX1.alloc _).grown (A3 Q hb4) (by omega)).facts))
  have hga:w.grownBy w1 (some Q):=(A3 Q hbA).trans hg1
  have hgb:w.grownBy w4 (some Q):=(hga.trans (Zf _ _ _)).trans (A3 Q hb4)
  have hv1:NodeV w1 (fun j=>M0 j/\j≠w.heap.size+1) (.agg #[.int .i64 a,.string b,.int .i64 c,.slice ad ln cp]) k:=(HV.out.mono (M':=fun j=>M0 j/\j≠w.heap.size+1) (fun j hj hlt=>⟨hj,by omega⟩)).kept hga (by rintro⟨h,_⟩;exact hMq h)
  have hkk:=Gt (kind:=kind) (tx:=[]) (L3 (T:=24) hv1 ⟨hMn _ (by omega),by omega⟩ 1)
  refine bodyPost_ret (v:=.agg #[.int .i64 kind,.string ⟨#[]⟩,.int .i64 0,.slice (some ⟨w1.heap.size,0,none⟩) 1 1]) (by simp[results,Tryz.results78,go_sem,x0,x1,x2,x3]) rfl ⟨_,rfl,?_,(G1 ((hp1.below ((Zg _ _).alloc (Z0 _) _)).below hb4) (by omega) _ _ _ _).many _,Bf hgb (Eg (R:=w.heap.size+1) (by omega) _ _ _ _)⟩
  exact((hkk.above (Zk hb4)).above (Ef (R:=w.heap.size+1) (by rintro⟨_,h⟩;exact h rfl) _ _ _ _)).mono (fun j hj _=>hj.1)
theorem JJ(Q B:Nat)(v:Value)(S:Src9)(hl:AP S)(hnf:CE S)(s:PS)(kind:Int)(w:World)(hp:Rdr w Q B v S s) :
  Calls Tryz.prog 74 #[.pointer (some ⟨Q,0,none⟩),.int .i64 kind] w fun e w'=>BW Q B v S w (Bo w) (EU S kind s) e w':=by
 have hB:=hp.size
 have hqb:=hp.qb
 have HPA:Hid (Rdr (w.alloc A6) Q B v S s):=hp.below ((Zg _ w).alloc (Z0 _) _)
 have HX:=ZC w
 have e1:A7 ⟨#[61]⟩=Ca:=by decide
 have e2:A7 ⟨#[59]⟩=AQ:=by decide
 have hnd:=fun w' (h':Rdr w' Q B v S s)=>DM Q B v S hl s kind w' h'
 unfold EU
 clear hp
 cases h1:Ae S s with
 | error f=>
  rw[h1]at hnd
  clear h1
  go_enter Tryz.func74,Tryz.ntmps74
  go_wp2_with (first | (go_at_call 50;refine(hnd _ HPA.out).mono ?_;rintro e w1 ⟨rfl,hg1⟩))
  exact⟨rfl,rfl,(Zf w A6 (some Q)).trans hg1⟩
 | ok y=>
  obtain⟨x,s1⟩:=y
  rw[h1]at hnd
  rw[then_ok]
  have hw1:=fun w' b (hb:b=w'.heap.size) (h':Rdr w' Q B v S s1)=>DH hl e1 (by decide) w' b hb h'
  clear h1
  have BX:∀w1:World,Rdr w1 Q B v S s1->Rdr (w1.alloc (.cells #[.int .i64 kind,.string (strOfNums x),.int .i64 0,.slice none 0 0] 24)) Q B v S s1:=fun w1 h=>h.below ((Zg _ _).alloc (Z0 _) _)
  cases h2:A8 S Ca s1 with
  | error f=>
   rw[h2]at hw1
   clear h2
   go_enter Tryz.func74,Tryz.ntmps74
   go_wp2_with (first | (go_at_call 50;refine(hnd _ HPA.out).mono ?_;rintro e w1 ⟨u1,rfl,rfl,hp1,hg1⟩) | (go_at_call 34;refine(hw1 _ _ (by simp) (BX _ hp1)).mono ?_;rintro e w2 ⟨rfl,hg2⟩))
   exact⟨rfl,rfl,((Zf w A6 (some Q)).trans hg1).trans ((Zf _ _ _).trans hg2)⟩
  | ok y=>
   obtain⟨⟨⟩,s2⟩:=y
   rw[h2]at hw1
   rw[then_ok]
   have hr:=GI Q B v S hl hnf s2
   unfold AM at hr
   clear h2
   cases h3:Ao S s2 with
   | error f=>
    rw[h3]at hr
    clear h3
    go_enter Tryz.func74,Tryz.ntmps74
    go_wp2_with (first | (go_at_call 50;refine(hnd _ HPA.out).mono ?_;rintro e w1 ⟨u1,rfl,rfl,hp1,hg1⟩) | (go_at_call 34;refine(hw1 _ _ (by simp) (BX _ hp1)).mono ?_;rintro e w2 ⟨u2,rfl,rfl,hp2,hg2⟩) | (go_at_call 79;refine(hr _ hp2).mono ?_;rintro e w3 ⟨rfl,hg3⟩))
    exact⟨rfl,rfl,(((Zf w A6 (some Q)).trans hg1).trans ((Zf _ _ _).trans hg2)).trans hg3⟩
   | ok y=>
    obtain⟨k,s3⟩:=y
    rw[h3]at hr
    rw[then_ok]
    have hw2:=fun w' b (hb:b=w'.heap.size) (h':Rdr w' Q B v S s3)=>DH hl e2 (by decide) w' b hb h'
    clear h3
    cases h4:A8 S AQ s3 with
    | error f=>
     rw[h4]at hw2
     clear h4
     go_enter Tryz.func74,Tryz.ntmps74
     go_wp2_with (first | (go_at_call 34;refine(hw2 _ _ (by simp) (hp3.apart (by first | exact((Zg _ _).setCell (by dsimp only;omega) _).alloc (by simp[World.setCell];omega) _ | exact((Zg _ _).alloc (by omega) _).setCell (by dsimp only;omega) _))).mono ?_;rintro e w5 ⟨rfl,hg5⟩) | (go_at_call 50;refine(hnd _ HPA.out).mono ?_;rintro e w1 ⟨u1,rfl,rfl,hp1,hg1⟩;have hX1:=HX.out.grown hg1 (by omega);have hl1:=hX1.lt) | (go_at_call 34;refine(hw1 _ _ (by simp) (BX _ hp1)).mono ?_;rintro e w2 ⟨u2,rfl,rfl,hp2,hg2⟩;have hN2:=(Box4.new w1 (.int .i64 kind) (.string (strOfNums x)) (.int .i64 0) (.slice none 0 0)).grown hg2 (by omega)) | (go_at_call 79;refine(hr _ hp2).mono ?_;rintro e w3 ⟨u3,rfl,hv3,hp3,hg3⟩;obtain⟨a,b,c,ad,ln,cp,hu⟩:=NodeV.any hv3;subst hu;have hN3:=hN2.grown hg3 (by omega);obtain⟨⟨n0,n1,n2,n3⟩,m0,m1,m2,m3⟩:=hN3.facts;have hl3:=hN3.lt))
     have hbW:Below w.heap.size w3 ((w3.setCell ⟨w1.heap.size,3,none⟩ (.slice (some ⟨w3.heap.size,0,none⟩) 1 1)).alloc (.cells #[.int .i64 a,.string b,.int .i64 c,.slice ad ln cp] 24)):=((Zg _ _).setCell (by dsimp only;omega) _).alloc (by simp[World.setCell];omega) _
     exact⟨rfl,rfl,(Bf ((((Zf w A6 (some Q)).trans hg1).trans ((Zf _ _ _).trans hg2)).trans hg3) hbW).trans hg5⟩
    | ok y=>
     obtain⟨⟨⟩,s4⟩:=y
     rw[h4]at hw2
     rw[then_ok]
     clear h4
     go_enter Tryz.func74,Tryz.ntmps74
     go_wp2_with (first | (go_at_call 34;refine(hw2 _ _ (by simp) (hp3.apart (by first | exact((Zg _ _).setCell (by dsimp only;omega) _).alloc (by simp[World.setCell];omega) _ | exact((Zg _ _).alloc (by omega) _).setCell (by dsimp only;omega) _))).mono ?_;rintro e w5 ⟨u5,rfl,rfl,hp5,hg5⟩;have hsz5:=hg5.size;have hN4:Box4 ((w3.setCell ⟨w1.heap.size,3,none⟩ (.slice (some ⟨w3.heap.size,0,none⟩) 1 1)).alloc (.cells #[.int .i64 a,.string b,.int .i64 c,.slice ad ln cp] 24)) w1.heap.size (.int .i64 kind) (.string (strOfNums x)) (.int .i64 0) (.slice (some ⟨w3.heap.size,0,none⟩) 1 1):=((hN3.setKids _).alloc _);obtain⟨⟨p0,p1,p2,p3⟩,_⟩:=(hN4.grown hg5 (by omega)).facts;have hX4:Box4 ((w3.setCell ⟨w1.heap.size,3,none⟩ (.slice (some ⟨w3.heap.size,0,none⟩) 1 1)).alloc (.cells #[.int .i64 a,.string b,.int .i64 c,.slice ad ln cp] 24)) w.heap.size (.int .i64 0) (.string ⟨#[]⟩) (.int .i64 0) (.slice none 0 0):=((hX3.setAt (by omega) _).alloc _);obtain⟨⟨x0,x1,x2,x3⟩,f0,f1,f2,f3⟩:=(hX4.grown hg5 (by omega)).facts) | (go_at_call 50;refine(hnd _ HPA.out).mono ?_;rintro e w1 ⟨u1,rfl,rfl,hp1,hg1⟩;have hX1:=HX.out.grown hg1 (by omega);have hl1:=hX1.lt) | (go_at_call 34;refine(hw1 _ _ (by simp) (BX _ hp1)).mono ?_;rintro e w2 ⟨u2,rfl,rfl,hp2,hg2⟩;have hsz2:=hg2.size;have hN2:=(Box4.new w1 (.int .i64 kind) (.string (strOfNums x)) (.int .i64 0) (.slice none 0 0)).grown hg2 (by omega)) | (go_at_call 79;refine(hr _ hp2).mono ?_;rintro e w3 ⟨u3,rfl,hv3,hp3,hg3⟩;obtain⟨a,b,c,ad,ln,cp,hu⟩:=NodeV.any hv3;subst hu;have hN3:=hN2.grown hg3 (by omega);obtain⟨⟨n0,n1,n2,n3⟩,m0,m1,m2,m3⟩:=hN3.facts;have hl3:=hN3.lt;have hX3:Box4 w3 w.heap.size (.int .i64 0) (.string ⟨#[]⟩) (.int .i64 0) (.slice none 0 0):=((hX1.alloc _).grown hg2 (by omega)).grown hg3 (by omega)))
     have hga:w.grownBy w3 (some Q):=(((Zf w A6 (some Q)).trans hg1).trans ((Zf _ _ _).trans hg2)).trans hg3
     have hbW:Below w.heap.size w3 ((w3.setCell ⟨w1.heap.size,3,none⟩ (.slice (some ⟨w3.heap.size,0,none⟩) 1 1)).alloc (.cells #[.int .i64 a,.string b,.int .i64 c,.slice ad ln cp] 24)):=((Zg _ _).setCell (by dsimp only;omega) _).alloc (by simp[World.setCell];omega) _
     simp at hsz2
     have hv4:NodeV w3 (fun j=>w.heap.size+1<=j/\j≠w1.heap.size) (.agg #[.int .i64 a,.string b,.int .i64 c,.slice ad ln cp]) k:=Zi hv3 (fun j hj _=>by have hj':w2.heap.size<=j:=hj;exact⟨by omega,by omega⟩)
     have hkk:=L3 (T:=24) (hv4.above ((Above.refl _ _).set (a:=⟨w1.heap.size,3,none⟩) (by rintro⟨_,h⟩;exact h rfl) (.slice (some ⟨w3.heap.size,0,none⟩) 1 1))) (by simp[World.setCell];omega) 1
     rw[show(w3.setCell ⟨w1.heap.size,3,none⟩ (.slice (some ⟨w3.heap.size,0,none⟩) 1 1)).heap.size=w3.heap.size by simp[World.setCell]]at hkk
     refine bodyPost_ret (v:=.agg #[.int .i64 kind,.string (strOfNums x),.int .i64 0,.slice (some ⟨w3.heap.size,0,none⟩) 1 1]) (by simp[results,Tryz.results74,go_sem,x0,x1,x2,x3]) rfl ?_
     exact B5 (n:=.mk kind x 0 [k]) (s':=s4.node) ((Zi (Gt (tx:=x) hkk) (M':=Be (w.heap.size+1)) (fun j hj _=>hj.1)).kept hg5 (by show ¬w.heap.size+1<=Q;omega)) (hp5.many _) ((Bf hga hbW).trans hg5) hB
theorem Ti{Q B:Nat}{v:Value}{S:Src9}(hl:AP S){s:PS}{x y:ByteArray}{l m:List Int}(e:A7 x=l)(e':A7 y=m)(hx:D2 l=true)(hy:D2 m=true)(w:World)(b:Nat)(hb:b=w.heap.size)(hp:Rdr w Q B v S s) :
  Calls Tryz.prog 34 #[.pointer (some ⟨Q,0,none⟩),.slice (some ⟨b,0,none⟩) 2 2] (w.alloc (.cells #[.string x,.string y] 9)) fun e w'=>BW Q B v S w (fun _ u _=>u=.tuple #[]) (Do S [l,m] s) e w':=by
 subst hb
 have hq:=hp.obj.lt
 have h:=MH Q B v S hl s [x,y] (fun z hz=>by simp only[List.mem_cons,List.not_mem_nil,or_false]at hz;rcases hz with h | h<;>rw[h]<;>first | (rw[e];exact hx) | (rw[e'];exact hy)) (by simp) (.slice (some ⟨w.heap.size,0,none⟩) 2 2) (w.alloc (.cells #[.string x,.string y] 9)) ⟨w.heap.size,2,rfl,by simp,by omega,fun k hk=>by
  have hk2:k=0\/k=1:=by simp at hk;omega
  rcases hk2 with rfl | rfl
  ·exact cell_of_row _ _ _ _ _ _ (heap_alloc_new w _)
  ·exact cell_of_row _ _ _ _ _ _ (heap_alloc_new w _)⟩ (hp.below ((Zg _ _).alloc (Z0 _) _))
 have e2:Do S ([x,y].map A7) s=Do S [l,m] s:=by rw[<-e,<-e'];rfl
 rw[e2]at h
 refine h.mono fun e' w' h'=>?_
 cases hw:Do S [l,m] s with
 | error f=>
  rw[hw]at h'
  exact⟨h'.1,(Zf _ _ _).trans h'.2⟩
 | ok y=>
  obtain⟨⟨⟩,s1⟩:=y
  rw[hw]at h'
  obtain⟨u,h1,h2,h3,h4⟩:=h'
  exact⟨u,h1,h2,h3,(Zf _ _ _).trans h4⟩
theorem R7(S:Src9)(s:PS):Gm S 16 s=(A8 S AD s).then fun _ s=>(Ao S s).then fun k s=>(A8 S An s).then fun _ s=>(Ao S s).then fun m s=>(Do S [A9,AQ] s).then fun _ s=>AJ 16 [] 0 [k,m] s:=by
 unfold Gm
 refine A4 rfl fun u s1 _=>A4 rfl fun k s2 _=>A4 rfl fun u2 s3 _=>A4 rfl fun m s4 _=>?_
 show _=((A8 S A9 s4).then fun _ s=>(A8 S AQ s).then fun _ s=>.ok ((),s)).then _
 rw[BO]
 refine A4 rfl fun u5 s5 _=>?_
 rw[BO]
 refine A4 rfl fun u6 s6 _=>?_
 rfl
theorem Mc(Q B:Nat)(v:Value)(S:Src9)(hl:AP S)(hnf:CE S)(s:PS):AM 80 (Gm S 16) Q B v S s:=by
 intro w hp
 have hB:=hp.size
 have hqb:=hp.qb
 have HPA:Hid (Rdr (w.alloc A6) Q B v S s):=hp.below ((Zg _ w).alloc (Z0 _) _)
 have HX:=ZC w
 have e1:A7 ⟨#[40]⟩=AD:=by decide
 have e2:A7 ⟨#[44]⟩=An:=by decide
 have e3:A7 ⟨#[41]⟩=A9:=by decide
 have e4:A7 ⟨#[59]⟩=AQ:=by decide
 rw[R7]
 clear hp
 have hw1:=fun w' b (hb:b=w'.heap.size) (h':Rdr w' Q B v S s)=>DH hl e1 (by decide) w' b hb h'
 cases hq:A8 S AD s with
 | error f=>
  rw[hq]at hw1
  clear hq
  go_enter Tryz.func80,Tryz.ntmps80
  go_wp2_with (first | (go_at_call 34;refine(hw1 _ _ (by simp) HPA.out).mono ?_;rintro e w1 ⟨rfl,hg1⟩))
  exact⟨rfl,rfl,((Zf w A6 (some Q)).trans hg1)⟩
 | ok y=>
  obtain⟨⟨⟩,s1⟩:=y
  rw[hq]at hw1
  rw[then_ok]
  clear hq
  have hr2:=GI Q B v S hl hnf s1
  unfold AM at hr2
  cases hq:Ao S s1 with
  | error f=>
   rw[hq]at hr2
   clear hq
   go_enter Tryz.func80,Tryz.ntmps80
   go_wp2_with (first | (go_at_call 79;refine(hr2 _ hp1).mono ?_;rintro e w2 ⟨rfl,hg2⟩) | (go_at_call 34;refine(hw1 _ _ (by simp) HPA.out).mono ?_;rintro e w1 ⟨u1,rfl,rfl,hp1,hg1⟩;have hX1:=HX.out.grown hg1 (by omega);have hl1:=hX1.lt))
   exact⟨rfl,rfl,(((Zf w A6 (some Q)).trans hg1).trans hg2)⟩
  | ok y=>
   obtain⟨k,s2⟩:=y
   rw[hq]at hr2
   rw[then_ok]
   clear hq
   have hw3:=fun w' b (hb:b=w'.heap.size) (h':Rdr w' Q B v S s2)=>DH hl e2 (by decide) w' b hb h'
   cases hq:A8 S An s2 with
   | error f=>
    rw[hq]at hw3
    clear hq
    go_enter Tryz.func80,Tryz.ntmps80
    go_wp2_with (first | (go_at_call 34;refine(hw3 _ _ (by simp) (hp2.below ((Zg _ _).alloc (Z0 _) _))).mono ?_;rintro e w3 ⟨rfl,hg3⟩) | (go_at_call 79;refine(hr2 _ hp1).mono ?_;rintro e w2 ⟨u2,rfl,hv2,hp2,hg2⟩;obtain⟨a,b,c,ad,ln,cp,hu⟩:=NodeV.any hv2;subst hu;have hX2:=hX1.grown hg2 (by omega);have hl2:=hX2.lt;have hs12:=hg2.size) | (go_at_call 34;refine(hw1 _ _ (by simp) HPA.out).mono ?_;rintro e w1 ⟨u1,rfl,rfl,hp1,hg1⟩;have hX1:=HX.out.grown hg1 (by omega);have hl1:=hX1.lt))
    exact⟨rfl,rfl,((((Zf w A6 (some Q)).trans hg1).trans hg2).trans ((Zf _ _ _).trans hg3))⟩
   | ok y=>
    obtain⟨⟨⟩,s3⟩:=y
    rw[hq]at hw3
    rw[then_ok]
    clear hq
    have hr4:=GI Q B v S hl hnf s3
    unfold AM at hr4
    cases hq:Ao S s3 with
    | error f=>
     rw[hq]at hr4
     clear hq
     go_enter Tryz.func80,Tryz.ntmps80
     go_wp2_with (first | (go_at_call 79;refine(hr4 _ hp3).mono ?_;rintro e w4 ⟨rfl,hg4⟩) | (go_at_call 34;refine(hw3 _ _ (by simp) (hp2.below ((Zg _ _).alloc (Z0 _) _))).mono ?_;rintro e w3 ⟨u3,rfl,rfl,hp3,hg3⟩;have hX3:=(hX2.alloc _).grown hg3 (by omega);have hN3:=(Box4.new w2 (.int .i64 a) (.string b) (.int .i64 c) (.slice ad ln cp)).grown hg3 (by omega);have hl3:=hN3.lt) | (go_at_call 79;refine(hr2 _ hp1).mono ?_;rintro e w2 ⟨u2,rfl,hv2,hp2,hg2⟩;obtain⟨a,b,c,ad,ln,cp,hu⟩:=NodeV.any hv2;subst hu;have hX2:=hX1.grown hg2 (by omega);have hl2:=hX2.lt;have hs12:=hg2.size) | (go_at_call 34;refine(hw1 _ _ (by simp) HPA.out).mono ?_;rintro e w1 ⟨u1,rfl,rfl,hp1,hg1⟩;have hX1:=HX.out.grown hg1 (by omega);have hl1:=hX1.lt))
     exact⟨rfl,rfl,(((((Zf w A6 (some Q)).trans hg1).trans hg2).trans ((Zf _ _ _).trans hg3)).trans hg4)⟩
    | ok y=>
     obtain⟨m,s4⟩:=y
     rw[hq]at hr4
     rw[then_ok]
     clear hq
     have hw5:=fun w' b (hb:b=w'.heap.size) (h':Rdr w' Q B v S s4)=>Ti hl e3 e4 (by decide) (by decide) w' b hb h'
     cases hq:Do S [A9,AQ] s4 with
     | error f=>
      rw[hq]at hw5
      clear hq
      go_enter Tryz.func80,Tryz.ntmps80
      go_wp2_with (first | (go_at_call 34;refine(hw5 _ _ (by simp) (hp4.below ((Zg _ _).alloc (Z0 _) _))).mono ?_;rintro e w5 ⟨rfl,hg5⟩) | (go_at_call 79;refine(hr4 _ hp3).mono ?_;rintro e w4 ⟨u4,rfl,hv4,hp4,hg4⟩;obtain⟨a2,b2,c2,ad2,ln2,cp2,hu⟩:=NodeV.any hv4;subst hu;have hX4:=hX3.grown hg4 (by omega);have hN4:=hN3.grown hg4 (by omega);have hl4:=hN4.lt;have hs34:=hg4.size) | (go_at_call 34;refine(hw3 _ _ (by simp) (hp2.below ((Zg _ _).alloc (Z0 _) _))).mono ?_;rintro e w3 ⟨u3,rfl,rfl,hp3,hg3⟩;have hX3:=(hX2.alloc _).grown hg3 (by omega);have hN3:=(Box4.new w2 (.int .i64 a) (.string b) (.int .i64 c) (.slice ad ln cp)).grown hg3 (by omega);have hl3:=hN3.lt) | (go_at_call 79;refine(hr2 _ hp1).mono ?_;rintro e w2 ⟨u2,rfl,hv2,hp2,hg2⟩;obtain⟨a,b,c,ad,ln,cp,hu⟩:=NodeV.any hv2;subst hu;have hX2:=hX1.grown hg2 (by omega);have hl2:=hX2.lt;have hs12:=hg2.size) | (go_at_call 34;refine(hw1 _ _ (by simp) HPA.out).mono ?_;rintro e w1 ⟨u1,rfl,rfl,hp1,hg1⟩;have hX1:=HX.out.grown hg1 (by omega);have hl1:=hX1.lt))
      exact⟨rfl,rfl,((((((Zf w A6 (some Q)).trans hg1).trans hg2).trans ((Zf _ _ _).trans hg3)).trans hg4).trans ((Zf _ _ _).trans hg5))⟩
     | ok y=>
      obtain⟨⟨⟩,s5⟩:=y
      rw[hq]at hw5
      rw[then_ok]
      clear hq
      go_enter Tryz.func80,Tryz.ntmps80
      go_wp2_with (first | (go_at_call 37;refine(CY _ _ _ _ _).mono ?_;rintro e w6 ⟨rfl,hb6⟩;obtain⟨⟨x0,x1,x2,x3⟩,f0,f1,f2,f3⟩:=((hX5.alloc _).grown (A3 Q hb6) (by omega)).facts) | (go_at_call 34;refine(hw5 _ _ (by simp) (hp4.below ((Zg _ _).alloc (Z0 _) _))).mono ?_;rintro e w5 ⟨u5,rfl,rfl,hp5,hg5⟩;have hX5:=(hX4.alloc _).grown hg5 (by omega);have hN5:=(hN4.alloc _).grown hg5 (by omega);have hM5:=(Box4.new w4 (.int .i64 a2) (.string b2) (.int .i64 c2) (.slice ad2 ln2 cp2)).grown hg5 (by omega);obtain⟨⟨n0,n1,n2,n3⟩,_⟩:=hN5.facts;obtain⟨⟨m0,m1,m2,m3⟩,_⟩:=hM5.facts;have hl5:=hM5.lt) | (go_at_call 79;refine(hr4 _ hp3).mono ?_;rintro e w4 ⟨u4,rfl,hv4,hp4,hg4⟩;obtain⟨a2,b2,c2,ad2,ln2,cp2,hu⟩:=NodeV.any hv4;subst hu;have hX4:=hX3.grown hg4 (by omega);have hN4:=hN3.grown hg4 (by omega);have hl4:=hN4.lt;have hs34:=hg4.size) | (go_at_call 34;refine(hw3 _ _ (by simp) (hp2.below ((Zg _ _).alloc (Z0 _) _))).mono ?_;rintro e w3 ⟨u3,rfl,rfl,hp3,hg3⟩;have hX3:=(hX2.alloc _).grown hg3 (by omega);have hN3:=(Box4.new w2 (.int .i64 a) (.string b) (.int .i64 c) (.slice ad ln cp)).grown hg3 (by omega);have hl3:=hN3.lt) | (go_at_call 79;refine(hr2 _ hp1).mono ?_;rintro e w2 ⟨u2,rfl,hv2,hp2,hg2⟩;obtain⟨a,b,c,ad,ln,cp,hu⟩:=NodeV.any hv2;subst hu;have hX2:=hX1.grown hg2 (by omega);have hl2:=hX2.lt;have hs12:=hg2.size) | (go_at_call 34;refine(hw1 _ _ (by simp) HPA.out).mono ?_;rintro e w1 ⟨u1,rfl,rfl,hp1,hg1⟩;have hX1:=HX.out.grown hg1 (by omega);have hl1:=hX1.lt))
      have hs45:=hg5.size
      simp at hs45
      have hs23:=hg3.size
      simp at hs23
      have hg25:w2.grownBy w5 (some Q):=(((Zf w2 (.cells #[.int .i64 a,.string b,.int .i64 c,.slice ad ln cp] 24) (some Q)).trans hg3).trans hg4).trans ((Zf _ _ _).trans hg5)
      have hq1:¬Be (w.heap.size+1) Q:=by show ¬w.heap.size+1<=Q;omega
      have hk5:NodeV w5 (Be (w.heap.size+1)) (.agg #[.int .i64 a,.string b,.int .i64 c,.slice ad ln cp]) k:=(Zi hv2 (M':=Be (w.heap.size+1)) (fun j hj _=>by have hj':w1.heap.size<=j:=hj;show w.heap.size+1<=j;omega)).kept hg25 hq1
      have hm5:NodeV w5 (Be (w.heap.size+1)) (.agg #[.int .i64 a2,.string b2,.int .i64 c2,.slice ad2 ln2 cp2]) m:=(Zi hv4 (M':=Be (w.heap.size+1)) (fun j hj _=>by have hj':w3.heap.size<=j:=hj;show w.heap.size+1<=j;omega)).kept ((Zf _ _ _).trans hg5) hq1
      refine bodyPost_ret (v:=.agg #[.int .i64 16,.string ⟨#[]⟩,.int .i64 0,.slice (some ⟨w5.heap.size,0,none⟩) 2 2]) (by simp[results,Tryz.results80,go_sem,x0,x1,x2,x3]) rfl ?_
      exact Dx (Pf (T:=24) hk5 hm5 (by show w.heap.size+1<=w5.heap.size;omega) 2) hb6 (hp5.below ((Zg _ _).alloc (Z0 _) _)) (((((((Zf w A6 (some Q)).trans hg1).trans hg2).trans ((Zf _ _ _).trans hg3)).trans hg4).trans ((Zf _ _ _).trans hg5)).trans (Zf _ _ _)) hB
theorem Jy(Q B:Nat)(v:Value)(S:Src9)(s:PS)(w:World)(hp:Rdr w Q B v S s) :
  Calls Tryz.prog 75 #[.pointer (some ⟨Q,0,none⟩)] w fun e w'=>e=.returned (.bool (Cv S s))/\Below w.heap.size w w':=by
 have hB:=hp.size
 have hqb:=hp.qb
 have hn:=C6 Q B v S s w hp
 unfold Cr at hn
 have hf0:=GW
 have hf1:=Ji
 have HP:Hid (Rdr w Q B v S s):=hp
 by_cases hi:isB S 1 s=true
 ·obtain⟨ht,hk⟩:=Ft hi
  have hkd:(S.kind s != 1)=false:=by
   unfold Src9.kind
   rw[if_pos ht,hk]
   rfl
  have hfew:=hp.few
  have hw:=C4 (x:=(s.tok:Int)+1) (by omega) (by omega)
  have HE:Hid (Cv S s=((strOfNums (S.text s.step)).toList==[61])):=by
   show _=_
   unfold Cv
   rw[hi,Bool.true_and]
   have ebt:DV S.L:=hp.base.bytes
   have e1:s.step.tok=s.tok+1:=rfl
   by_cases h2:s.tok+1<S.L.length
   ·rw[decide_eq_true h2,Bool.true_and]
    have et:S.text s.step=(S.at (s.tok+1)).2.1:=by unfold Src9.text;rw[e1,if_pos h2]
    rw[et]
    by_cases he:(S.at (s.tok+1)).2.1=Ca
    ·rw[he,ByteArray.toList_eq];decide
    ·rw[beq_eq_false_iff_ne.2 he]
     refine(FH (l:=[61]) fun e=>he ?_).symm
     rw[<-et]at e⊢
     exact I4 ebt e
   ·rw[decide_eq_false h2,Bool.false_and]
    have et:S.text s.step=[]:=by unfold Src9.text;rw[e1,if_neg h2]
    rw[et]
    exact(FH (l:=[61]) (by decide)).symm
  obtain⟨ad,c,hv,_⟩:=hp.base.toks
  subst hv
  have hn2:∀w1,Below w.heap.size w w1->Calls Tryz.prog 54 #[.pointer (some ⟨w1.heap.size,0,none⟩)] (w1.alloc (.cells #[.slice ad S.L.length c,.int .i64 ((s.tok:Int)+1),.int .i64 (S.fin:Int),.int .i64 s.deep] 53)) fun e w'=>e=.returned (Cr S s.step)/\Below (w1.alloc (.cells #[.slice ad S.L.length c,.int .i64 ((s.tok:Int)+1),.int .i64 (S.fin:Int),.int .i64 s.deep] 53)).heap.size (w1.alloc (.cells #[.slice ad S.L.length c,.int .i64 ((s.tok:Int)+1),.int .i64 (S.fin:Int),.int .i64 s.deep] 53)) w':=fun w1 hb1=>by
   have hp1:=HP.out.below hb1
   have hq1:=hp1.obj.lt
   have hlo:=hp1.lo
   refine C6 w1.heap.size (w1.heap.size+1) (.slice ad S.L.length c) S s.step _ ⟨⟨by omega,by simp,?_,hp1.base.few,hp1.base.bytes⟩,heap_alloc_new w1 _,by show s.tok+1<=_;omega,by show -((s.tok+1:Nat):Int)<=s.deep;omega,hp1.hi⟩
   obtain⟨ad2,c2,hv2,hr2⟩:=hp1.base.toks
   refine⟨ad2,c2,hv2,fun h0=>?_⟩
   obtain⟨b,off,he,hlt,hbq,hc⟩:=hr2 h0
   have hba:Below w1.heap.size w1 (w1.alloc (.cells #[.slice ad S.L.length c,.int .i64 ((s.tok:Int)+1),.int .i64 (S.fin:Int),.int .i64 s.deep] 53)):=(Zg _ _).alloc (Z0 _) _
   refine⟨b,off,he,by simp;omega,by omega,fun k hk=>?_⟩
   obtain⟨c1,c2,c3⟩:=hc k hk
   exact⟨by rw[hba.cell (p:=⟨b,off+k*3,none⟩) hlt];exact c1,by rw[hba.cell (p:=⟨b,off+k*3+1,none⟩) hlt];exact c2,by rw[hba.cell (p:=⟨b,off+k*3+2,none⟩) hlt];exact c3⟩
  unfold Cr at hn2
  rw[HE.out]
  generalize strOfNums (S.text s.step)=tx at *
  generalize S.kind s=kd at *
  clear hp hi hk HE
  go_enter Tryz.func75,Tryz.ntmps75
  go_wp2_with (first | (go_at_call 54;refine(hn2 w1 hb1).mono ?_;rintro e w2 ⟨rfl,hb2⟩) | (go_at_call 54;refine hn.mono ?_;rintro e w1 ⟨rfl,hb1⟩;have hp1:=HP.out.below hb1;obtain⟨k0,k1,k2,k3⟩:=hp1.obj.cells))
  go_ret
  exact⟨rfl,hb1.trans ((((Zg _ w1).alloc (Z0 _) _).trans (hb2.mono (by simp))).mono hb1.size)⟩
 ·have hkd:(S.kind s != 1)=true:=by
   rw[bne_iff_ne]
   intro hk
   unfold Src9.kind at hk
   by_cases ht:s.tok<S.L.length
   ·rw[if_pos ht]at hk
    exact hi (by unfold isB;rw[decide_eq_true ht,hk];rfl)
   ·rw[if_neg ht]at hk
    exact absurd hk (by decide)
  have HE:Hid (Cv S s=false):=by
   show _=_
   unfold Cv
   rw[show isB S 1 s=false by simpa using hi,Bool.false_and]
  rw[HE.out]
  generalize S.kind s=kd at *
  clear hp hi HE
  go_enter Tryz.func75,Tryz.ntmps75
  go_wp2_with (first | (go_at_call 54;refine hn.mono ?_;rintro e w1 ⟨rfl,hb1⟩))
  go_ret
  exact⟨rfl,hb1⟩
theorem MQ{S:Src9}(hl:AP S)(s:PS):(A2 S Au s=true->CP S Au s=.ok (true,{ s with tok:=s.tok+1,deep:=s.deep-1 })/\A8 S Au s=.ok ((),{ s with tok:=s.tok+1,deep:=s.deep-1 }))/\(A2 S Au s=false->CP S Au s=.ok (false,s)):=by
 refine⟨fun h=>?_,fun h=>?_⟩
 ·have h':=h
  rw[Co hl (by decide)]at h'
  have e:S.text s=Au:=by simpa using h'
  refine⟨?_,?_⟩
  ·unfold CP Bx
   rw[if_pos e,e,if_neg (by decide),if_pos (by decide),then_ok]
  ·unfold A8
   rw[if_pos h,if_neg (by decide),if_pos (by decide)]
 ·rw[Co hl (by decide)]at h
  unfold CP
  rw[if_neg (by simpa using h)]
theorem NU(Q B:Nat)(v:Value)(S:Src9)(hl:AP S)(s:PS)(hst:∀s1:PS,s.tok+1<=s1.tok->s1.tok<=S.L.length->AM 53 (Cf S) Q B v S s1):AM 35 (Aj S) Q B v S s:=by
 intro w hp
 have hB:=hp.size
 have hqb:=hp.qb
 have e1:A7 ⟨#[123]⟩=Ai:=by decide
 have e2:A7 ⟨#[125]⟩=Au:=by decide
 have HPA:Hid (Rdr (w.alloc A6) Q B v S s):=hp.below ((Zg _ w).alloc (Z0 _) _)
 have HX:=ZC w
 have hw1:=fun w' b (hb:b=w'.heap.size) (h':Rdr w' Q B v S s)=>DH hl e1 (by decide) w' b hb h'
 have HST:Hid (∀s1:PS,s.tok+1<=s1.tok->s1.tok<=S.L.length->AM 53 (Cf S) Q B v S s1):=hst
 rw[Mt]
 clear hp hst
 cases h1:A8 S Ai s with
 | error f=>
  rw[h1]at hw1
  clear h1
  go_enter Tryz.func35,Tryz.ntmps35
  go_wp2_with (first | (go_at_call 34;refine(hw1 _ _ (by simp) HPA.out).mono ?_;rintro e w1 ⟨rfl,hg1⟩))
  exact⟨rfl,rfl,(Zf w A6 (some Q)).trans hg1⟩
 | ok y=>
  obtain⟨⟨⟩,s1⟩:=y
  obtain⟨t1,t2⟩:=Eh h1
  rw[h1]at hw1
  rw[then_ok]
  obtain⟨g,HG⟩:∃g,Hid (((EN S s1).then fun ks s=>(A8 S Au s).then fun _ s=>AJ 6 [] 0 ks s)=g):=⟨_,rfl⟩
  rw[HG.out]
  have HT1:Hid (s.tok+1<=s1.tok):=(show s.tok+1<=s1.tok by omega)
  clear h1 t1 t2
  go_enter Tryz.func35,Tryz.ntmps35
  go_wp2_with (first | (go_at_call 34;refine(hw1 _ _ (by simp) HPA.out).mono ?_;rintro e w1 ⟨u1,rfl,rfl,hp1,hg1⟩))
  have HP1:Hid (Rdr w1 Q B v S s1):=hp1
  have HX1:Hid (Box4 w1 w.heap.size (.int .i64 0) (.string ⟨#[]⟩) (.int .i64 0) (.slice none 0 0)):=HX.out.grown hg1 (by omega)
  have HW1:Hid (w.grownBy w1 (some Q)):=(Zf w A6 (some Q)).trans hg1
  clear hp1 hg1 hw1
  go_loopw [3] (fun s3 wr=>∃(l:List (Nd×Value)) (sk:PS) (ad:Option Addr) (c:Nat),s3=.slice ad l.length c/\Hid (Rdr wr Q B v S sk)/\Hid (RowS wr (w.heap.size+1) (.slice ad l.length c) l)/\Hid (Box4 wr w.heap.size (.int .i64 0) (.string ⟨#[]⟩) (.int .i64 0) (.slice none 0 0))/\Hid (w.grownBy wr (some Q))/\Hid (l.length<=sk.tok/\s.tok+1<=sk.tok)/\Hid (((EN S sk).then fun ks s=>(A8 S Au s).then fun _ s=>AJ 6 [] 0 (l.map Prod.fst++ks) s)=g)) (fun _ wr=>4001-tokOf wr Q)
  case atStart=>exact⟨[],s1,none,0,rfl,HP1,RowS.nil _ _,HX1,HW1,⟨by simp,HT1.out⟩,HG⟩
  case round=>
   clear HP1 HX1 HW1 HG HT1
   rename_i wr
   obtain⟨l,sk,ad,c,rfl,HP,HR,HX,HW,HL,HE⟩:=hrel
   have HTK:Hid (tokOf wr Q=sk.tok):=HP.out.tokOf
   have HFW:Hid (S.L.length<=4000):=HP.out.few
   have hktok:=HP.out.tok
   have hxl:=HX.out.lt
   have HE1:=HE.out
   rw[KF S sk hktok]at HE1
   have hts:=Fh Q B v S sk ⟨#[125]⟩ (by decide) wr HP.out
   rw[e2]at hts
   cases hc:A2 S Au sk with
   | true=>
    obtain⟨q1,q2⟩:=(MQ hl sk).1 hc
    rw[q1]at hts
    rw[hc,if_pos rfl,then_ok,q2,then_ok,List.append_nil]at HE1
    have HE2:Hid (g=AJ 6 [] 0 (l.map Prod.fst) { sk with tok:=sk.tok+1,deep:=sk.deep-1 }):=HE1.symm
    clear HE HE1 hc q1 q2
    go_wp2_with (first | (go_at_call 49;refine hts.mono ?_;rintro e w4 ⟨u4,rfl,rfl,hp4,hg4⟩;have hX4:=HX.out.grown hg4 (by omega)) | (go_at_call 37;refine(CY _ _ _ _ _).mono ?_;rintro e w5 ⟨rfl,hb5⟩;obtain⟨⟨x0,x1,x2,x3⟩,f0,f1,f2,f3⟩:=(hX4.grown (A3 Q hb5) (by omega)).facts))
    refine bodyPost_ret (v:=.agg #[.int .i64 6,.string ⟨#[]⟩,.int .i64 0,.slice ad l.length c]) (by simp[results,Tryz.results35,go_sem,x0,x1,x2,x3]) rfl ?_
    rw[HE2.out]
    exact Dx ((HR.out.grown hg4 (by omega)).kids) hb5 hp4 (HW.out.trans hg4) hB
   | false=>
    rw[(MQ hl sk).2 hc]at hts
    rw[hc,if_neg (by decide),BO]at HE1
    have hr:=HST.out sk HL.out.2 hktok
    unfold AM at hr
    clear HE hc
    cases hx:Cf S sk with
    | error f=>
     rw[hx]at hr HE1
     have HE3:Hid (g=.error f):=HE1.symm
     clear HE1 hx
     go_wp2_with (first | (go_at_call 49;refine hts.mono ?_;rintro e w4 ⟨u4,rfl,rfl,hp4,hg4⟩) | (go_at_call 53;refine(hr _ hp4).mono ?_;rintro e w5 ⟨rfl,hg5⟩))
     refine⟨rfl,?_⟩
     rw[HE3.out]
     exact⟨rfl,(HW.out.trans hg4).trans hg5⟩
    | ok z=>
     obtain⟨k,s3⟩:=z
     rw[hx,then_ok]at HE1
     rw[hx]at hr
     have ht3:=(Ob hx).1
     have HT3:Hid (sk.tok+1<=s3.tok):=ht3
     have HE3:Hid (((EN S s3).then fun ks s=>(A8 S Au s).then fun _ s=>AJ 6 [] 0 ((l.map Prod.fst++[k])++ks) s)=g):=by
      show _=_
      rw[<-HE1,BO]
      refine A4 rfl fun ks s4 _=>?_
      rw[then_ok]
      refine A4 rfl fun u s5 _=>?_
      simp
     have hln:l.length<=4000:=by have:=HL.out.1;have:=HFW.out;omega
     have hlt4:∀j,Value.ownBlock (.slice ad l.length c)=some j->w.heap.size+1<=j/\j<wr.heap.size:=HR.out.lt
     clear HE1 hx ht3
     go_wp2_with (first | (go_at_call 49;refine hts.mono ?_;rintro e w4 ⟨u4,rfl,rfl,hp4,hg4⟩;have hR4:=HR.out.grown hg4 (by omega);have hsz4:=hg4.size) | (at_builtin;refine Ci DZ rfl (.tmp 10) (.tmp 13) rfl (w.heap.size+1) l.length 1 (.slice ad l.length c) (Af l) [.int .i64 a',.string b',.int .i64 c',.slice ad' n' cc'] rfl ((hR5.alloc _).1) ⟨w5.heap.size,0,none⟩ rfl rfl (IZ _ _ _ _ _ _) (IY _ _ _ _ _ _) (by omega) (by simp;omega) ?_;intro g' cap' w6 O6 hg6 hor6) | (go_at_call 53;refine(hr _ hp4).mono ?_;rintro e w5 ⟨u5,rfl,hv5,hp5,hg5⟩;obtain⟨a',b',c',ad',n',cc',hu⟩:=NodeV.any hv5;subst hu;have hR5:=hR4.grown hg5 (by omega);have hsz5:=hg5.size;have hW5:=(HW.out.trans hg4).trans hg5;have hszw:=HW.out.size))
     have hbm:Below w5.heap.size w5 (w5.alloc (.cells #[.int .i64 a',.string b',.int .i64 c',.slice ad' n' cc'] 24)):=(Zg _ _).alloc (Z0 _) _
     obtain⟨x6,hR6⟩:=hR5.more hv5 (C:=w4.heap.size) (by omega) (fun j e=>by have:=(hlt4 j e).2;omega) hbm O6 hg6 hor6
     have hb6:Below (w.heap.size+1) w5 w6:=(hbm.mono (by omega)).grown hg6 (by simp;omega) (fun j e=>(hlt4 j e).1)
     go_roundw
     case rel=>
      refine⟨l++[(k,x6)],s3,some ⟨g',0,none⟩,cap',by simp,hp5.apart (hb6.mono (by omega)),?_,?_,Bf hW5 (hb6.mono (by omega)),⟨by have:=HL.out.1;have:=HT3.out;simp;omega,by have:=HL.out.2;have:=HT3.out;omega⟩,?_⟩
      ·show RowS w6 (w.heap.size+1) (.slice (some ⟨g',0,none⟩) (l++[(k,x6)]).length cap') _
       rw[Z1]
       exact hR6
      ·exact(hb6.block w.heap.size (by omega)).trans ((HX.out.grown hg4 (by omega)).grown hg5 (by omega))
      ·show((EN S s3).then fun ks s=>_)=g
       rw[List.map_append]
       exact HE3.out
     case measure=>
      have q1:=(hp5.apart (hb6.mono (show B<=w.heap.size+1 by omega))).tokOf
      have q2:=HTK.out
      have q3:=HT3.out
      have q4:=HFW.out
      have q5:=hp5.tok
      rw[q1,q2]
      omega
theorem GK(K:Nat)(X:PS->Got Nd)(Y:PS->Got (List Nd))(Q B:Nat)(v:Value)(S:Src9)(hl:AP S)(x:ByteArray)(lw:List Int)(ex:A7 x=lw)(hx:D2 lw=true)(hx1:¬(lw=AD\/lw=Ai))(hx2:¬(lw=A9\/lw=Au))(hY:∀s,Y s=if A2 S lw s=true then(X s.step).then fun k s=>(Y s).then fun ks s=>.ok (k::ks,s)else .ok ([],s))(hat:∀s n s',X s=.ok (n,s')->s.tok<=s'.tok)(s:PS)(hX:Part K X Q B v S (s.tok+1))(w:World)(hp:Rdr w Q B v S s) :
  Calls Tryz.prog 32 #[.pointer (some ⟨Q,0,none⟩),.string x,.func (.func K) #[.pointer (some ⟨Q,0,none⟩)] #[]] w fun e w'=>BW Q B v S w (Tg w.heap.size) (Y s) e w':=by
 have hB:=hp.size
 have hqb:=hp.qb
 have hent:=hX.enters
 have HPt:Hid (Part K X Q B v S (s.tok+1)):=hX
 have HP0:Hid (Rdr w Q B v S s):=hp
 obtain⟨g,HG⟩:∃g,Hid (((Y s).then fun ks s=>.ok (([]:List (Nd×Value)).map Prod.fst++ks,s))=g):=⟨_,rfl⟩
 have HG0:Hid (Y s=g):=by
  show _=_
  rw[<-HG.out]
  cases Y s with
  | error f=>rfl
  | ok y=>rfl
 rw[HG0.out]
 clear hX hp HG0
 go_enter Tryz.func32,Tryz.ntmps32
 go_wp2_with fail
 go_loopw [7] (fun s7 wr=>∃(l:List (Nd×Value)) (sk:PS) (ad:Option Addr) (c:Nat),s7=.slice ad l.length c/\Hid (Rdr wr Q B v S sk)/\Hid (RowS wr w.heap.size (.slice ad l.length c) l)/\Hid (w.grownBy wr (some Q))/\Hid (l.length<=sk.tok/\s.tok<=sk.tok)/\Hid (((Y sk).then fun ks s=>.ok (l.map Prod.fst++ks,s))=g)) (fun _ wr=>4001-tokOf wr Q)
 case atStart=>exact⟨[],s,none,0,rfl,HP0,RowS.nil _ _,Kz _ _,⟨by simp,Z0 _⟩,HG⟩
 case round=>
  clear HP0 HG
  rename_i wr
  obtain⟨l,sk,ad,c,rfl,HP,HR,HW,HL,HE⟩:=hrel
  have HTK:Hid (tokOf wr Q=sk.tok):=HP.out.tokOf
  have HFW:Hid (S.L.length<=4000):=HP.out.few
  have hktok:=HP.out.tok
  have HE1:=HE.out
  rw[hY]at HE1
  cases hc:A2 S lw sk with
  | false=>
   rw[hc,if_neg (by decide),then_ok,List.append_nil]at HE1
   have HE2:Hid (g=.ok (l.map Prod.fst,sk)):=HE1.symm
   have htc:=Az hl ex hx hc wr HP.out
   clear HE HE1 hc
   go_wp2_with (first | (go_at_call 49;refine htc.mono ?_;rintro e w4 ⟨rfl,hp4,hg4⟩))
   go_ret
   rw[HE2.out]
   exact⟨_,rfl,⟨l,rfl,HR.out.grown hg4 (by omega),by have:=HL.out.1;have:=HFW.out;omega⟩,hp4,HW.out.trans hg4⟩
  | true=>
   have ht:=AG hc
   have htc:=BC hl ex hx hx1 hx2 hc wr HP.out
   rw[hc,if_pos rfl,BO]at HE1
   have hr:=HPt.out.reads sk.step (by have:=HL.out.2;show s.tok+1<=sk.tok+1;omega) (by show sk.tok+1<=_;omega)
   unfold AM at hr
   clear HE hc
   cases hq:X sk.step with
   | error f=>
    rw[hq]at hr HE1
    have HE3:Hid (g=.error f):=HE1.symm
    clear HE1 hq
    go_wp2_with (first | (go_at_call 49;refine htc.mono ?_;rintro e w4 ⟨rfl,hp4,hg4⟩) | (refine(hr _ hp4).mono ?_;rintro e w5 ⟨rfl,hg5⟩))
    refine⟨rfl,?_⟩
    rw[HE3.out]
    exact⟨rfl,(HW.out.trans hg4).trans hg5⟩
   | ok z=>
    obtain⟨k,s3⟩:=z
    rw[hq,then_ok]at HE1
    rw[hq]at hr
    have ht3:=hat _ _ _ hq
    have HT3:Hid (sk.tok+1<=s3.tok):=ht3
    have HE3:Hid (((Y s3).then fun ks s=>.ok ((l.map Prod.fst++[k])++ks,s))=g):=by
     show _=_
     rw[<-HE1,BO]
     refine A4 rfl fun ks s4 _=>?_
     rw[then_ok]
     simp
    have hln:l.length<=4000:=by have:=HL.out.1;have:=HFW.out;omega
    have hlt4:∀j,Value.ownBlock (.slice ad l.length c)=some j->w.heap.size<=j/\j<wr.heap.size:=HR.out.lt
    clear HE1 hq ht3
    go_wp2_with (first | (go_at_call 49;refine htc.mono ?_;rintro e w4 ⟨rfl,hp4,hg4⟩;have hR4:=HR.out.grown hg4 (by omega);have hsz4:=hg4.size) | (at_builtin;refine Ci DZ rfl (.tmp 11) (.tmp 14) rfl w.heap.size l.length 1 (.slice ad l.length c) (Af l) [.int .i64 a',.string b',.int .i64 c',.slice ad' n' cc'] rfl ((hR5.alloc _).1) ⟨w5.heap.size,0,none⟩ rfl rfl (IZ _ _ _ _ _ _) (IY _ _ _ _ _ _) (by omega) (by simp;omega) ?_;intro g' cap' w6 O6 hg6 hor6) | (refine(hr _ hp4).mono ?_;rintro e w5 ⟨u5,rfl,hv5,hp5,hg5⟩;obtain⟨a',b',c',ad',n',cc',hu⟩:=NodeV.any hv5;subst hu;have hR5:=hR4.grown hg5 (by omega);have hsz5:=hg5.size;have hW5:=(HW.out.trans hg4).trans hg5;have hszw:=HW.out.size))
    have hbm:Below w5.heap.size w5 (w5.alloc (.cells #[.int .i64 a',.string b',.int .i64 c',.slice ad' n' cc'] 24)):=(Zg _ _).alloc (Z0 _) _
    obtain⟨x6,hR6⟩:=hR5.more hv5 (C:=w4.heap.size) (by omega) (fun j e=>by have:=(hlt4 j e).2;omega) hbm O6 hg6 hor6
    have hb6:Below w.heap.size w5 w6:=(hbm.mono (by omega)).grown hg6 (by simp;omega) (fun j e=>(hlt4 j e).1)
    go_roundw
    case rel=>
     refine⟨l++[(k,x6)],s3,some ⟨g',0,none⟩,cap',by simp,hp5.apart (hb6.mono hB),?_,Bf hW5 hb6,⟨by have:=HL.out.1;have:=HT3.out;simp;omega,by have:=HL.out.2;have:=HT3.out;omega⟩,?_⟩
     ·show RowS w6 w.heap.size (.slice (some ⟨g',0,none⟩) (l++[(k,x6)]).length cap') _
      rw[Z1]
      exact hR6
     ·show((Y s3).then fun ks s=>_)=g
      rw[List.map_append]
      exact HE3.out
    case measure=>
     have q1:=(hp5.apart (hb6.mono hB)).tokOf
     have q2:=HTK.out
     have q3:=HT3.out
     have q4:=HFW.out
     have q5:=hp5.tok
     rw[q1,q2]
     omega
def Hh(S:Src9)(s:PS):Got Nd:=(Ae S s).then fun x s=>(A8 S AQ s).then fun _ s=>AJ 3 x 0 [] s
def JK(S:Src9)(s:PS):Got Nd:=(Ae S s).then fun x s=>AJ 5 x 0 [] s
theorem LC(S:Src9)(s:PS):DT S s=if A2 S Ej s=true then(Hh S s.step).then fun k s=>(DT S s).then fun ks s=>.ok (k::ks,s)else .ok ([],s):=by
 rw[Rt]
 refine Aq (fun _=>?_) fun _=>rfl
 unfold Hh
 rw[BO]
 refine A4 rfl fun x s1 _=>?_
 rw[BO]
theorem R8(S:Src9)(s:PS):Ea S s=(JK S s).then fun k s=>if A2 S An s=true then(Ea S s.step).then fun ks s=>.ok (k::ks,s)else .ok ([k],s):=by
 rw[Rr]
 unfold JK
 rw[BO]
theorem KX{S:Src9}{s s1:PS}{x:List Int}(h:Ae S s=.ok (x,s1)):s1.tok=s.tok+1:=by
 unfold Ae at h
 split at h
 ·cases h;rfl
 ·cases h
theorem NV{S:Src9}{s s':PS}{n:Nd}(h:Hh S s=.ok (n,s')):s.tok<=s'.tok:=by
 unfold Hh at h
 cases h1:Ae S s with
 | error f=>rw[h1]at h;cases h
 | ok y=>
  obtain⟨x,s1⟩:=y
  have e1:=KX h1
  rw[h1,then_ok]at h
  cases h2:A8 S AQ s1 with
  | error f=>rw[h2]at h;cases h
  | ok y=>
   obtain⟨⟨⟩,s2⟩:=y
   have e2:=(Eh h2).1
   rw[h2,then_ok]at h
   cases h
   show s.tok<=s2.tok
   omega
theorem TH{S:Src9}{s s':PS}{n:Nd}(h:JK S s=.ok (n,s')):s.tok+1<=s'.tok:=by
 unfold JK at h
 cases h1:Ae S s with
 | error f=>rw[h1]at h;cases h
 | ok y=>
  obtain⟨x,s1⟩:=y
  have e1:=KX h1
  rw[h1,then_ok]at h
  cases h
  show s.tok+1<=s1.tok
  omega
theorem Pp(Q B:Nat)(v:Value)(S:Src9)(hl:AP S)(s:PS):AM 73 (JK S) Q B v S s:=by
 intro w hp
 have hB:=hp.size
 have hqb:=hp.qb
 have HPA:Hid (Rdr (w.alloc A6) Q B v S s):=hp.below ((Zg _ w).alloc (Z0 _) _)
 have HX:=ZC w
 have hnd:=fun w' (h':Rdr w' Q B v S s)=>DM Q B v S hl s 5 w' h'
 unfold JK
 clear hp
 cases h1:Ae S s with
 | error f=>
  rw[h1]at hnd
  clear h1
  go_enter Tryz.func73,Tryz.ntmps73
  go_wp2_with (first | (go_at_call 50;refine(hnd _ HPA.out).mono ?_;rintro e w1 ⟨rfl,hg1⟩))
  exact⟨rfl,rfl,(Zf w A6 (some Q)).trans hg1⟩
 | ok y=>
  obtain⟨x,s1⟩:=y
  rw[h1]at hnd
  clear h1
  go_enter Tryz.func73,Tryz.ntmps73
  go_wp2_with (first | (go_at_call 50;refine(hnd _ HPA.out).mono ?_;rintro e w1 ⟨u1,rfl,rfl,hp1,hg1⟩;obtain⟨⟨x0,x1,x2,x3⟩,f0,f1,f2,f3⟩:=(HX.out.grown hg1 (by omega)).facts))
  refine bodyPost_ret (v:=.agg #[.int .i64 5,.string (strOfNums x),.int .i64 0,.slice none 0 0]) (by simp[results,Tryz.results73,go_sem,x0,x1,x2,x3]) rfl ?_
  exact B5 (n:=.mk 5 x 0 []) (s':=s1.node) ⟨_,rfl,Dw _ _ _⟩ (hp1.many _) ((Zf w A6 (some Q)).trans hg1) hB
theorem Jz(Q B:Nat)(v:Value)(S:Src9)(hl:AP S)(s:PS):AM 51 (Hh S) Q B v S s:=by
 intro w hp
 have hB:=hp.size
 have hqb:=hp.qb
 have HPA:Hid (Rdr (w.alloc A6) Q B v S s):=hp.below ((Zg _ w).alloc (Z0 _) _)
 have HX:=ZC w
 have e1:A7 ⟨#[59]⟩=AQ:=by decide
 have hnd:=fun w' (h':Rdr w' Q B v S s)=>DM Q B v S hl s 3 w' h'
 unfold Hh
 clear hp
 cases h1:Ae S s with
 | error f=>
  rw[h1]at hnd
  clear h1
  go_enter Tryz.func51,Tryz.ntmps51
  go_wp2_with (first | (go_at_call 50;refine(hnd _ HPA.out).mono ?_;rintro e w1 ⟨rfl,hg1⟩))
  exact⟨rfl,rfl,(Zf w A6 (some Q)).trans hg1⟩
 | ok y=>
  obtain⟨x,s1⟩:=y
  rw[h1]at hnd
  rw[then_ok]
  have hw1:=fun w' b (hb:b=w'.heap.size) (h':Rdr w' Q B v S s1)=>DH hl e1 (by decide) w' b hb h'
  clear h1
  cases h2:A8 S AQ s1 with
  | error f=>
   rw[h2]at hw1
   clear h2
   go_enter Tryz.func51,Tryz.ntmps51
   go_wp2_with (first | (go_at_call 50;refine(hnd _ HPA.out).mono ?_;rintro e w1 ⟨u1,rfl,rfl,hp1,hg1⟩) | (go_at_call 34;refine(hw1 _ _ (by simp) (hp1.below ((Zg _ _).alloc (Z0 _) _))).mono ?_;rintro e w2 ⟨rfl,hg2⟩))
   exact⟨rfl,rfl,((Zf w A6 (some Q)).trans hg1).trans ((Zf _ _ _).trans hg2)⟩
  | ok y=>
   obtain⟨⟨⟩,s2⟩:=y
   rw[h2]at hw1
   clear h2
   go_enter Tryz.func51,Tryz.ntmps51
   go_wp2_with (first | (go_at_call 50;refine(hnd _ HPA.out).mono ?_;rintro e w1 ⟨u1,rfl,rfl,hp1,hg1⟩;have hX1:=HX.out.grown hg1 (by omega);have hl1:=hX1.lt) | (go_at_call 34;refine(hw1 _ _ (by simp) (hp1.below ((Zg _ _).alloc (Z0 _) _))).mono ?_;rintro e w2 ⟨u2,rfl,rfl,hp2,hg2⟩;obtain⟨⟨r0,r1,r2,r3⟩,_⟩:=((Box4.new w1 (.int .i64 3) (.string (strOfNums x)) (.int .i64 0) (.slice none 0 0)).grown hg2 (by omega)).facts;obtain⟨⟨x0,x1,x2,x3⟩,f0,f1,f2,f3⟩:=((hX1.alloc _).grown hg2 (by omega)).facts))
   refine bodyPost_ret (v:=.agg #[.int .i64 3,.string (strOfNums x),.int .i64 0,.slice none 0 0]) (by simp[results,Tryz.results51,go_sem,x0,x1,x2,x3]) rfl ?_
   exact B5 (n:=.mk 3 x 0 []) (s':=s2.node) ⟨_,rfl,Dw _ _ _⟩ (hp2.many _) (((Zf w A6 (some Q)).trans hg1).trans ((Zf _ _ _).trans hg2)) hB
theorem LD{w:World}{BB BB':Nat}{M:Nat->Prop}{ty:TypeId}{v u:Value}{l m:List (Nd×Value)}(hv:RowM w BB M v l)(hl:v≠.slice none 0 0)(hu:w.ownsRow BB' 24 4 u m.length (Af m))(hin:∀z∈m,KidsV w (fun k=>M k/\v.ownBlock≠some k) z.2 z.1.kids)(hb:l.length+m.length<=1000000)(hbase:BB<=w.heap.size) :
  ∃v' w',(Builtin.append_ #[22,22] ty #[v,u]).run Tryz.prog w=.ok v' w'/\RowM w' BB M v' (l++m)/\w.grownBy w' v.ownBlock/\(v'.ownBlock=v.ownBlock\/v'.ownBlock=some w.heap.size):=by
 obtain⟨i,z,hi,hz0,hz1,hz2,hz3⟩:=DZ.info
 rcases hv.1.2 with⟨h0,_⟩ | ⟨g,cap,cur,rfl,hbg,hg,hnc,hcm,hcs,htake⟩
 ·exact absurd h0 hl
 rcases hu.2 with⟨rfl,h0⟩ | ⟨gu,capu,curu,rfl,hbu,hgu,_⟩
 ·have e0:m=[]:=Zd h0
  subst e0
  refine⟨_,w,Fj DZ _ _ _ _ hnc w,?_,World.grownBy.refl _ _,Or.inl rfl⟩
  rw[List.append_nil]
  exact hv
 ·have hmb:(l.length+m.length)*56<=140737488355328:=Za (Nat.mul_le_mul hb (Z0 _)) (by decide)
  have hsl:∀z∈m,∃ad n c,z.2=.slice ad n c:=fun z hz=>by obtain⟨ad,c,e,_⟩:=hin z hz;exact⟨ad,_,_,e⟩
  have hnl:(Af m).length=m.length*4:=GN m
  have hcell:∀j x,(Af m)[j]?=some x->w.cell? ((⟨gu,0,none⟩:Addr).add j)=some x:=hu.cells (g:=gu) rfl
  obtain⟨v',w',hr,r1,r2,_⟩:=run_append_own (P:=Tryz.prog) w BB 22 ty 24 i _ 4 56 DZ.under hi hz0 hz1 hz2 hz3 (by decide) _ l.length (Af l) hv.1 ⟨gu,0,none⟩ m.length capu (Af m) hnl hcell (Fl m hsl) (by unfold maxLen;omega) hmb hbase
  have hw:v'.ownBlock=some g\/v'.ownBlock=some w.heap.size:=by
   by_cases hroom:l.length+m.length<=cap
   ·obtain⟨w2,h,_⟩:=run_append_fits (P:=Tryz.prog) w BB 22 ty 24 i 4 DZ.under hi hz1 g l.length cap (Af l) hv.1 ⟨gu,0,none⟩ m.length capu (Af m) hnl hcell (Fl m hsl) hroom
    rw[h]at hr
    injection hr with e1 e2
    subst e1;exact Or.inl rfl
   ·have h:=run_append_grow (P:=Tryz.prog) w 22 ty 24 i _ DZ.under hi hz0 ⟨g,0,none⟩ l.length cap (Af l) (by rw[hv.1.1,hz1]) (hv.1.cells (g:=g) rfl) ⟨gu,0,none⟩ m.length capu (Af m) (by rw[hz1];exact hnl) hcell (by omega) (by omega) (growslice_fits (by omega) (by rw[hz2];exact hmb))
    rw[h]at hr
    injection hr with e1 e2
    subst e1;exact Or.inr rfl
  refine⟨v',w',hr,?_,r2,hw⟩
  rcases r1.2 with⟨_,h0⟩ | ⟨g',cap',cur',rfl,r⟩
  ·rename_i h9
   rw[h9]at hw
   rcases hw with h | h
   ·cases h
   ·cases h
  ·have hor:(some g:Option Nat)=some g'\/g'=w.heap.size:=by
    rcases hw with h | h
    ·exact Or.inl h.symm
    ·exact Or.inr (by simpa [Value.ownBlock] using h)
   refine⟨by rw[L9,Z1];exact r1,fun z hz=>?_⟩
   rcases List.mem_append.1 hz with hz | hz
   ·exact F7 r2 hor _ _ (hv.2 z hz)
   ·exact F7 r2 hor _ _ (hin z hz)
theorem Lg{w:World}{BB BB':Nat}{M:Nat->Prop}{ty:TypeId}{v u:Value}{l m:List (Nd×Value)}(hv:RowM w BB M v l)(hu:w.ownsRow BB' 24 4 u m.length (Af m))(hin:∀z∈m,KidsV w (fun k=>M k/\v.ownBlock≠some k) z.2 z.1.kids)(hb:l.length+m.length<=1000000)(hbase:BB<=w.heap.size) :
  ∃v' w',(Builtin.append_ #[22,22] ty #[v,u]).run Tryz.prog w=.ok v' w'/\RowM w' BB M v' (l++m)/\w.grownBy w' v.ownBlock/\(v'.ownBlock=v.ownBlock\/v'.ownBlock=some w.heap.size):=by
 by_cases hl:0<l.length
 ·exact I5 hv hl hu hin hb hbase
 ·have el:l=[]:=Zd (by omega)
  subst el
  obtain⟨i,z,hi,hz0,hz1,hz2,hz3⟩:=DZ.info
  rcases hv.1.2 with⟨rfl,_⟩ | ⟨g,cap,cur,rfl,hbg,hg,hnc,hcm,hcs,htake⟩
  ·rcases hu.2 with⟨rfl,h0⟩ | ⟨gu,capu,curu,rfl,hbu,hgu,_⟩
   ·have e0:m=[]:=Zd h0
    subst e0
    exact⟨_,w,Fj DZ _ _ _ _ (Z0 _) w,hv,World.grownBy.refl _ _,Or.inl rfl⟩
   ·have hmb:(0+m.length)*56<=140737488355328:=Za (Nat.mul_le_mul (show 0+m.length<=1000000 by simp at hb;omega) (Z0 _)) (by decide)
    have hsl:∀z∈m,∃ad n c,z.2=.slice ad n c:=fun z hz=>by obtain⟨ad,c,e,_⟩:=hin z hz;exact⟨ad,_,_,e⟩
    have hnl:(Af m).length=m.length*4:=GN m
    have hcell:∀j x,(Af m)[j]?=some x->w.cell? ((⟨gu,0,none⟩:Addr).add j)=some x:=hu.cells (g:=gu) rfl
    obtain⟨v',w',hr,r1,r2,r3⟩:=run_append_own (P:=Tryz.prog) w BB 22 ty 24 i _ 4 56 DZ.under hi hz0 hz1 hz2 hz3 (by decide) _ 0 [] hv.1 ⟨gu,0,none⟩ m.length capu (Af m) hnl hcell (Fl m hsl) (by unfold maxLen;simp at hb;omega) hmb hbase
    by_cases hm0:0<m.length
    ·have h:=run_append_nil (P:=Tryz.prog) w 22 ty 24 i _ DZ.under hi hz0 ⟨gu,0,none⟩ m.length capu (Af m) (by rw[hz1];exact hnl) hcell hm0 (by simp at hb;omega) (by rw[hz2];omega)
     rw[h]at hr
     injection hr with q1 q2
     refine⟨v',w',by rw[h,q1,q2],?_,r2,Or.inr (by rw[<-q1];rfl)⟩
     have hor:v'.ownBlock=some w.heap.size:=by rw[<-q1];rfl
     rcases r1.2 with⟨_,h0⟩ | ⟨g',cap',cur',rfl,r⟩
     ·omega
     ·have eg:g'=w.heap.size:=by simpa [Value.ownBlock] using hor
      rw[Nat.zero_add]at r1
      refine⟨by rw[List.nil_append];rw[List.nil_append]at r1;simpa using r1,fun z hz=>?_⟩
      rw[List.nil_append]at hz
      exact F7 r2 (Or.inr eg) _ _ (hin z hz)
    ·have em:m=[]:=Zd (by omega)
     subst em
     have ev:=r3.2 ⟨rfl,rfl⟩
     subst ev
     exact⟨_,w',hr,⟨Zl _ _ _ _,fun z hz=>by cases hz⟩,r2,Or.inl rfl⟩
  ·exact LD hv (fun e=>by cases e) hu hin hb hbase
theorem Ck{ops:Array Oper}{o:Oper}{a:Act}{w:World}{K:Act->World->Prop}{Q:Exit->Act->World->Prop}{E:Prop}(hg:o.guard=none)(s x:Operand)(hop:o.op=Op.call { callee:=Callee.builtin Builtin.append,args:=#[s,x],argTypes:=#[22,22] }){BB BB':Nat}{M:Nat->Prop}(v u:Value){l m:List (Nd×Value)}(hs:a.eval s=v)(hx:a.eval x=u)(hv:RowM w BB M v l)(hu:w.ownsRow BB' 24 4 u m.length (Af m))(hin:∀z∈m,KidsV w (fun k=>M k/\v.ownBlock≠some k) z.2 z.1.kids)(hb:l.length+m.length<=1000000)(hbase:BB<=w.heap.size)(hK:∀v' w',RowM w' BB M v' (l++m)->w.grownBy w' v.ownBlock->(v'.ownBlock=v.ownBlock\/v'.ownBlock=some w.heap.size)->K (a.put o.dst v') w') :
  if Region.wanted o (yielded ops a.tmps)=true then Oper.wp Tryz.prog o a w K Q else E:=by
 have hw:Region.wanted o (yielded ops a.tmps)=true:=by simp[Region.wanted,hg]
 rw[if_pos hw]
 obtain⟨v',w',hrun,r1,r2,r3⟩:=Lg (ty:=o.type) hv hu hin hb hbase
 unfold Oper.wp
 simp[execOp,hop,resolve,invoke,builtin,hs,hx,hrun,Result.andThen]
 exact hK v' w' r1 r2 r3
theorem SQ{w:World}{BB BB' n:Nat}{e:TypeId}{v:Value}{xs:List Value}(h:w.ownsRow BB' e 4 v n xs)(hb:BB<=BB'):w.ownsRow BB e 4 v n xs:=by
 rcases h.2 with⟨h1,h2⟩ | ⟨g,cap,cur,h1,h2,h3⟩
 ·exact⟨h.1,.inl ⟨h1,h2⟩⟩
 ·exact⟨h.1,.inr ⟨g,cap,cur,h1,Za hb h2,h3⟩⟩
theorem RowM.apart{w w':World}{BB X:Nat}{M:Nat->Prop}{v:Value}{l:List (Nd×Value)}(h:RowM w BB M v l)(hg:w.grownBy w' (some X))(hq:v.ownBlock≠some X)(hm:¬M X):RowM w' BB M v l:=
 ⟨h.1.kept hg (Or.inr (fun e=>hq e)),fun z hz=>(h.2 z hz).above (Zh hg (fun k e=>by injection e with e;subst e;rintro⟨h,_⟩;exact hm h))⟩
theorem LE{ops:Array Oper}{o:Oper}{a:Act}{w:World}{K:Act->World->Prop}{Q:Exit->Act->World->Prop}{E:Prop}(hg:o.guard=none)(f:FuncId)(x:Operand)(t:TypeId)(hop:o.op=Op.call { callee:=Callee.value (.func f),args:=#[x],argTypes:=#[t] })(v:Value)(hx:a.eval x=v)(hent:∀w,Sem.run Tryz.prog (callFunc f #[v]) w=.ok (.enter f #[v]) w){R:Ending->World->Prop}(hC:Calls Tryz.prog f #[v] w R)(hR:∀e w',R e w'->∃u,e=.returned u/\K (a.put o.dst u) w') :
  if Region.wanted o (yielded ops a.tmps)=true then Oper.wp Tryz.prog o a w K Q else E:=by
 have hw:Region.wanted o (yielded ops a.tmps)=true:=by simp[Region.wanted,hg]
 rw[if_pos hw]
 subst hx
 have e:Sem.run Tryz.prog (execOp a.eval o) w=.ok (.enter f #[a.eval x]) w:=by
  simp[execOp,hop,resolve,invoke,Deferred.ofValue,go_sem]
  have h9:=hent w
  simp[Act.eval]at h9
  exact h9
 unfold Oper.wp
 rw[e,Oper.upon_enter]
 refine hC.mono fun e w' hr=>?_
 obtain⟨u,rfl,hk⟩:=hR e w' hr
 exact hk
theorem Pq(S:Src9)(s:PS):Es S s=(Ae S s).then fun x s=>(Ho S (Ea S) s).then fun ks s=>(Aj S s).then fun b s=>AJ 4 x (ks.length:Int) (ks++[b]) s:=by
 unfold Es
 refine A4 rfl fun x s1 _=>?_
 unfold Ho PO
 rw[BO]
 refine A4 rfl fun u s2 _=>?_
 rw[BO]
 refine A4 rfl fun ks s3 _=>?_
 rw[BO]
 refine A4 rfl fun u s4 _=>?_
 rfl
theorem SR{Q B:Nat}{v:Value}{S:Src9}(hl:AP S)(lo:Nat):Part 73 (JK S) Q B v S lo:=⟨fun args w=>by kernel_rfl,fun s _ _=>Pp Q B v S hl s⟩
theorem Il(Q B:Nat)(v:Value)(S:Src9)(hl:AP S)(s:PS)(hbk:∀s1:PS,s.tok+1<=s1.tok->s1.tok<=S.L.length->AM 35 (Aj S) Q B v S s1):AM 52 (Es S) Q B v S s:=by
 intro w hp
 have hB:=hp.size
 have hqb:=hp.qb
 have HPA:Hid (Rdr (w.alloc A6) Q B v S s):=hp.below ((Zg _ w).alloc (Z0 _) _)
 have HX:=ZC w
 have HBK:Hid (∀s1:PS,s.tok+1<=s1.tok->s1.tok<=S.L.length->AM 35 (Aj S) Q B v S s1):=hbk
 have hnd:=fun w' (h':Rdr w' Q B v S s)=>DM Q B v S hl s 4 w' h'
 rw[Pq]
 clear hp hbk
 cases h1:Ae S s with
 | error f=>
  rw[h1]at hnd
  clear h1
  go_enter Tryz.func52,Tryz.ntmps52
  go_wp2_with (first | (go_at_call 50;refine(hnd _ HPA.out).mono ?_;rintro e w1 ⟨rfl,hg1⟩))
  exact⟨rfl,rfl,(Zf w A6 (some Q)).trans hg1⟩
 | ok y=>
  obtain⟨x,s1⟩:=y
  have t1:=KX h1
  rw[h1]at hnd
  rw[then_ok]
  have hrw:=fun w' (h':Rdr w' Q B v S s1)=>NS 73 (JK S) (Ea S) Q B v S hl (R8 S) (fun s n s' e=>TH e) s1 (SR hl _) w' h'
  clear h1
  cases h2:Ho S (Ea S) s1 with
  | error f=>
   rw[h2]at hrw
   clear h2
   go_enter Tryz.func52,Tryz.ntmps52
   go_wp2_with (first | (go_at_call 50;refine(hnd _ HPA.out).mono ?_;rintro e w1 ⟨u1,rfl,rfl,hp1,hg1⟩) | (go_at_call 72;refine(hrw _ (hp1.below ((Zg _ _).alloc (Z0 _) _))).mono ?_;rintro e w2 ⟨rfl,hg2⟩))
   exact⟨rfl,rfl,((Zf w A6 (some Q)).trans hg1).trans ((Zf _ _ _).trans hg2)⟩
  | ok y=>
   obtain⟨ks,s2⟩:=y
   have t2:=Oy (fun s ks s' e=>(Rq e).1) h2
   rw[h2]at hrw
   rw[then_ok]
   have hr:∀w',Rdr w' Q B v S s2->Calls Tryz.prog 35 #[.pointer (some ⟨Q,0,none⟩)] w' fun e w''=>BW Q B v S w' (Bo w') (Aj S s2) e w'':=fun w' h'=>HBK.out s2 (by omega) h'.tok w' h'
   clear h2 t1 t2 HBK
   cases h3:Aj S s2 with
   | error f=>
    rw[h3]at hr
    clear h3
    go_enter Tryz.func52,Tryz.ntmps52
    go_wp2_with (first | (go_at_call 50;refine(hnd _ HPA.out).mono ?_;rintro e w1 ⟨u1,rfl,rfl,hp1,hg1⟩;have hX1:=HX.out.grown hg1 (by omega);have hl1:=hX1.lt) | (go_at_call 72;refine(hrw _ (hp1.below ((Zg _ _).alloc (Z0 _) _))).mono ?_;rintro e w2 ⟨u2,rfl,⟨l,hm,hR2,hml⟩,hp2,hg2⟩;obtain⟨ad,c,hu2,_⟩:=hR2.slice;subst hu2;have hN2:=(Box4.new w1 (.int .i64 4) (.string (strOfNums x)) (.int .i64 0) (.slice none 0 0)).grown hg2 (by omega);obtain⟨⟨n0,n1,n2,n3⟩,m0,m1,m2,m3⟩:=hN2.facts;have hl2:=hN2.lt))
    have hG2:w.grownBy w2 (some Q):=((Zf w A6 (some Q)).trans hg1).trans ((Zf _ _ _).trans hg2)
    have hbW:Below (w.heap.size+1) w2 ((w2.setCell ⟨w1.heap.size,3,none⟩ (.slice ad l.length c)).setCell ⟨w1.heap.size,2,none⟩ (.int .i64 (l.length:Int))):=((Zg _ _).setCell (by dsimp only;omega) _).setCell (by dsimp only;omega) _
    have hRW:Rdr ((w2.setCell ⟨w1.heap.size,3,none⟩ (.slice ad l.length c)).setCell ⟨w1.heap.size,2,none⟩ (.int .i64 (l.length:Int))).drew Q B v S s2:=(hp2.apart (hbW.mono (by omega))).drew
    have hGW:w.grownBy ((w2.setCell ⟨w1.heap.size,3,none⟩ (.slice ad l.length c)).setCell ⟨w1.heap.size,2,none⟩ (.int .i64 (l.length:Int))).drew (some Q):=(Bf hG2 (hbW.mono (by omega))).trans (A3 Q (Zg _ _).drew)
    have hN3:=(hN2.setKids (.slice ad l.length c)).setNum (.int .i64 (l.length:Int))
    obtain⟨⟨k0,k1,k2,k3⟩,j0,j1,j2,j3⟩:=hN3.facts
    go_region_dies
    all_goals (refine(hr _ hRW).mono ?_;rintro e w4 ⟨rfl,hg4⟩;exact⟨rfl,rfl,hGW.trans hg4⟩)
   | ok y=>
    obtain⟨b,s3⟩:=y
    rw[h3]at hr
    rw[then_ok]
    clear h3
    go_enter Tryz.func52,Tryz.ntmps52
    go_wp2_with (first | (go_at_call 50;refine(hnd _ HPA.out).mono ?_;rintro e w1 ⟨u1,rfl,rfl,hp1,hg1⟩;have hX1:=HX.out.grown hg1 (by omega);have hl1:=hX1.lt) | (go_at_call 72;refine(hrw _ (hp1.below ((Zg _ _).alloc (Z0 _) _))).mono ?_;rintro e w2 ⟨u2,rfl,⟨l,hm,hR2,hml⟩,hp2,hg2⟩;obtain⟨ad,c,hu2,_⟩:=hR2.slice;subst hu2;have hN2:=(Box4.new w1 (.int .i64 4) (.string (strOfNums x)) (.int .i64 0) (.slice none 0 0)).grown hg2 (by omega);obtain⟨⟨n0,n1,n2,n3⟩,m0,m1,m2,m3⟩:=hN2.facts;have hl2:=hN2.lt))
    have hG2:w.grownBy w2 (some Q):=((Zf w A6 (some Q)).trans hg1).trans ((Zf _ _ _).trans hg2)
    have hbW:Below (w.heap.size+1) w2 ((w2.setCell ⟨w1.heap.size,3,none⟩ (.slice ad l.length c)).setCell ⟨w1.heap.size,2,none⟩ (.int .i64 (l.length:Int))):=((Zg _ _).setCell (by dsimp only;omega) _).setCell (by dsimp only;omega) _
    have hRW:Rdr ((w2.setCell ⟨w1.heap.size,3,none⟩ (.slice ad l.length c)).setCell ⟨w1.heap.size,2,none⟩ (.int .i64 (l.length:Int))).drew Q B v S s2:=(hp2.apart (hbW.mono (by omega))).drew
    have hGW:w.grownBy ((w2.setCell ⟨w1.heap.size,3,none⟩ (.slice ad l.length c)).setCell ⟨w1.heap.size,2,none⟩ (.int .i64 (l.length:Int))).drew (some Q):=(Bf hG2 (hbW.mono (by omega))).trans (A3 Q (Zg _ _).drew)
    have hN3:=(hN2.setKids (.slice ad l.length c)).setNum (.int .i64 (l.length:Int))
    obtain⟨⟨k0,k1,k2,k3⟩,j0,j1,j2,j3⟩:=hN3.facts
    have hsz2:=hg2.size
    simp at hsz2
    have hX2:=(hX1.alloc _).grown hg2 (by omega)
    have hMQ:¬(fun j=>w.heap.size+1<=j/\j≠w1.heap.size) Q:=by rintro⟨h,_⟩;omega
    have hMX:¬(fun j=>w.heap.size+1<=j/\j≠w1.heap.size) w1.heap.size:=by rintro⟨_,h⟩;exact h rfl
    have hlt2:∀j,Value.ownBlock (.slice ad l.length c)=some j->w1.heap.size+1<=j/\j<w2.heap.size:=fun j e=>by have:=hR2.lt j e;simp at this;exact this
    have hRM2:RowM w2 (w.heap.size+1) (fun j=>w.heap.size+1<=j/\j≠w1.heap.size) (.slice ad l.length c) l:=⟨SQ hR2.1 (by simp;omega),fun z hz=>(hR2.2 z hz).mono (fun j hj _=>by have h1:=hj.1;simp at h1;exact⟨⟨by omega,by omega⟩,hj.2⟩)⟩
    have hne:Value.ownBlock (.slice ad l.length c)≠some w1.heap.size:=fun e=>by have:=(hlt2 _ e).1;omega
    have hRM3:RowM ((w2.setCell ⟨w1.heap.size,3,none⟩ (.slice ad l.length c)).setCell ⟨w1.heap.size,2,none⟩ (.int .i64 (l.length:Int))).drew (w.heap.size+1) (fun j=>w.heap.size+1<=j/\j≠w1.heap.size) (.slice ad l.length c) l:=((hRM2.apart (D4 _ _ _ _) hne hMX).apart (D4 _ _ _ _) hne hMX).grown (A3 Q (Zg _ _).drew) (by omega) hMQ
    have hsW:((w2.setCell ⟨w1.heap.size,3,none⟩ (.slice ad l.length c)).setCell ⟨w1.heap.size,2,none⟩ (.int .i64 (l.length:Int))).drew.heap.size=w2.heap.size:=by
     show(World.setCell _ _ _).heap.size=_
     simp[World.setCell]
    have HSW:Hid (((w2.setCell ⟨w1.heap.size,3,none⟩ (.slice ad l.length c)).setCell ⟨w1.heap.size,2,none⟩ (.int .i64 (l.length:Int))).drew.heap.size=w2.heap.size):=hsW
    clear hsW
    go_region_law (first
     | (refine LE rfl 35 (.tmp 17) _ rfl (.pointer (some ⟨Q,0,none⟩)) (by first | (simp[Act.eval];done) | simp[Act.eval,Act.put]) (fun w=>by kernel_rfl) (hr _ hRW) ?_;rintro e w4 ⟨u4,rfl,hv4,hp4,hg4⟩;refine⟨_,rfl,?_⟩;obtain⟨a',b',c',ad',n',cc',hu4⟩:=NodeV.any hv4;subst hu4;have hN4:Box4 w4 w1.heap.size (.int .i64 4) (.string (strOfNums x)) (.int .i64 (l.length:Int)) (.slice ad l.length c):=(Box4.grown (w:=((w2.setCell ⟨w1.heap.size,3,none⟩ (.slice ad l.length c)).setCell ⟨w1.heap.size,2,none⟩ (.int .i64 (l.length:Int))).drew) hN3 hg4 (by omega));obtain⟨⟨q0,q1,q2,q3⟩,_⟩:=hN4.facts;have hl4:=hN4.lt;have hsz4:w2.heap.size<=w4.heap.size:=(by have h1:=hg4.size;have h2:=HSW.out;omega))
     | (obtain⟨x4,hF4⟩:=RowM.first (BB:=w.heap.size+1) (M:=Be w2.heap.size) (Zi hv4 (fun j hj _=>by have hj':((w2.setCell ⟨w1.heap.size,3,none⟩ (.slice ad l.length c)).setCell ⟨w1.heap.size,2,none⟩ (.int .i64 (l.length:Int))).drew.heap.size<=j:=hj;rw[HSW.out]at hj';exact hj')) (by omega);refine Ck rfl (.tmp 16) (.tmp 19) rfl (.slice ad l.length c) (.slice (some ⟨w4.heap.size,0,none⟩) 1 1) (by first | (simp[Act.eval];done) | simp[Act.eval,Act.put]) (by first | (simp[Act.eval];done) | simp[Act.eval,Act.put]) ((hRM3.grown hg4 (by omega) hMQ).alloc (.cells #[.int .i64 a',.string b',.int .i64 c',.slice ad' n' cc'] 24)) hF4.1 (fun z hz=>(hF4.2 z hz).mono (fun j hj _=>by have h1:w2.heap.size<=j:=hj.1;exact⟨⟨by omega,by omega⟩,fun e=>by have:=(hlt2 j e).2;omega⟩)) (by simp;omega) (by simp;omega) ?_;intro v5 w5 hR5 hg5 hor5;have hk5:∀j,j<w2.heap.size->Value.ownBlock (.slice ad l.length c)≠some j->w5.heap[j]?=w4.heap[j]?:=(fun j hj hj2=>(hg5.block j (by simp;omega) (fun e=>hj2 e.symm)).trans (((Zg _ w4).alloc (Z0 _) _).block j (by omega)));have hN5:Box4 w5 w1.heap.size (.int .i64 4) (.string (strOfNums x)) (.int .i64 (l.length:Int)) (.slice ad l.length c):=((hk5 w1.heap.size (by omega) hne).trans hN4);obtain⟨⟨p0,p1,p2,p3⟩,o0,o1,o2,o3⟩:=hN5.facts;have hX5:Box4 w5 w.heap.size (.int .i64 0) (.string ⟨#[]⟩) (.int .i64 0) (.slice none 0 0):=((hk5 w.heap.size (by omega) (fun e=>by have:=(hlt2 _ e).1;omega)).trans (Box4.grown (w:=((w2.setCell ⟨w1.heap.size,3,none⟩ (.slice ad l.length c)).setCell ⟨w1.heap.size,2,none⟩ (.int .i64 (l.length:Int))).drew) ((hX2.setAt (by omega) _).setAt (by omega) _) hg4 (by omega)));obtain⟨⟨x0,x1,x2,x3⟩,f0,f1,f2,f3⟩:=hX5.facts;obtain⟨ad5,c5,hv5⟩:=hR5.slice;rw[show(l++[(b,x4)]).length=l.length+1 by simp]at hv5;subst hv5;have hl5:=hN5.lt))
    all_goals go_wp2_with fail
    all_goals
     have hK5:=hR5.kids (fun j e=>by
      rw[e]at hor5
      rcases hor5 with h | h
      ·have:=(hlt2 j h.symm).1;exact⟨by omega,by omega⟩
      ·have h':j=w4.heap.size+1:=by injection h with h;simpa using h
       exact⟨by omega,by omega⟩)
     rw[show(l++[(b,x4)]).map Prod.fst=ks++[b] by simp[hm]]at hK5
     have hkl:ks.length=l.length:=by rw[<-hm];simp
     have hb45:Below (w.heap.size+1) w4 w5:=((Zg _ w4).alloc (by omega) _).grown hg5 (by simp;omega) (fun j e=>by have:=(hlt2 j e).1;omega)
     have hb46:Below (w.heap.size+1) w4 (w5.setCell ⟨w1.heap.size,3,none⟩ (.slice ad5 (l.length+1) c5)):=hb45.setCell (by dsimp only;omega) _
     refine bodyPost_ret (v:=.agg #[.int .i64 4,.string (strOfNums x),.int .i64 (l.length:Int),.slice ad5 (l.length+1) c5]) (by simp[results,Tryz.results52,go_sem,x0,x1,x2,x3]) rfl ?_
     unfold AJ
     rw[hkl]
     exact B5 (n:=.mk 4 x (l.length:Int) (ks++[b])) (s':=s3.node) (Zi (M:=(fun j=>w.heap.size+1<=j/\j≠w1.heap.size)) ⟨_,rfl,hK5.above ((Above.refl _ _).set (a:=⟨w1.heap.size,3,none⟩) hMX _)⟩ (fun j hj _=>hj.1)) ((hp4.apart (hb46.mono (by omega))).many _) (Bf (hGW.trans hg4) (hb46.mono (by omega))) hB
def Ew(S:Src9)(s:PS):Got Nd:=(EB S s).then fun ks s=>(A8 S Dy s).then fun _ s=>(Aj S s).then fun b s=>if s.tok<S.L.length then Bu S 12 s else AJ 1 [] 0 (ks++[b]) s
theorem Lh(Q B:Nat)(v:Value)(S:Src9)(hl:AP S)(s:PS)(hcl:∀s1:PS,s1.tok<=S.L.length->AM 33 (Fc S) Q B v S s1)(hbk:∀s1:PS,s1.tok<=S.L.length->AM 35 (Aj S) Q B v S s1):AM 16 (Ew S) Q B v S s:=by
 intro w hp
 have hB:=hp.size
 have hqb:=hp.qb
 have HPA:Hid (Rdr (w.alloc A6) Q B v S s):=hp.below ((Zg _ w).alloc (Z0 _) _)
 have HX:=ZC w
 have e1:A7 ⟨#[109,97,105,110]⟩=Dy:=by decide
 have hea:=GK 33 (Fc S) (EB S) Q B v S hl ⟨#[99,108,97,115,115]⟩ Cz (by decide) (by decide) (by decide) (by decide) (PP S) (fun s n s' e=>by have:=(KO e).1;omega) s ⟨fun args w=>by kernel_rfl,fun s1 _ h=>hcl s1 h⟩ (w.alloc A6) HPA.out
 have HBK:Hid (∀s1:PS,s1.tok<=S.L.length->AM 35 (Aj S) Q B v S s1):=hbk
 unfold Ew
 clear hp hcl hbk
 cases h1:EB S s with
 | error f=>
  rw[h1]at hea
  clear h1
  go_enter Tryz.func16,Tryz.ntmps16
  go_wp2_with (first | (go_at_call 32;refine hea.mono ?_;rintro e w1 ⟨rfl,hg1⟩))
  exact⟨rfl,rfl,(Zf w A6 (some Q)).trans hg1⟩
 | ok y=>
  obtain⟨ks,s1⟩:=y
  rw[h1]at hea
  rw[then_ok]
  have hw1:=fun w' b (hb:b=w'.heap.size) (h':Rdr w' Q B v S s1)=>DH hl e1 (by decide) w' b hb h'
  clear h1
  cases h2:A8 S Dy s1 with
  | error f=>
   rw[h2]at hw1
   clear h2
   go_enter Tryz.func16,Tryz.ntmps16
   go_wp2_with (first | (go_at_call 32;refine hea.mono ?_;rintro e w1 ⟨u1,rfl,⟨l,hm,hR1,hml⟩,hp1,hg1⟩) | (go_at_call 34;refine(hw1 _ _ (by simp) hp1).mono ?_;rintro e w2 ⟨rfl,hg2⟩))
   exact⟨rfl,rfl,((Zf w A6 (some Q)).trans hg1).trans hg2⟩
  | ok y=>
   obtain⟨⟨⟩,s2⟩:=y
   rw[h2]at hw1
   rw[then_ok]
   have hr:∀w',Rdr w' Q B v S s2->Calls Tryz.prog 35 #[.pointer (some ⟨Q,0,none⟩)] w' fun e w''=>BW Q B v S w' (Bo w') (Aj S s2) e w'':=fun w' h'=>HBK.out s2 h'.tok w' h'
   clear h2 HBK
   cases h3:Aj S s2 with
   | error f=>
    rw[h3]at hr
    clear h3
    go_enter Tryz.func16,Tryz.ntmps16
    go_wp2_with (first | (go_at_call 32;refine hea.mono ?_;rintro e w1 ⟨u1,rfl,⟨l,hm,hR1,hml⟩,hp1,hg1⟩) | (go_at_call 34;refine(hw1 _ _ (by simp) hp1).mono ?_;rintro e w2 ⟨u2,rfl,rfl,hp2,hg2⟩) | (go_at_call 35;refine(hr _ hp2).mono ?_;rintro e w3 ⟨rfl,hg3⟩))
    exact⟨rfl,rfl,(((Zf w A6 (some Q)).trans hg1).trans hg2).trans hg3⟩
   | ok y=>
    obtain⟨b,s3⟩:=y
    rw[h3]at hr
    rw[then_ok]
    clear h3
    have hgv:=fun w' (h':Rdr w' Q B v S s3)=>GH Q B v S s3 12 w' h'
    go_enter Tryz.func16,Tryz.ntmps16
    go_wp2_with (first | (go_at_call 32;refine hea.mono ?_;rintro e w1 ⟨u1,rfl,⟨l,hm,hR1,hml⟩,hp1,hg1⟩;obtain⟨ad,c,hu1,_⟩:=hR1.slice;subst hu1;have hlt1:∀j,Value.ownBlock (.slice ad l.length c)=some j->w.heap.size+1<=j/\j<w1.heap.size:=(fun j e=>by have:=hR1.lt j e;simp at this;exact this);have hX1:=HX.out.grown hg1 (by omega);have hl1:=hX1.lt) | (go_at_call 34;refine(hw1 _ _ (by simp) hp1).mono ?_;rintro e w2 ⟨u2,rfl,rfl,hp2,hg2⟩;have hR2:=hR1.grown hg2 (by simp;omega);have hsz2:=hg2.size;have hX2:=hX1.grown hg2 (by omega)) | (at_builtin;refine Ci DZ rfl (.tmp 11) (.tmp 14) rfl (w.alloc A6).heap.size l.length 1 (.slice ad l.length c) (Af l) [.int .i64 a',.string b',.int .i64 c',.slice ad' n' cc'] rfl ((hR3.alloc _).1) ⟨w3.heap.size,0,none⟩ rfl rfl (IZ _ _ _ _ _ _) (IY _ _ _ _ _ _) (by omega) (by simp;omega) ?_;intro g' cap' w6 O6 hg6 hor6) | (go_at_call 35;refine(hr _ hp2).mono ?_;rintro e w3 ⟨u3,rfl,hv3,hp3,hg3⟩;obtain⟨a',b',c',ad',n',cc',hu⟩:=NodeV.any hv3;subst hu;have hR3:=hR2.grown hg3 (by simp;omega);have hsz3:=hg3.size;have hX3:=hX2.grown hg3 (by omega)))
    have hbm:Below w3.heap.size w3 (w3.alloc (.cells #[.int .i64 a',.string b',.int .i64 c',.slice ad' n' cc'] 24)):=(Zg _ _).alloc (Z0 _) _
    obtain⟨x6,hR6⟩:=hR3.more hv3 (C:=w2.heap.size) (by simp;omega) (fun j e=>by have:=(hlt1 j e).2;omega) hbm O6 hg6 hor6
    have hb6:Below (w.heap.size+1) w3 w6:=(hbm.mono (by omega)).grown hg6 (by simp;omega) (fun j e=>(hlt1 j e).1)
    have hp6:=hp3.apart (hb6.mono (show B<=w.heap.size+1 by omega))
    have hG6:w.grownBy w6 (some Q):=Bf ((((Zf w A6 (some Q)).trans hg1).trans hg2).trans hg3) (hb6.mono (by omega))
    have hX6:Box4 w6 w.heap.size (.int .i64 0) (.string ⟨#[]⟩) (.int .i64 0) (.slice none 0 0):=(hb6.block w.heap.size (by omega)).trans hX3
    obtain⟨k0,k1,k2,k3⟩:=hp6.obj.cells
    have hql:=hp6.obj.lt
    have htk6:=hp6.tok
    obtain⟨vad,vc,hv6,_⟩:=hp6.base.toks
    subst hv6
    by_cases hlt:s3.tok<S.L.length
    ·have hil:(s3.tok:Int)<(S.L.length:Int):=by omega
     go_region
     go_wp2_with (first | (go_at_call 36;refine(hgv _ hp6.drew).mono ?_;rintro e w7 ⟨rfl,hg7⟩))
     refine⟨rfl,?_⟩
     exact⟨rfl,(hG6.trans (A3 Q (Zg _ _).drew)).trans hg7⟩
    ·have hil:¬(s3.tok:Int)<(S.L.length:Int):=by omega
     go_region
     go_wp2_with (first | (go_at_call 37;refine(CY _ _ _ _ _).mono ?_;rintro e w7 ⟨rfl,hb7⟩;obtain⟨⟨x0,x1,x2,x3⟩,f0,f1,f2,f3⟩:=(Box4.grown (w:=w6.drew) hX6 (A3 Q hb7) (by omega)).facts))
     have hR6':RowS w6 (w.heap.size+1) (sl g' (l.length+1) cap') (l++[(b,x6)]):=by
      have:=hR6
      rw[show(w.alloc A6).heap.size=w.heap.size+1 by simp]at this
      exact this
     have hK6:=(hR6'.grown (A3 Q (Zg _ _).drew) (by omega)).kids
     rw[show(l++[(b,x6)]).map Prod.fst=ks++[b] by simp[hm]]at hK6
     refine bodyPost_ret (v:=.agg #[.int .i64 1,.string ⟨#[]⟩,.int .i64 0,sl g' (l.length+1) cap']) (by simp[results,Tryz.results16,go_sem,x0,x1,x2,x3]) rfl ?_
     exact Dx hK6 hb7 hp6.drew (hG6.trans (A3 Q (Zg _ _).drew)) hB
theorem OL(w:World):(binOp BinOp.eql 20 .nilIface .nilIface).run Tryz.prog w=.ok (.bool true) w:=by kernel_rfl
theorem Pr(c a:Int)(w:World):(binOp BinOp.eql 20 (.iface 50 (.agg #[.int .i64 c,.int .i64 a])) .nilIface).run Tryz.prog w=.ok (.bool false) w:=by kernel_rfl
theorem Tj(c a:Int)(w:World):(Instr.typeAssert (.iface 50 (.agg #[.int .i64 c,.int .i64 a])) 20 50 true).run Tryz.prog w=.ok (.tuple #[.agg #[.int .i64 c,.int .i64 a],.bool true]) w:=by kernel_rfl
theorem P1(a x:Value):#[a]++(Array.replicate 11 undef).setIfInBounds 3 x=#[a,undef,undef,undef,x,undef,undef,undef,undef,undef,undef,undef]:=by kernel_rfl
theorem OM(pf:Addr)(w:World) :
  CallsD Tryz.prog 15 #[.pointer (some pf)] .returning w fun e u' w'=>e=.returned (.tuple #[])/\u'=.returning/\w'=w:=by
 have hnil:=OL
 refine callsD_of_wpS Tryz.func15 rfl fun c₀ cs hu=>?_
 apply wpS_seq
 apply wpS_region
 simp[wpOpsS,go_sem,recoverD,hu,Tryz.ntmps15,Exit.thenS]
 refine wpS_of_wp ?_
 rw[P1]
 refine Code.wp_mono (Q:=fun e a' w'=>e=.normal/\a'.defers=[]/\w'=w) (fun e a' w' h=>?_) ?_
 ·obtain⟨rfl,h2,rfl⟩:=h
  cases c₀;simp_all [bodyPostS,results,Tryz.results15]
 ·go_wp2
theorem R9(pf:Nat)(c a:Int)(v1 v2:Value)(older:List PanicEntry)(w:World)(h1:w.cell? ⟨pf,0,none⟩=some v1)(h2:w.cell? ⟨pf,1,none⟩=some v2)(f1:w.frozen? ⟨pf,0,none⟩=false)(f2:w.frozen? ⟨pf,1,none⟩=false)(l2:pf<w.heap.size) :
  CallsD Tryz.prog 15 #[.pointer (some ⟨pf,0,none⟩)] (.panicking ({ v:=.iface 50 (.agg #[.int .i64 c,.int .i64 a]),recovered:=false }::older)) w fun e u' w'=>
   e=.returned (.tuple #[])/\u'=.panicking ({ v:=.iface 50 (.agg #[.int .i64 c,.int .i64 a]),recovered:=true }::older)/\w'=((w.alloc (.cells #[.int .i64 c,.int .i64 a] 50)).setCell ⟨pf,0,none⟩ (.int .i64 c)).setCell ⟨pf,1,none⟩ (.int .i64 a):=by
 have hnil:=Pr c a
 have hta:=Tj c a
 refine callsD_of_wpS Tryz.func15 rfl fun c₀ cs hu=>?_
 apply wpS_seq
 apply wpS_region
 simp[wpOpsS,go_sem,recoverD,hu,Tryz.ntmps15,Exit.thenS]
 refine wpS_of_wp ?_
 rw[P1]
 refine Code.wp_mono (Q:=fun e a' w'=>e=.normal/\a'.defers=[]/\w'=((w.alloc (.cells #[.int .i64 c,.int .i64 a] 50)).setCell ⟨pf,0,none⟩ (.int .i64 c)).setCell ⟨pf,1,none⟩ (.int .i64 a)) (fun e a' w' h=>?_) ?_
 ·obtain⟨rfl,h2,rfl⟩:=h
  cases c₀;simp_all [bodyPostS,results,Tryz.results15]
 ·go_wp2
def Box2(w:World)(R:Nat)(a b:Value):Prop:=w.heap[R]?=some (.cells #[a,b] 27)
theorem Box2.facts{w:World}{R:Nat}{a b:Value}(h:Box2 w R a b):R<w.heap.size/\(w.cell? ⟨R,0,none⟩=some a/\w.cell? ⟨R,1,none⟩=some b)/\w.frozen? ⟨R,0,none⟩=false/\w.frozen? ⟨R,1,none⟩=false:=
 ⟨(Array.getElem?_eq_some_iff.1 h).1,⟨cell_of_row _ _ _ _ _ _ h,cell_of_row _ _ _ _ _ _ h⟩,frozen_of_row _ _ _ _ _ h,frozen_of_row _ _ _ _ _ h⟩
theorem Box2.put{w:World}{R:Nat}{a b:Value}(h:Box2 w R a b)(a' b':Value):Box2 ((w.setCell ⟨R,0,none⟩ a').setCell ⟨R,1,none⟩ b') R a' b':=heap_setCell_same _ _ _ _ _ _ (heap_setCell_same _ _ _ _ _ _ h)
theorem Box2.keep{w w':World}{R:Nat}{a b:Value}(h:Box2 w R a b)(hb:w'.heap[R]?=w.heap[R]?):Box2 w' R a b:=hb.trans h
theorem Box2.setAt{w:World}{R N j:Nat}{a b:Value}(h:Box2 w R a b)(hn:R≠N)(x:Value):Box2 (w.setCell ⟨N,j,none⟩ x) R a b:=(Zm _ _ _ _ hn).trans h
abbrev BU:Obj:=.cells #[.int .i64 0,.int .i64 0] 27
def TI(w:World)(g:Got Nd)(e:Ending)(w':World):Prop:=Below w.heap.size w w'/\match g with
 | .ok (n,_)=>∃u,e=.returned (.tuple #[u,.agg #[.int .i64 0,.int .i64 0]])/\NodeV w' (Be w.heap.size) u n
 | .error f=>e=.returned (.tuple #[.agg #[.int .i64 0,.string ⟨#[]⟩,.int .i64 0,.slice none 0 0],.agg #[.int .i64 f.1,.int .i64 f.2]])
theorem RA(w:World)(v:Value)(S:Src9)(hv:ReadsT w v S.L)(few:S.L.length<=4000)(hby:DV S.L):Rdr (((w.alloc A6).alloc BU).alloc (.cells #[v,.int .i64 0,.int .i64 (S.fin:Int),.int .i64 0] 53)) (w.heap.size+2) (w.heap.size+3) v S ⟨0,0,0⟩:=by
 have hb:Below w.heap.size w (((w.alloc A6).alloc BU).alloc (.cells #[v,.int .i64 0,.int .i64 (S.fin:Int),.int .i64 0] 53)):=(((Zg _ w).alloc (Z0 _) _).alloc (by simp) _).alloc (by simp;omega) _
 refine⟨⟨by omega,by simp,?_,few,hby⟩,?_,Z3 _,by simp,by simp⟩
 ·obtain⟨ad,c,e,hr⟩:=hv
  refine⟨ad,c,e,fun h0=>?_⟩
  obtain⟨b,off,he,hlt,hc⟩:=hr h0
  refine⟨b,off,he,by simp;omega,by omega,fun k hk=>?_⟩
  obtain⟨c1,c2,c3⟩:=hc k hk
  exact⟨by rw[hb.cell (p:=⟨b,off+k*3,none⟩) hlt];exact c1,by rw[hb.cell (p:=⟨b,off+k*3+1,none⟩) hlt];exact c2,by rw[hb.cell (p:=⟨b,off+k*3+2,none⟩) hlt];exact c3⟩
 ·have:=heap_alloc_new ((w.alloc A6).alloc BU) (.cells #[v,.int .i64 0,.int .i64 (S.fin:Int),.int .i64 0] 53)
  rw[show((w.alloc A6).alloc BU).heap.size=w.heap.size+2 by simp]at this
  exact this
theorem Md(v:Value)(S:Src9)(few:S.L.length<=4000)(hby:DV S.L)(w:World)(hv:ReadsT w v S.L)(hpr:∀Q B,AM 16 (Ew S) Q B v S ⟨0,0,0⟩) :
  Calls Tryz.prog 8 #[v,.int .i64 (S.fin:Int)] w fun e w'=>TI w (Ew S ⟨0,0,0⟩) e w':=by
 have hmf:∀(fn:Fn) (first cap:Array Value) (w:World),(Instr.makeFunc fn first cap).run Tryz.prog w=.ok (.func fn first cap) w:=fun _ _ _ _=>rfl
 have H0:=RA w v S hv few hby
 have hr:=hpr (w.heap.size+2) (w.heap.size+3) _ H0
 have hb0:Below w.heap.size w (((w.alloc A6).alloc BU).alloc (.cells #[v,.int .i64 0,.int .i64 (S.fin:Int),.int .i64 0] 53)):=(((Zg _ w).alloc (Z0 _) _).alloc (by simp) _).alloc (by simp;omega) _
 have HN:Hid (Box4 (((w.alloc A6).alloc BU).alloc (.cells #[v,.int .i64 0,.int .i64 (S.fin:Int),.int .i64 0] 53)) w.heap.size (.int .i64 0) (.string ⟨#[]⟩) (.int .i64 0) (.slice none 0 0)):=((Box4.new w (.int .i64 0) (.string ⟨#[]⟩) (.int .i64 0) (.slice none 0 0)).alloc _).alloc _
 have HF:Hid (Box2 (((w.alloc A6).alloc BU).alloc (.cells #[v,.int .i64 0,.int .i64 (S.fin:Int),.int .i64 0] 53)) (w.heap.size+1) (.int .i64 0) (.int .i64 0)):=by
  show Box2 _ _ _ _
  have h1:Box2 ((w.alloc A6).alloc BU) (w.heap.size+1) (.int .i64 0) (.int .i64 0):=by
   have:=heap_alloc_new (w.alloc A6) BU
   rw[show(w.alloc A6).heap.size=w.heap.size+1 by simp]at this
   exact this
  exact h1.keep (((Zg _ _).alloc (Z0 _) _).block _ (by simp))
 obtain⟨ad,c,hv0,_⟩:=hv
 subst hv0
 clear H0 hpr
 cases hq:Ew S ⟨0,0,0⟩with
 | error f=>
  rw[hq]at hr
  clear hq
  go_enter_defers Tryz.func8,Tryz.ntmps8
  go_wp2_with (first | (go_at_call 16;refine hr.mono ?_;rintro e w2 ⟨rfl,hg2⟩))
  have hN2:Box4 w2 w.heap.size (.int .i64 0) (.string ⟨#[]⟩) (.int .i64 0) (.slice none 0 0):=(hg2.block w.heap.size HN.out.lt (fun e=>by injection e;omega)).trans HN.out
  have hF2:Box2 w2 (w.heap.size+1) (.int .i64 0) (.int .i64 0):=HF.out.keep (hg2.block (w.heap.size+1) HF.out.facts.1 (fun e=>by injection e;omega))
  have hb2:Below w.heap.size w w2:=hb0.grown hg2 hb0.size (fun j e=>by injection e with e;omega)
  have hs2:=hb2.size
  obtain⟨hl2,⟨c1,c2⟩,z1,z2⟩:=hF2.facts
  obtain⟨f1,f2⟩:=f
  refine leaves_cons (f:=15) (args:=#[.pointer (some ⟨w.heap.size+1,0,none⟩)]) (by simp) (by simp[go_sem]) ?_
  refine(R9 (w.heap.size+1) f1 f2 _ _ [] w2 c1 c2 z1 z2 hl2).mono ?_
  rintro e u' w'' ⟨rfl,rfl,rfl⟩
  have hN4:=((hN2.alloc (.cells #[.int .i64 f1,.int .i64 f2] 50)).setAt (N:=w.heap.size+1) (j:=0) (by omega) (.int .i64 f1)).setAt (N:=w.heap.size+1) (j:=1) (by omega) (.int .i64 f2)
  have hF4:=(hF2.keep (((Zg _ w2).alloc (Z0 _) (.cells #[.int .i64 f1,.int .i64 f2] 50)).block _ hl2)).put (.int .i64 f1) (.int .i64 f2)
  obtain⟨⟨n0,n1,n2,n3⟩,_⟩:=hN4.facts
  obtain⟨_,⟨k1,k2⟩,_⟩:=hF4.facts
  refine⟨.tuple #[.agg #[.int .i64 0,.string ⟨#[]⟩,.int .i64 0,.slice none 0 0],.agg #[.int .i64 f1,.int .i64 f2]],?_,?_,rfl⟩
  ·simp[results,Tryz.results8,go_sem,n0,n1,n2,n3,k1,k2]
  ·exact((hb2.alloc hs2 _).setCell (by dsimp only;omega) _).setCell (by dsimp only;omega) _
 | ok y=>
  obtain⟨n,s'⟩:=y
  rw[hq]at hr
  clear hq
  go_enter_defers Tryz.func8,Tryz.ntmps8
  go_wp2_with (first | (go_at_call 16;refine hr.mono ?_;rintro e w2 ⟨u2,rfl,hv2,hp2,hg2⟩;obtain⟨a2,b2,c2,ad2,ln2,cp2,hu2⟩:=NodeV.any hv2;subst hu2;have hN2:Box4 w2 w.heap.size (.int .i64 0) (.string ⟨#[]⟩) (.int .i64 0) (.slice none 0 0):=((hg2.block w.heap.size HN.out.lt (fun e=>by injection e;omega)).trans HN.out);have hF2:Box2 w2 (w.heap.size+1) (.int .i64 0) (.int .i64 0):=(HF.out.keep (hg2.block (w.heap.size+1) HF.out.facts.1 (fun e=>by injection e;omega)));obtain⟨⟨n0,n1,n2,n3⟩,m0,m1,m2,m3⟩:=hN2.facts;obtain⟨hl2,⟨c1,c3⟩,z1,z2⟩:=hF2.facts))
  have hb2:Below w.heap.size w w2:=hb0.grown hg2 hb0.size (fun j e=>by injection e with e;omega)
  have hs2:=hb2.size
  refine leaves_cons (f:=15) (args:=#[.pointer (some ⟨w.heap.size+1,0,none⟩)]) (by simp) (by simp[go_sem]) ?_
  refine(OM ⟨w.heap.size+1,0,none⟩ _).mono ?_
  rintro e u' w'' ⟨rfl,rfl,rfl⟩
  have hN4:=((hN2.put (.int .i64 a2) (.string b2) (.int .i64 c2) (.slice ad2 ln2 cp2)).setAt (N:=w.heap.size+1) (j:=0) (by omega) (.int .i64 0)).setAt (N:=w.heap.size+1) (j:=1) (by omega) (.int .i64 0)
  have hF4:=((((hF2.setAt (N:=w.heap.size) (j:=0) (by omega) (.int .i64 a2)).setAt (N:=w.heap.size) (j:=1) (by omega) (.string b2)).setAt (N:=w.heap.size) (j:=2) (by omega) (.int .i64 c2)).setAt (N:=w.heap.size) (j:=3) (by omega) (.slice ad2 ln2 cp2)).put (.int .i64 0) (.int .i64 0)
  obtain⟨⟨y0,y1,y2,y3⟩,_⟩:=hN4.facts
  obtain⟨_,⟨k1,k2⟩,_⟩:=hF4.facts
  refine⟨.tuple #[.agg #[.int .i64 a2,.string b2,.int .i64 c2,.slice ad2 ln2 cp2],.agg #[.int .i64 0,.int .i64 0]],?_,?_,_,rfl,?_⟩
  ·simp[results,Tryz.results8,go_sem,y0,y1,y2,y3,k1,k2]
  ·exact(((((hb2.setCell (by dsimp only;omega) _).setCell (by dsimp only;omega) _).setCell (by dsimp only;omega) _).setCell (by dsimp only;omega) _).setCell (by dsimp only;omega) _).setCell (by dsimp only;omega) _
  ·have hv3:NodeV w2 (Be (w.heap.size+3)) (.agg #[.int .i64 a2,.string b2,.int .i64 c2,.slice ad2 ln2 cp2]) n:=Zi hv2 (fun j hj _=>by have hj':_<=j:=hj;simp at hj';show w.heap.size+3<=j;omega)
   have m1:¬Be (w.heap.size+3) w.heap.size:=by show ¬w.heap.size+3<=w.heap.size;omega
   have m2:¬Be (w.heap.size+3) (w.heap.size+1):=by show ¬w.heap.size+3<=w.heap.size+1;omega
   exact Zi (hv3.above (((Ef (R:=w.heap.size) m1 _ _ _ _).set (a:=⟨w.heap.size+1,0,none⟩) m2 _).set (a:=⟨w.heap.size+1,1,none⟩) m2 _)) (fun j hj _=>by have hj':w.heap.size+3<=j:=hj;show w.heap.size<=j;omega)
end Go.Proofs.YtbglpanjpadldaaGreatDoor
