/- Texts in one. -/
import Derived.Test.YtbglpanjpadldaaGreatDoorMo
import Derived.Test.YtbglpanjpadldaaGreatDoorMl
import Derived.Test.YtbglpanjpadldaaGreatDoorMf
import Derived.Deep.RegionLaw
set_option maxHeartbeats 32000000
set_option maxRecDepth 20000
namespace Go.Proofs.YtbglpanjpadldaaGreatDoor
open Go.RowKit
theorem JI{Q B:Nat}{v:Value}{S:Src9}(hl:AP S){s:PS}{x:ByteArray}{l:List Int}(e:A7 x=l)(hx:D2 l=true)(w:World)(hp:Rdr w Q B v S s) :
  Calls Tryz.prog 34 #[.pointer (some ⟨Q,0,none⟩),.slice (some ⟨w.heap.size,0,none⟩) 1 1] (w.alloc (.cells #[.string x] 9)) fun e w'=>BW Q B v S w (fun _ u _=>u=.tuple #[]) (A8 S l s) e w':=by
 have hq:=hp.obj.lt
 have h:=MH Q B v S hl s [x] (fun y hy=>by simp only[List.mem_singleton]at hy;rw[hy,e];exact hx) (by simp) (.slice (some ⟨w.heap.size,0,none⟩) 1 1) (w.alloc (.cells #[.string x] 9)) ⟨w.heap.size,1,rfl,by simp,by omega,fun k hk=>by
  have hk0:k=0:=by simp at hk;omega
  subst hk0
  exact cell_of_row _ _ _ _ _ _ (heap_alloc_new w _)⟩ (hp.below ((Zg _ _).alloc (Z0 _) _))
 have e2:Do S ([x].map A7) s=(A8 S l s).then fun _ s=>.ok ((),s):=by rw[<-e];rfl
 rw[e2]at h
 refine h.mono fun e' w' h'=>?_
 cases hw:A8 S l s with
 | error f=>
  rw[hw]at h'
  exact⟨h'.1,(Zf _ _ _).trans h'.2⟩
 | ok y=>
  obtain⟨⟨⟩,s1⟩:=y
  rw[hw]at h'
  obtain⟨u,h1,h2,h3,h4⟩:=h'
  exact⟨u,h1,h2,h3,(Zf _ _ _).trans h4⟩
theorem Eh{S:Src9}{x:List Int}{s s1:PS}{u:Unit}(h:A8 S x s=.ok (u,s1)):s1.tok=s.tok+1/\s.tok<S.L.length:=by
 unfold A8 at h
 split at h
 ·rename_i hs
  have ht:=AG hs
  split at h
  ·split at h
   ·cases h
   ·cases h;exact⟨rfl,ht⟩
  ·split at h
   ·cases h;exact⟨rfl,ht⟩
   ·cases h;exact⟨rfl,ht⟩
 ·cases h
theorem OG(Q B:Nat)(v:Value)(S:Src9)(hl:AP S)(s:PS)(hex:∀s1:PS,s.tok+1<=s1.tok->s1.tok<=S.L.length->AM 79 (Ao S) Q B v S s1):AM 77 (Bw S) Q B v S s:=by
 intro w hp
 have hB:=hp.size
 have hqb:=hp.qb
 have HPA:Hid (Rdr (w.alloc A6) Q B v S s):=hp.below ((Zg _ w).alloc (Z0 _) _)
 have HX:=ZC w
 have e1:A7 ⟨#[40]⟩=AD:=by decide
 have e2:A7 ⟨#[41]⟩=A9:=by decide
 have hw1:=fun w' (h':Rdr w' Q B v S s)=>JI hl e1 (by decide) w' h'
 unfold Bw
 clear hp
 cases h1:A8 S AD s with
 | error f=>
  rw[h1]at hw1
  clear h1 hex
  have hwA:=hw1 _ HPA.out
  rw[show(w.alloc A6).heap.size=w.heap.size+1 by simp]at hwA
  go_enter Tryz.func77,Tryz.ntmps77
  go_wp2_with (first | (go_at_call 34;refine hwA.mono ?_;rintro e w1 ⟨rfl,hg1⟩))
  exact⟨rfl,rfl,(Zf w A6 (some Q)).trans hg1⟩
 | ok y=>
  obtain⟨⟨⟩,s1⟩:=y
  obtain⟨t1,t2⟩:=Eh h1
  rw[h1]at hw1
  rw[then_ok]
  have hr:=hex s1 (by omega) (by omega)
  unfold AM at hr
  have hwA:=hw1 _ HPA.out
  rw[show(w.alloc A6).heap.size=w.heap.size+1 by simp]at hwA
  clear h1 hex hw1 t1 t2
  cases h2:Ao S s1 with
  | error f=>
   rw[h2]at hr
   clear h2
   go_enter Tryz.func77,Tryz.ntmps77
   go_wp2_with (first | (go_at_call 34;refine hwA.mono ?_;rintro e w1 ⟨u1,rfl,rfl,hp1,hg1⟩) | (go_at_call 79;refine(hr _ hp1).mono ?_;rintro e w2 ⟨rfl,hg2⟩))
   exact⟨rfl,rfl,((Zf w A6 (some Q)).trans hg1).trans hg2⟩
  | ok z=>
   obtain⟨k,s2⟩:=z
   rw[h2]at hr
   rw[then_ok]
   have hw2:=fun w' (h':Rdr w' Q B v S s2)=>JI hl e2 (by decide) w' h'
   clear h2
   cases h3:A8 S A9 s2 with
   | error f=>
    rw[h3]at hw2
    clear h3
    go_enter Tryz.func77,Tryz.ntmps77
    go_wp2_with (first | (go_at_call 34;refine hwB.mono ?_;rintro e w3 ⟨rfl,hg3⟩) | (go_at_call 34;refine hwA.mono ?_;rintro e w1 ⟨u1,rfl,rfl,hp1,hg1⟩) | (go_at_call 79;refine(hr _ hp1).mono ?_;rintro e w2 ⟨u,rfl,hv2,hp2,hg2⟩;obtain⟨a,b,c,ad,ln,cp,hu⟩:=NodeV.any hv2;subst hu;have hwB:=(hw2 (w2.alloc (.cells #[.int .i64 a,.string b,.int .i64 c,.slice ad ln cp] 24)) (hp2.below ((Zg _ _).alloc (Z0 _) _)));rw[show(w2.alloc (.cells #[.int .i64 a,.string b,.int .i64 c,.slice ad ln cp] 24)).heap.size=w2.heap.size+1 by simp]at hwB))
    exact⟨rfl,rfl,(((Zf w A6 (some Q)).trans hg1).trans hg2).trans ((Zf _ _ _).trans hg3)⟩
   | ok z=>
    obtain⟨⟨⟩,s3⟩:=z
    rw[h3]at hw2
    rw[then_ok]
    clear h3
    go_enter Tryz.func77,Tryz.ntmps77
    go_wp2_with (first | (go_at_call 34;refine hwB.mono ?_;rintro e w3 ⟨u3,rfl,rfl,hp3,hg3⟩;obtain⟨⟨x0,x1,x2,x3⟩,f0,f1,f2,f3⟩:=((hX2.alloc _).grown hg3 (by omega)).facts;obtain⟨⟨r0,r1,r2,r3⟩,_⟩:=((Box4.new w2 (.int .i64 a) (.string b) (.int .i64 c) (.slice ad ln cp)).grown hg3 (by omega)).facts) | (go_at_call 34;refine hwA.mono ?_;rintro e w1 ⟨u1,rfl,rfl,hp1,hg1⟩;have hX1:=HX.out.grown hg1 (by omega);have hl1:=hX1.lt) | (go_at_call 79;refine(hr _ hp1).mono ?_;rintro e w2 ⟨u,rfl,hv2,hp2,hg2⟩;obtain⟨a,b,c,ad,ln,cp,hu⟩:=NodeV.any hv2;subst hu;have hX2:=hX1.grown hg2 (by omega);have hl2:=hX2.lt;have hwB:=(hw2 (w2.alloc (.cells #[.int .i64 a,.string b,.int .i64 c,.slice ad ln cp] 24)) (hp2.below ((Zg _ _).alloc (Z0 _) _)));rw[show(w2.alloc (.cells #[.int .i64 a,.string b,.int .i64 c,.slice ad ln cp] 24)).heap.size=w2.heap.size+1 by simp]at hwB))
    have hga:w.grownBy w3 (some Q):=(((Zf w A6 (some Q)).trans hg1).trans hg2).trans ((Zf _ _ _).trans hg3)
    refine bodyPost_ret (v:=.agg #[.int .i64 a,.string b,.int .i64 c,.slice ad ln cp]) (by simp[results,Tryz.results77,go_sem,x0,x1,x2,x3]) rfl ?_
    exact B5 ((Zi hv2 (M':=Be (w.heap.size+1)) (fun j hj _=>by have hj':w1.heap.size<=j:=hj;show w.heap.size+1<=j;omega)).kept ((Zf _ _ _).trans hg3) (by show ¬w.heap.size+1<=Q;omega)) hp3 hga hB
theorem Qz(s:ByteArray)(h0:0<s.size)(hs:s.size<=4000)(hd:∀j,j<s.size->Ah (wd (A7 s) j)=true)(hV:CF (A7 s) 0 s.size<=1073741823)(w:World) :
  Calls Tryz.prog 48 #[.string s] w fun e w'=>e=.returned (.tuple #[.int .i64 (CF (A7 s) 0 s.size),.nilIface])/\Below w.heap.size w w':=by
 rcases MM h0 hd with⟨h1,h2⟩ | ⟨h1,h2⟩
 ·refine(Tryz.strconv_Atoi_ok s (by omega) _ h2 w).mono ?_
  rintro e w' ⟨rfl,hw⟩
  refine⟨rfl,?_⟩
  rcases hw with rfl | ⟨t,rfl⟩
  ·exact Zg _ _
  ·exact Lib.bytesWorld_below _ _ _
 ·omega
theorem OH(Q B:Nat)(v:Value)(S:Src9)(hl:AP S)(hnf:CE S)(s:PS)(hs:isB S 2 s=true)(w:World)(hp:Rdr w Q B v S s) :
  Calls Tryz.prog 137 #[.pointer (some ⟨Q,0,none⟩)] w fun e w'=>BW Q B v S w (Bo w) (AJ 26 [] (CG (S.at s.tok).2.1) [] s.step) e w':=by
 have hB:=hp.size
 have hqb:=hp.qb
 have HPA:Hid (Rdr (w.alloc A6) Q B v S s):=hp.below ((Zg _ w).alloc (Z0 _) _)
 have HX:=ZC w
 obtain⟨ht,hk⟩:s.tok<S.L.length/\(S.at s.tok).1=2:=by
  unfold isB at hs
  simp only[Bool.and_eq_true,decide_eq_true_eq,beq_iff_eq]at hs
  exact hs
 have etx:S.text s=(S.at s.tok).2.1:=by unfold Src9.text;rw[if_pos ht]
 have hbt:=hp.text_bytes
 rw[etx]at hbt
 obtain⟨d0,d1,d2⟩:0<(S.at s.tok).2.1.length/\(S.at s.tok).2.1.all Ah=true/\CG (S.at s.tok).2.1<=1073741823:=by
  rcases hl s.tok ht with⟨h,_⟩ | ⟨_,h1,h2,h3⟩ | h | h
  ·rw[hk]at h;exact absurd h (by decide)
  ·exact⟨h1,h2,h3⟩
  ·rw[hk]at h;exact absurd h (by decide)
  ·rw[hk]at h;exact absurd h (by decide)
 have hin:S.at s.tok∈S.L:=by
  unfold Src9.at
  rw[Z2,List.getElem?_eq_getElem ht]
  exact Z6 ht
 have hlen:=(hnf _ hin hk).1
 have htk:=Hd Q B v S s ht (w.alloc A6) HPA.out
 have etk:Bx S s=.ok ((S.at s.tok).2.1,s.step):=by
  refine Fi etx ?_ ?_
  ·rintro(h | h)<;>(rw[h]at d1;exact absurd d1 (by decide))
  ·rintro(h | h)<;>(rw[h]at d1;exact absurd d1 (by decide))
 rw[etk]at htk
 generalize (S.at s.tok).2.1=x at *
 have esz:(strOfNums x).size=x.length:=by rw[<-Ag,hbt]
 have hat:=Qz (strOfNums x) (by omega) (by omega) (fun j hj=>by rw[hbt];exact Hz d1 (by omega)) (by rw[hbt,esz];exact d2)
 rw[hbt,esz]at hat
 have HE:Hid (CF x 0 x.length=CG x):=rfl
 rw[HE.out]at hat
 generalize CG x=V at *
 clear hp hs ht hk etx hbt d0 d1 d2 hin hlen etk esz HE
 go_enter Tryz.func137,Tryz.ntmps137
 go_wp2_with (first | (go_at_call 70;refine htk.mono ?_;rintro e w1 ⟨u,rfl,rfl,hp1,hg1⟩;have hX1:=HX.out.grown hg1 (by omega)) | (go_at_call 48;refine(hat _).mono ?_;rintro e w2 ⟨rfl,hb2⟩;obtain⟨⟨x0,x1,x2,x3⟩,f0,f1,f2,f3⟩:=(hX1.grown (A3 Q hb2) (by omega)).facts))
 have hga:w.grownBy w2 (some Q):=((Zf w A6 (some Q)).trans hg1).trans (A3 Q hb2)
 refine bodyPost_ret (v:=.agg #[.int .i64 26,.string ⟨#[]⟩,.int .i64 V,.slice none 0 0]) (by simp[results,Tryz.results137,go_sem,x0,x1,x2,x3]) rfl ?_
 exact B5 (n:=.mk 26 [] V []) (s':=s.step.node) ⟨_,rfl,Dw _ _ _⟩ ((hp1.below hb2).many _) hga hB
open Go.RowKit
theorem SN{S:Src9}{s:PS}(h:isB S 2 s=true):(S.kind s==2)=true:=by
 unfold isB at h
 simp only[Bool.and_eq_true,decide_eq_true_eq]at h
 unfold Src9.kind
 rw[if_pos h.1]
 exact h.2
theorem FU{S:Src9}{s:PS}(h:isB S 2 s=false):(S.kind s==2)=false:=by
 unfold isB at h
 unfold Src9.kind
 by_cases ht:s.tok<S.L.length
 ·rw[if_pos ht]
  rw[decide_eq_true ht,Bool.true_and]at h
  exact h
 ·rw[if_neg ht];rfl
theorem FV{S:Src9}{s:PS}(h:isB S 1 s=true)(x:List Int):A2 S x s=false:=by
 unfold isB at h
 simp only[Bool.and_eq_true,beq_iff_eq]at h
 unfold A2
 rw[h.2]
 simp
theorem R0(Q B:Nat)(v:Value)(S:Src9)(hl:AP S)(hnf:CE S)(s:PS)(hs:isB S 2 s=true)(w:World)(hp:Rdr w Q B v S s) :
  Calls Tryz.prog 131 #[.pointer (some ⟨Q,0,none⟩)] w fun e w'=>BW Q B v S w (Bo w) (AJ 26 [] (CG (S.at s.tok).2.1) [] s.step) e w':=by
 have hB:=hp.size
 have hqb:=hp.qb
 have HPA:Hid (Rdr (w.alloc A6) Q B v S s):=hp.below ((Zg _ w).alloc (Z0 _) _)
 have HX:=ZC w
 have hn:=C6 Q B v S s (w.alloc A6) HPA.out
 unfold Cr at hn
 have hf0:=GW
 have hk:=SN hs
 have hnm:=fun w' (h':Rdr w' Q B v S s)=>OH Q B v S hl hnf s hs w' h'
 unfold AJ at hnm⊢
 generalize S.kind s=kd at *
 generalize CG (S.at s.tok).2.1=V at *
 clear hp hs
 go_enter Tryz.func131,Tryz.ntmps131
 go_wp2_with (first | (go_at_call 54;refine hn.mono ?_;rintro e wa ⟨rfl,hb1⟩;have hpa:=HPA.out.below hb1;have hga:=(Zf w A6 (some Q)).trans (A3 Q hb1);have hXa:=HX.out.grown (A3 Q hb1) (by omega)) | (go_at_call 137;refine(hnm _ hpa).mono ?_;rintro e w2 ⟨u,rfl,hv2,hp2,hg2⟩;obtain⟨a,b,c,ad,ln,cp,hu⟩:=NodeV.any hv2;subst hu;have hla:=hXa.lt;obtain⟨⟨x0,x1,x2,x3⟩,f0,f1,f2,f3⟩:=(hXa.grown hg2 (by omega)).facts))
 refine bodyPost_ret (v:=.agg #[.int .i64 a,.string b,.int .i64 c,.slice ad ln cp]) (by simp[results,Tryz.results131,go_sem,x0,x1,x2,x3]) rfl ?_
 exact B5 (Zi hv2 (fun j hj _=>by have hj':wa.heap.size<=j:=hj;show w.heap.size+1<=j;omega)) hp2 (hga.trans hg2) hB
theorem R1(Q B:Nat)(v:Value)(S:Src9)(hl:AP S)(s:PS)(hs:isB S 2 s=false)(y:A2 S Dq s=true)(w:World)(hp:Rdr w Q B v S s) :
  Calls Tryz.prog 131 #[.pointer (some ⟨Q,0,none⟩)] w fun e w'=>BW Q B v S w (Bo w) (AJ 27 [] 0 [] s.step) e w':=by
 have hB:=hp.size
 have hqb:=hp.qb
 have HPA:Hid (Rdr (w.alloc A6) Q B v S s):=hp.below ((Zg _ w).alloc (Z0 _) _)
 have HX:=ZC w
 have hn:=C6 Q B v S s (w.alloc A6) HPA.out
 unfold Cr at hn
 have hf0:=GW
 have hk:=FU hs
 unfold AJ
 have hty:=fun w' (h':Rdr w' Q B v S s)=>BC hl (x:=⟨#[110,105,108]⟩) (l:=Dq) (by decide) (by decide) (by decide) (by decide) y w' h'
 generalize S.kind s=kd at *
 clear hp hs y
 go_enter Tryz.func131,Tryz.ntmps131
 go_wp2_with (first | (go_at_call 54;refine hn.mono ?_;rintro e wa ⟨rfl,hb1⟩;have hpa:=HPA.out.below hb1;have hga:=(Zf w A6 (some Q)).trans (A3 Q hb1);have hXa:=HX.out.grown (A3 Q hb1) (by omega)) | (go_at_call_of 49 (Value.string ⟨#[110,105,108]⟩);refine(hty _ hpa).mono ?_;rintro e wy ⟨rfl,hpy,hgy'⟩;have hgy:=hga.trans hgy';have hXy:=hXa.grown hgy' (by omega)) | (go_at_call 37;refine(CY _ _ _ _ _).mono ?_;rintro e w4 ⟨rfl,hb4⟩;obtain⟨⟨x0,x1,x2,x3⟩,f0,f1,f2,f3⟩:=(hXy.grown (A3 Q hb4) (by omega)).facts))
 refine bodyPost_ret (v:=.agg #[.int .i64 27,.string ⟨#[]⟩,.int .i64 0,.slice none 0 0]) (by simp[results,Tryz.results131,go_sem,x0,x1,x2,x3]) rfl ?_
 exact Dx (Dw _ _ _) hb4 hpy hgy hB
theorem Pm(Q B:Nat)(v:Value)(S:Src9)(hl:AP S)(s:PS)(hs:isB S 2 s=false)(n0:A2 S Dq s=false)(y:A2 S DK s=true)(w:World)(hp:Rdr w Q B v S s) :
  Calls Tryz.prog 131 #[.pointer (some ⟨Q,0,none⟩)] w fun e w'=>BW Q B v S w (Bo w) (AJ 28 [] 0 [] s.step) e w':=by
 have hB:=hp.size
 have hqb:=hp.qb
 have HPA:Hid (Rdr (w.alloc A6) Q B v S s):=hp.below ((Zg _ w).alloc (Z0 _) _)
 have HX:=ZC w
 have hn:=C6 Q B v S s (w.alloc A6) HPA.out
 unfold Cr at hn
 have hf0:=GW
 have hk:=FU hs
 unfold AJ
 have ht0:=fun w' (h':Rdr w' Q B v S s)=>Az hl (x:=⟨#[110,105,108]⟩) (l:=Dq) (by decide) (by decide) n0 w' h'
 have hty:=fun w' (h':Rdr w' Q B v S s)=>BC hl (x:=⟨#[115,101,108,102]⟩) (l:=DK) (by decide) (by decide) (by decide) (by decide) y w' h'
 generalize S.kind s=kd at *
 clear hp hs y n0
 go_enter Tryz.func131,Tryz.ntmps131
 go_wp2_with (first | (go_at_call 54;refine hn.mono ?_;rintro e wa ⟨rfl,hb1⟩;have hpa:=HPA.out.below hb1;have hga:=(Zf w A6 (some Q)).trans (A3 Q hb1);have hXa:=HX.out.grown (A3 Q hb1) (by omega)) | (go_at_call_of 49 (Value.string ⟨#[110,105,108]⟩);refine(ht0 _ hpa).mono ?_;rintro e wb ⟨rfl,hpb,hgb'⟩;have hgb:=hga.trans hgb';have hXb:=hXa.grown hgb' (by omega)) | (go_at_call_of 49 (Value.string ⟨#[115,101,108,102]⟩);refine(hty _ hpb).mono ?_;rintro e wy ⟨rfl,hpy,hgy'⟩;have hgy:=hgb.trans hgy';have hXy:=hXb.grown hgy' (by omega)) | (go_at_call 37;refine(CY _ _ _ _ _).mono ?_;rintro e w4 ⟨rfl,hb4⟩;obtain⟨⟨x0,x1,x2,x3⟩,f0,f1,f2,f3⟩:=(hXy.grown (A3 Q hb4) (by omega)).facts))
 refine bodyPost_ret (v:=.agg #[.int .i64 28,.string ⟨#[]⟩,.int .i64 0,.slice none 0 0]) (by simp[results,Tryz.results131,go_sem,x0,x1,x2,x3]) rfl ?_
 exact Dx (Dw _ _ _) hb4 hpy hgy hB
theorem Pn(Q B:Nat)(v:Value)(S:Src9)(hl:AP S)(s:PS)(hs:isB S 2 s=false)(n0:A2 S Dq s=false)(n1:A2 S DK s=false)(y:A2 S De s=true)(w:World)(hp:Rdr w Q B v S s) :
  Calls Tryz.prog 131 #[.pointer (some ⟨Q,0,none⟩)] w fun e w'=>BW Q B v S w (Bo w) (AJ 29 [] 0 [] s.step) e w':=by
 have hB:=hp.size
 have hqb:=hp.qb
 have HPA:Hid (Rdr (w.alloc A6) Q B v S s):=hp.below ((Zg _ w).alloc (Z0 _) _)
 have HX:=ZC w
 have hn:=C6 Q B v S s (w.alloc A6) HPA.out
 unfold Cr at hn
 have hf0:=GW
 have hk:=FU hs
 unfold AJ
 have ht0:=fun w' (h':Rdr w' Q B v S s)=>Az hl (x:=⟨#[110,105,108]⟩) (l:=Dq) (by decide) (by decide) n0 w' h'
 have ht1:=fun w' (h':Rdr w' Q B v S s)=>Az hl (x:=⟨#[115,101,108,102]⟩) (l:=DK) (by decide) (by decide) n1 w' h'
 have hty:=fun w' (h':Rdr w' Q B v S s)=>BC hl (x:=⟨#[103,97,116,101]⟩) (l:=De) (by decide) (by decide) (by decide) (by decide) y w' h'
 generalize S.kind s=kd at *
 clear hp hs y n0 n1
 go_enter Tryz.func131,Tryz.ntmps131
 go_wp2_with (first | (go_at_call 54;refine hn.mono ?_;rintro e wa ⟨rfl,hb1⟩;have hpa:=HPA.out.below hb1;have hga:=(Zf w A6 (some Q)).trans (A3 Q hb1);have hXa:=HX.out.grown (A3 Q hb1) (by omega)) | (go_at_call_of 49 (Value.string ⟨#[110,105,108]⟩);refine(ht0 _ hpa).mono ?_;rintro e wb ⟨rfl,hpb,hgb'⟩;have hgb:=hga.trans hgb';have hXb:=hXa.grown hgb' (by omega)) | (go_at_call_of 49 (Value.string ⟨#[115,101,108,102]⟩);refine(ht1 _ hpb).mono ?_;rintro e wc ⟨rfl,hpc,hgc'⟩;have hgc:=hgb.trans hgc';have hXc:=hXb.grown hgc' (by omega)) | (go_at_call_of 49 (Value.string ⟨#[103,97,116,101]⟩);refine(hty _ hpc).mono ?_;rintro e wy ⟨rfl,hpy,hgy'⟩;have hgy:=hgc.trans hgy';have hXy:=hXc.grown hgy' (by omega)) | (go_at_call 37;refine(CY _ _ _ _ _).mono ?_;rintro e w4 ⟨rfl,hb4⟩;obtain⟨⟨x0,x1,x2,x3⟩,f0,f1,f2,f3⟩:=(hXy.grown (A3 Q hb4) (by omega)).facts))
 refine bodyPost_ret (v:=.agg #[.int .i64 29,.string ⟨#[]⟩,.int .i64 0,.slice none 0 0]) (by simp[results,Tryz.results131,go_sem,x0,x1,x2,x3]) rfl ?_
 exact Dx (Dw _ _ _) hb4 hpy hgy hB
theorem R2(Q B:Nat)(v:Value)(S:Src9)(hl:AP S)(s:PS)(hs:isB S 2 s=false)(n0:A2 S Dq s=false)(n1:A2 S DK s=false)(n2:A2 S De s=false)(y:A2 S EW s=true)(w:World)(hp:Rdr w Q B v S s) :
  Calls Tryz.prog 131 #[.pointer (some ⟨Q,0,none⟩)] w fun e w'=>BW Q B v S w (Bo w) ((Ae S s.step).then fun x s=>AJ 30 x 0 [] s) e w':=by
 have hB:=hp.size
 have hqb:=hp.qb
 have HPA:Hid (Rdr (w.alloc A6) Q B v S s):=hp.below ((Zg _ w).alloc (Z0 _) _)
 have HX:=ZC w
 have hn:=C6 Q B v S s (w.alloc A6) HPA.out
 unfold Cr at hn
 have hf0:=GW
 have hk:=FU hs
 have ht0:=fun w' (h':Rdr w' Q B v S s)=>Az hl (x:=⟨#[110,105,108]⟩) (l:=Dq) (by decide) (by decide) n0 w' h'
 have ht1:=fun w' (h':Rdr w' Q B v S s)=>Az hl (x:=⟨#[115,101,108,102]⟩) (l:=DK) (by decide) (by decide) n1 w' h'
 have ht2:=fun w' (h':Rdr w' Q B v S s)=>Az hl (x:=⟨#[103,97,116,101]⟩) (l:=De) (by decide) (by decide) n2 w' h'
 have hty:=fun w' (h':Rdr w' Q B v S s)=>BC hl (x:=⟨#[110,101,119]⟩) (l:=EW) (by decide) (by decide) (by decide) (by decide) y w' h'
 have hnd:=fun w' (h':Rdr w' Q B v S s.step)=>DM Q B v S hl s.step 30 w' h'
 generalize S.kind s=kd at *
 clear hp hs y n0 n1 n2
 cases hx:Ae S s.step with
 | error f=>
  rw[hx]at hnd
  clear hx
  go_enter Tryz.func131,Tryz.ntmps131
  go_wp2_with (first | (go_at_call 54;refine hn.mono ?_;rintro e wa ⟨rfl,hb1⟩;have hpa:=HPA.out.below hb1;have hga:=(Zf w A6 (some Q)).trans (A3 Q hb1);have hXa:=HX.out.grown (A3 Q hb1) (by omega)) | (go_at_call_of 49 (Value.string ⟨#[110,105,108]⟩);refine(ht0 _ hpa).mono ?_;rintro e wb ⟨rfl,hpb,hgb'⟩;have hgb:=hga.trans hgb';have hXb:=hXa.grown hgb' (by omega)) | (go_at_call_of 49 (Value.string ⟨#[115,101,108,102]⟩);refine(ht1 _ hpb).mono ?_;rintro e wc ⟨rfl,hpc,hgc'⟩;have hgc:=hgb.trans hgc';have hXc:=hXb.grown hgc' (by omega)) | (go_at_call_of 49 (Value.string ⟨#[103,97,116,101]⟩);refine(ht2 _ hpc).mono ?_;rintro e wd ⟨rfl,hpd,hgd'⟩;have hgd:=hgc.trans hgd';have hXd:=hXc.grown hgd' (by omega)) | (go_at_call_of 49 (Value.string ⟨#[110,101,119]⟩);refine(hty _ hpd).mono ?_;rintro e wy ⟨rfl,hpy,hgy'⟩;have hgy:=hgd.trans hgy';have hXy:=hXd.grown hgy' (by omega)) | (go_at_call 50;refine(hnd _ hpy).mono ?_;rintro e w2 ⟨rfl,hg2⟩))
  exact⟨rfl,rfl,hgy.trans hg2⟩
 | ok z=>
  obtain⟨x,s'⟩:=z
  rw[hx]at hnd
  clear hx
  go_enter Tryz.func131,Tryz.ntmps131
  go_wp2_with (first | (go_at_call 54;refine hn.mono ?_;rintro e wa ⟨rfl,hb1⟩;have hpa:=HPA.out.below hb1;have hga:=(Zf w A6 (some Q)).trans (A3 Q hb1);have hXa:=HX.out.grown (A3 Q hb1) (by omega)) | (go_at_call_of 49 (Value.string ⟨#[110,105,108]⟩);refine(ht0 _ hpa).mono ?_;rintro e wb ⟨rfl,hpb,hgb'⟩;have hgb:=hga.trans hgb';have hXb:=hXa.grown hgb' (by omega)) | (go_at_call_of 49 (Value.string ⟨#[115,101,108,102]⟩);refine(ht1 _ hpb).mono ?_;rintro e wc ⟨rfl,hpc,hgc'⟩;have hgc:=hgb.trans hgc';have hXc:=hXb.grown hgc' (by omega)) | (go_at_call_of 49 (Value.string ⟨#[103,97,116,101]⟩);refine(ht2 _ hpc).mono ?_;rintro e wd ⟨rfl,hpd,hgd'⟩;have hgd:=hgc.trans hgd';have hXd:=hXc.grown hgd' (by omega)) | (go_at_call_of 49 (Value.string ⟨#[110,101,119]⟩);refine(hty _ hpd).mono ?_;rintro e wy ⟨rfl,hpy,hgy'⟩;have hgy:=hgd.trans hgy';have hXy:=hXd.grown hgy' (by omega)) | (go_at_call 50;refine(hnd _ hpy).mono ?_;rintro e w2 ⟨u,rfl,rfl,hp2,hg2⟩;obtain⟨⟨x0,x1,x2,x3⟩,f0,f1,f2,f3⟩:=(hXy.grown hg2 (by omega)).facts))
  refine bodyPost_ret (v:=.agg #[.int .i64 30,.string (strOfNums x),.int .i64 0,.slice none 0 0]) (by simp[results,Tryz.results131,go_sem,x0,x1,x2,x3]) rfl ?_
  exact B5 (n:=.mk 30 x 0 []) (s':=s'.node) ⟨_,rfl,Dw _ _ _⟩ (hp2.many _) (hgy.trans hg2) hB
theorem OI(Q B:Nat)(v:Value)(S:Src9)(hl:AP S)(s:PS)(hs:isB S 2 s=false)(n0:A2 S Dq s=false)(n1:A2 S DK s=false)(n2:A2 S De s=false)(n3:A2 S EW s=false)(y:A2 S AD s=true)(hcd:AM 77 (Bw S) Q B v S s)(w:World)(hp:Rdr w Q B v S s) :
  Calls Tryz.prog 131 #[.pointer (some ⟨Q,0,none⟩)] w fun e w'=>BW Q B v S w (Bo w) (Bw S s) e w':=by
 have hB:=hp.size
 have hqb:=hp.qb
 have HPA:Hid (Rdr (w.alloc A6) Q B v S s):=hp.below ((Zg _ w).alloc (Z0 _) _)
 have HX:=ZC w
 have hn:=C6 Q B v S s (w.alloc A6) HPA.out
 unfold Cr at hn
 have hf0:=GW
 have hk:=FU hs
 have hf1:=Ji
 have hn2:∀w',Rdr w' Q B v S s->Calls Tryz.prog 54 #[.pointer (some ⟨Q,0,none⟩)] w' fun e w''=>e=.returned (.agg #[.int .i64 (S.kind s),.string ⟨#[40]⟩,.int .i64 (S.byte s)])/\Below w'.heap.size w' w'':=fun w' h'=>by
  have:=C6 Q B v S s w' h'
  unfold Cr at this
  rw[Co hl (by decide)]at y
  have e:S.text s=AD:=by simpa using y
  rw[e]at this
  exact this
 have ht0:=fun w' (h':Rdr w' Q B v S s)=>Az hl (x:=⟨#[110,105,108]⟩) (l:=Dq) (by decide) (by decide) n0 w' h'
 have ht1:=fun w' (h':Rdr w' Q B v S s)=>Az hl (x:=⟨#[115,101,108,102]⟩) (l:=DK) (by decide) (by decide) n1 w' h'
 have ht2:=fun w' (h':Rdr w' Q B v S s)=>Az hl (x:=⟨#[103,97,116,101]⟩) (l:=De) (by decide) (by decide) n2 w' h'
 have ht3:=fun w' (h':Rdr w' Q B v S s)=>Az hl (x:=⟨#[110,101,119]⟩) (l:=EW) (by decide) (by decide) n3 w' h'
 unfold AM at hcd
 generalize S.kind s=kd at *
 clear hp hs y n0 n1 n2 n3
 cases hx:Bw S s with
 | error f=>
  rw[hx]at hcd
  clear hx
  go_enter Tryz.func131,Tryz.ntmps131
  go_wp2_with (first | (go_at_call 54;refine(hn2 _ hpe).mono ?_;rintro e wf ⟨rfl,hbf⟩;have hpf:=hpe.below hbf;have hgf:=hge.trans (A3 Q hbf);have hXf:=hXe.grown (A3 Q hbf) (by omega)) | (go_at_call 54;refine hn.mono ?_;rintro e wa ⟨rfl,hb1⟩;have hpa:=HPA.out.below hb1;have hga:=(Zf w A6 (some Q)).trans (A3 Q hb1);have hXa:=HX.out.grown (A3 Q hb1) (by omega)) | (go_at_call_of 49 (Value.string ⟨#[110,105,108]⟩);refine(ht0 _ hpa).mono ?_;rintro e wb ⟨rfl,hpb,hgb'⟩;have hgb:=hga.trans hgb';have hXb:=hXa.grown hgb' (by omega)) | (go_at_call_of 49 (Value.string ⟨#[115,101,108,102]⟩);refine(ht1 _ hpb).mono ?_;rintro e wc ⟨rfl,hpc,hgc'⟩;have hgc:=hgb.trans hgc';have hXc:=hXb.grown hgc' (by omega)) | (go_at_call_of 49 (Value.string ⟨#[103,97,116,101]⟩);refine(ht2 _ hpc).mono ?_;rintro e wd ⟨rfl,hpd,hgd'⟩;have hgd:=hgc.trans hgd';have hXd:=hXc.grown hgd' (by omega)) | (go_at_call_of 49 (Value.string ⟨#[110,101,119]⟩);refine(ht3 _ hpd).mono ?_;rintro e we ⟨rfl,hpe,hge'⟩;have hge:=hgd.trans hge';have hXe:=hXd.grown hge' (by omega)) | (go_at_call 77;refine(hcd _ hpf).mono ?_;rintro e w2 ⟨rfl,hg2⟩))
  exact⟨rfl,rfl,hgf.trans hg2⟩
 | ok z=>
  obtain⟨k,s'⟩:=z
  rw[hx]at hcd
  clear hx
  go_enter Tryz.func131,Tryz.ntmps131
  go_wp2_with (first | (go_at_call 54;refine(hn2 _ hpe).mono ?_;rintro e wf ⟨rfl,hbf⟩;have hpf:=hpe.below hbf;have hgf:=hge.trans (A3 Q hbf);have hXf:=hXe.grown (A3 Q hbf) (by omega)) | (go_at_call 54;refine hn.mono ?_;rintro e wa ⟨rfl,hb1⟩;have hpa:=HPA.out.below hb1;have hga:=(Zf w A6 (some Q)).trans (A3 Q hb1);have hXa:=HX.out.grown (A3 Q hb1) (by omega)) | (go_at_call_of 49 (Value.string ⟨#[110,105,108]⟩);refine(ht0 _ hpa).mono ?_;rintro e wb ⟨rfl,hpb,hgb'⟩;have hgb:=hga.trans hgb';have hXb:=hXa.grown hgb' (by omega)) | (go_at_call_of 49 (Value.string ⟨#[115,101,108,102]⟩);refine(ht1 _ hpb).mono ?_;rintro e wc ⟨rfl,hpc,hgc'⟩;have hgc:=hgb.trans hgc';have hXc:=hXb.grown hgc' (by omega)) | (go_at_call_of 49 (Value.string ⟨#[103,97,116,101]⟩);refine(ht2 _ hpc).mono ?_;rintro e wd ⟨rfl,hpd,hgd'⟩;have hgd:=hgc.trans hgd';have hXd:=hXc.grown hgd' (by omega)) | (go_at_call_of 49 (Value.string ⟨#[110,101,119]⟩);refine(ht3 _ hpd).mono ?_;rintro e we ⟨rfl,hpe,hge'⟩;have hge:=hgd.trans hge';have hXe:=hXd.grown hge' (by omega)) | (go_at_call 77;refine(hcd _ hpf).mono ?_;rintro e w2 ⟨u,rfl,hv2,hp2,hg2⟩;obtain⟨a,b,c,ad,ln,cp,hu⟩:=NodeV.any hv2;subst hu;have hlf:=hXf.lt;obtain⟨⟨x0,x1,x2,x3⟩,f0,f1,f2,f3⟩:=(hXf.grown hg2 (by omega)).facts))
  refine bodyPost_ret (v:=.agg #[.int .i64 a,.string b,.int .i64 c,.slice ad ln cp]) (by simp[results,Tryz.results131,go_sem,x0,x1,x2,x3]) rfl ?_
  exact B5 (Zi hv2 (fun j hj _=>by have hj':wf.heap.size<=j:=hj;show w.heap.size+1<=j;omega)) hp2 (hgf.trans hg2) hB
theorem L7(Q B:Nat)(v:Value)(S:Src9)(hl:AP S)(s:PS)(hs:isB S 2 s=false)(n0:A2 S Dq s=false)(n1:A2 S DK s=false)(n2:A2 S De s=false)(n3:A2 S EW s=false)(y:A2 S AD s=false)(w:World)(hp:Rdr w Q B v S s) :
  Calls Tryz.prog 131 #[.pointer (some ⟨Q,0,none⟩)] w fun e w'=>BW Q B v S w (Bo w) ((Ae S s).then fun x s=>AJ 31 x 0 [] s) e w':=by
 have hB:=hp.size
 have hqb:=hp.qb
 have HPA:Hid (Rdr (w.alloc A6) Q B v S s):=hp.below ((Zg _ w).alloc (Z0 _) _)
 have HX:=ZC w
 have hn:=C6 Q B v S s (w.alloc A6) HPA.out
 unfold Cr at hn
 have hf0:=GW
 have hk:=FU hs
 have hf1:=Ji
 have hn2:=fun w' (h':Rdr w' Q B v S s)=>C6 Q B v S s w' h'
 unfold Cr at hn2
 have hne:((strOfNums (S.text s)).toList==[40])=false:=FH (l:=[40]) fun e=>by
  rw[Co hl (by decide),I4 hp.base.bytes e]at y
  exact absurd y (by decide)
 generalize strOfNums (S.text s)=tx at *
 have ht0:=fun w' (h':Rdr w' Q B v S s)=>Az hl (x:=⟨#[110,105,108]⟩) (l:=Dq) (by decide) (by decide) n0 w' h'
 have ht1:=fun w' (h':Rdr w' Q B v S s)=>Az hl (x:=⟨#[115,101,108,102]⟩) (l:=DK) (by decide) (by decide) n1 w' h'
 have ht2:=fun w' (h':Rdr w' Q B v S s)=>Az hl (x:=⟨#[103,97,116,101]⟩) (l:=De) (by decide) (by decide) n2 w' h'
 have ht3:=fun w' (h':Rdr w' Q B v S s)=>Az hl (x:=⟨#[110,101,119]⟩) (l:=EW) (by decide) (by decide) n3 w' h'
 have hnd:=fun w' (h':Rdr w' Q B v S s)=>DM Q B v S hl s 31 w' h'
 generalize S.kind s=kd at *
 clear hp hs y n0 n1 n2 n3
 cases hx:Ae S s with
 | error f=>
  rw[hx]at hnd
  clear hx
  go_enter Tryz.func131,Tryz.ntmps131
  go_wp2_with (first | (go_at_call 54;refine(hn2 _ hpe).mono ?_;rintro e wf ⟨rfl,hbf⟩;have hpf:=hpe.below hbf;have hgf:=hge.trans (A3 Q hbf);have hXf:=hXe.grown (A3 Q hbf) (by omega)) | (go_at_call 54;refine hn.mono ?_;rintro e wa ⟨rfl,hb1⟩;have hpa:=HPA.out.below hb1;have hga:=(Zf w A6 (some Q)).trans (A3 Q hb1);have hXa:=HX.out.grown (A3 Q hb1) (by omega)) | (go_at_call_of 49 (Value.string ⟨#[110,105,108]⟩);refine(ht0 _ hpa).mono ?_;rintro e wb ⟨rfl,hpb,hgb'⟩;have hgb:=hga.trans hgb';have hXb:=hXa.grown hgb' (by omega)) | (go_at_call_of 49 (Value.string ⟨#[115,101,108,102]⟩);refine(ht1 _ hpb).mono ?_;rintro e wc ⟨rfl,hpc,hgc'⟩;have hgc:=hgb.trans hgc';have hXc:=hXb.grown hgc' (by omega)) | (go_at_call_of 49 (Value.string ⟨#[103,97,116,101]⟩);refine(ht2 _ hpc).mono ?_;rintro e wd ⟨rfl,hpd,hgd'⟩;have hgd:=hgc.trans hgd';have hXd:=hXc.grown hgd' (by omega)) | (go_at_call_of 49 (Value.string ⟨#[110,101,119]⟩);refine(ht3 _ hpd).mono ?_;rintro e we ⟨rfl,hpe,hge'⟩;have hge:=hgd.trans hge';have hXe:=hXd.grown hge' (by omega)) | (go_at_call 50;refine(hnd _ hpf).mono ?_;rintro e w2 ⟨rfl,hg2⟩))
  exact⟨rfl,rfl,hgf.trans hg2⟩
 | ok z=>
  obtain⟨x,s'⟩:=z
  rw[hx]at hnd
  clear hx
  go_enter Tryz.func131,Tryz.ntmps131
  go_wp2_with (first | (go_at_call 54;refine(hn2 _ hpe).mono ?_;rintro e wf ⟨rfl,hbf⟩;have hpf:=hpe.below hbf;have hgf:=hge.trans (A3 Q hbf);have hXf:=hXe.grown (A3 Q hbf) (by omega)) | (go_at_call 54;refine hn.mono ?_;rintro e wa ⟨rfl,hb1⟩;have hpa:=HPA.out.below hb1;have hga:=(Zf w A6 (some Q)).trans (A3 Q hb1);have hXa:=HX.out.grown (A3 Q hb1) (by omega)) | (go_at_call_of 49 (Value.string ⟨#[110,105,108]⟩);refine(ht0 _ hpa).mono ?_;rintro e wb ⟨rfl,hpb,hgb'⟩;have hgb:=hga.trans hgb';have hXb:=hXa.grown hgb' (by omega)) | (go_at_call_of 49 (Value.string ⟨#[115,101,108,102]⟩);refine(ht1 _ hpb).mono ?_;rintro e wc ⟨rfl,hpc,hgc'⟩;have hgc:=hgb.trans hgc';have hXc:=hXb.grown hgc' (by omega)) | (go_at_call_of 49 (Value.string ⟨#[103,97,116,101]⟩);refine(ht2 _ hpc).mono ?_;rintro e wd ⟨rfl,hpd,hgd'⟩;have hgd:=hgc.trans hgd';have hXd:=hXc.grown hgd' (by omega)) | (go_at_call_of 49 (Value.string ⟨#[110,101,119]⟩);refine(ht3 _ hpd).mono ?_;rintro e we ⟨rfl,hpe,hge'⟩;have hge:=hgd.trans hge';have hXe:=hXd.grown hge' (by omega)) | (go_at_call 50;refine(hnd _ hpf).mono ?_;rintro e w2 ⟨u,rfl,rfl,hp2,hg2⟩;obtain⟨⟨x0,x1,x2,x3⟩,f0,f1,f2,f3⟩:=(hXf.grown hg2 (by omega)).facts))
  refine bodyPost_ret (v:=.agg #[.int .i64 31,.string (strOfNums x),.int .i64 0,.slice none 0 0]) (by simp[results,Tryz.results131,go_sem,x0,x1,x2,x3]) rfl ?_
  exact B5 (n:=.mk 31 x 0 []) (s':=s'.node) ⟨_,rfl,Dw _ _ _⟩ (hp2.many _) (hgf.trans hg2) hB
theorem OJ(Q B:Nat)(v:Value)(S:Src9)(hl:AP S)(hnf:CE S)(s:PS)(hcd:AM 77 (Bw S) Q B v S s):AM 131 (Di S) Q B v S s:=by
 intro w hp
 rw[FL]
 cases h2:isB S 2 s with
 | true=>rw[if_pos rfl];exact R0 Q B v S hl hnf s h2 w hp
 | false=>
  rw[if_neg (by decide)]
  cases h1:isB S 1 s with
  | true=>rw[if_pos rfl];exact L7 Q B v S hl s h2 (FV h1 _) (FV h1 _) (FV h1 _) (FV h1 _) (FV h1 _) w hp
  | false=>
   rw[if_neg (by decide)]
   cases n0:A2 S Dq s with
   | true=>rw[if_pos rfl];exact R1 Q B v S hl s h2 n0 w hp
   | false=>
    rw[if_neg (by decide)]
    cases n1:A2 S DK s with
    | true=>rw[if_pos rfl];exact Pm Q B v S hl s h2 n0 n1 w hp
    | false=>
     rw[if_neg (by decide)]
     cases n2:A2 S De s with
     | true=>rw[if_pos rfl];exact Pn Q B v S hl s h2 n0 n1 n2 w hp
     | false=>
      rw[if_neg (by decide)]
      cases n3:A2 S EW s with
      | true=>rw[if_pos rfl];exact R2 Q B v S hl s h2 n0 n1 n2 n3 w hp
      | false=>
       rw[if_neg (by decide)]
       cases n4:A2 S AD s with
       | true=>exact OI Q B v S hl s h2 n0 n1 n2 n3 n4 hcd w hp
       | false=>
        have h:=L7 Q B v S hl s h2 n0 n1 n2 n3 n4 w hp
        have e1:Ae S s=Bu S 12 s:=by unfold Ae;rw[if_neg (by rw[h1];decide)]
        have e2:A8 S AD s=Bu S 12 s:=by unfold A8;rw[if_neg (by rw[n4];decide)]
        rw[e1]at h
        rw[e2]
        exact h
open Go.RowKit
theorem Fj{t e:TypeId}{size bytes:Nat}(he:KU t e size bytes){ty:TypeId}(ad:Option Addr)(n cap c:Nat)(hn:n<=cap)(w:World):(Builtin.append_ #[t,t] ty #[.slice ad n cap,.slice none 0 c]).run Tryz.prog w=.ok (.slice ad n cap) w:=by
 obtain⟨i,z,hi,hz0,hz1,hz2,hz3⟩:=he.info
 cases ad with
 | none=>simp[Builtin.append_,run_underlying he.under,sizeOf,typeInfo,hi,Builtin.lenOf,hn,run_firstCells_none,Result.andThen]
 | some a=>simp[Builtin.append_,run_underlying he.under,sizeOf,typeInfo,hi,Builtin.lenOf,hn,run_firstCells_none,Result.andThen,storeCells]
def RowS(w:World)(BB:Nat)(v:Value)(l:List (Nd×Value)):Prop:=w.ownsRow BB 24 4 v l.length (Af l)/\∀z∈l,KidsV w (fun k=>BB<=k/\v.ownBlock≠some k) z.2 z.1.kids
theorem RowS.nil(w:World)(BB:Nat):RowS w BB (.slice none 0 0) []:=⟨Zl _ _ _ _,fun z hz=>by cases hz⟩
theorem RowS.slice{w:World}{BB:Nat}{v:Value}{l:List (Nd×Value)}(h:RowS w BB v l):∃ad c,v=.slice ad l.length c/\l.length<=c:=by
 rcases h.1.2 with⟨rfl,h0⟩ | ⟨g,cap,cur,rfl,_,_,hc,_⟩
 ·exact⟨none,0,by rw[h0],by omega⟩
 ·exact⟨_,cap,rfl,hc⟩
theorem RowS.lt{w:World}{BB:Nat}{v:Value}{l:List (Nd×Value)}(h:RowS w BB v l):∀k,v.ownBlock=some k->BB<=k/\k<w.heap.size:=fun k e=>h.1.lt k e
theorem RowS.grown{w w':World}{BB Q:Nat}{v:Value}{l:List (Nd×Value)}(h:RowS w BB v l)(hg:w.grownBy w' (some Q))(hq:Q<BB):RowS w' BB v l:=
 ⟨h.1.kept hg (Or.inr (by intro e;have:=(h.lt Q e).1;omega)),fun z hz=>(h.2 z hz).above (Zh hg (fun k e=>by injection e with e;rintro⟨h,_⟩;omega))⟩
theorem RowS.alloc{w:World}{BB:Nat}{v:Value}{l:List (Nd×Value)}(h:RowS w BB v l)(o:Obj):RowS (w.alloc o) BB v l:=
 ⟨h.1.alloc o,fun z hz=>(h.2 z hz).above (Zh (Zf _ _ none) (fun k e=>by cases e))⟩
theorem RowS.kids{w:World}{BB:Nat}{v:Value}{l:List (Nd×Value)}(h:RowS w BB v l):KidsV w (Be BB) v (l.map Prod.fst):=
 KidsV.of_own h.1 (fun k e=>(h.lt k e).1) (fun z hz=>(h.2 z hz).mono (fun _ h1 _=>h1.1))
theorem Fk{w:World}{M:Nat->Prop}{a b c d:Value}{n:Nd}(h:NodeV w M (.agg #[a,b,c,d]) n):∃x,[a,b,c,d]=D8 n x/\KidsV w M x n.kids:=by
 obtain⟨x,hv,hk⟩:=h
 simp only[Value.agg.injEq]at hv
 exact⟨x,by have:=congrArg Array.toList hv;simpa using this,hk⟩
theorem RowS.first{w:World}{BB:Nat}{n:Nd}{a b c d:Value}(h:NodeV w (Be BB) (.agg #[a,b,c,d]) n)(hB:BB<=w.heap.size):∃x,RowS (w.alloc (.cells #[a,b,c,d] 24)) BB (.slice (some ⟨w.heap.size,0,none⟩) 1 1) [(n,x)]:=by
 obtain⟨x,e,hk⟩:=Fk h
 refine⟨x,⟨rfl,.inr ⟨w.heap.size,1,#[a,b,c,d],rfl,hB,heap_alloc_new w _,Z0 _,by decide,rfl,?_⟩⟩,?_⟩
 ·show[a,b,c,d]=_
  rw[e]
  simp[Af]
 ·intro z hz
  simp only[List.mem_singleton]at hz
  subst hz
  exact(hk.mono (fun k h1 h2=>⟨h1,fun e=>by have e':w.heap.size=k:=(by injection e);omega⟩)).above (Zh (Zf _ _ none) (fun k e=>by cases e))
theorem L8{w wm w':World}{BB g' n' cap':Nat}{v:Value}(hwm:Below w.heap.size w wm)(hg:wm.grownBy w' v.ownBlock)(hor:v.ownBlock=some g'\/g'=wm.heap.size)(z:Value)(ks:List Nd)(h:KidsV w (fun k=>BB<=k/\v.ownBlock≠some k) z ks):KidsV w' (fun k=>BB<=k/\(sl g' n' cap').ownBlock≠some k) z ks:=by
 have h2:=(h.mono (M':=fun j=>(BB<=j/\(sl g' n' cap').ownBlock≠some j)/\v.ownBlock≠some j) (fun j hj hlt=>⟨⟨hj.1,fun e=>by
   have e':g'=j:=by injection e
   rcases hor with h | h
   ·exact hj.2 (by rw[h,e'])
   ·have:=hwm.size;omega⟩,hj.2⟩)).above (Zk hwm)
 exact(h2.above (Zh hg (fun j e=>by rintro⟨_,h⟩;exact h e))).mono (fun j hj _=>hj.1)
theorem RowS.more{w wm w':World}{BB C g' cap':Nat}{v:Value}{l:List (Nd×Value)}{k:Nd}{a b c d:Value}(h:RowS w BB v l)(hv:NodeV w (Be C) (.agg #[a,b,c,d]) k)(hC:BB<=C)(hvC:∀j,v.ownBlock=some j->j<C)(hwm:Below w.heap.size w wm)(ho:w'.ownsRow BB 24 4 (sl g' (l.length+1) cap') (l.length+1) (Af l++[a,b,c,d]))(hg:wm.grownBy w' v.ownBlock)(hor:v.ownBlock=some g'\/g'=wm.heap.size):∃x,RowS w' BB (sl g' (l.length+1) cap') (l++[(k,x)]):=by
 obtain⟨x,e,hk⟩:=Fk hv
 refine⟨x,?_,?_⟩
 ·rw[Ny,Z1,<-e]
  exact ho
 ·intro z hz
  rcases List.mem_append.1 hz with hz | hz
  ·exact L8 hwm hg hor _ _ (h.2 z hz)
  ·simp only[List.mem_singleton]at hz
   subst hz
   exact L8 hwm hg hor _ _ (hk.mono (fun j hj _=>by have hj':C<=j:=hj;exact⟨by omega,fun e=>by have:=hvC j e;omega⟩))
theorem L9(l m:List (Nd×Value)):Af (l++m)=Af l++Af m:=by simp[Af,List.flatMap_append]
theorem Fl(l:List (Nd×Value))(h:∀z∈l,∃ad n c,z.2=.slice ad n c):∀u∈Af l,u.oneCell'=true:=by
 intro u hu
 unfold Af at hu
 obtain⟨z,hz,hu⟩:=List.mem_flatMap.1 hu
 obtain⟨ad,n,c,e⟩:=h z hz
 unfold D8 at hu
 rw[e]at hu
 simp at hu
 rcases hu with rfl | rfl | rfl | rfl<;>rfl
theorem IZ(w:World)(a b c d:Value)(T:TypeId):∀j u,[a,b,c,d][j]?=some u->(w.alloc (.cells #[a,b,c,d] T)).cell? ((⟨w.heap.size,0,none⟩:Addr).add j)=some u:=fun j u h=>by
 rw[H7,World.cell?_alloc_at _ _ _ _ rfl,Nat.zero_add]
 simpa using h
open Go.RowKit
def Ho(S:Src9)(Y:PS->Got (List Nd))(s:PS):Got (List Nd):=(A8 S AD s).then fun _ s=>(if A2 S A9 s=true then .ok ([],s)else Y s).then fun ks s=>(A8 S A9 s).then fun _ s=>.ok (ks,s)
def Tg(BB:Nat)(ks:List Nd)(u:Value)(w':World):Prop:=∃l:List (Nd×Value),l.map Prod.fst=ks/\RowS w' BB u l/\l.length<=4000
theorem LA{S:Src9}(hl:AP S)(s:PS):(A2 S A9 s=true->CP S A9 s=.ok (true,{ s with tok:=s.tok+1,deep:=s.deep-1 })/\A8 S A9 s=.ok ((),{ s with tok:=s.tok+1,deep:=s.deep-1 }))/\(A2 S A9 s=false->CP S A9 s=.ok (false,s)):=by
 refine⟨fun h=>?_,fun h=>?_⟩
 ·have h':=h
  rw[Co hl (by decide)]at h'
  have e:S.text s=A9:=by simpa using h'
  refine⟨?_,?_⟩
  ·unfold CP Bx
   rw[if_pos e,e,if_neg (by decide),if_pos (by decide),then_ok]
  ·unfold A8
   rw[if_pos h,if_neg (by decide),if_pos (by decide)]
 ·rw[Co hl (by decide)]at h
  unfold CP
  rw[if_neg (by simpa using h)]
theorem NS(K:Nat)(X:PS->Got Nd)(Y:PS->Got (List Nd))(Q B:Nat)(v:Value)(S:Src9)(hl:AP S)(hY:∀s,Y s=(X s).then fun k s=>if A2 S An s=true then(Y s.step).then fun ks s=>.ok (k::ks,s)else .ok ([k],s))(hat:∀s n s',X s=.ok (n,s')->s.tok+1<=s'.tok)(s:PS)(hX:Part K X Q B v S (s.tok+1))(w:World)(hp:Rdr w Q B v S s) :
  Calls Tryz.prog 72 #[.pointer (some ⟨Q,0,none⟩),.func (.func K) #[.pointer (some ⟨Q,0,none⟩)] #[]] w fun e w'=>BW Q B v S w (Tg w.heap.size) (Ho S Y s) e w':=by
 have hB:=hp.size
 have hqb:=hp.qb
 have e1:A7 ⟨#[40]⟩=AD:=by decide
 have e2:A7 ⟨#[41]⟩=A9:=by decide
 have e3:A7 ⟨#[44]⟩=An:=by decide
 have hwA:=JI hl e1 (by decide) w hp
 have hent:=hX.enters
 have HPt:Hid (Part K X Q B v S (s.tok+1)):=hX
 unfold Ho
 clear hX
 cases h1:A8 S AD s with
 | error f=>
  rw[h1]at hwA
  clear h1 hp
  go_enter Tryz.func72,Tryz.ntmps72
  go_wp2_with (first | (go_at_call 34;refine hwA.mono ?_;rintro e w1 ⟨rfl,hg1⟩))
  exact⟨rfl,rfl,hg1⟩
 | ok y=>
  obtain⟨⟨⟩,s1⟩:=y
  obtain⟨t1,t2⟩:=Eh h1
  rw[h1]at hwA
  rw[then_ok]
  have hts:=fun w' (h':Rdr w' Q B v S s1)=>Fh Q B v S s1 ⟨#[41]⟩ (by decide) w' h'
  rw[e2]at hts
  clear h1 hp
  cases hs:A2 S A9 s1 with
  | true=>
   obtain⟨q1,q2⟩:=(LA hl s1).1 hs
   rw[q1]at hts
   rw[if_pos rfl,then_ok,q2,then_ok]
   clear hs q1 q2 t1 t2
   go_enter Tryz.func72,Tryz.ntmps72
   go_wp2_with (first | (go_at_call 34;refine hwA.mono ?_;rintro e w1 ⟨u1,rfl,rfl,hp1,hg1⟩) | (go_at_call 49;refine(hts _ hp1).mono ?_;rintro e w2 ⟨u2,rfl,rfl,hp2,hg2⟩))
   go_ret
   exact⟨_,rfl,⟨[],rfl,RowS.nil _ _,by simp⟩,hp2,hg1.trans hg2⟩
  | false=>
   rw[(LA hl s1).2 hs]at hts
   rw[if_neg (by decide)]
   have hr:=HPt.out.reads s1 (by omega) (by omega)
   unfold AM at hr
   obtain⟨gY,HG⟩:∃gY,Hid (Y s1=gY):=⟨_,rfl⟩
   rw[HG.out]
   have HG1:Hid (((X s1).then fun k s=>if A2 S An s=true then(Y s.step).then fun ks s=>.ok (k::ks,s)else .ok ([k],s))=gY):=by show _=_;rw[<-hY];exact HG.out
   clear hs HG
   cases hx1:X s1 with
   | error f=>
    rw[hx1]at hr HG1
    have HE:Hid (gY=.error f):=HG1.out.symm
    rw[HE.out]
    clear hx1 HG1 HE t1 t2
    go_enter Tryz.func72,Tryz.ntmps72
    go_wp2_with (first | (go_at_call 34;refine hwA.mono ?_;rintro e w1 ⟨u1,rfl,rfl,hp1,hg1⟩) | (go_at_call 49;refine(hts _ hp1).mono ?_;rintro e w2 ⟨u2,rfl,rfl,hp2,hg2⟩) | (refine(hr _ hp2).mono ?_;rintro e w3 ⟨rfl,hg3⟩))
    exact⟨rfl,rfl,(hg1.trans hg2).trans hg3⟩
   | ok z=>
    obtain⟨k0,s2⟩:=z
    rw[hx1]at hr HG1
    have ht2:=hat _ _ _ hx1
    have HG2:Hid ((if A2 S An s2=true then(Y s2.step).then fun ks s=>.ok ([k0]++ks,s)else .ok ([k0],s2))=gY):=HG1.out
    have HT:Hid (s.tok+1<=s1.tok/\s1.tok+1<=s2.tok):=⟨by omega,ht2⟩
    clear hx1 HG1 t1 t2 ht2
    go_enter Tryz.func72,Tryz.ntmps72
    go_wp2_with (first | (go_at_call 34;refine hwA.mono ?_;rintro e w1 ⟨u1,rfl,rfl,hp1,hg1⟩) | (go_at_call 49;refine(hts _ hp1).mono ?_;rintro e w2 ⟨u2,rfl,rfl,hp2,hg2'⟩;have hg2:=hg1.trans hg2') | (refine(hr _ hp2).mono ?_;rintro e w3 ⟨u3,rfl,hv3,hp3,hg3'⟩;obtain⟨a,b,c,ad,ln,cp,hu⟩:=NodeV.any hv3;subst hu;have hg3:=hg2.trans hg3'))
    have hsz2:=hg2.size
    have hsz3:=hg3.size
    obtain⟨x0,HR0⟩:=RowS.first (BB:=w.heap.size) (Zi hv3 (fun j hj _=>by have hj':w2.heap.size<=j:=hj;show w.heap.size<=j;omega)) (by omega)
    have HR1:Hid (RowS (w3.alloc (.cells #[.int .i64 a,.string b,.int .i64 c,.slice ad ln cp] 24)) w.heap.size (.slice (some ⟨w3.heap.size,0,none⟩) 1 1) [(k0,x0)]):=HR0
    have HP1:Hid (Rdr (w3.alloc (.cells #[.int .i64 a,.string b,.int .i64 c,.slice ad ln cp] 24)) Q B v S s2):=hp3.below ((Zg _ _).alloc (Z0 _) _)
    have HW1:Hid (w.grownBy (w3.alloc (.cells #[.int .i64 a,.string b,.int .i64 c,.slice ad ln cp] 24)) (some Q)):=hg3.trans (Zf _ _ _)
    clear HR0 hv3 hp3 hg3 hg3' hg2 hg2' hp2 hp1 hg1 hsz2 hsz3 hr hwA hts
    go_loopw [5] (fun s5 wr=>∃(l:List (Nd×Value)) (sk:PS) (ad:Option Addr) (c:Nat),s5=.slice ad l.length c/\Hid (Rdr wr Q B v S sk)/\Hid (RowS wr w.heap.size (.slice ad l.length c) l)/\Hid (w.grownBy wr (some Q))/\Hid (l.length<=sk.tok/\s.tok+1<=sk.tok)/\Hid ((if A2 S An sk=true then(Y sk.step).then fun ks s=>.ok (l.map Prod.fst++ks,s)else .ok (l.map Prod.fst,sk))=gY)) (fun _ wr=>4001-tokOf wr Q)
    case atStart=>exact⟨[(k0,x0)],s2,_,_,rfl,HP1,HR1,HW1,⟨by have:=HT.out;simp;omega,by have:=HT.out;omega⟩,HG2⟩
    case round=>
     clear HP1 HR1 HW1 HG2 HT
     rename_i wr
     obtain⟨l,sk,ad,c,rfl,HP,HR,HW,HL,HE⟩:=hrel
     have HTK:Hid (tokOf wr Q=sk.tok):=HP.out.tokOf
     have HFW:Hid (S.L.length<=4000):=HP.out.few
     have hktok:=HP.out.tok
     cases hc:A2 S An sk with
     | false=>
      have HE2:Hid (gY=.ok (l.map Prod.fst,sk)):=by
       show _=_
       have:=HE.out
       rw[hc]at this
       exact this.symm
      have htc:=Az hl e3 (by decide) hc wr HP.out
      have hw2:=fun w' (h':Rdr w' Q B v S sk)=>JI hl e2 (by decide) w' h'
      clear HE hc
      cases h3:A8 S A9 sk with
      | error f=>
       rw[h3]at hw2
       go_wp2_with (first | (go_at_call 49;refine htc.mono ?_;rintro e w4 ⟨rfl,hp4,hg4⟩) | (go_at_call 34;refine(hw2 _ hp4).mono ?_;rintro e w5 ⟨rfl,hg5⟩))
       refine⟨rfl,?_⟩
       rw[HE2.out,then_ok,h3]
       exact⟨rfl,(HW.out.trans hg4).trans hg5⟩
      | ok y=>
       obtain⟨⟨⟩,s5⟩:=y
       rw[h3]at hw2
       go_wp2_with (first | (go_at_call 49;refine htc.mono ?_;rintro e w4 ⟨rfl,hp4,hg4⟩) | (go_at_call 34;refine(hw2 _ hp4).mono ?_;rintro e w5 ⟨u5,rfl,rfl,hp5,hg5⟩))
       go_ret
       rw[HE2.out,then_ok,h3,then_ok]
       exact⟨_,rfl,⟨l,rfl,(HR.out.grown hg4 (by omega)).grown hg5 (by omega),by have:=HL.out.1;have:=HFW.out;omega⟩,hp5,(HW.out.trans hg4).trans hg5⟩
     | true=>
      have ht:=AG hc
      have htc:=BC hl e3 (by decide) (by decide) (by decide) hc wr HP.out
      have HE2:Hid (((Y sk.step).then fun ks s=>.ok (l.map Prod.fst++ks,s))=gY):=by
       show _=_
       have:=HE.out
       rw[hc]at this
       exact this
      have hr:=HPt.out.reads sk.step (by have:=HL.out.2;show s.tok+1<=sk.tok+1;omega) (by show sk.tok+1<=_;omega)
      unfold AM at hr
      rw[hY]at HE2
      clear HE hc
      cases hx:X sk.step with
      | error f=>
       rw[hx]at hr HE2
       have HE3:Hid (gY=.error f):=HE2.out.symm
       clear HE2 hx
       go_wp2_with (first | (go_at_call 49;refine htc.mono ?_;rintro e w4 ⟨rfl,hp4,hg4⟩) | (refine(hr _ hp4).mono ?_;rintro e w5 ⟨rfl,hg5⟩))
       refine⟨rfl,?_⟩
       rw[HE3.out]
       exact⟨rfl,(HW.out.trans hg4).trans hg5⟩
      | ok z=>
       obtain⟨k,s3⟩:=z
       rw[hx]at hr HE2
       have ht3:=hat _ _ _ hx
       have et:sk.step.tok=sk.tok+1:=rfl
       have HT3:Hid (sk.tok+2<=s3.tok):=(show sk.tok+2<=s3.tok by omega)
       have HE3:Hid ((if A2 S An s3=true then(Y s3.step).then fun ks s=>.ok ((l.map Prod.fst++[k])++ks,s)else .ok (l.map Prod.fst++[k],s3))=gY):=by
        show _=_
        have:=HE2.out
        rw[then_ok]at this
        rw[<-this]
        cases hc3:A2 S An s3 with
        | false=>rfl
        | true=>
         simp only[if_true]
         cases Y s3.step with
         | error f=>rfl
         | ok y=>obtain⟨ks,s4⟩:=y;simp[then_ok]
       have hln:l.length<=4000:=by have:=HL.out.1;have:=HFW.out;omega
       have hlt4:∀j,Value.ownBlock (.slice ad l.length c)=some j->w.heap.size<=j/\j<wr.heap.size:=HR.out.lt
       clear HE2 hx ht3 et
       go_wp2_with (first | (go_at_call 49;refine htc.mono ?_;rintro e w4 ⟨rfl,hp4,hg4⟩;have hR4:=HR.out.grown hg4 (by omega);have hsz4:=hg4.size) | (at_builtin;refine Ci DZ rfl (.tmp 16) (.tmp 19) rfl w.heap.size l.length 1 (.slice ad l.length c) (Af l) [.int .i64 a',.string b',.int .i64 c',.slice ad' n' cc'] rfl ((hR5.alloc _).1) ⟨w5.heap.size,0,none⟩ rfl rfl (IZ _ _ _ _ _ _) (IY _ _ _ _ _ _) (by omega) (by simp;omega) ?_;intro g' cap' w6 O6 hg6 hor6) | (refine(hr _ hp4).mono ?_;rintro e w5 ⟨u5,rfl,hv5,hp5,hg5⟩;obtain⟨a',b',c',ad',n',cc',hu⟩:=NodeV.any hv5;subst hu;have hR5:=hR4.grown hg5 (by omega);have hsz5:=hg5.size;have hW5:=(HW.out.trans hg4).trans hg5;have hszw:=HW.out.size))
       have hbm:Below w5.heap.size w5 (w5.alloc (.cells #[.int .i64 a',.string b',.int .i64 c',.slice ad' n' cc'] 24)):=(Zg _ _).alloc (Z0 _) _
       obtain⟨x6,hR6⟩:=hR5.more hv5 (C:=w4.heap.size) (by omega) (fun j e=>by have:=(hlt4 j e).2;omega) hbm O6 hg6 hor6
       have hb6:Below w.heap.size w5 w6:=(hbm.mono (by omega)).grown hg6 (by simp;omega) (fun j e=>(hlt4 j e).1)
       go_roundw
       case rel=>
        refine⟨l++[(k,x6)],s3,some ⟨g',0,none⟩,cap',by simp,hp5.apart (hb6.mono hB),?_,Bf hW5 hb6,⟨by have:=HL.out.1;have:=HT3.out;simp;omega,by have:=HL.out.2;have:=HT3.out;omega⟩,?_⟩
        ·show RowS w6 w.heap.size (.slice (some ⟨g',0,none⟩) (l++[(k,x6)]).length cap') _
         rw[Z1]
         exact hR6
        ·show(if _ then _ else _)=gY
         rw[List.map_append]
         exact HE3.out
       case measure=>
        have q1:=(hp5.apart (hb6.mono hB)).tokOf
        have q2:=HTK.out
        have q3:=HT3.out
        have q4:=HFW.out
        have q5:=hp5.tok
        rw[q1,q2]
        omega
open Go.RowKit
def RowM(w:World)(BB:Nat)(M:Nat->Prop)(v:Value)(l:List (Nd×Value)):Prop:=w.ownsRow BB 24 4 v l.length (Af l)/\∀z∈l,KidsV w (fun k=>M k/\v.ownBlock≠some k) z.2 z.1.kids
theorem RowM.lt{w:World}{BB:Nat}{M:Nat->Prop}{v:Value}{l:List (Nd×Value)}(h:RowM w BB M v l):∀k,v.ownBlock=some k->BB<=k/\k<w.heap.size:=fun k e=>h.1.lt k e
theorem RowM.grown{w w':World}{BB Q:Nat}{M:Nat->Prop}{v:Value}{l:List (Nd×Value)}(h:RowM w BB M v l)(hg:w.grownBy w' (some Q))(hq:Q<BB)(hm:¬M Q):RowM w' BB M v l:=
 ⟨h.1.kept hg (Or.inr (by intro e;have:=(h.lt Q e).1;omega)),fun z hz=>(h.2 z hz).above (Zh hg (fun k e=>by injection e with e;subst e;rintro⟨h,_⟩;exact hm h))⟩
theorem RowM.alloc{w:World}{BB:Nat}{M:Nat->Prop}{v:Value}{l:List (Nd×Value)}(h:RowM w BB M v l)(o:Obj):RowM (w.alloc o) BB M v l:=
 ⟨h.1.alloc o,fun z hz=>(h.2 z hz).above (Zh (Zf _ _ none) (fun k e=>by cases e))⟩
theorem RowM.kids{w:World}{BB:Nat}{M:Nat->Prop}{v:Value}{l:List (Nd×Value)}(h:RowM w BB M v l)(hM:∀g,v.ownBlock=some g->M g):KidsV w M v (l.map Prod.fst):=
 KidsV.of_own h.1 hM (fun z hz=>(h.2 z hz).mono (fun _ h1 _=>h1.1))
theorem RowM.first{w:World}{BB:Nat}{M:Nat->Prop}{n:Nd}{a b c d:Value}(h:NodeV w M (.agg #[a,b,c,d]) n)(hB:BB<=w.heap.size):∃x,RowM (w.alloc (.cells #[a,b,c,d] 24)) BB M (.slice (some ⟨w.heap.size,0,none⟩) 1 1) [(n,x)]:=by
 obtain⟨x,e,hk⟩:=Fk h
 refine⟨x,⟨rfl,.inr ⟨w.heap.size,1,#[a,b,c,d],rfl,hB,heap_alloc_new w _,Z0 _,by decide,rfl,?_⟩⟩,?_⟩
 ·show[a,b,c,d]=_
  rw[e]
  simp[Af]
 ·intro z hz
  simp only[List.mem_singleton]at hz
  subst hz
  exact(hk.mono (fun k h1 h2=>⟨h1,fun e=>by have e':w.heap.size=k:=(by injection e);omega⟩)).above (Zh (Zf _ _ none) (fun k e=>by cases e))
theorem RowM.slice{w:World}{BB:Nat}{M:Nat->Prop}{v:Value}{l:List (Nd×Value)}(h:RowM w BB M v l):∃ad c,v=.slice ad l.length c:=by
 rcases h.1.2 with⟨rfl,h0⟩ | ⟨g,cap,cur,rfl,_,_,hc,_⟩
 ·exact⟨none,0,by rw[h0]⟩
 ·exact⟨_,cap,rfl⟩
theorem F7{w w':World}{M:Nat->Prop}{g' n' cap':Nat}{v:Value}(hg:w.grownBy w' v.ownBlock)(hor:v.ownBlock=some g'\/g'=w.heap.size)(z:Value)(ks:List Nd)(h:KidsV w (fun k=>M k/\v.ownBlock≠some k) z ks):KidsV w' (fun k=>M k/\(sl g' n' cap').ownBlock≠some k) z ks:=by
 have h2:=h.mono (M':=fun j=>(M j/\(sl g' n' cap').ownBlock≠some j)/\v.ownBlock≠some j) (fun j hj hlt=>⟨⟨hj.1,fun e=>by
   have e':g'=j:=by injection e
   rcases hor with h | h
   ·exact hj.2 (by rw[h,e'])
   ·omega⟩,hj.2⟩)
 exact(h2.above (Zh hg (fun j e=>by rintro⟨_,h⟩;exact h e))).mono (fun j hj _=>hj.1)
theorem I5{w:World}{BB BB':Nat}{M:Nat->Prop}{ty:TypeId}{v u:Value}{l m:List (Nd×Value)}(hv:RowM w BB M v l)(hl:0<l.length)(hu:w.ownsRow BB' 24 4 u m.length (Af m))(hin:∀z∈m,KidsV w (fun k=>M k/\v.ownBlock≠some k) z.2 z.1.kids)(hb:l.length+m.length<=1000000)(hbase:BB<=w.heap.size) :
  ∃v' w',(Builtin.append_ #[22,22] ty #[v,u]).run Tryz.prog w=.ok v' w'/\RowM w' BB M v' (l++m)/\w.grownBy w' v.ownBlock/\(v'.ownBlock=v.ownBlock\/v'.ownBlock=some w.heap.size):=by
 obtain⟨i,z,hi,hz0,hz1,hz2,hz3⟩:=DZ.info
 rcases hv.1.2 with⟨_,h0⟩ | ⟨g,cap,cur,rfl,hbg,hg,hnc,hcm,hcs,htake⟩
 ·omega
 rcases hu.2 with⟨rfl,h0⟩ | ⟨gu,capu,curu,rfl,hbu,hgu,_⟩
 ·have e0:m=[]:=Zd h0
  subst e0
  refine⟨_,w,Fj DZ _ _ _ _ hnc w,?_,World.grownBy.refl _ _,Or.inl rfl⟩
  rw[List.append_nil]
  exact hv
 ·have hmb:(l.length+m.length)*56<=140737488355328:=Za (Nat.mul_le_mul hb (Z0 _)) (by decide)
  have hsl:∀z∈m,∃ad n c,z.2=.slice ad n c:=fun z hz=>by obtain⟨ad,c,e,_⟩:=hin z hz;exact⟨ad,_,_,e⟩
  have hnl:(Af m).length=m.length*4:=GN m
  have hcell:∀j x,(Af m)[j]?=some x->w.cell? ((⟨gu,0,none⟩:Addr).add j)=some x:=hu.cells (g:=gu) rfl
  obtain⟨v',w',hr,r1,r2,_⟩:=run_append_own (P:=Tryz.prog) w BB 22 ty 24 i _ 4 56 DZ.under hi hz0 hz1 hz2 hz3 (by decide) _ l.length (Af l) hv.1 ⟨gu,0,none⟩ m.length capu (Af m) hnl hcell (Fl m hsl) (by unfold maxLen;omega) hmb hbase
  have hw:v'.ownBlock=some g\/v'.ownBlock=some w.heap.size:=by
   by_cases hroom:l.length+m.length<=cap
   ·obtain⟨w2,h,_⟩:=run_append_fits (P:=Tryz.prog) w BB 22 ty 24 i 4 DZ.under hi hz1 g l.length cap (Af l) hv.1 ⟨gu,0,none⟩ m.length capu (Af m) hnl hcell (Fl m hsl) hroom
    rw[h]at hr
    injection hr with e1 e2
    subst e1;exact Or.inl rfl
   ·have h:=run_append_grow (P:=Tryz.prog) w 22 ty 24 i _ DZ.under hi hz0 ⟨g,0,none⟩ l.length cap (Af l) (by rw[hv.1.1,hz1]) (hv.1.cells (g:=g) rfl) ⟨gu,0,none⟩ m.length capu (Af m) (by rw[hz1];exact hnl) hcell (by omega) (by omega) (growslice_fits (by omega) (by rw[hz2];exact hmb))
    rw[h]at hr
    injection hr with e1 e2
    subst e1;exact Or.inr rfl
  refine⟨v',w',hr,?_,r2,hw⟩
  rcases r1.2 with⟨_,h0⟩ | ⟨g',cap',cur',rfl,r⟩
  ·omega
  ·have hor:(some g:Option Nat)=some g'\/g'=w.heap.size:=by
    rcases hw with h | h
    ·exact Or.inl h.symm
    ·exact Or.inr (by simpa [Value.ownBlock] using h)
   refine⟨by rw[L9,Z1];exact r1,fun z hz=>?_⟩
   rcases List.mem_append.1 hz with hz | hz
   ·exact F7 r2 hor _ _ (hv.2 z hz)
   ·exact F7 r2 hor _ _ (hin z hz)
theorem Hf{ops:Array Oper}{o:Oper}{a:Act}{w:World}{K:Act->World->Prop}{Q:Exit->Act->World->Prop}{E:Prop}(hg:o.guard=none)(s x:Operand)(hop:o.op=Op.call { callee:=Callee.builtin Builtin.append,args:=#[s,x],argTypes:=#[22,22] }){BB BB':Nat}{M:Nat->Prop}(v u:Value){l m:List (Nd×Value)}(hs:a.eval s=v)(hx:a.eval x=u)(hv:RowM w BB M v l)(hl:0<l.length)(hu:w.ownsRow BB' 24 4 u m.length (Af m))(hin:∀z∈m,KidsV w (fun k=>M k/\v.ownBlock≠some k) z.2 z.1.kids)(hb:l.length+m.length<=1000000)(hbase:BB<=w.heap.size)(hK:∀v' w',RowM w' BB M v' (l++m)->w.grownBy w' v.ownBlock->(v'.ownBlock=v.ownBlock\/v'.ownBlock=some w.heap.size)->K (a.put o.dst v') w') :
  if Region.wanted o (yielded ops a.tmps)=true then Oper.wp Tryz.prog o a w K Q else E:=by
 have hw:Region.wanted o (yielded ops a.tmps)=true:=by simp[Region.wanted,hg]
 rw[if_pos hw]
 obtain⟨v',w',hrun,r1,r2,r3⟩:=I5 (ty:=o.type) hv hl hu hin hb hbase
 unfold Oper.wp
 simp[execOp,hop,resolve,invoke,builtin,hs,hx,hrun,Result.andThen]
 exact hK v' w' r1 r2 r3
theorem Ia{ops:Array Oper}{o:Oper}{a:Act}{w:World}{K:Act->World->Prop}{Q:Exit->Act->World->Prop}{E:Prop}(hg:o.guard=none)(f:FuncId)(x y:Operand)(t t':TypeId)(hop:o.op=Op.call { callee:=Callee.value (.func f),args:=#[x,y],argTypes:=#[t,t'] })(v u:Value)(hx:a.eval x=v)(hy:a.eval y=u)(hent:∀w,Sem.run Tryz.prog (callFunc f #[v,u]) w=.ok (.enter f #[v,u]) w){R:Ending->World->Prop}(hC:Calls Tryz.prog f #[v,u] w R)(hR:∀e w',R e w'->∃r,e=.returned r/\K (a.put o.dst r) w') :
  if Region.wanted o (yielded ops a.tmps)=true then Oper.wp Tryz.prog o a w K Q else E:=by
 have hw:Region.wanted o (yielded ops a.tmps)=true:=by simp[Region.wanted,hg]
 rw[if_pos hw]
 subst hx
 subst hy
 have e:Sem.run Tryz.prog (execOp a.eval o) w=.ok (.enter f #[a.eval x,a.eval y]) w:=by
  simp[execOp,hop,resolve,invoke,Deferred.ofValue,go_sem]
  have h9:=hent w
  simp[Act.eval]at h9
  exact h9
 unfold Oper.wp
 rw[e,Oper.upon_enter]
 refine hC.mono fun e w' hr=>?_
 obtain⟨u,rfl,hk⟩:=hR e w' hr
 exact hk
open Go.RowKit
theorem BO{α β γ:Type}(g:Got α)(f:α->PS->Got β)(h:β->PS->Got γ):(g.then f).then h=g.then fun a s=>(f a s).then h:=by
 cases g with
 | error e=>rfl
 | ok y=>rfl
theorem R5(S:Src9)(n:Nd)(s:PS):DF S n s=if A2 S FW s=true then(Ae S s.step).then fun x s=>(Ho S (FB S) s).then fun ks s=>DF S (.mk 25 x 0 (n::ks)) s.node else .ok (n,s):=by
 rw[IB]
 refine Aq (fun _=>A4 rfl fun x s1 _=>?_) fun _=>rfl
 unfold Ho
 rw[BO]
 refine A4 rfl fun u s2 _=>?_
 rw[BO]
 refine A4 rfl fun ks s3 _=>?_
 rw[BO]
 refine A4 rfl fun u s4 _=>?_
 rfl
theorem Oy{S:Src9}{Y:PS->Got (List Nd)}(hY:∀s ks s',Y s=.ok (ks,s')->s.tok+1<=s'.tok){s s':PS}{ks:List Nd}(h:Ho S Y s=.ok (ks,s')):s.tok+2<=s'.tok:=by
 unfold Ho at h
 cases h1:A8 S AD s with
 | error f=>rw[h1]at h;cases h
 | ok y=>
  obtain⟨⟨⟩,s1⟩:=y
  have e1:=(Eh h1).1
  rw[h1,then_ok]at h
  cases h2:(if A2 S A9 s1=true then .ok ([],s1)else Y s1:Got (List Nd))with
  | error f=>rw[h2]at h;cases h
  | ok y=>
   obtain⟨ks',s2⟩:=y
   rw[h2,then_ok]at h
   have e2:s1.tok<=s2.tok:=by
    split at h2
    ·cases h2;exact Z0 _
    ·have:=hY _ _ _ h2;omega
   cases h3:A8 S A9 s2 with
   | error f=>rw[h3]at h;cases h
   | ok y=>
    obtain⟨⟨⟩,s3⟩:=y
    have e3:=(Eh h3).1
    rw[h3,then_ok]at h
    cases h
    omega
theorem Rdr.drew{w:World}{Q B:Nat}{v:Value}{S:Src9}{s:PS}(h:Rdr w Q B v S s):Rdr w.drew Q B v S s:=h.below (Zg _ _).drew
theorem R6{Q B:Nat}{v:Value}{S:Src9}{lo:Nat}(h:∀s:PS,lo<=s.tok->s.tok<=S.L.length->AM 79 (Ao S) Q B v S s):Part 79 (Ao S) Q B v S lo:=⟨fun args w=>by kernel_rfl,h⟩
theorem Oz{a b j:Nat}(h:(some j:Option Nat)=some a\/(some j:Option Nat)=some b):j=a\/j=b:=by
 rcases h with h | h
 ·exact Or.inl (by injection h)
 ·exact Or.inr (by injection h)
theorem OK(Q B:Nat)(v:Value)(S:Src9)(hl:AP S)(s:PS)(hpr:AM 131 (Di S) Q B v S s)(hex:∀s1:PS,s.tok+1<=s1.tok->s1.tok<=S.L.length->AM 79 (Ao S) Q B v S s1):AM 125 (Eo S) Q B v S s:=by
 intro w hp
 have hB:=hp.size
 have hqb:=hp.qb
 have HPA:Hid (Rdr (w.alloc A6) Q B v S s):=hp.below ((Zg _ w).alloc (Z0 _) _)
 have HX:=ZC w
 have e3:A7 ⟨#[46]⟩=FW:=by decide
 have HEX:Hid (∀s1:PS,s.tok+1<=s1.tok->s1.tok<=S.L.length->AM 79 (Ao S) Q B v S s1):=hex
 unfold AM at hpr
 rw[JY]
 clear hp hex
 cases hx1:Di S s with
 | error f=>
  rw[hx1]at hpr
  clear hx1
  go_enter Tryz.func125,Tryz.ntmps125
  go_wp2_with (first | (go_at_call 131;refine(hpr _ HPA.out).mono ?_;rintro e w1 ⟨rfl,hg1⟩))
  exact⟨rfl,rfl,(Zf w A6 (some Q)).trans hg1⟩
 | ok y=>
  obtain⟨n0,s0⟩:=y
  rw[hx1]at hpr
  have hs0:=(OY hx1).1
  rw[then_ok]
  obtain⟨g,HG⟩:∃g,Hid (DF S n0 s0=g):=⟨_,rfl⟩
  rw[HG.out]
  clear hx1
  go_enter Tryz.func125,Tryz.ntmps125
  go_wp2_with (first | (go_at_call 131;refine(hpr _ HPA.out).mono ?_;rintro e w1 ⟨u,rfl,hv1,hp1,hg1⟩;obtain⟨a,b,c,ad,ln,cp,hu⟩:=NodeV.any hv1;subst hu))
  have hX1:=HX.out.grown hg1 (by omega)
  have hwl:=hX1.lt
  have HP1:Hid (Rdr (w1.alloc (.cells #[.int .i64 a,.string b,.int .i64 c,.slice ad ln cp] 24)) Q B v S s0):=hp1.below ((Zg _ _).alloc (Z0 _) _)
  have HX1:Hid (Box4 (w1.alloc (.cells #[.int .i64 a,.string b,.int .i64 c,.slice ad ln cp] 24)) w.heap.size (.int .i64 0) (.string ⟨#[]⟩) (.int .i64 0) (.slice none 0 0)):=hX1.alloc _
  have HR1:Hid (Box4 (w1.alloc (.cells #[.int .i64 a,.string b,.int .i64 c,.slice ad ln cp] 24)) w1.heap.size (.int .i64 a) (.string b) (.int .i64 c) (.slice ad ln cp)):=Box4.new _ _ _ _ _
  have HN1:Hid (NodeV (w1.alloc (.cells #[.int .i64 a,.string b,.int .i64 c,.slice ad ln cp] 24)) (fun j=>w.heap.size+1<=j/\j≠w1.heap.size) (.agg #[.int .i64 a,.string b,.int .i64 c,.slice ad ln cp]) n0):=
   (Zi hv1 (M':=fun j=>w.heap.size+1<=j/\j≠w1.heap.size) (fun j hj hlt=>⟨by have hj':(w.alloc A6).heap.size<=j:=hj;simp at hj';omega,by omega⟩)).above (Zh (Zf _ _ none) (fun k e=>by cases e))
  have HW1:Hid (w.grownBy (w1.alloc (.cells #[.int .i64 a,.string b,.int .i64 c,.slice ad ln cp] 24)) (some Q)):=((Zf w A6 (some Q)).trans hg1).trans (Zf _ _ _)
  clear hX1 hv1 hp1 hg1 hpr
  go_loopw [4] (fun _ wr=>∃(nk:Nd) (sk:PS) (a:Int) (b:ByteArray) (c:Int) (ad:Option Addr) (ln cp:Nat),Hid (Rdr wr Q B v S sk)/\Hid (Box4 wr w1.heap.size (.int .i64 a) (.string b) (.int .i64 c) (.slice ad ln cp))/\Hid (NodeV wr (fun j=>w.heap.size+1<=j/\j≠w1.heap.size) (.agg #[.int .i64 a,.string b,.int .i64 c,.slice ad ln cp]) nk)/\Hid (w.grownBy wr (some Q))/\Hid (Box4 wr w.heap.size (.int .i64 0) (.string ⟨#[]⟩) (.int .i64 0) (.slice none 0 0))/\Hid (s.tok<=sk.tok)/\Hid (DF S nk sk=g)) (fun _ wr=>4001-tokOf wr Q)
  case atStart=>exact⟨n0,s0,a,b,c,ad,ln,cp,HP1,HR1,HN1,HW1,HX1,(show s.tok<=s0.tok by omega),HG⟩
  case round=>
   clear HP1 HR1 HN1 HW1 HX1 HG
   rename_i wr
   obtain⟨nk,sk,a,b,c,ad,ln,cp,HR,HO,HN,HW,HZ,HT,HE⟩:=hrel
   have HE1:=HE.out
   rw[R5]at HE1
   have hzl:=HZ.out.lt
   have hol:=HO.out.lt
   have hktok:=HR.out.tok
   cases hs:A2 S FW sk with
   | false=>
    rw[hs,if_neg (by decide)]at HE1
    have HE2:Hid (g=.ok (nk,sk)):=HE1.symm
    have htc:=Az hl e3 (by decide) hs wr HR.out
    clear HE HE1 hs
    go_wp2_with (first | (go_at_call 49;refine htc.mono ?_;rintro e w4 ⟨rfl,hp4,hg4⟩;obtain⟨⟨r0,r1,r2,r3⟩,_⟩:=(HO.out.grown hg4 (by omega)).facts;obtain⟨⟨x0,x1,x2,x3⟩,f0,f1,f2,f3⟩:=(HZ.out.grown hg4 (by omega)).facts))
    refine bodyPost_ret (v:=.agg #[.int .i64 a,.string b,.int .i64 c,.slice ad ln cp]) (by simp[results,Tryz.results125,go_sem,x0,x1,x2,x3]) rfl ?_
    rw[HE2.out]
    exact B5 ((Zi HN.out (M':=Be (w.heap.size+1)) (fun j hj _=>hj.1)).kept hg4 (by show ¬w.heap.size+1<=Q;omega)) hp4 (HW.out.trans hg4) hB
   | true=>
    have ht:=AG hs
    rw[hs,if_pos rfl]at HE1
    have htc:=BC hl e3 (by decide) (by decide) (by decide) hs wr HR.out
    have hnd:=fun w' (h':Rdr w' Q B v S sk.step)=>DM Q B v S hl sk.step 25 w' h'
    clear HE hs
    cases hx:Ae S sk.step with
    | error f=>
     rw[hx]at hnd HE1
     have HE2:Hid (g=.error f):=HE1.symm
     clear HE1 hx
     go_wp2_with (first | (go_at_call 49;refine htc.mono ?_;rintro e w4 ⟨rfl,hp4,hg4⟩) | (go_at_call 50;refine(hnd _ hp4).mono ?_;rintro e w5 ⟨rfl,hg5⟩))
     refine⟨rfl,?_⟩
     rw[HE2.out]
     exact⟨rfl,(HW.out.trans hg4).trans hg5⟩
    | ok z=>
     obtain⟨x,s1⟩:=z
     rw[hx,then_ok]at HE1
     rw[hx]at hnd
     have ht1:s1.tok=sk.tok+2:=by
      unfold Ae at hx
      split at hx
      ·cases hx;rfl
      ·cases hx
     have hrw:=fun w' (h':Rdr w' Q B v S s1)=>NS 79 (Ao S) (FB S) Q B v S hl (LR S) (fun s n s' e=>(JV e).1) s1 (R6 (fun s2 h1 h2=>HEX.out s2 (by have:=HT.out;omega) h2)) w' h'
     clear hx
     cases hy:Ho S (FB S) s1 with
     | error f=>
      rw[hy]at hrw HE1
      have HE2:Hid (g=.error f):=HE1.symm
      clear HE1 hy
      go_wp2_with (first | (go_at_call 49;refine htc.mono ?_;rintro e w4 ⟨rfl,hp4,hg4⟩;have hO4:=HO.out.grown hg4 (by omega)) | (go_at_call 50;refine(hnd _ hp4).mono ?_;rintro e w5 ⟨u5,rfl,rfl,hp5,hg5⟩;obtain⟨⟨r0,r1,r2,r3⟩,_⟩:=(hO4.grown hg5 (by omega)).facts;have hol5:=(hO4.grown hg5 (by omega)).lt))
      have hG5:w.grownBy w5 (some Q):=(HW.out.trans hg4).trans hg5
      have hRA:∀o1 o2,Rdr ((w5.alloc o1).alloc o2).drew Q B v S s1:=fun o1 o2=>hp5.below (((Zg _ _).alloc (Z0 _) _).alloc (by simp) _).drew
      have hRB:∀o1,Rdr (w5.alloc o1).drew Q B v S s1:=fun o1=>hp5.below ((Zg _ _).alloc (Z0 _) _).drew
      have hGA:∀o1 o2,w.grownBy ((w5.alloc o1).alloc o2).drew (some Q):=fun o1 o2=>hG5.trans (A3 Q (((Zg _ _).alloc (Z0 _) _).alloc (by simp) _).drew)
      have hGB:∀o1,w.grownBy (w5.alloc o1).drew (some Q):=fun o1=>hG5.trans (A3 Q ((Zg _ _).alloc (Z0 _) _).drew)
      go_region_dies
      all_goals
       first
        | (refine(hrw _ (hRA _ _)).mono ?_;rintro e w6 ⟨rfl,hg6⟩;refine⟨rfl,?_⟩;rw[HE2.out];exact⟨rfl,(hGA _ _).trans hg6⟩)
        | (refine(hrw _ (hRB _)).mono ?_;rintro e w6 ⟨rfl,hg6⟩;refine⟨rfl,?_⟩;rw[HE2.out];exact⟨rfl,(hGB _).trans hg6⟩)
     | ok z=>
      obtain⟨ks,s2⟩:=z
      have ht2:=Oy (fun s ks s' e=>(OZ e).1) hy
      rw[hy,then_ok]at HE1
      rw[hy]at hrw
      have HE2:Hid (DF S (.mk 25 x 0 (nk::ks)) s2.node=g):=HE1
      have HTK:Hid (tokOf wr Q=sk.tok/\sk.tok+4<=s2.tok):=⟨HR.out.tokOf,by omega⟩
      have HFW:Hid (S.L.length<=4000):=HR.out.few
      clear HE1 hy ht1 ht2
      go_wp2_with (first | (go_at_call 49;refine htc.mono ?_;rintro e w4 ⟨rfl,hp4,hg4⟩;have hO4:=HO.out.grown hg4 (by omega)) | (go_at_call 50;refine(hnd _ hp4).mono ?_;rintro e w5 ⟨u5,rfl,rfl,hp5,hg5⟩;have hO5:=hO4.grown hg5 (by omega);obtain⟨⟨r0,r1,r2,r3⟩,_⟩:=hO5.facts;have hol5:=hO5.lt))
      have hG5:w.grownBy w5 (some Q):=(HW.out.trans hg4).trans hg5
      have hRA:∀o1 o2,Rdr ((w5.alloc o1).alloc o2).drew Q B v S s1:=fun o1 o2=>hp5.below (((Zg _ _).alloc (Z0 _) _).alloc (by simp) _).drew
      have hRB:∀o1,Rdr (w5.alloc o1).drew Q B v S s1:=fun o1=>hp5.below ((Zg _ _).alloc (Z0 _) _).drew
      have hMQ0:¬(fun j=>w.heap.size+1<=j/\j≠w1.heap.size) Q:=by rintro⟨h,_⟩;omega
      have hMQ:¬(fun j=>(w.heap.size+1<=j/\j≠w1.heap.size)/\j≠w5.heap.size) Q:=by rintro⟨⟨h,_⟩,_⟩;omega
      have hN5:NodeV w5 (fun j=>(w.heap.size+1<=j/\j≠w1.heap.size)/\j≠w5.heap.size) (.agg #[.int .i64 a,.string b,.int .i64 c,.slice ad ln cp]) nk:=((HN.out.kept hg4 hMQ0).kept hg5 hMQ0).mono (fun k hk hlt=>⟨hk,by omega⟩)
      have hsz5:=hG5.size
      obtain⟨x0,hF0⟩:=RowM.first (w:=w5.alloc (.cells #[.int .i64 25,.string (strOfNums x),.int .i64 0,.slice none 0 0] 24)) (BB:=w.heap.size+1) (M:=(fun j=>(w.heap.size+1<=j/\j≠w1.heap.size)/\j≠w5.heap.size)) (hN5.above (Zh (Zf _ _ none) (fun k e=>by cases e))) (by simp;omega)
      have hF:RowM ((w5.alloc (.cells #[.int .i64 25,.string (strOfNums x),.int .i64 0,.slice none 0 0] 24)).alloc (.cells #[.int .i64 a,.string b,.int .i64 c,.slice ad ln cp] 24)).drew (w.heap.size+1) (fun j=>(w.heap.size+1<=j/\j≠w1.heap.size)/\j≠w5.heap.size) (.slice (some ⟨w5.heap.size+1,0,none⟩) 1 1) [(nk,x0)]:=by
       have:=hF0.grown (A3 Q (Zg _ _).drew) (by omega) hMQ
       rw[show(w5.alloc (.cells #[.int .i64 25,.string (strOfNums x),.int .i64 0,.slice none 0 0] 24)).heap.size=w5.heap.size+1 by simp]at this
       exact this
      clear hF0
      have hFB:∀w6:World,NodeV w6 (fun j=>(w.heap.size+1<=j/\j≠w1.heap.size)/\j≠w5.heap.size) (.agg #[.int .i64 a,.string b,.int .i64 c,.slice ad ln cp]) nk->w.heap.size+1<=w6.heap.size->∃x1,RowM (w6.alloc (.cells #[.int .i64 a,.string b,.int .i64 c,.slice ad ln cp] 24)) (w.heap.size+1) (fun j=>(w.heap.size+1<=j/\j≠w1.heap.size)/\j≠w5.heap.size) (.slice (some ⟨w6.heap.size,0,none⟩) 1 1) [(nk,x1)]:=fun w6 h1 h2=>RowM.first h1 h2
      go_region_law (first
       | (refine Ia rfl 72 (.tmp 13) (.tmp 15) _ _ rfl (.pointer (some ⟨Q,0,none⟩)) (.func (.func 79) #[.pointer (some ⟨Q,0,none⟩)] #[]) (by simp[Act.eval]) (by simp[Act.eval]) (fun w=>by kernel_rfl) (hrw _ (by first | exact hRA _ _ | exact hRB _)) ?_;rintro e w6 ⟨u6,rfl,⟨m,hm,hR6,hml⟩,hp6,hg6⟩;refine⟨_,rfl,?_⟩;have hk6:∀k,k<w5.heap.size+1->k≠Q->w6.heap[k]?=(w5.alloc (.cells #[.int .i64 25,.string (strOfNums x),.int .i64 0,.slice none 0 0] 24)).heap[k]?:=(fun k hk hq=>(hg6.block k (by simp;omega) (fun e=>hq (by injection e))).trans (by first | exact(((Zg _ (w5.alloc (.cells #[.int .i64 25,.string (strOfNums x),.int .i64 0,.slice none 0 0] 24))).alloc (Z0 _) _).drew).block k (by simp;omega) | rfl));have hW56:w5.grownBy w6 (some Q):=(by first | exact(A3 Q (((Zg _ _).alloc (Z0 _) _).alloc (by simp) _).drew).trans hg6 | exact(A3 Q ((Zg _ _).alloc (Z0 _) _).drew).trans hg6);have hT6:Box4 w6 w5.heap.size (.int .i64 25) (.string (strOfNums x)) (.int .i64 0) (.slice none 0 0):=((hk6 w5.heap.size (by omega) (by omega)).trans (Box4.new _ _ _ _ _));have hsz6:=hW56.size;have hltT:=hT6.lt;have hO6:Box4 w6 w1.heap.size (.int .i64 a) (.string b) (.int .i64 c) (.slice ad ln cp):=((hk6 w1.heap.size (by omega) (by omega)).trans (hO5.alloc _));obtain⟨⟨q0,q1,q2,q3⟩,_⟩:=hO6.facts)
       | (refine Hf rfl (.tmp 12) (.tmp 16) rfl (.slice (some ⟨w5.heap.size+1,0,none⟩) 1 1) u6 (by simp[Act.eval]) (by simp[Act.eval]) (hF.grown hg6 (by omega) hMQ) (by simp) hR6.1 (fun z hz=>(hR6.2 z hz).mono (fun k hk _=>by have h1:=hk.1;simp at h1;exact⟨⟨⟨by omega,by omega⟩,by omega⟩,fun e=>by have e':w5.heap.size+1=k:=(by injection e);omega⟩)) (by simp;omega) (by omega) ?_;intro v7 w7 hR7 hg7 hor7;have hk7:∀k,k<w5.heap.size+1->w7.heap[k]?=w6.heap[k]?:=(fun k hk=>hg7.block k (by omega) (fun e=>by have e':k=w5.heap.size+1:=(by injection e);omega));have hT7:Box4 w7 w5.heap.size (.int .i64 25) (.string (strOfNums x)) (.int .i64 0) (.slice none 0 0):=((hk7 w5.heap.size (by omega)).trans hT6);obtain⟨⟨t0,t1,t2,t3⟩,z0,z1,z2,z3⟩:=hT7.facts;obtain⟨ad7,c7,hv7⟩:=hR7.slice;rw[show([(nk,x0)]++m).length=m.length+1 by simp]at hv7;subst hv7;have hsz7:=hg7.size;have hO7:Box4 w7 w1.heap.size (.int .i64 a) (.string b) (.int .i64 c) (.slice ad ln cp):=((hk7 w1.heap.size (by omega)).trans hO6);obtain⟨⟨p0,p1,p2,p3⟩,v0,v1,v2,v3⟩:=hO7.facts;have hlt7:=hO7.lt;have hltT7:=hT7.lt;have hb67:Below (w.heap.size+1) w6 w7:=((Zg _ w6).grown hg7 (by omega) (fun j e=>by have e':w5.heap.size+1=j:=(by injection e);omega));have hM7:∀j,Value.ownBlock (.slice ad7 (m.length+1) c7)=some j->w5.heap.size+1<=j:=(fun j e=>by rw[e]at hor7;have h2:=Oz (a:=w5.heap.size+1) (b:=w6.heap.size) hor7;omega);have hK7:=hR7.kids (fun j e=>by have:=hM7 j e;exact⟨⟨by omega,by omega⟩,by omega⟩);have hmm:([(nk,x0)]++m).map Prod.fst=nk::ks:=(by simp[hm]);rw[hmm]at hK7)
       | (obtain⟨x1,hF1⟩:=hFB w6 (hN5.kept hW56 hMQ) (by omega);refine Hf rfl (.tmp 12) (.tmp 16) rfl (.slice (some ⟨w6.heap.size,0,none⟩) 1 1) u6 (by simp[Act.eval]) (by simp[Act.eval]) hF1 (by simp) (hR6.1.alloc (.cells #[.int .i64 a,.string b,.int .i64 c,.slice ad ln cp] 24)) (fun z hz=>((hR6.2 z hz).mono (M':=fun k=>(fun j=>(w.heap.size+1<=j/\j≠w1.heap.size)/\j≠w5.heap.size) k/\(Value.slice (some ⟨w6.heap.size,0,none⟩) 1 1).ownBlock≠some k) (fun k hk hlt=>by have h1:=hk.1;simp at h1;exact⟨⟨⟨by omega,by omega⟩,by omega⟩,fun e=>by have e':w6.heap.size=k:=(by injection e);omega⟩)).above (Zh (Zf _ _ none) (fun k e=>by cases e))) (by simp;omega) (by simp;omega) ?_;intro v7 w7 hR7 hg7 hor7;have hk7:∀k,k<w5.heap.size+1->w7.heap[k]?=w6.heap[k]?:=(fun k hk=>(hg7.block k (by simp;omega) (fun e=>by have e':k=w6.heap.size:=(by injection e);omega)).trans (((Zg _ w6).alloc (Z0 _) _).block k (by omega)));have hT7:Box4 w7 w5.heap.size (.int .i64 25) (.string (strOfNums x)) (.int .i64 0) (.slice none 0 0):=((hk7 w5.heap.size (by omega)).trans hT6);obtain⟨⟨t0,t1,t2,t3⟩,z0,z1,z2,z3⟩:=hT7.facts;obtain⟨ad7,c7,hv7⟩:=hR7.slice;rw[show([(nk,x1)]++m).length=m.length+1 by simp]at hv7;subst hv7;have hsz7:=hg7.size;have hO7:Box4 w7 w1.heap.size (.int .i64 a) (.string b) (.int .i64 c) (.slice ad ln cp):=((hk7 w1.heap.size (by omega)).trans hO6);obtain⟨⟨p0,p1,p2,p3⟩,v0,v1,v2,v3⟩:=hO7.facts;have hlt7:=hO7.lt;have hltT7:=hT7.lt;have hb67:Below (w.heap.size+1) w6 w7:=(((Zg _ w6).alloc (by omega) _).grown hg7 (by simp;omega) (fun j e=>by have e':w6.heap.size=j:=(by injection e);omega));have hM7:∀j,Value.ownBlock (.slice ad7 (m.length+1) c7)=some j->w5.heap.size+1<=j:=(fun j e=>by rw[e]at hor7;have h2:=Oz (a:=w6.heap.size) hor7;simp at h2;omega);have hK7:=hR7.kids (fun j e=>by have:=hM7 j e;exact⟨⟨by omega,by omega⟩,by omega⟩);have hmm:([(nk,x1)]++m).map Prod.fst=nk::ks:=(by simp[hm]);rw[hmm]at hK7))
      all_goals go_wp2_with fail
      all_goals
       have hZ6:Box4 w6 w.heap.size (.int .i64 0) (.string ⟨#[]⟩) (.int .i64 0) (.slice none 0 0):=(((HZ.out.grown hg4 (by omega)).grown hg5 (by omega)).grown hW56 (by omega))
       have hb78:=Eg (w:=w7.setCell ⟨w5.heap.size,3,none⟩ (.slice ad7 (m.length+1) c7)) (B:=w.heap.size+1) (R:=w1.heap.size) (by omega) (.int .i64 25) (.string (strOfNums x)) (.int .i64 0) (.slice ad7 (m.length+1) c7)
       have hb75:Below (w.heap.size+1) w6 (w7.setCell ⟨w5.heap.size,3,none⟩ (.slice ad7 (m.length+1) c7)):=hb67.setCell (by dsimp only;omega) _
       have hb68:=hb75.trans hb78
       have hRR:=hp6.apart (hb68.mono (by omega))
       have hO8:Box4 (w7.setCell ⟨w5.heap.size,3,none⟩ (.slice ad7 (m.length+1) c7)) w1.heap.size (.int .i64 a) (.string b) (.int .i64 c) (.slice ad ln cp):=(Zm _ _ _ _ (by dsimp only;omega)).trans hO7
       refine⟨⟨.mk 25 x 0 (nk::ks),s2.node,25,strOfNums x,0,ad7,m.length+1,c7,hRR.many _,hO8.put _ _ _ _,?_,Bf (hG5.trans hW56) (hb68.mono (by omega)),(hb68.block w.heap.size (by omega)).trans hZ6,?_,HE2⟩,?_⟩
       ·exact Gt (kind:=25) (tx:=x) (((hK7.above ((Above.refl _ _).set (a:=⟨w5.heap.size,3,none⟩) (by rintro⟨_,h⟩;exact h rfl) _)).above (Ef (R:=w1.heap.size) (by rintro⟨⟨_,h⟩,_⟩;exact h rfl) _ _ _ _)).mono (fun j hj _=>hj.1))
       ·have h1:=HT.out
        have h2:=HTK.out.2
        show s.tok<=s2.tok
        omega
       ·have h1:=hRR.tokOf
        have h2:=HTK.out
        have h3:=HFW.out
        have h4:=hp6.tok
        rw[h1,h2.1]
        omega
end Go.Proofs.YtbglpanjpadldaaGreatDoor
namespace Go.Proofs.YtbglpanjpadldaaGreatDoor
structure SP(Q B:Nat)(v:Value)(S:Src9)(s:PS):Prop where
 cond:AM 77 (Bw S) Q B v S s
 unary:AM 120 (BS S) Q B v S s
 term:AM 111 (CR S) Q B v S s
 sum:AM 96 (Ce S) Q B v S s
 expr:AM 79 (Ao S) Q B v S s
theorem P0{Q B:Nat}{v:Value}{S:Src9}(hl:AP S)(hnf:CE S)(t:Nat)(hx:∀s1:PS,t+1<=s1.tok->s1.tok<=S.L.length->SP Q B v S s1):∀s:PS,s.tok=t->SP Q B v S s:=by
 have c:∀s:PS,s.tok=t->AM 77 (Bw S) Q B v S s:=fun s e=>OG Q B v S hl s (fun s1 h1 h2=>(hx s1 (by omega) h2).expr)
 have un:∀s:PS,s.tok=t->AM 120 (BS S) Q B v S s:=fun s e=>
  NQ Q B v S hl s (OK Q B v S hl s (OJ Q B v S hl hnf s (c s e)) (fun s1 h1 h2=>(hx s1 (by omega) h2).expr)) (fun ht=>(hx s.step (by show t+1<=s.tok+1;omega) (by show s.tok+1<=_;omega)).unary)
 have hun:Part 120 (BS S) Q B v S t:=⟨fun args w=>by kernel_rfl,fun s h1 h2=>by
  rcases Nat.eq_or_lt_of_le h1 with h | h
  ·exact un s h.symm
  ·exact(hx s h h2).unary⟩
 have tm:∀s:PS,s.tok=t->AM 111 (CR S) Q B v S s:=fun s e=>O9 Q B v S hl s (by rw[e];exact hun)
 have htm:Part 111 (CR S) Q B v S t:=⟨fun args w=>by kernel_rfl,fun s h1 h2=>by
  rcases Nat.eq_or_lt_of_le h1 with h | h
  ·exact tm s h.symm
  ·exact(hx s h h2).term⟩
 have sm:∀s:PS,s.tok=t->AM 96 (Ce S) Q B v S s:=fun s e=>Pg Q B v S hl s (by rw[e];exact htm)
 have hsm:Part 96 (Ce S) Q B v S t:=⟨fun args w=>by kernel_rfl,fun s h1 h2=>by
  rcases Nat.eq_or_lt_of_le h1 with h | h
  ·exact sm s h.symm
  ·exact(hx s h h2).sum⟩
 exact fun s e=>⟨c s e,un s e,tm s e,sm s e,OA Q B v S hl s (by rw[e];exact hsm)⟩
theorem MP(Q B:Nat)(v:Value)(S:Src9)(hl:AP S)(hnf:CE S):∀(n:Nat) (s:PS),S.left s<=n->SP Q B v S s:=by
 intro n
 induction n with
 | zero=>exact fun s h=>P0 hl hnf s.tok (fun s1 h1 h2=>by unfold Src9.left at h;omega) s rfl
 | succ n ih=>exact fun s h=>P0 hl hnf s.tok (fun s1 h1 h2=>ih s1 (by unfold Src9.left at h⊢;omega)) s rfl
theorem GI(Q B:Nat)(v:Value)(S:Src9)(hl:AP S)(hnf:CE S)(s:PS):AM 79 (Ao S) Q B v S s:=(MP Q B v S hl hnf _ s (Z0 _)).expr
theorem GJ(Q B:Nat)(v:Value)(S:Src9)(hl:AP S)(hnf:CE S)(s:PS):AM 77 (Bw S) Q B v S s:=(MP Q B v S hl hnf _ s (Z0 _)).cond
end Go.Proofs.YtbglpanjpadldaaGreatDoor
