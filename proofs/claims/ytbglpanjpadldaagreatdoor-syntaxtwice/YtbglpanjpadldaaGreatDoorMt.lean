/- Texts in one. -/
import Derived.Test.YtbglpanjpadldaaGreatDoorMs
import Derived.Test.YtbglpanjpadldaaGreatDoorMm
set_option maxHeartbeats 8000000
set_option maxRecDepth 20000
namespace Go.Proofs.YtbglpanjpadldaaGreatDoor
theorem NZ(S:Src9)(s:PS):Ew S s=match Jc S s with
  | .error e=>.error e
  | .ok (n,s')=>if s'.tok<S.L.length then .error (12,S.byte s')else .ok (n,s'):=by
 unfold Ew Jc
 cases EB S s with
 | error e=>rfl
 | ok y=>
  obtain⟨ks,s1⟩:=y
  rw[then_ok,then_ok]
  cases A8 S Dy s1 with
  | error e=>rfl
  | ok y=>
   obtain⟨⟨⟩,s2⟩:=y
   rw[then_ok,then_ok]
   cases Aj S s2 with
   | error e=>rfl
   | ok y=>
    obtain⟨b,s3⟩:=y
    rw[then_ok,then_ok]
    show(if s3.tok<S.L.length then _ else _)=(if s3.tok<S.L.length then _ else _)
    by_cases h:s3.tok<S.L.length
    ·rw[if_pos h,if_pos h];rfl
    ·rw[if_neg h,if_neg h];rfl
theorem P3(S:Src9)(hS:S.good):Cs S (Df S)=match Ew S ⟨0,0,0⟩with
  | .error e=>.error e
  | .ok (n,_)=>if 600<A1 n then .error (1,0)else .ok n:=by
 rw[NZ]
 unfold Cs
 have h0:=QP S
 cases hp:Jc S ⟨0,0,0⟩with
 | error e=>rw[h0,hp]
 | ok y=>
  obtain⟨n,s'⟩:=y
  have hk:=(Og hS (h0.trans hp)).1
  rw[h0,hp]
  by_cases h:s'.tok<S.L.length
  ·simp only[h,↓reduceIte]
  ·simp only[h,↓reduceIte]
   by_cases h6:600<A1 n
   ·rw[if_pos (by omega),if_pos h6]
   ·rw[if_neg (by omega),if_neg h6]
theorem OQ{T:List Int}{i k:Nat}{t:Tok}(h:Av T i=.tok t k):∃j,t.2.1=Am T i j:=by
 unfold Av at h
 split at h
 ·cases h
 ·split at h
  ·cases h
  ·split at h
   ·cases h
    exact⟨_,rfl⟩
   ·split at h
    ·split at h
     ·cases h
     ·cases h
      exact⟨_,rfl⟩
    ·split at h
     ·cases h
     ·cases h
      exact⟨_,rfl⟩
theorem Gv{T:List Int}:∀(m i:Nat) (l:List Tok),Bm T m i=.ok l->∀t∈l,∃a b,t.2.1=Am T a b
 | 0,i,l,h=>by
  unfold Bm at h
  cases h
  intro t ht;cases ht
 | m+1,i,l,h=>by
  unfold Bm at h
  split at h
  ·rename_i hi
   cases hc:Av T i with
   | skip k=>rw[hc]at h;exact Gv m k l h
   | tok t k=>
    rw[hc]at h
    simp only at h
    cases hs:Bm T m k with
    | error e=>rw[hs]at h;cases h
    | ok l'=>
     rw[hs]at h
     cases h
     intro u hu
     rcases List.mem_cons.1 hu with rfl | hu
     ·exact⟨_,OQ hc⟩
     ·exact Gv m k l' hs u hu
   | bad c a=>rw[hc]at h;cases h
  ·cases h
   intro t ht;cases ht
theorem K0{T:List Int}{l:List Tok}(h:C9 T=.ok l):∀t∈l,∃a b,t.2.1=Am T a b:=by
 unfold C9 at h
 split at h
 ·cases h
 ·exact Gv _ _ _ h
theorem OR{T:List Int}{l:List Tok}(hT:∀c∈T,0<=c/\c<=255)(h:C9 T=.ok l):DV l:=fun t ht c hc=>by
 obtain⟨a,b,e⟩:=K0 h t ht
 rw[e]at hc
 unfold Am at hc
 exact hT c (List.mem_of_mem_drop (List.mem_of_mem_take hc))
theorem K6{T:List Int}{l:List Tok}(h:C9 T=.ok l):CE ⟨l,T.length⟩:=fun t ht h2=>by
 obtain⟨a,b,e⟩:=K0 h t ht
 have hl:=(N9 h).2
 have hlen:t.2.1.length<=4000:=by
  rw[e];unfold Am;rw[List.length_take,List.length_drop];omega
 obtain⟨i,hi,rfl⟩:=List.mem_iff_getElem.1 ht
 have hg:=FP h i hi
 have ea:Src9.at ⟨l,T.length⟩ i=l[i]'hi:=by
  unfold Src9.at
  rw[Z2,List.getElem?_eq_getElem hi]
  rfl
 rw[ea]at hg
 exact⟨hlen,hg.2 h2⟩
open Go.RowKit
theorem RN{T:List Int}{i a:Nat}{c:Int}(h:Av T i=.bad c a):c≠0:=by
 unfold Av at h
 split at h
 ·cases h
 ·split at h
  ·cases h
  ·split at h
   ·cases h
   ·split at h
    ·split at h
     ·cases h;decide
     ·cases h
    ·split at h
     ·cases h;decide
     ·cases h
theorem Ic{T:List Int}:∀(m i:Nat) (e:Int×Int),Bm T m i=.error e->e.1≠0
 | 0,i,e,h=>by unfold Bm at h;cases h
 | m+1,i,e,h=>by
  unfold Bm at h
  split at h
  ·cases hc:Av T i with
   | skip k=>rw[hc]at h;exact Ic m k e h
   | tok t k=>
    rw[hc]at h
    simp only at h
    cases hs:Bm T m k with
    | error e2=>rw[hs]at h;have h':(Except.error e2:Except (Int×Int) (List Tok))=.error e:=h;injection h' with h';subst h';exact Ic m k e2 hs
    | ok l'=>rw[hs]at h;cases h
   | bad c a=>rw[hc]at h;cases h;exact RN hc
  ·cases h
theorem MU{T:List Int}{e:Int×Int}(h:C9 T=.error e):e.1≠0:=by
 unfold C9 at h
 split at h
 ·cases h;decide
 ·exact Ic _ _ _ h
theorem MV{S:Src9}{e:Int×Int}(h:Ew S ⟨0,0,0⟩=.error e):e.1≠0:=by
 rw[NZ]at h
 cases hp:Jc S ⟨0,0,0⟩with
 | error e'=>rw[hp]at h;cases h;exact SX S _ _ _ ((QP S).trans hp)
 | ok y=>
  rw[hp]at h
  simp only at h
  split at h
  ·cases h;show(12:Int)≠0;decide
  ·cases h
def Id(w:World)(T:List Int)(e:Ending)(w':World):Prop:=Below w.heap.size w w'/\match CD T with
 | .ok n=>∃u,e=.returned (.tuple #[u,.agg #[.int .i64 0,.int .i64 0]])/\NodeV w' (Be w.heap.size) u n
 | .error f=>e=.returned (.tuple #[.agg #[.int .i64 0,.string ⟨#[]⟩,.int .i64 0,.slice none 0 0],.agg #[.int .i64 f.1,.int .i64 f.2]])
theorem Box4.below{w w':World}{R n:Nat}{a b c d:Value}(h:Box4 w R a b c d)(hb:Below n w w')(hn:R<n):Box4 w' R a b c d:=(hb.block R hn).trans h
theorem Box2.below{w w':World}{R n:Nat}{a b:Value}(h:Box2 w R a b)(hb:Below n w w')(hn:R<n):Box2 w' R a b:=(hb.block R hn).trans h
theorem Hj{W:World}{R:Nat}{a b c d x y:Value}(hN:Box4 W R a b c d)(hF:Box2 W (R+1) x y)(a' b' c' d' x' y':Value):Box4 ((((((W.setCell ⟨R,0,none⟩ a').setCell ⟨R,1,none⟩ b').setCell ⟨R,2,none⟩ c').setCell ⟨R,3,none⟩ d').setCell ⟨R+1,0,none⟩ x').setCell ⟨R+1,1,none⟩ y') R a' b' c' d'/\Box2 ((((((W.setCell ⟨R,0,none⟩ a').setCell ⟨R,1,none⟩ b').setCell ⟨R,2,none⟩ c').setCell ⟨R,3,none⟩ d').setCell ⟨R+1,0,none⟩ x').setCell ⟨R+1,1,none⟩ y') (R+1) x' y':=
 ⟨((hN.put a' b' c' d').setAt (by omega) _).setAt (by omega) _,((((hF.setAt (by omega) _).setAt (by omega) _).setAt (by omega) _).setAt (by omega) _).put _ _⟩
theorem Hk{w W:World}{R:Nat}(hb:Below R w W)(a' b' c' d' x' y':Value):Below R w ((((((W.setCell ⟨R,0,none⟩ a').setCell ⟨R,1,none⟩ b').setCell ⟨R,2,none⟩ c').setCell ⟨R,3,none⟩ d').setCell ⟨R+1,0,none⟩ x').setCell ⟨R+1,1,none⟩ y'):=
 (((((hb.setCell (Z0 _) _).setCell (Z0 _) _).setCell (Z0 _) _).setCell (Z0 _) _).setCell (by dsimp only;omega) _).setCell (by dsimp only;omega) _
theorem Sc{W:World}{R C:Nat}{u:Value}{n:Nd}(hC:R+2<=C)(hv:NodeV W (Be C) u n)(a' b' c' d' x' y':Value):NodeV ((((((W.setCell ⟨R,0,none⟩ a').setCell ⟨R,1,none⟩ b').setCell ⟨R,2,none⟩ c').setCell ⟨R,3,none⟩ d').setCell ⟨R+1,0,none⟩ x').setCell ⟨R+1,1,none⟩ y') (Be R) u n:=by
 have m1:¬Be C R:=by show ¬C<=R;omega
 have m2:¬Be C (R+1):=by show ¬C<=R+1;omega
 exact Zi (hv.above (((Ef (R:=R) m1 _ _ _ _).set (a:=⟨R+1,0,none⟩) m2 _).set (a:=⟨R+1,1,none⟩) m2 _)) (fun j hj _=>by have hj':C<=j:=hj;show R<=j;omega)
theorem Pz(t:ByteArray)(w:World)(he:Errs w)(hm:t.size<=maxLen)(hcl:∀l,C9 (A7 t)=.ok l->∀Q B v (s1:PS),s1.tok<=l.length->AM 33 (Fc ⟨l,(A7 t).length⟩) Q B v ⟨l,(A7 t).length⟩ s1) :
  Calls Tryz.prog 4 #[.string t] w fun e w'=>Id w (A7 t) e w':=by
 have hb0:Below w.heap.size w ((w.alloc A6).alloc BU):=((Zg _ w).alloc (Z0 _) _).alloc (by simp) _
 have hsc:=RM t ((w.alloc A6).alloc BU) (he.lasts hb0) hm
 have HN:Hid (Box4 ((w.alloc A6).alloc BU) w.heap.size (.int .i64 0) (.string ⟨#[]⟩) (.int .i64 0) (.slice none 0 0)):=(Box4.new w (.int .i64 0) (.string ⟨#[]⟩) (.int .i64 0) (.slice none 0 0)).alloc _
 have HF:Hid (Box2 ((w.alloc A6).alloc BU) (w.heap.size+1) (.int .i64 0) (.int .i64 0)):=by
  show Box2 _ _ _ _
  have:=heap_alloc_new (w.alloc A6) BU
  rw[show(w.alloc A6).heap.size=w.heap.size+1 by simp]at this
  exact this
 have hsz0:((w.alloc A6).alloc BU).heap.size=w.heap.size+2:=by simp
 rw[hsz0]at hsc
 clear hsz0
 cases hq:C9 (A7 t)with
 | error f=>
  have hf:=MU hq
  have HP:Hid (CD (A7 t)=.error f):=by show _=_;unfold CD;rw[hq]
  unfold G3 at hsc
  rw[hq]at hsc
  obtain⟨c,a⟩:=f
  have hc:¬c=0:=hf
  clear hq hcl hf
  go_enter Tryz.func4,Tryz.ntmps4
  go_wp2_with (first | (go_at_call 7;refine hsc.mono ?_;rintro e w1 ⟨rfl,hb1⟩;have hN1:=HN.out.below hb1 (by omega);have hF1:=HF.out.below hb1 (by omega);obtain⟨⟨n0,n1,n2,n3⟩,m0,m1,m2,m3⟩:=hN1.facts;obtain⟨hl1,⟨c1,c3⟩,z1,z2⟩:=hF1.facts;have hl0:=hN1.lt))
  have hF5:Box2 (w1.alloc (.cells #[.int .i64 c,.int .i64 a] 27)) w1.heap.size (.int .i64 c) (.int .i64 a):=heap_alloc_new w1 _
  obtain⟨hl5,⟨d1,d2⟩,y1,y2⟩:=hF5.facts
  have e1:¬w.heap.size=w1.heap.size:=by omega
  have e2:¬w.heap.size+1=w1.heap.size:=by omega
  go_region
  all_goals go_wp2_with fail
  obtain⟨hN6,hF6⟩:=Hj hN1 hF1 (.int .i64 0) (.string ⟨#[]⟩) (.int .i64 0) (.slice none 0 0) (.int .i64 c) (.int .i64 a)
  have hbA:=Hk (hb0.trans (hb1.mono (by omega))) (.int .i64 0) (.string ⟨#[]⟩) (.int .i64 0) (.slice none 0 0) (.int .i64 c) (.int .i64 a)
  obtain⟨⟨k0,k1,k2,k3⟩,_⟩:=(hN6.alloc (.cells #[.int .i64 c,.int .i64 a] 27)).facts
  obtain⟨_,⟨k4,k5⟩,_⟩:=(hF6.below ((Zg _ _).alloc (Z0 _) (.cells #[.int .i64 c,.int .i64 a] 27)) hF6.facts.1).facts
  refine bodyPost_ret (v:=.tuple #[.agg #[.int .i64 0,.string ⟨#[]⟩,.int .i64 0,.slice none 0 0],.agg #[.int .i64 c,.int .i64 a]]) (by simp[results,Tryz.results4,go_sem,k0,k1,k2,k3,k4,k5]) rfl ?_
  refine⟨(hbA.alloc hbA.size _).drew,?_⟩
  rw[HP.out]
 | ok l=>
  have hfew:=N9 hq
  have hby:=OR (GB t) hq
  have hlk:=IG hq
  have hnf:=K6 hq
  have hgd:=FP hq
  have hcl2:=hcl l hq
  rw[Ag]at hfew hlk hnf hgd hcl2
  have hpr:∀v Q B,AM 16 (Ew ⟨l,t.size⟩) Q B v ⟨l,t.size⟩ ⟨0,0,0⟩:=fun v Q B=>Lh Q B v _ hlk _ (fun s1 h=>hcl2 Q B v s1 h) (fun s1 _=>Ib Q B v _ hlk hnf s1)
  have hpo:=fun v w' (hv:ReadsT w' v l)=>Md v ⟨l,t.size⟩ (by show l.length<=4000;omega) hby w' hv (hpr v)
  have HW:Hid (CD (A7 t)=match Ew ⟨l,t.size⟩ ⟨0,0,0⟩with
   | .error e=>.error e
   | .ok (n,_)=>if 600<A1 n then .error (1,0)else .ok n):=by
   show _=_
   unfold CD
   rw[hq]
   show Cs ⟨l,(A7 t).length⟩ (Df ⟨l,(A7 t).length⟩)=_
   rw[Ag]
   exact P3 _ hgd
  unfold G3 at hsc
  rw[hq]at hsc
  clear hq hcl hcl2 hpr hfew hby hlk hnf hgd
  cases hp:Ew ⟨l,t.size⟩ ⟨0,0,0⟩with
  | error f=>
   have hf:=MV hp
   have HP:Hid (CD (A7 t)=.error f):=by have h:=HW.out;rw[hp]at h;exact h
   rw[hp]at hpo
   obtain⟨c,a⟩:=f
   have hc:¬c=0:=hf
   clear hp hf HW
   go_enter Tryz.func4,Tryz.ntmps4
   go_wp2_with (first | (go_at_call 8;refine(hpo _ _ hR1).mono ?_;rintro e w2 ⟨hb2,rfl⟩;have hN2:=(hN1.alloc BU).below hb2 (by simp;omega);have hF2:=(hF1.below ((Zg _ w1).alloc (Z0 _) BU) hl1).below hb2 (by simp;omega);have hG2:Box2 w2 w1.heap.size (.int .i64 0) (.int .i64 0):=(Box2.below (heap_alloc_new w1 BU) hb2 (by simp));have hlN:=hN2.lt;obtain⟨⟨p0,p1,p2,p3⟩,q0,q1,q2,q3⟩:=hN2.facts;obtain⟨hl2,⟨c2,c4⟩,z3,z4⟩:=hF2.facts;obtain⟨hl3,⟨g1,g2⟩,g3,g4⟩:=hG2.facts) | (go_at_call 7;refine hsc.mono ?_;rintro e w1 ⟨⟨v,rfl,hv⟩,hb1⟩;have hN1:=HN.out.below hb1 (by omega);have hF1:=HF.out.below hb1 (by omega);have hR1:=(ReadsT.of_own hv).below ((Zg _ w1).alloc (Z0 _) BU);obtain⟨ad,cc,hvs,_⟩:=ReadsT.of_own hv;subst hvs;obtain⟨⟨n0,n1,n2,n3⟩,m0,m1,m2,m3⟩:=hN1.facts;obtain⟨hl1,⟨c1,c3⟩,z1,z2⟩:=hF1.facts;have hl0:=hN1.lt;have e1:¬w.heap.size=w1.heap.size:=(by omega);have e2:¬w.heap.size+1=w1.heap.size:=(by omega);have e3:¬w1.heap.size=w.heap.size:=(by omega);have e4:¬w1.heap.size=w.heap.size+1:=(by omega)))
   go_region
   all_goals go_wp2_with fail
   have hN3:=(hN2.setAt (N:=w1.heap.size) (j:=0) (by omega) (.int .i64 c)).setAt (N:=w1.heap.size) (j:=1) (by omega) (.int .i64 a)
   have hF3:=(hF2.setAt (N:=w1.heap.size) (j:=0) (by omega) (.int .i64 c)).setAt (N:=w1.heap.size) (j:=1) (by omega) (.int .i64 a)
   have hbw2:Below w.heap.size w w2:=((hb0.trans (hb1.mono (by omega))).alloc (by omega) BU).trans (hb2.mono (by simp;omega))
   have hbw3:Below w.heap.size w ((w2.setCell ⟨w1.heap.size,0,none⟩ (.int .i64 c)).setCell ⟨w1.heap.size,1,none⟩ (.int .i64 a)):=(hbw2.setCell (by dsimp only;omega) _).setCell (by dsimp only;omega) _
   obtain⟨hN6,hF6⟩:=Hj hN3 hF3 (.int .i64 0) (.string ⟨#[]⟩) (.int .i64 0) (.slice none 0 0) (.int .i64 c) (.int .i64 a)
   have hbA:=Hk hbw3 (.int .i64 0) (.string ⟨#[]⟩) (.int .i64 0) (.slice none 0 0) (.int .i64 c) (.int .i64 a)
   obtain⟨⟨k0,k1,k2,k3⟩,_⟩:=(hN6.alloc (.cells #[.int .i64 0,.string ⟨#[]⟩,.int .i64 0,.slice none 0 0] 24)).facts
   obtain⟨_,⟨k4,k5⟩,_⟩:=(hF6.below ((Zg _ _).alloc (Z0 _) (.cells #[.int .i64 0,.string ⟨#[]⟩,.int .i64 0,.slice none 0 0] 24)) hF6.facts.1).facts
   refine bodyPost_ret (v:=.tuple #[.agg #[.int .i64 0,.string ⟨#[]⟩,.int .i64 0,.slice none 0 0],.agg #[.int .i64 c,.int .i64 a]]) (by simp[results,Tryz.results4,go_sem,k0,k1,k2,k3,k4,k5]) rfl ?_
   refine⟨(hbA.alloc hbA.size _).drew,?_⟩
   rw[HP.out]
  | ok y=>
   obtain⟨n,s'⟩:=y
   have HP0:Hid (CD (A7 t)=if 600<A1 n then .error (1,0)else .ok n):=by have h:=HW.out;rw[hp]at h;exact h
   rw[hp]at hpo
   clear hp HW
   by_cases hlg:600<A1 n
   ·have HP:Hid (CD (A7 t)=.error (1,0)):=by have h:=HP0.out;rw[if_pos hlg]at h;exact h
    have hL:=fun M u w' (h:NodeV w' M u n)=>JF n M u w' h
    rw[decide_eq_true hlg]at hL
    clear HP0 hlg
    go_enter Tryz.func4,Tryz.ntmps4
    go_wp2_with (first | (go_at_call 9;refine(hL _ _ _ hv3).mono ?_;rintro e w4 ⟨rfl,hb4⟩;have hs4:=hb4.size;have hN4:=hN3.below hb4 hN3.lt;have hF4:=hF3.below hb4 hF3.facts.1;have hU4:=hU3.below hb4 hU3.lt;have hbw4:=hbw3.trans (hb4.mono hbw3.size);have hlU:=hU4.lt;have hlN:=hN4.lt;obtain⟨⟨p0,p1,p2,p3⟩,q0,q1,q2,q3⟩:=hN4.facts;obtain⟨hl2,⟨c2,c4⟩,z3,z4⟩:=hF4.facts;obtain⟨⟨i0,i1,i2,i3⟩,_⟩:=hU4.facts) | (go_at_call 8;refine(hpo _ _ hR1).mono ?_;rintro e w2 ⟨hb2,u2,rfl,hv2⟩;obtain⟨na,nb,nc,nad,nln,ncp,hu2⟩:=NodeV.any hv2;subst hu2;have hN2:=(hN1.alloc BU).below hb2 (by simp;omega);have hF2:=(hF1.below ((Zg _ w1).alloc (Z0 _) BU) hl1).below hb2 (by simp;omega);have hG2:Box2 w2 w1.heap.size (.int .i64 0) (.int .i64 0):=(Box2.below (heap_alloc_new w1 BU) hb2 (by simp));obtain⟨hl3,⟨g1,g2⟩,g3,g4⟩:=hG2.facts;have hN3:=((hN2.setAt (N:=w1.heap.size) (j:=0) (by omega) (.int .i64 0)).setAt (N:=w1.heap.size) (j:=1) (by omega) (.int .i64 0)).alloc (.cells #[.int .i64 na,.string nb,.int .i64 nc,.slice nad nln ncp] 24);have hF3:=((hF2.setAt (N:=w1.heap.size) (j:=0) (by omega) (.int .i64 0)).setAt (N:=w1.heap.size) (j:=1) (by omega) (.int .i64 0)).below ((Zg _ _).alloc (Z0 _) (.cells #[.int .i64 na,.string nb,.int .i64 nc,.slice nad nln ncp] 24)) (((hF2.setAt (N:=w1.heap.size) (j:=0) (by omega) (.int .i64 0)).setAt (N:=w1.heap.size) (j:=1) (by omega) (.int .i64 0)).facts.1);have hU3:Box4 (((w2.setCell ⟨w1.heap.size,0,none⟩ (.int .i64 0)).setCell ⟨w1.heap.size,1,none⟩ (.int .i64 0)).alloc (.cells #[.int .i64 na,.string nb,.int .i64 nc,.slice nad nln ncp] 24)) w2.heap.size (.int .i64 na) (.string nb) (.int .i64 nc) (.slice nad nln ncp):=(by have h:=Box4.new ((w2.setCell ⟨w1.heap.size,0,none⟩ (.int .i64 0)).setCell ⟨w1.heap.size,1,none⟩ (.int .i64 0)) (.int .i64 na) (.string nb) (.int .i64 nc) (.slice nad nln ncp);rw[show((w2.setCell ⟨w1.heap.size,0,none⟩ (.int .i64 0)).setCell ⟨w1.heap.size,1,none⟩ (.int .i64 0)).heap.size=w2.heap.size by simp[World.setCell]]at h;exact h);have hq2:Below w.heap.size w ((w2.setCell ⟨w1.heap.size,0,none⟩ (.int .i64 0)).setCell ⟨w1.heap.size,1,none⟩ (.int .i64 0)):=((((hb0.trans (hb1.mono (by omega))).alloc (by omega) BU).trans (hb2.mono (by simp;omega))).setCell (by dsimp only;omega) _).setCell (by dsimp only;omega) _;have hbw3:=hq2.alloc hq2.size (.cells #[.int .i64 na,.string nb,.int .i64 nc,.slice nad nln ncp] 24);have hv3:NodeV (((w2.setCell ⟨w1.heap.size,0,none⟩ (.int .i64 0)).setCell ⟨w1.heap.size,1,none⟩ (.int .i64 0)).alloc (.cells #[.int .i64 na,.string nb,.int .i64 nc,.slice nad nln ncp] 24)) (Be (w1.heap.size+1)) (.agg #[.int .i64 na,.string nb,.int .i64 nc,.slice nad nln ncp]) n:=((Zi hv2 (M':=Be (w1.heap.size+1)) (fun j hj _=>by have hj':_<=j:=hj;simp at hj';exact hj')).above ((((Above.refl _ _).set (a:=⟨w1.heap.size,0,none⟩) (by show ¬w1.heap.size+1<=w1.heap.size;omega) _).set (a:=⟨w1.heap.size,1,none⟩) (by show ¬w1.heap.size+1<=w1.heap.size;omega) _).trans (Zh (Zf _ _ none) (fun k e=>by cases e))))) | (go_at_call 7;refine hsc.mono ?_;rintro e w1 ⟨⟨v,rfl,hv⟩,hb1⟩;have hN1:=HN.out.below hb1 (by omega);have hF1:=HF.out.below hb1 (by omega);have hR1:=(ReadsT.of_own hv).below ((Zg _ w1).alloc (Z0 _) BU);obtain⟨ad,cc,hvs,_⟩:=ReadsT.of_own hv;subst hvs;obtain⟨⟨n0,n1,n2,n3⟩,m0,m1,m2,m3⟩:=hN1.facts;obtain⟨hl1,⟨c1,c3⟩,z1,z2⟩:=hF1.facts;have hl0:=hN1.lt;have e1:¬w.heap.size=w1.heap.size:=(by omega);have e2:¬w.heap.size+1=w1.heap.size:=(by omega);have e3:¬w1.heap.size=w.heap.size:=(by omega);have e4:¬w1.heap.size=w.heap.size+1:=(by omega)))
    obtain⟨hN6,hF6⟩:=Hj hN4 hF4 (.int .i64 0) (.string ⟨#[]⟩) (.int .i64 0) (.slice none 0 0) (.int .i64 1) (.int .i64 0)
    have hbA:=Hk hbw4 (.int .i64 0) (.string ⟨#[]⟩) (.int .i64 0) (.slice none 0 0) (.int .i64 1) (.int .i64 0)
    obtain⟨⟨k0,k1,k2,k3⟩,_⟩:=hN6.facts
    obtain⟨_,⟨k4,k5⟩,_⟩:=hF6.facts
    refine bodyPost_ret (v:=.tuple #[.agg #[.int .i64 0,.string ⟨#[]⟩,.int .i64 0,.slice none 0 0],.agg #[.int .i64 1,.int .i64 0]]) (by simp[results,Tryz.results4,go_sem,k0,k1,k2,k3,k4,k5]) rfl ?_
    refine⟨hbA,?_⟩
    rw[HP.out]
   ·have HP:Hid (CD (A7 t)=.ok n):=by have h:=HP0.out;rw[if_neg hlg]at h;exact h
    have hL:=fun M u w' (h:NodeV w' M u n)=>JF n M u w' h
    rw[decide_eq_false hlg]at hL
    clear HP0 hlg
    go_enter Tryz.func4,Tryz.ntmps4
    go_wp2_with (first | (go_at_call 9;refine(hL _ _ _ hv3).mono ?_;rintro e w4 ⟨rfl,hb4⟩;have hs4:=hb4.size;have hN4:=hN3.below hb4 hN3.lt;have hF4:=hF3.below hb4 hF3.facts.1;have hU4:=hU3.below hb4 hU3.lt;have hbw4:=hbw3.trans (hb4.mono hbw3.size);have hlU:=hU4.lt;have hlN:=hN4.lt;obtain⟨⟨p0,p1,p2,p3⟩,q0,q1,q2,q3⟩:=hN4.facts;obtain⟨hl2,⟨c2,c4⟩,z3,z4⟩:=hF4.facts;obtain⟨⟨i0,i1,i2,i3⟩,_⟩:=hU4.facts) | (go_at_call 8;refine(hpo _ _ hR1).mono ?_;rintro e w2 ⟨hb2,u2,rfl,hv2⟩;obtain⟨na,nb,nc,nad,nln,ncp,hu2⟩:=NodeV.any hv2;subst hu2;have hN2:=(hN1.alloc BU).below hb2 (by simp;omega);have hF2:=(hF1.below ((Zg _ w1).alloc (Z0 _) BU) hl1).below hb2 (by simp;omega);have hG2:Box2 w2 w1.heap.size (.int .i64 0) (.int .i64 0):=(Box2.below (heap_alloc_new w1 BU) hb2 (by simp));obtain⟨hl3,⟨g1,g2⟩,g3,g4⟩:=hG2.facts;have hN3:=((hN2.setAt (N:=w1.heap.size) (j:=0) (by omega) (.int .i64 0)).setAt (N:=w1.heap.size) (j:=1) (by omega) (.int .i64 0)).alloc (.cells #[.int .i64 na,.string nb,.int .i64 nc,.slice nad nln ncp] 24);have hF3:=((hF2.setAt (N:=w1.heap.size) (j:=0) (by omega) (.int .i64 0)).setAt (N:=w1.heap.size) (j:=1) (by omega) (.int .i64 0)).below ((Zg _ _).alloc (Z0 _) (.cells #[.int .i64 na,.string nb,.int .i64 nc,.slice nad nln ncp] 24)) (((hF2.setAt (N:=w1.heap.size) (j:=0) (by omega) (.int .i64 0)).setAt (N:=w1.heap.size) (j:=1) (by omega) (.int .i64 0)).facts.1);have hU3:Box4 (((w2.setCell ⟨w1.heap.size,0,none⟩ (.int .i64 0)).setCell ⟨w1.heap.size,1,none⟩ (.int .i64 0)).alloc (.cells #[.int .i64 na,.string nb,.int .i64 nc,.slice nad nln ncp] 24)) w2.heap.size (.int .i64 na) (.string nb) (.int .i64 nc) (.slice nad nln ncp):=(by have h:=Box4.new ((w2.setCell ⟨w1.heap.size,0,none⟩ (.int .i64 0)).setCell ⟨w1.heap.size,1,none⟩ (.int .i64 0)) (.int .i64 na) (.string nb) (.int .i64 nc) (.slice nad nln ncp);rw[show((w2.setCell ⟨w1.heap.size,0,none⟩ (.int .i64 0)).setCell ⟨w1.heap.size,1,none⟩ (.int .i64 0)).heap.size=w2.heap.size by simp[World.setCell]]at h;exact h);have hq2:Below w.heap.size w ((w2.setCell ⟨w1.heap.size,0,none⟩ (.int .i64 0)).setCell ⟨w1.heap.size,1,none⟩ (.int .i64 0)):=((((hb0.trans (hb1.mono (by omega))).alloc (by omega) BU).trans (hb2.mono (by simp;omega))).setCell (by dsimp only;omega) _).setCell (by dsimp only;omega) _;have hbw3:=hq2.alloc hq2.size (.cells #[.int .i64 na,.string nb,.int .i64 nc,.slice nad nln ncp] 24);have hv3:NodeV (((w2.setCell ⟨w1.heap.size,0,none⟩ (.int .i64 0)).setCell ⟨w1.heap.size,1,none⟩ (.int .i64 0)).alloc (.cells #[.int .i64 na,.string nb,.int .i64 nc,.slice nad nln ncp] 24)) (Be (w1.heap.size+1)) (.agg #[.int .i64 na,.string nb,.int .i64 nc,.slice nad nln ncp]) n:=((Zi hv2 (M':=Be (w1.heap.size+1)) (fun j hj _=>by have hj':_<=j:=hj;simp at hj';exact hj')).above ((((Above.refl _ _).set (a:=⟨w1.heap.size,0,none⟩) (by show ¬w1.heap.size+1<=w1.heap.size;omega) _).set (a:=⟨w1.heap.size,1,none⟩) (by show ¬w1.heap.size+1<=w1.heap.size;omega) _).trans (Zh (Zf _ _ none) (fun k e=>by cases e))))) | (go_at_call 7;refine hsc.mono ?_;rintro e w1 ⟨⟨v,rfl,hv⟩,hb1⟩;have hN1:=HN.out.below hb1 (by omega);have hF1:=HF.out.below hb1 (by omega);have hR1:=(ReadsT.of_own hv).below ((Zg _ w1).alloc (Z0 _) BU);obtain⟨ad,cc,hvs,_⟩:=ReadsT.of_own hv;subst hvs;obtain⟨⟨n0,n1,n2,n3⟩,m0,m1,m2,m3⟩:=hN1.facts;obtain⟨hl1,⟨c1,c3⟩,z1,z2⟩:=hF1.facts;have hl0:=hN1.lt;have e1:¬w.heap.size=w1.heap.size:=(by omega);have e2:¬w.heap.size+1=w1.heap.size:=(by omega);have e3:¬w1.heap.size=w.heap.size:=(by omega);have e4:¬w1.heap.size=w.heap.size+1:=(by omega)))
    obtain⟨hN6,hF6⟩:=Hj hN4 hF4 (.int .i64 na) (.string nb) (.int .i64 nc) (.slice nad nln ncp) (.int .i64 0) (.int .i64 0)
    have hbA:=Hk hbw4 (.int .i64 na) (.string nb) (.int .i64 nc) (.slice nad nln ncp) (.int .i64 0) (.int .i64 0)
    obtain⟨⟨k0,k1,k2,k3⟩,_⟩:=hN6.facts
    obtain⟨_,⟨k4,k5⟩,_⟩:=hF6.facts
    refine bodyPost_ret (v:=.tuple #[(.agg #[.int .i64 na,.string nb,.int .i64 nc,.slice nad nln ncp]),.agg #[.int .i64 0,.int .i64 0]]) (by simp[results,Tryz.results4,go_sem,k0,k1,k2,k3,k4,k5]) rfl ?_
    refine⟨hbA,?_⟩
    rw[HP.out]
    exact⟨_,rfl,Sc (C:=w1.heap.size+1) (by omega) (hv3.above (Zk hb4)) _ _ _ _ _ _⟩
open Go.RowKit
theorem GX{ops:Array Oper}{o:Oper}{a:Act}{w:World}{K:Act->World->Prop}{Q:Exit->Act->World->Prop}{E:Prop}(hg:o.guard=none)(f:FuncId)(x y z:Operand)(t t' t'':TypeId)(hop:o.op=Op.call { callee:=Callee.value (.func f),args:=#[x,y,z],argTypes:=#[t,t',t''] })(v v' v'':Value)(hx:a.eval x=v)(hy:a.eval y=v')(hz:a.eval z=v'')(hent:∀w,Sem.run Tryz.prog (callFunc f #[v,v',v'']) w=.ok (.enter f #[v,v',v'']) w){R:Ending->World->Prop}(hC:Calls Tryz.prog f #[v,v',v''] w R)(hR:∀e w',R e w'->∃u,e=.returned u/\K (a.put o.dst u) w') :
  if Region.wanted o (yielded ops a.tmps)=true then Oper.wp Tryz.prog o a w K Q else E:=by
 have hw:Region.wanted o (yielded ops a.tmps)=true:=by simp[Region.wanted,hg]
 rw[if_pos hw]
 subst hx hy hz
 have e:Sem.run Tryz.prog (execOp a.eval o) w=.ok (.enter f #[a.eval x,a.eval y,a.eval z]) w:=by
  simp[execOp,hop,resolve,invoke,Deferred.ofValue,go_sem]
  have h9:=hent w
  simp[Act.eval]at h9
  exact h9
 unfold Oper.wp
 rw[e,Oper.upon_enter]
 refine hC.mono fun e w' hr=>?_
 obtain⟨u,rfl,hk⟩:=hR e w' hr
 exact hk
structure ClsS(w wx:World)(Q B:Nat)(v:Value)(S:Src9)(s:PS)(X:Nat)(x:List Int)(l:List (Nd×Value))(ad:Option Addr)(cp:Nat):Prop where
 rdr:Rdr wx Q B v S s
 box:Box4 wx X (.int .i64 2) (.string (strOfNums x)) (.int .i64 0) (.slice ad l.length cp)
 row:RowM wx (w.heap.size+1) (fun j=>w.heap.size+1<=j/\j≠X) (.slice ad l.length cp) l
 res:Box4 wx w.heap.size (.int .i64 0) (.string ⟨#[]⟩) (.int .i64 0) (.slice none 0 0)
 gro:w.grownBy wx (some Q)
 low:w.heap.size+1<=X
 own:Value.ownBlock (.slice ad l.length cp)≠some X
theorem ClsS.grown{w wx wy:World}{Q B:Nat}{v:Value}{S:Src9}{s s':PS}{X:Nat}{x:List Int}{l:List (Nd×Value)}{ad:Option Addr}{cp:Nat}(h:ClsS w wx Q B v S s X x l ad cp)(hB:B<=w.heap.size)(hqb:Q<B)(hp:Rdr wy Q B v S s')(hg:wx.grownBy wy (some Q)):ClsS w wy Q B v S s' X x l ad cp:=
 ⟨hp,h.box.grown hg (by have:=h.low;omega),h.row.grown hg (by omega) (by rintro⟨h,_⟩;omega),h.res.grown hg (by omega),h.gro.trans hg,h.low,h.own⟩
theorem ClsS.more{w w6 wm w7:World}{Q B:Nat}{v v7:Value}{S:Src9}{s:PS}{X:Nat}{x:List Int}{l m:List (Nd×Value)}{ad:Option Addr}{cp:Nat}(h:ClsS w w6 Q B v S s X x l ad cp)(hB:B<=w.heap.size)(hbm:Below w6.heap.size w6 wm)(hR7:RowM w7 (w.heap.size+1) (fun j=>w.heap.size+1<=j/\j≠X) v7 (l++m))(hg7:wm.grownBy w7 (Value.ownBlock (.slice ad l.length cp)))(hor:v7.ownBlock=Value.ownBlock (.slice ad l.length cp)\/v7.ownBlock=some wm.heap.size) :
  ∃ad' cp',v7=.slice ad' (l++m).length cp'/\Box4 w7 X (.int .i64 2) (.string (strOfNums x)) (.int .i64 0) (.slice ad l.length cp)/\ClsS w (w7.setCell ⟨X,3,none⟩ v7) Q B v S s X x (l++m) ad' cp':=by
 obtain⟨ad',cp',e⟩:=hR7.slice
 subst e
 have hlow:=h.low
 have hX6:=h.box.lt
 have hw6:=h.res.lt
 have hsm:=hbm.size
 have hne:Value.ownBlock (.slice ad' (l++m).length cp')≠some X:=fun e=>by
  rcases hor with h1 | h1
  ·exact h.own (h1.symm.trans e)
  ·rw[h1]at e;injection e with e;omega
 have hb67:Below (w.heap.size+1) w6 w7:=(hbm.mono (by omega)).grown hg7 (by omega) (fun j e=>(h.row.lt j e).1)
 have hb68:Below (w.heap.size+1) w6 (w7.setCell ⟨X,3,none⟩ (.slice ad' (l++m).length cp')):=hb67.setCell hlow _
 have hX7:Box4 w7 X (.int .i64 2) (.string (strOfNums x)) (.int .i64 0) (.slice ad l.length cp):=((hg7.block X (by omega) (fun e=>h.own e.symm)).trans (hbm.block X hX6)).trans h.box
 refine⟨ad',cp',rfl,hX7,h.rdr.apart (hb68.mono (by omega)),hX7.setKids _,?_,(hb68.block w.heap.size (by omega)).trans h.res,Bf h.gro (hb68.mono (by omega)),hlow,hne⟩
 exact hR7.apart (D4 _ _ _ _) hne (by rintro⟨_,h⟩;exact h rfl)
theorem ClsS.drew{w wx:World}{Q B:Nat}{v:Value}{S:Src9}{s:PS}{X:Nat}{x:List Int}{l:List (Nd×Value)}{ad:Option Addr}{cp:Nat}(h:ClsS w wx Q B v S s X x l ad cp)(hB:B<=w.heap.size)(hqb:Q<B):ClsS w wx.drew Q B v S s X x l ad cp:=h.grown hB hqb h.rdr.drew (A3 Q (Zg _ _).drew)
end Go.Proofs.YtbglpanjpadldaaGreatDoor
