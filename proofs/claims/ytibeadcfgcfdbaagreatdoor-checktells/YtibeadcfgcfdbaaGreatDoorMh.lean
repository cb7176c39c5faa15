/- Texts in one. -/
import Derived.Test.YtibeadcfgcfdbaaGreatDoorMg
set_option maxHeartbeats 8000000
set_option maxRecDepth 20000
namespace Go.Proofs.YtibeadcfgcfdbaaGreatDoor
open Go.RowKit
theorem PK(Q B:Nat)(v:Value)(S:Src9)(hnf:Au S)(st:St9)(b0:Aa S BD st=false)(b1:Aa S wIf st=false)(b2:Aa S B4 st=false)(b3:Aa S B3 st=false)(b4:Aa S BH st=false)(b5:Aa S CN st=false)(b6:Aa S Cm st=false)(b7:Aa S Bw st=false)(b8:Aa S Dt st=false)(h1:isS S 1 st=false)(w:World)(hp:Par w Q B v S st):Calls Tryz.prog 112 #[.pointer (some ⟨Q,0,none⟩)] w fun e w'=>(∃u,e=.returned u/\ValG w' (AZ w.heap.size) u (AA st fun s=>(AR S s).then fun k s=>(A3 S AQ s).then fun _ s=>AD 17 [] 0 [k] s))/\Par w' Q B v S (A7 (AA st fun s=>(AR S s).then fun k s=>(A3 S AQ s).then fun _ s=>AD 17 [] 0 [k] s))/\w.grownBy w' (some Q):=by
 have hRB:=hp.size
 have hqb:=hp.qb
 have hfew:=hp.few
 have HPA:Hid (Par (w.alloc AK) Q B v S st):=hp.below ((Zg _ w).alloc (Z0 _) _)
 have HX:=ZB w
 have HS:=At9.first hp
 have t0:B1 S (st) ⟨#[118,97,114]⟩:=⟨⟨BD,by decide,b0⟩⟩
 have t1:B1 S (st) ⟨#[105,102]⟩:=⟨⟨wIf,by decide,b1⟩⟩
 have t2:B1 S (st) ⟨#[119,104,105,108,101]⟩:=⟨⟨B4,by decide,b2⟩⟩
 have t3:B1 S (st) ⟨#[114,101,116,117,114,110]⟩:=⟨⟨B3,by decide,b3⟩⟩
 have t4:B1 S (st) ⟨#[112,114,105,110,116]⟩:=⟨⟨BH,by decide,b4⟩⟩
 have t5:B1 S (st) ⟨#[102,111,114,107]⟩:=⟨⟨CN,by decide,b5⟩⟩
 have t6:B1 S (st) ⟨#[119,97,105,116]⟩:=⟨⟨Cm,by decide,b6⟩⟩
 have t7:B1 S (st) ⟨#[115,105,103,110,97,108]⟩:=⟨⟨Bw,by decide,b7⟩⟩
 have t8:B1 S (st) ⟨#[115,119,97,112]⟩:=⟨⟨Dt,by decide,b8⟩⟩
 have hno:=At9.no (w:=w) (Q:=Q) (B:=B) (v:=v) (S:=S) (st:=st)
 clear b0 b1 b2 b3 b4 b5 b6 b7 b8 hp
 rw[IC st (AR S)]
 have hxx:=FM Q B v S hnf st
 unfold Ah at hxx
 generalize AA st (AR S)=gE at *
 have hW2:=Bf (Q:=Q) (B:=B) (v:=v) (S:=S) (x:=⟨#[59]⟩) (l:=AQ) (by decide) (A7 gE)
 have HO:Hid (_/\_):=Jm S 17 gE
 generalize (gE.then fun k s=>(A3 S AQ s).then fun _ s=>AD 17 [] 0 [k] s)=G at *
 have hI:=GG (Q:=Q) (B:=B) (v:=v) (S:=S) (k:=1) h1
 clear h1
 go_enter Tryz.func112,Tryz.ntmps112
 go_wp2_with (first
  | (go_at_call 134;refine(hno _ (by first | exact t0 | exact t1 | exact t2 | exact t3 | exact t4 | exact t5 | exact t6 | exact t7 | exact t8) _ HS.out).mono ?_;clear HS;rintro e wx ⟨rfl,HS⟩)
  | (go_at_call 133;refine(hI _ HS.out.par).mono ?_;rintro e w10 ⟨rfl,hb10⟩;have hp10:=Par.below HS.out.par hb10;have hg10:(w.alloc AK).grownBy w10 (some Q):=HS.out.gr.trans (A0 Q hb10)))
 go_quiet (fail)
 obtain⟨w11,eq⟩:∃w11,w11=w10.drewN nq:=⟨_,rfl⟩
 have hbq:Below w10.heap.size w10 w11:=by rw[eq];exact Ae _ _
 rw[<-eq]
 clear eq
 have hp11:=Par.below hp10 hbq
 have hg11:=hg10.trans (A0 Q hbq)
 go_wp2_with (first
  | (go_at_call 136;refine(hxx _ hp11).mono ?_;rintro e wE ⟨⟨u,rfl,hv⟩,hpE,hgE⟩;obtain⟨a,b,c,ad,n,cc,hu'⟩:=hv.any;subst hu';have hg8:=hg11.trans hgE;have hpEa:=hpE.below ((Zg _ _).alloc (Z0 _) (.cells #[.int .i64 a,.string b,.int .i64 c,.slice ad n cc] 24)))
  | (go_at_call_of 87 (Value.string ⟨#[59]⟩);refine(hW2 _ hpEa).mono ?_;rintro e wL ⟨rfl,hpL,hgz⟩;have hsz:w.heap.size<wE.heap.size:=(by have:=hg8.size;simp at this;omega);obtain⟨⟨p0,p1,p2,p3⟩,_⟩:=((Box4.new wE (.int .i64 a) (.string b) (.int .i64 c) (.slice ad n cc)).grown hgz (by omega)).facts;have hpLa:=hpL.below ((Zg _ _).alloc (Z0 _) (.cells #[.int .i64 a,.string b,.int .i64 c,.slice ad n cc] 24));have hXL:=((HX.out.grown hg8 (by omega)).alloc (.cells #[.int .i64 a,.string b,.int .i64 c,.slice ad n cc] 24)).grown hgz (by omega))
  | (go_at_call 89;refine(At Q B _ S _ _ _ _ ⟨_,_,_,rfl⟩ _ hpLa).mono ?_;rintro e wN ⟨rfl,hpN,hgN⟩;have hXN:=(hXL.alloc (.cells #[.int .i64 a,.string b,.int .i64 c,.slice ad n cc] 24)).grown hgN (by omega);obtain⟨⟨q0,q1,q2,q3⟩,s0,s1',s2,s3⟩:=hXN.facts))
 have hgP:=hg11
 have hgL:(w.alloc AK).grownBy wL (some Q):=(hg8.trans (Zf _ _ _)).trans hgz
 have szL:wE.heap.size+1<=wL.heap.size:=by have:=hgz.size;simpa using this
 obtain⟨ho,hs⟩:=HO.out
 have hgw:w.grownBy wN (some Q):=(((Zf w AK (some Q)).trans hgL).trans (Zf _ _ _)).trans hgN
 have szP:w.heap.size<w11.heap.size:=by have:=hgP.size;simp at this;omega
 have szE:w11.heap.size<=wE.heap.size:=hgE.size
 have hvL:ValG wL (AZ w11.heap.size) (.agg #[.int .i64 a,.string b,.int .i64 c,.slice ad n cc]) gE:=(hv.above (Zh (Zf wE (.cells #[.int .i64 a,.string b,.int .i64 c,.slice ad n cc] 24) none) (fun k e=>by cases e))).above (Zh hgz (fun k e=>by injection e with e;show ¬w11.heap.size<=k;omega))
 refine bodyPost_ret (v:=.agg #[.int .i64 17,.string ⟨#[]⟩,.int .i64 0,.slice (some ⟨wL.heap.size,0,none⟩) 1 1]) (by simp[results,Tryz.results112,go_sem,q0,q1,q2,q3]) rfl ⟨⟨_,rfl,?_⟩,by rw[hs];exact Ap hpN hRB _ _ _ _,AG hgw (AX (Z0 _) _ _ _ _)⟩
 exact(IQ (T:=24) ho hvL (by show w11.heap.size<=_;omega) ((Zh hgN (fun k e=>by injection e with e;show ¬w11.heap.size<=k;omega)).trans (Af (R:=w.heap.size) (by show ¬w11.heap.size<=w.heap.size;omega) _ _ _ _))).mono (fun k hk _=>by have hk':w11.heap.size<=k:=hk;show w.heap.size<=k;omega)
theorem Ua(Q B:Nat)(v:Value)(S:Src9)(hnf:Au S)(st:St9)(b0:Aa S BD st=false)(b1:Aa S wIf st=false)(b2:Aa S B4 st=false)(b3:Aa S B3 st=false)(b4:Aa S BH st=false)(b5:Aa S CN st=false)(b6:Aa S Cm st=false)(b7:Aa S Bw st=false)(b8:Aa S Dt st=false)(s:PS)(hst:st=.ok s)(h1:isB S 1 s=true)(h2:¬s.tok+1<S.L.length)(w:World)(hp:Par w Q B v S st):Calls Tryz.prog 112 #[.pointer (some ⟨Q,0,none⟩)] w fun e w'=>(∃u,e=.returned u/\ValG w' (AZ w.heap.size) u (AA st fun s=>(AR S s).then fun k s=>(A3 S AQ s).then fun _ s=>AD 17 [] 0 [k] s))/\Par w' Q B v S (A7 (AA st fun s=>(AR S s).then fun k s=>(A3 S AQ s).then fun _ s=>AD 17 [] 0 [k] s))/\w.grownBy w' (some Q):=by
 subst hst
 have hRB:=hp.size
 have hqb:=hp.qb
 have hfew:=hp.few
 have HPA:Hid (Par (w.alloc AK) Q B v S (.ok s)):=hp.below ((Zg _ w).alloc (Z0 _) _)
 have HX:=ZB w
 have HS:=At9.first hp
 have t0:B1 S (.ok s) ⟨#[118,97,114]⟩:=⟨⟨BD,by decide,b0⟩⟩
 have t1:B1 S (.ok s) ⟨#[105,102]⟩:=⟨⟨wIf,by decide,b1⟩⟩
 have t2:B1 S (.ok s) ⟨#[119,104,105,108,101]⟩:=⟨⟨B4,by decide,b2⟩⟩
 have t3:B1 S (.ok s) ⟨#[114,101,116,117,114,110]⟩:=⟨⟨B3,by decide,b3⟩⟩
 have t4:B1 S (.ok s) ⟨#[112,114,105,110,116]⟩:=⟨⟨BH,by decide,b4⟩⟩
 have t5:B1 S (.ok s) ⟨#[102,111,114,107]⟩:=⟨⟨CN,by decide,b5⟩⟩
 have t6:B1 S (.ok s) ⟨#[119,97,105,116]⟩:=⟨⟨Cm,by decide,b6⟩⟩
 have t7:B1 S (.ok s) ⟨#[115,105,103,110,97,108]⟩:=⟨⟨Bw,by decide,b7⟩⟩
 have t8:B1 S (.ok s) ⟨#[115,119,97,112]⟩:=⟨⟨Dt,by decide,b8⟩⟩
 have hno:=At9.no (w:=w) (Q:=Q) (B:=B) (v:=v) (S:=S) (st:=(.ok s))
 clear b0 b1 b2 b3 b4 b5 b6 b7 b8 hp
 rw[IC (.ok s) (AR S)]
 have hxx:=FM Q B v S hnf (.ok s)
 unfold Ah at hxx
 generalize AA (.ok s) (AR S)=gE at *
 have hW2:=Bf (Q:=Q) (B:=B) (v:=v) (S:=S) (x:=⟨#[59]⟩) (l:=AQ) (by decide) (A7 gE)
 have HO:Hid (_/\_):=Jm S 17 gE
 generalize (gE.then fun k s=>(A3 S AQ s).then fun _ s=>AD 17 [] 0 [k] s)=G at *
 have hI:=MU (Q:=Q) (B:=B) (v:=v) (S:=S) (k:=1) h1
 obtain⟨vad,vc,hv0,_⟩:=HPA.out.toks
 subst hv0
 have htl:s.tok<=4000:=by obtain⟨_,_,_,h,_⟩:=HPA.out.ok;omega
 have hw1:=AN (x:=(s.tok:Int)+1) (by omega) (by omega)
 have hil:¬(s.tok:Int)+1<(S.L.length:Int):=by omega
 have hild:decide ((s.tok:Int)+1<(S.L.length:Int))=false:=decide_eq_false hil
 have hiln:¬s.tok+1<S.L.length:=h2
 clear h1 h2
 go_enter Tryz.func112,Tryz.ntmps112
 go_wp2_with (first
  | (go_at_call 134;refine(hno _ (by first | exact t0 | exact t1 | exact t2 | exact t3 | exact t4 | exact t5 | exact t6 | exact t7 | exact t8) _ HS.out).mono ?_;clear HS;rintro e wx ⟨rfl,HS⟩)
  | (go_at_call 133;refine(hI _ HS.out.par).mono ?_;rintro e w10 ⟨rfl,hb10⟩;have hp10:=Par.below HS.out.par hb10;have hg10:(w.alloc AK).grownBy w10 (some Q):=HS.out.gr.trans (A0 Q hb10);obtain⟨mn,ho,_,_,_,_⟩:=hp10.ok;obtain⟨k0,k1,k2,k3,k4,k5,k6⟩:=ho.cells;have hq10:=ho.lt))
 go_quiet (fail)
 obtain⟨w11,eq⟩:∃w11,w11=w10.drewN nq:=⟨_,rfl⟩
 have hbq:Below w10.heap.size w10 w11:=by rw[eq];exact Ae _ _
 rw[<-eq]
 clear eq
 have hp11:=Par.below hp10 hbq
 have hg11:=hg10.trans (A0 Q hbq)
 go_wp2_with (first
  | (go_at_call 136;refine(hxx _ hp11).mono ?_;rintro e wE ⟨⟨u,rfl,hv⟩,hpE,hgE⟩;obtain⟨a,b,c,ad,n,cc,hu'⟩:=hv.any;subst hu';have hg8:=hg11.trans hgE;have hpEa:=hpE.below ((Zg _ _).alloc (Z0 _) (.cells #[.int .i64 a,.string b,.int .i64 c,.slice ad n cc] 24)))
  | (go_at_call_of 87 (Value.string ⟨#[59]⟩);refine(hW2 _ hpEa).mono ?_;rintro e wL ⟨rfl,hpL,hgz⟩;have hsz:w.heap.size<wE.heap.size:=(by have:=hg8.size;simp at this;omega);obtain⟨⟨p0,p1,p2,p3⟩,_⟩:=((Box4.new wE (.int .i64 a) (.string b) (.int .i64 c) (.slice ad n cc)).grown hgz (by omega)).facts;have hpLa:=hpL.below ((Zg _ _).alloc (Z0 _) (.cells #[.int .i64 a,.string b,.int .i64 c,.slice ad n cc] 24));have hXL:=((HX.out.grown hg8 (by omega)).alloc (.cells #[.int .i64 a,.string b,.int .i64 c,.slice ad n cc] 24)).grown hgz (by omega))
  | (go_at_call 89;refine(At Q B _ S _ _ _ _ ⟨_,_,_,rfl⟩ _ hpLa).mono ?_;rintro e wN ⟨rfl,hpN,hgN⟩;have hXN:=(hXL.alloc (.cells #[.int .i64 a,.string b,.int .i64 c,.slice ad n cc] 24)).grown hgN (by omega);obtain⟨⟨q0,q1,q2,q3⟩,s0,s1',s2,s3⟩:=hXN.facts))
 have hgP:=hg11
 have hgL:(w.alloc AK).grownBy wL (some Q):=(hg8.trans (Zf _ _ _)).trans hgz
 have szL:wE.heap.size+1<=wL.heap.size:=by have:=hgz.size;simpa using this
 obtain⟨ho,hs⟩:=HO.out
 have hgw:w.grownBy wN (some Q):=(((Zf w AK (some Q)).trans hgL).trans (Zf _ _ _)).trans hgN
 have szP:w.heap.size<w11.heap.size:=by have:=hgP.size;simp at this;omega
 have szE:w11.heap.size<=wE.heap.size:=hgE.size
 have hvL:ValG wL (AZ w11.heap.size) (.agg #[.int .i64 a,.string b,.int .i64 c,.slice ad n cc]) gE:=(hv.above (Zh (Zf wE (.cells #[.int .i64 a,.string b,.int .i64 c,.slice ad n cc] 24) none) (fun k e=>by cases e))).above (Zh hgz (fun k e=>by injection e with e;show ¬w11.heap.size<=k;omega))
 refine bodyPost_ret (v:=.agg #[.int .i64 17,.string ⟨#[]⟩,.int .i64 0,.slice (some ⟨wL.heap.size,0,none⟩) 1 1]) (by simp[results,Tryz.results112,go_sem,q0,q1,q2,q3]) rfl ⟨⟨_,rfl,?_⟩,by rw[hs];exact Ap hpN hRB _ _ _ _,AG hgw (AX (Z0 _) _ _ _ _)⟩
 exact(IQ (T:=24) ho hvL (by show w11.heap.size<=_;omega) ((Zh hgN (fun k e=>by injection e with e;show ¬w11.heap.size<=k;omega)).trans (Af (R:=w.heap.size) (by show ¬w11.heap.size<=w.heap.size;omega) _ _ _ _))).mono (fun k hk _=>by have hk':w11.heap.size<=k:=hk;show w.heap.size<=k;omega)
theorem Ub(Q B:Nat)(v:Value)(S:Src9)(hnf:Au S)(st:St9)(b0:Aa S BD st=false)(b1:Aa S wIf st=false)(b2:Aa S B4 st=false)(b3:Aa S B3 st=false)(b4:Aa S BH st=false)(b5:Aa S CN st=false)(b6:Aa S Cm st=false)(b7:Aa S Bw st=false)(b8:Aa S Dt st=false)(s:PS)(hst:st=.ok s)(h1:isB S 1 s=true)(h2:s.tok+1<S.L.length)(h3:((BS S.L (s.tok+1)).2.1==A2 ⟨#[61]⟩)=false)(w:World)(hp:Par w Q B v S st):Calls Tryz.prog 112 #[.pointer (some ⟨Q,0,none⟩)] w fun e w'=>(∃u,e=.returned u/\ValG w' (AZ w.heap.size) u (AA st fun s=>(AR S s).then fun k s=>(A3 S AQ s).then fun _ s=>AD 17 [] 0 [k] s))/\Par w' Q B v S (A7 (AA st fun s=>(AR S s).then fun k s=>(A3 S AQ s).then fun _ s=>AD 17 [] 0 [k] s))/\w.grownBy w' (some Q):=by
 subst hst
 have hRB:=hp.size
 have hqb:=hp.qb
 have hfew:=hp.few
 have HPA:Hid (Par (w.alloc AK) Q B v S (.ok s)):=hp.below ((Zg _ w).alloc (Z0 _) _)
 have HX:=ZB w
 have HS:=At9.first hp
 have t0:B1 S (.ok s) ⟨#[118,97,114]⟩:=⟨⟨BD,by decide,b0⟩⟩
 have t1:B1 S (.ok s) ⟨#[105,102]⟩:=⟨⟨wIf,by decide,b1⟩⟩
 have t2:B1 S (.ok s) ⟨#[119,104,105,108,101]⟩:=⟨⟨B4,by decide,b2⟩⟩
 have t3:B1 S (.ok s) ⟨#[114,101,116,117,114,110]⟩:=⟨⟨B3,by decide,b3⟩⟩
 have t4:B1 S (.ok s) ⟨#[112,114,105,110,116]⟩:=⟨⟨BH,by decide,b4⟩⟩
 have t5:B1 S (.ok s) ⟨#[102,111,114,107]⟩:=⟨⟨CN,by decide,b5⟩⟩
 have t6:B1 S (.ok s) ⟨#[119,97,105,116]⟩:=⟨⟨Cm,by decide,b6⟩⟩
 have t7:B1 S (.ok s) ⟨#[115,105,103,110,97,108]⟩:=⟨⟨Bw,by decide,b7⟩⟩
 have t8:B1 S (.ok s) ⟨#[115,119,97,112]⟩:=⟨⟨Dt,by decide,b8⟩⟩
 have hno:=At9.no (w:=w) (Q:=Q) (B:=B) (v:=v) (S:=S) (st:=(.ok s))
 clear b0 b1 b2 b3 b4 b5 b6 b7 b8 hp
 rw[IC (.ok s) (AR S)]
 have hxx:=FM Q B v S hnf (.ok s)
 unfold Ah at hxx
 generalize AA (.ok s) (AR S)=gE at *
 have hW2:=Bf (Q:=Q) (B:=B) (v:=v) (S:=S) (x:=⟨#[59]⟩) (l:=AQ) (by decide) (A7 gE)
 have HO:Hid (_/\_):=Jm S 17 gE
 generalize (gE.then fun k s=>(A3 S AQ s).then fun _ s=>AD 17 [] 0 [k] s)=G at *
 have hI:=MU (Q:=Q) (B:=B) (v:=v) (S:=S) (k:=1) h1
 obtain⟨vad,vc,hv0,_⟩:=HPA.out.toks
 subst hv0
 have htl:s.tok<=4000:=by obtain⟨_,_,_,h,_⟩:=HPA.out.ok;omega
 have hw1:=AN (x:=(s.tok:Int)+1) (by omega) (by omega)
 have hil:(s.tok:Int)+1<(S.L.length:Int):=by omega
 have hild:decide ((s.tok:Int)+1<(S.L.length:Int))=true:=decide_eq_true hil
 have hcmp:((strOfNums (BS S.L (s.tok+1)).2.1).toList==[61])=false:=by
  rw[show([61]:List UInt8)=ByteArray.toList ⟨#[61]⟩ by rw[ByteArray.toList_eq]]
  rw[LU (xs:=(BS S.L (s.tok+1)).2.1) (by
   refine HPA.out.bytes _ ?_
   unfold BS
   rw[Z2,List.getElem?_eq_getElem h2]
   exact Z6 _) ⟨#[61]⟩]
  exact h3
 have H2:Hid (s.tok+1<S.L.length):=h2
 clear h1 h2 h3
 go_enter Tryz.func112,Tryz.ntmps112
 go_wp2_with (first
  | (go_at_call 134;refine(hno _ (by first | exact t0 | exact t1 | exact t2 | exact t3 | exact t4 | exact t5 | exact t6 | exact t7 | exact t8) _ HS.out).mono ?_;clear HS;rintro e wx ⟨rfl,HS⟩)
  | (go_at_call 133;refine(hI _ HS.out.par).mono ?_;rintro e w10 ⟨rfl,hb10⟩;have hp10:=Par.below HS.out.par hb10;have hg10:(w.alloc AK).grownBy w10 (some Q):=HS.out.gr.trans (A0 Q hb10);obtain⟨mn,ho,_,_,_,_⟩:=hp10.ok;obtain⟨k0,k1,k2,k3,k4,k5,k6⟩:=ho.cells;have hq10:=ho.lt;obtain⟨ad',vc',hv1,hrw⟩:=hp10.toks;obtain⟨bb,off,hade,hbl,_,hcl⟩:=hrw (by have:=H2.out;omega);injection hv1 with hv1a hv1b hv1c;subst hv1a;subst hv1c;subst hade;obtain⟨x1,x2,x3⟩:=hcl (s.tok+1) H2.out;clear hcl hrw))
 go_quiet (fail)
 obtain⟨w11,eq⟩:∃w11,w11=w10.drewN nq:=⟨_,rfl⟩
 have hbq:Below w10.heap.size w10 w11:=by rw[eq];exact Ae _ _
 rw[<-eq]
 clear eq
 have hp11:=Par.below hp10 hbq
 have hg11:=hg10.trans (A0 Q hbq)
 go_wp2_with (first
  | (go_at_call 136;refine(hxx _ hp11).mono ?_;rintro e wE ⟨⟨u,rfl,hv⟩,hpE,hgE⟩;obtain⟨a,b,c,ad,n,cc,hu'⟩:=hv.any;subst hu';have hg8:=hg11.trans hgE;have hpEa:=hpE.below ((Zg _ _).alloc (Z0 _) (.cells #[.int .i64 a,.string b,.int .i64 c,.slice ad n cc] 24)))
  | (go_at_call_of 87 (Value.string ⟨#[59]⟩);refine(hW2 _ hpEa).mono ?_;rintro e wL ⟨rfl,hpL,hgz⟩;have hsz:w.heap.size<wE.heap.size:=(by have:=hg8.size;simp at this;omega);obtain⟨⟨p0,p1,p2,p3⟩,_⟩:=((Box4.new wE (.int .i64 a) (.string b) (.int .i64 c) (.slice ad n cc)).grown hgz (by omega)).facts;have hpLa:=hpL.below ((Zg _ _).alloc (Z0 _) (.cells #[.int .i64 a,.string b,.int .i64 c,.slice ad n cc] 24));have hXL:=((HX.out.grown hg8 (by omega)).alloc (.cells #[.int .i64 a,.string b,.int .i64 c,.slice ad n cc] 24)).grown hgz (by omega))
  | (go_at_call 89;refine(At Q B _ S _ _ _ _ ⟨_,_,_,rfl⟩ _ hpLa).mono ?_;rintro e wN ⟨rfl,hpN,hgN⟩;have hXN:=(hXL.alloc (.cells #[.int .i64 a,.string b,.int .i64 c,.slice ad n cc] 24)).grown hgN (by omega);obtain⟨⟨q0,q1,q2,q3⟩,s0,s1',s2,s3⟩:=hXN.facts))
 have hgP:=hg11
 have hgL:(w.alloc AK).grownBy wL (some Q):=(hg8.trans (Zf _ _ _)).trans hgz
 have szL:wE.heap.size+1<=wL.heap.size:=by have:=hgz.size;simpa using this
 obtain⟨ho,hs⟩:=HO.out
 have hgw:w.grownBy wN (some Q):=(((Zf w AK (some Q)).trans hgL).trans (Zf _ _ _)).trans hgN
 have szP:w.heap.size<w11.heap.size:=by have:=hgP.size;simp at this;omega
 have szE:w11.heap.size<=wE.heap.size:=hgE.size
 have hvL:ValG wL (AZ w11.heap.size) (.agg #[.int .i64 a,.string b,.int .i64 c,.slice ad n cc]) gE:=(hv.above (Zh (Zf wE (.cells #[.int .i64 a,.string b,.int .i64 c,.slice ad n cc] 24) none) (fun k e=>by cases e))).above (Zh hgz (fun k e=>by injection e with e;show ¬w11.heap.size<=k;omega))
 refine bodyPost_ret (v:=.agg #[.int .i64 17,.string ⟨#[]⟩,.int .i64 0,.slice (some ⟨wL.heap.size,0,none⟩) 1 1]) (by simp[results,Tryz.results112,go_sem,q0,q1,q2,q3]) rfl ⟨⟨_,rfl,?_⟩,by rw[hs];exact Ap hpN hRB _ _ _ _,AG hgw (AX (Z0 _) _ _ _ _)⟩
 exact(IQ (T:=24) ho hvL (by show w11.heap.size<=_;omega) ((Zh hgN (fun k e=>by injection e with e;show ¬w11.heap.size<=k;omega)).trans (Af (R:=w.heap.size) (by show ¬w11.heap.size<=w.heap.size;omega) _ _ _ _))).mono (fun k hk _=>by have hk':w11.heap.size<=k:=hk;show w.heap.size<=k;omega)
theorem Uc(Q B:Nat)(v:Value)(S:Src9)(hnf:Au S)(st:St9)(b0:Aa S BD st=false)(b1:Aa S wIf st=false)(b2:Aa S B4 st=false)(b3:Aa S B3 st=false)(b4:Aa S BH st=false)(b5:Aa S CN st=false)(b6:Aa S Cm st=false)(b7:Aa S Bw st=false)(b8:Aa S Dt st=false)(s:PS)(hst:st=.ok s)(h1:isB S 1 s=true)(h2:s.tok+1<S.L.length)(h3:((BS S.L (s.tok+1)).2.1==A2 ⟨#[61]⟩)=true)(w:World)(hp:Par w Q B v S st):Calls Tryz.prog 112 #[.pointer (some ⟨Q,0,none⟩)] w fun e w'=>(∃u,e=.returned u/\ValG w' (AZ w.heap.size) u (Cy S 8 s))/\Par w' Q B v S (A7 (Cy S 8 s))/\w.grownBy w' (some Q):=by
 subst hst
 have hRB:=hp.size
 have hqb:=hp.qb
 have hfew:=hp.few
 have HPA:Hid (Par (w.alloc AK) Q B v S (.ok s)):=hp.below ((Zg _ w).alloc (Z0 _) _)
 have HX:=ZB w
 have HS:=At9.first hp
 have t0:B1 S (.ok s) ⟨#[118,97,114]⟩:=⟨⟨BD,by decide,b0⟩⟩
 have t1:B1 S (.ok s) ⟨#[105,102]⟩:=⟨⟨wIf,by decide,b1⟩⟩
 have t2:B1 S (.ok s) ⟨#[119,104,105,108,101]⟩:=⟨⟨B4,by decide,b2⟩⟩
 have t3:B1 S (.ok s) ⟨#[114,101,116,117,114,110]⟩:=⟨⟨B3,by decide,b3⟩⟩
 have t4:B1 S (.ok s) ⟨#[112,114,105,110,116]⟩:=⟨⟨BH,by decide,b4⟩⟩
 have t5:B1 S (.ok s) ⟨#[102,111,114,107]⟩:=⟨⟨CN,by decide,b5⟩⟩
 have t6:B1 S (.ok s) ⟨#[119,97,105,116]⟩:=⟨⟨Cm,by decide,b6⟩⟩
 have t7:B1 S (.ok s) ⟨#[115,105,103,110,97,108]⟩:=⟨⟨Bw,by decide,b7⟩⟩
 have t8:B1 S (.ok s) ⟨#[115,119,97,112]⟩:=⟨⟨Dt,by decide,b8⟩⟩
 have hno:=At9.no (w:=w) (Q:=Q) (B:=B) (v:=v) (S:=S) (st:=(.ok s))
 clear b0 b1 b2 b3 b4 b5 b6 b7 b8 hp
 have hc:∀w',Par w' Q B v S (.ok s)->Calls Tryz.prog 135 #[.pointer (some ⟨Q,0,none⟩),.int .i64 8] w' fun e w''=>(∃u,e=.returned u/\ValG w'' (AZ w'.heap.size) u (Cy S 8 s))/\Par w'' Q B v S (A7 (Cy S 8 s))/\w'.grownBy w'' (some Q):=fun w' h'=>Nm Q B v S hnf 8 (.ok s) w' h'
 generalize Cy S 8 s=G at *
 have hI:=MU (Q:=Q) (B:=B) (v:=v) (S:=S) (k:=1) h1
 obtain⟨vad,vc,hv0,_⟩:=HPA.out.toks
 subst hv0
 have htl:s.tok<=4000:=by obtain⟨_,_,_,h,_⟩:=HPA.out.ok;omega
 have hw1:=AN (x:=(s.tok:Int)+1) (by omega) (by omega)
 have hil:(s.tok:Int)+1<(S.L.length:Int):=by omega
 have hild:decide ((s.tok:Int)+1<(S.L.length:Int))=true:=decide_eq_true hil
 have hcmp:((strOfNums (BS S.L (s.tok+1)).2.1).toList==[61])=true:=by
  rw[show([61]:List UInt8)=ByteArray.toList ⟨#[61]⟩ by rw[ByteArray.toList_eq]]
  rw[LU (xs:=(BS S.L (s.tok+1)).2.1) (by
   refine HPA.out.bytes _ ?_
   unfold BS
   rw[Z2,List.getElem?_eq_getElem h2]
   exact Z6 _) ⟨#[61]⟩]
  exact h3
 have H2:Hid (s.tok+1<S.L.length):=h2
 clear h1 h2 h3
 go_enter Tryz.func112,Tryz.ntmps112
 go_wp2_with (first
  | (go_at_call 134;refine(hno _ (by first | exact t0 | exact t1 | exact t2 | exact t3 | exact t4 | exact t5 | exact t6 | exact t7 | exact t8) _ HS.out).mono ?_;clear HS;rintro e wx ⟨rfl,HS⟩)
  | (go_at_call 133;refine(hI _ HS.out.par).mono ?_;rintro e w10 ⟨rfl,hb10⟩;have hp10:=Par.below HS.out.par hb10;have hg10:(w.alloc AK).grownBy w10 (some Q):=HS.out.gr.trans (A0 Q hb10);obtain⟨mn,ho,_,_,_,_⟩:=hp10.ok;obtain⟨k0,k1,k2,k3,k4,k5,k6⟩:=ho.cells;have hq10:=ho.lt;obtain⟨ad',vc',hv1,hrw⟩:=hp10.toks;obtain⟨bb,off,hade,hbl,_,hcl⟩:=hrw (by have:=H2.out;omega);injection hv1 with hv1a hv1b hv1c;subst hv1a;subst hv1c;subst hade;obtain⟨x1,x2,x3⟩:=hcl (s.tok+1) H2.out;clear hcl hrw))
 go_quiet (fail)
 obtain⟨w11,eq⟩:∃w11,w11=w10.drewN nq:=⟨_,rfl⟩
 have hbq:Below w10.heap.size w10 w11:=by rw[eq];exact Ae _ _
 rw[<-eq]
 clear eq
 have hp11:=Par.below hp10 hbq
 have hg11:=hg10.trans (A0 Q hbq)
 go_wp2_with (first
  | (go_at_call 135;refine(hc _ hp11).mono ?_;rintro e wE ⟨⟨u,rfl,hv⟩,hpE,hgE⟩;obtain⟨a,b,c,ad,n,cc,hu'⟩:=hv.any;subst hu';have hgF:=hg11.trans hgE;obtain⟨⟨q0,q1,q2,q3⟩,_⟩:=(HX.out.grown hgF (by omega)).facts;obtain⟨_,s0,s1,s2,s3⟩:=(HX.out.grown hgF (by omega)).facts))
 have hgw:w.grownBy wE (some Q):=(Zf w AK (some Q)).trans hgF
 have sz:w.heap.size<w11.heap.size:=by have:=hg11.size;simp at this;omega
 refine bodyPost_ret (v:=.agg #[.int .i64 a,.string b,.int .i64 c,.slice ad n cc]) (by simp[results,Tryz.results112,go_sem,q0,q1,q2,q3]) rfl ⟨⟨_,rfl,?_⟩,Ap hpE hRB _ _ _ _,AG hgw (AX (Z0 _) _ _ _ _)⟩
 exact(hv.above (Af (R:=w.heap.size) (by show ¬w11.heap.size<=w.heap.size;omega) _ _ _ _)).mono (fun k hk _=>by have hk':w11.heap.size<=k:=hk;show w.heap.size<=k;omega)
def Ud(kind:Int)(gE gB G:Got Nd):Prop:=(∃e,G=.error e)\/∃k s b s1 s',gE=.ok (k,s)/\gB=.ok (b,s1)/\G=.ok (.mk kind [] 0 [k,b],s')
theorem Qt{w w':World}{M:Nat->Prop}{kind:Int}{gE gB G:Got Nd}{a b c d a' b' c' d':Value}{T:TypeId}(hG:Ud kind gE gB G)(h:ValG w M (.agg #[a,b,c,d]) gE)(h':ValG w M (.agg #[a',b',c',d']) gB)(hB:M w.heap.size)(ha:Above M (w.alloc (.cells #[a,b,c,d,a',b',c',d'] T)) w') :
  ValG w' M (.agg #[.int .i64 kind,.string ⟨#[]⟩,.int .i64 0,.slice (some ⟨w.heap.size,0,none⟩) 2 2]) G:=by
 rcases hG with⟨e,rfl⟩ | ⟨k,s,b,s1,s',rfl,rfl,rfl⟩
 ·exact⟨_,_,_,_,_,_,rfl⟩
 ·exact NodeV.above (EV (tx:=[]) (ME h h' hB 2)) ha
def El(S:Src9)(s0:PS):Got Nd:=AA (A7 (AA (.ok s0) (A3 S AE))) (AR S)
def DC(S:Src9)(s0:PS):St9:=A7 (AA (A7 (El S s0)) (A3 S AC))
theorem ID(S:Src9)(s0:PS)(F:Nd->PS->Got Nd):(∃e,(Bc S s0).then F=.error e/\DC S s0=.error e)\/∃k s s2,El S s0=.ok (k,s)/\DC S s0=.ok s2/\s0.tok<=s2.tok/\(Bc S s0).then F=F k s2:=by
 unfold Bc DC El
 rw[bindS_ok]
 cases h1:A3 S AE s0 with
 | error e=>exact Or.inl ⟨e,rfl,rfl⟩
 | ok y=>
  obtain⟨⟨⟩,s1⟩:=y
  simp only[then_ok,stOf_ok,bindS_ok]
  cases h2:AR S s1 with
  | error e=>exact Or.inl ⟨e,rfl,rfl⟩
  | ok z=>
   obtain⟨k,s2⟩:=z
   simp only[then_ok,stOf_ok,bindS_ok]
   cases h3:A3 S AC s2 with
   | error e=>exact Or.inl ⟨e,rfl,rfl⟩
   | ok u=>
    obtain⟨⟨⟩,s3⟩:=u
    have l1:=((Ag S AE s0).at h1).1
    have l2:=(IJ h2).1
    have l3:=((Ag S AC s2).at h3).1
    exact Or.inr ⟨k,s2,s3,rfl,rfl,by omega,rfl⟩
theorem Jn{S:Src9}{s0:PS}:∀s',DC S s0=.ok s'->s0.tok<=s'.tok:=fun s' e=>by
 rcases ID S s0 (fun k s=>.ok (k,s))with⟨e',_,h⟩ | ⟨k,s,s2,_,h,h3,_⟩
 ·rw[h]at e;cases e
 ·rw[h]at e;cases e;exact h3
theorem T6(S:Src9)(s0:PS)(kind:Int):Ud kind (El S s0) (AA (DC S s0) (AP S)) ((Bc S s0).then fun k s=>(AP S s).then fun b s=>AD kind [] 0 [k,b] s)/\A7 ((Bc S s0).then fun k s=>(AP S s).then fun b s=>AD kind [] 0 [k,b] s)=Cz (A7 (AA (DC S s0) (AP S))):=by
 rcases ID S s0 (fun k s=>(AP S s).then fun b s=>AD kind [] 0 [k,b] s)with⟨e,h1,h2⟩ | ⟨k,s,s2,h1,h2,_,h4⟩
 ·rw[h1,h2];exact⟨Or.inl ⟨e,rfl⟩,rfl⟩
 ·rw[h4,h1,h2,bindS_ok]
  cases AP S s2 with
  | error e=>exact⟨Or.inl ⟨e,rfl⟩,rfl⟩
  | ok y=>obtain⟨b,s3⟩:=y;exact⟨Or.inr ⟨k,s,b,s3,_,rfl,rfl,rfl⟩,rfl⟩
theorem Q4(Q B:Nat)(v:Value)(S:Src9)(hnf:Au S)(s:PS)(b0:A1 S BD s=false)(b1:A1 S wIf s=false)(b2:A1 S B4 s=true)(hbl:∀st':St9,(∀s',st'=.ok s'->s.tok+1<=s'.tok)->Ah 88 (AP S) Q B v S st')(w:World)(hp:Par w Q B v S (.ok s)):Calls Tryz.prog 112 #[.pointer (some ⟨Q,0,none⟩)] w fun e w'=>(∃u,e=.returned u/\ValG w' (AZ w.heap.size) u ((Bc S s.step).then fun k s=>(AP S s).then fun b s=>AD 10 [] 0 [k,b] s))/\Par w' Q B v S (A7 ((Bc S s.step).then fun k s=>(AP S s).then fun b s=>AD 10 [] 0 [k,b] s))/\w.grownBy w' (some Q):=by
 have hRB:=hp.size
 have hqb:=hp.qb
 have HS:=At9.first hp
 have HX:=ZB w
 have t0:B1 S (.ok s) ⟨#[118,97,114]⟩:=⟨⟨BD,by decide,b0⟩⟩
 have t1:B1 S (.ok s) ⟨#[105,102]⟩:=⟨⟨wIf,by decide,b1⟩⟩
 have hno:=At9.no (w:=w) (Q:=Q) (B:=B) (v:=v) (S:=S) (st:=.ok s)
 have hB2:=CX (Q:=Q) (B:=B) (v:=v) (S:=S) (s:=s) (x:=⟨#[119,104,105,108,101]⟩) (l:=B4) (by decide) b2
 clear b0 b1 b2 hp
 have hxx:=FM Q B v S hnf (A7 (AA (.ok s.step) (A3 S AE)))
 unfold Ah at hxx
 have hW1:=Bf (Q:=Q) (B:=B) (v:=v) (S:=S) (x:=⟨#[40]⟩) (l:=AE) (by decide) (.ok s.step)
 rw[show AA (A7 (AA (.ok s.step) (A3 S AE))) (AR S)=El S s.step from rfl]at hxx
 have hW2:=Bf (Q:=Q) (B:=B) (v:=v) (S:=S) (x:=⟨#[41]⟩) (l:=AC) (by decide) (A7 (El S s.step))
 rw[show A7 (AA (A7 (El S s.step)) (A3 S AC))=DC S s.step from rfl]at hW2
 have hbb:=hbl (DC S s.step) (fun s' e=>by have:=Jn s' e;exact this)
 unfold Ah at hbb
 have HO:Hid (_/\_):=T6 S s.step 10
 generalize ((Bc S s.step).then fun k s=>(AP S s).then fun b s=>AD 10 [] 0 [k,b] s)=G at *
 clear hbl
 generalize AA (DC S s.step) (AP S)=gB at *
 generalize DC S s.step=st2 at *
 generalize El S s.step=gE at *
 generalize A7 (AA (.ok s.step) (A3 S AE))=st1 at *
 go_enter Tryz.func112,Tryz.ntmps112
 go_wp2_with (first
  | (go_at_call_of 134 (Value.string ⟨#[119,104,105,108,101]⟩);refine(hB2 _ HS.out.par).mono ?_;rintro e w3 ⟨rfl,hp3,hgx⟩;have hg3:(w.alloc AK).grownBy w3 (some Q):=HS.out.gr.trans hgx;clear hB2 hgx)
  | (go_at_call 134;refine(hno _ (by first | exact t0 | exact t1) _ HS.out).mono ?_;clear HS;rintro e wx ⟨rfl,HS⟩)
  | (go_at_call_of 87 (Value.string ⟨#[40]⟩);refine(hW1 _ hp3).mono ?_;rintro e wO ⟨rfl,hpO,hgx⟩;have hgO:=hg3.trans hgx;clear hgx)
  | (go_at_call 136;refine(hxx _ hpO).mono ?_;rintro e wE ⟨⟨u,rfl,hv⟩,hpE,hgE⟩;obtain⟨a,b,c,ad,n,cc,hu'⟩:=hv.any;subst hu';have hg8:=hgO.trans hgE;have hpEa:=hpE.below ((Zg _ _).alloc (Z0 _) (.cells #[.int .i64 a,.string b,.int .i64 c,.slice ad n cc] 24));have hsz:w.heap.size<wE.heap.size:=(by have:=hg8.size;simp at this;omega))
  | (go_at_call_of 87 (Value.string ⟨#[41]⟩);refine(hW2 _ hpEa).mono ?_;rintro e wT ⟨rfl,hpT,hgT⟩;have hXT:=((HX.out.grown hg8 (by omega)).alloc (.cells #[.int .i64 a,.string b,.int .i64 c,.slice ad n cc] 24)).grown hgT (by omega);have hKT:=(Box4.new wE (.int .i64 a) (.string b) (.int .i64 c) (.slice ad n cc)).grown hgT (by omega))
  | (go_at_call 88;refine(hbb _ hpT).mono ?_;rintro e wB ⟨⟨u,rfl,hvB⟩,hpB,hgB⟩;obtain⟨a2,b2,c2,ad2,n2,cc2,hu2⟩:=hvB.any;subst hu2;have hXB:=hXT.grown hgB (by omega);have hKB:=hKT.grown hgB (by omega);have hltE:=hKB.lt;obtain⟨⟨p0,p1,p2,p3⟩,_⟩:=hKB.facts)
  | (go_at_call 89;refine(At Q B _ S _ _ _ _ ⟨_,_,_,rfl⟩ _ (F7 hpB (.cells #[.int .i64 a2,.string b2,.int .i64 c2,.slice ad2 n2 cc2] 24) (.cells #[.int .i64 a,.string b,.int .i64 c,.slice ad n cc,.int .i64 a2,.string b2,.int .i64 c2,.slice ad2 n2 cc2] 24))).mono ?_;rintro e wN ⟨rfl,hpN,hgN⟩;have hXN:=((hXB.alloc (.cells #[.int .i64 a2,.string b2,.int .i64 c2,.slice ad2 n2 cc2] 24)).alloc (.cells #[.int .i64 a,.string b,.int .i64 c,.slice ad n cc,.int .i64 a2,.string b2,.int .i64 c2,.slice ad2 n2 cc2] 24)).grown hgN (by omega);obtain⟨⟨q0,q1,q2,q3⟩,s0,s1',s2,s3⟩:=hXN.facts))
 obtain⟨ho,hs⟩:=HO.out
 have hgw:w.grownBy wN (some Q):=(((((((Zf w AK (some Q)).trans hg8).trans (Zf _ _ _)).trans hgT).trans hgB).trans (Zf _ _ _)).trans (Zf _ _ _)).trans hgN
 have szO:w.heap.size<wO.heap.size:=by have:=hgO.size;simp at this;omega
 have szE:wO.heap.size<=wE.heap.size:=hgE.size
 have szT:wE.heap.size+1<=wT.heap.size:=by have:=hgT.size;simpa using this
 have szB:wT.heap.size<=wB.heap.size:=hgB.size
 have hvE:ValG (wB.alloc (.cells #[.int .i64 a2,.string b2,.int .i64 c2,.slice ad2 n2 cc2] 24)) (AZ wO.heap.size) (.agg #[.int .i64 a,.string b,.int .i64 c,.slice ad n cc]) gE:=(((hv.above (Zh (Zf wE (.cells #[.int .i64 a,.string b,.int .i64 c,.slice ad n cc] 24) none) (fun k e=>by cases e))).above (Zh hgT (fun k e=>by injection e with e;show ¬wO.heap.size<=k;omega))).above (Zh hgB (fun k e=>by injection e with e;show ¬wO.heap.size<=k;omega))).above (Zh (Zf wB (.cells #[.int .i64 a2,.string b2,.int .i64 c2,.slice ad2 n2 cc2] 24) none) (fun k e=>by cases e))
 have hvB':ValG (wB.alloc (.cells #[.int .i64 a2,.string b2,.int .i64 c2,.slice ad2 n2 cc2] 24)) (AZ wO.heap.size) (.agg #[.int .i64 a2,.string b2,.int .i64 c2,.slice ad2 n2 cc2]) gB:=(hvB.mono (fun k hk _=>by have hk':wT.heap.size<=k:=hk;show wO.heap.size<=k;omega)).above (Zh (Zf wB (.cells #[.int .i64 a2,.string b2,.int .i64 c2,.slice ad2 n2 cc2] 24) none) (fun k e=>by cases e))
 refine bodyPost_ret (v:=.agg #[.int .i64 10,.string ⟨#[]⟩,.int .i64 0,.slice (some ⟨wB.heap.size+1,0,none⟩) 2 2]) (by simp[results,Tryz.results112,go_sem,q0,q1,q2,q3]) rfl ⟨⟨_,rfl,?_⟩,by rw[hs];exact Ap hpN hRB _ _ _ _,AG hgw (AX (Z0 _) _ _ _ _)⟩
 have hend:=(Qt (T:=24) ho hvE hvB' (by show wO.heap.size<=_;simp;omega) ((Zh hgN (fun k e=>by injection e with e;show ¬wO.heap.size<=k;omega)).trans (Af (R:=w.heap.size) (by show ¬wO.heap.size<=w.heap.size;omega) (.int .i64 10) (.string ⟨#[]⟩) (.int .i64 0) (.slice (some ⟨wB.heap.size+1,0,none⟩) 2 2)))).mono (M':=AZ w.heap.size) (fun k hk _=>by have hk':wO.heap.size<=k:=hk;show w.heap.size<=k;omega)
 simp only[World.size_alloc]at hend
 exact hend
def ifG(S:Src9)(s0:PS):Got Nd:=(Bc S s0).then fun k s=>(AP S s).then fun b s=>if A1 S CU s=true then(AP S s.step).then fun c s=>AD 9 [] 0 [k,b,c] s else AD 9 [] 0 [k,b] s
theorem Wa(S:Src9)(s0:PS)(h:Aa S CU (A7 (AA (DC S s0) (AP S)))=false):Ud 9 (El S s0) (AA (DC S s0) (AP S)) (ifG S s0)/\A7 (ifG S s0)=Cz (A7 (AA (DC S s0) (AP S))):=by
 unfold ifG
 rcases ID S s0 (fun k s=>(AP S s).then fun b s=>if A1 S CU s=true then(AP S s.step).then fun c s=>AD 9 [] 0 [k,b,c] s else AD 9 [] 0 [k,b] s)with⟨e,h1,h2⟩ | ⟨k,s,s2,h1,h2,_,h4⟩
 ·rw[h1,h2];exact⟨Or.inl ⟨e,rfl⟩,rfl⟩
 ·rw[h4,h1,h2,bindS_ok]
  rw[h2,bindS_ok]at h
  cases hb:AP S s2 with
  | error e=>exact⟨Or.inl ⟨e,rfl⟩,rfl⟩
  | ok y=>
   obtain⟨b,s3⟩:=y
   rw[hb]at h
   have h':A1 S CU s3=false:=h
   rw[then_ok,if_neg (by rw[h'];decide)]
   exact⟨Or.inr ⟨k,s,b,s3,_,rfl,rfl,rfl⟩,rfl⟩
theorem WE(S:Src9)(s0:PS)(h:Aa S CU (A7 (AA (DC S s0) (AP S)))=true):∃k s b s3,El S s0=.ok (k,s)/\AA (DC S s0) (AP S)=.ok (b,s3)/\A1 S CU s3=true/\s0.tok<=s3.tok/\ifG S s0=(AP S s3.step).then fun c s=>AD 9 [] 0 [k,b,c] s:=by
 unfold ifG
 rcases ID S s0 (fun k s=>(AP S s).then fun b s=>if A1 S CU s=true then(AP S s.step).then fun c s=>AD 9 [] 0 [k,b,c] s else AD 9 [] 0 [k,b] s)with⟨e,h1,h2⟩ | ⟨k,s,s2,h1,h2,hl,h4⟩
 ·rw[h2]at h;cases h
 ·rw[h4,h1,h2,bindS_ok]
  rw[h2,bindS_ok]at h
  cases hb:AP S s2 with
  | error e=>rw[hb]at h;cases h
  | ok y=>
   obtain⟨b,s3⟩:=y
   rw[hb]at h
   have h':A1 S CU s3=true:=h
   have:=(LW hb).1
   rw[then_ok,if_pos h']
   exact⟨k,s,b,s3,rfl,rfl,h',by omega,rfl⟩
theorem KRow.two{w:World}{BB:Nat}{M:Nat->Prop}{n m:Nd}{a b c d a' b' c' d':Value}(h:NodeV w M (.agg #[a,b,c,d]) n)(h':NodeV w M (.agg #[a',b',c',d']) m)(hB:BB<=w.heap.size):∃x y,KRow (w.alloc (.cells #[a,b,c,d,a',b',c',d'] 24)) BB M w.heap.size 2 [(n,x),(m,y)]:=by
 obtain⟨x,hv,hk⟩:=h
 obtain⟨y,hv',hk'⟩:=h'
 simp only[Value.agg.injEq]at hv hv'
 have e:[a,b,c,d]=Bb n x:=by
  have:=congrArg Array.toList hv
  simpa using this
 have e':[a',b',c',d']=Bb m y:=by
  have:=congrArg Array.toList hv'
  simpa using this
 refine⟨x,y,⟨rfl,.inr ⟨w.heap.size,2,#[a,b,c,d,a',b',c',d'],rfl,hB,heap_alloc_new w _,Z0 _,by decide,rfl,?_⟩⟩,?_⟩
 ·show[a,b,c,d]++[a',b',c',d']=_
  rw[e,e']
  simp[An]
 ·intro z hz
  have hab:∀(v:Value) (ks:List Nd),KidsV w M v ks->KidsV (w.alloc (.cells #[a,b,c,d,a',b',c',d'] 24)) (fun k=>M k/\k≠w.heap.size) v ks:=fun v ks hk=>(hk.mono (fun k h1 h2=>⟨h1,by omega⟩)).above (Zh (Zf _ _ none) (fun k e=>by cases e))
  simp only[List.mem_cons,List.not_mem_nil,or_false]at hz
  rcases hz with rfl | rfl
  ·exact hab _ _ hk
  ·exact hab _ _ hk'
theorem KRow.put{w:World}{BB g cap N:Nat}{M:Nat->Prop}{l:List (Nd×Value)}(h:KRow w BB M g cap l)(hn:N≠g)(hm:¬M N)(a b c d:Value):KRow ((((w.setCell ⟨N,0,none⟩ a).setCell ⟨N,1,none⟩ b).setCell ⟨N,2,none⟩ c).setCell ⟨N,3,none⟩ d) BB M g cap l:=
 (((h.grown (AJ _ N 0 a) hn hm).grown (AJ _ N 1 b) hn hm).grown (AJ _ N 2 c) hn hm).grown (AJ _ N 3 d) hn hm
theorem T7(w:World)(a b c d:Value)(T:TypeId)(g:Nat)(hg:g=w.heap.size):∀j u,[a,b,c,d][j]?=some u->(w.alloc (.cells #[a,b,c,d] T)).cell? ((⟨g,0,none⟩:Addr).add j)=some u:=fun j u h=>by
 rw[Hl,World.cell?_alloc_at _ _ _ _ hg,Nat.zero_add]
 simpa using h
theorem Ue(Q B:Nat)(v:Value)(S:Src9)(hnf:Au S)(s:PS)(b0:A1 S BD s=false)(b1:A1 S wIf s=true)(hbl:∀st':St9,(∀s',st'=.ok s'->s.tok+1<=s'.tok)->Ah 88 (AP S) Q B v S st')(hel:Aa S CU (A7 (AA (DC S s.step) (AP S)))=false)(w:World)(hp:Par w Q B v S (.ok s)):Calls Tryz.prog 112 #[.pointer (some ⟨Q,0,none⟩)] w fun e w'=>(∃u,e=.returned u/\ValG w' (AZ w.heap.size) u (ifG S s.step))/\Par w' Q B v S (A7 (ifG S s.step))/\w.grownBy w' (some Q):=by
 have hRB:=hp.size
 have hqb:=hp.qb
 have HPA:Hid (Par (w.alloc AK) Q B v S (.ok s)):=hp.below ((Zg _ w).alloc (Z0 _) _)
 have HX:=ZB w
 have hB0:=D6 (Q:=Q) (B:=B) (v:=v) (S:=S) (st:=.ok s) (x:=⟨#[118,97,114]⟩) (l:=BD) (by decide) b0
 have hB1:=CX (Q:=Q) (B:=B) (v:=v) (S:=S) (s:=s) (x:=⟨#[105,102]⟩) (l:=wIf) (by decide) b1
 clear b0 b1 hp
 have hxx:=FM Q B v S hnf (A7 (AA (.ok s.step) (A3 S AE)))
 unfold Ah at hxx
 have hW1:=Bf (Q:=Q) (B:=B) (v:=v) (S:=S) (x:=⟨#[40]⟩) (l:=AE) (by decide) (.ok s.step)
 rw[show AA (A7 (AA (.ok s.step) (A3 S AE))) (AR S)=El S s.step from rfl]at hxx
 have hW2:=Bf (Q:=Q) (B:=B) (v:=v) (S:=S) (x:=⟨#[41]⟩) (l:=AC) (by decide) (A7 (El S s.step))
 rw[show A7 (AA (A7 (El S s.step)) (A3 S AC))=DC S s.step from rfl]at hW2
 have hbb:=hbl (DC S s.step) (fun s' e=>by have:=Jn s' e;exact this)
 unfold Ah at hbb
 have HO:Hid (_/\_):=Wa S s.step hel
 have hBE:=D6 (Q:=Q) (B:=B) (v:=v) (S:=S) (x:=⟨#[101,108,115,101]⟩) (l:=CU) (by decide) hel
 generalize ifG S s.step=G at *
 clear hbl hel
 generalize AA (DC S s.step) (AP S)=gB at *
 generalize DC S s.step=st2 at *
 generalize El S s.step=gE at *
 generalize A7 (AA (.ok s.step) (A3 S AE))=st1 at *
 go_enter Tryz.func112,Tryz.ntmps112
 go_wp2_with (first
  | (go_at_call_of 134 (Value.string ⟨#[118,97,114]⟩);refine(hB0 _ HPA.out).mono ?_;rintro e w1 ⟨rfl,hp1,hgx⟩;have hg1:(w.alloc AK).grownBy w1 (some Q):=hgx;clear hB0 hgx)
  | (go_at_call_of 134 (Value.string ⟨#[105,102]⟩);refine(hB1 _ hp1).mono ?_;rintro e w2 ⟨rfl,hp2,hgx⟩;have hg2:(w.alloc AK).grownBy w2 (some Q):=hg1.trans hgx;clear hB1 hgx)
  | (go_at_call_of 87 (Value.string ⟨#[40]⟩);refine(hW1 _ hp2).mono ?_;rintro e wO ⟨rfl,hpO,hgx⟩;have hgO:=hg2.trans hgx;clear hgx)
  | (go_at_call 136;refine(hxx _ hpO).mono ?_;rintro e wE ⟨⟨u,rfl,hv⟩,hpE,hgE⟩;obtain⟨a,b,c,ad,n,cc,hu'⟩:=hv.any;subst hu';have hg8:=hgO.trans hgE;have hpEa:=hpE.below ((Zg _ _).alloc (Z0 _) (.cells #[.int .i64 a,.string b,.int .i64 c,.slice ad n cc] 24));have hsz:w.heap.size<wE.heap.size:=(by have:=hg8.size;simp at this;omega))
  | (go_at_call_of 87 (Value.string ⟨#[41]⟩);refine(hW2 _ hpEa).mono ?_;rintro e wT ⟨rfl,hpT,hgT⟩;have hXT:=((HX.out.grown hg8 (by omega)).alloc (.cells #[.int .i64 a,.string b,.int .i64 c,.slice ad n cc] 24)).grown hgT (by omega);have hKT:=(Box4.new wE (.int .i64 a) (.string b) (.int .i64 c) (.slice ad n cc)).grown hgT (by omega))
  | (go_at_call 88;refine(hbb _ hpT).mono ?_;rintro e wB ⟨⟨u,rfl,hvB⟩,hpB,hgB⟩;obtain⟨a2,b2,c2,ad2,n2,cc2,hu2⟩:=hvB.any;subst hu2;have hXB:=hXT.grown hgB (by omega);have hKB:=hKT.grown hgB (by omega);have hltE:=hKB.lt;obtain⟨⟨p0,p1,p2,p3⟩,_⟩:=hKB.facts)
  | (go_at_call_of 134 (Value.string ⟨#[101,108,115,101]⟩);refine(hBE _ (F7 hpB (.cells #[.int .i64 a2,.string b2,.int .i64 c2,.slice ad2 n2 cc2] 24) (.cells #[.int .i64 a,.string b,.int .i64 c,.slice ad n cc,.int .i64 a2,.string b2,.int .i64 c2,.slice ad2 n2 cc2] 24))).mono ?_;rintro e wH ⟨rfl,hpH,hgH⟩)
  | (go_at_call 89;refine(At Q B _ S _ _ _ _ ⟨_,_,_,rfl⟩ _ hpH).mono ?_;rintro e wN ⟨rfl,hpN,hgNx⟩;have hgN:=hgH.trans hgNx;have hXN:=((hXB.alloc (.cells #[.int .i64 a2,.string b2,.int .i64 c2,.slice ad2 n2 cc2] 24)).alloc (.cells #[.int .i64 a,.string b,.int .i64 c,.slice ad n cc,.int .i64 a2,.string b2,.int .i64 c2,.slice ad2 n2 cc2] 24)).grown hgN (by omega);obtain⟨⟨q0,q1,q2,q3⟩,s0,s1',s2,s3⟩:=hXN.facts))
 obtain⟨ho,hs⟩:=HO.out
 have hgw:w.grownBy wN (some Q):=(((((((Zf w AK (some Q)).trans hg8).trans (Zf _ _ _)).trans hgT).trans hgB).trans (Zf _ _ _)).trans (Zf _ _ _)).trans hgN
 have szO:w.heap.size<wO.heap.size:=by have:=hgO.size;simp at this;omega
 have szE:wO.heap.size<=wE.heap.size:=hgE.size
 have szT:wE.heap.size+1<=wT.heap.size:=by have:=hgT.size;simpa using this
 have szB:wT.heap.size<=wB.heap.size:=hgB.size
 have hvE:ValG (wB.alloc (.cells #[.int .i64 a2,.string b2,.int .i64 c2,.slice ad2 n2 cc2] 24)) (AZ wO.heap.size) (.agg #[.int .i64 a,.string b,.int .i64 c,.slice ad n cc]) gE:=(((hv.above (Zh (Zf wE (.cells #[.int .i64 a,.string b,.int .i64 c,.slice ad n cc] 24) none) (fun k e=>by cases e))).above (Zh hgT (fun k e=>by injection e with e;show ¬wO.heap.size<=k;omega))).above (Zh hgB (fun k e=>by injection e with e;show ¬wO.heap.size<=k;omega))).above (Zh (Zf wB (.cells #[.int .i64 a2,.string b2,.int .i64 c2,.slice ad2 n2 cc2] 24) none) (fun k e=>by cases e))
 have hvB':ValG (wB.alloc (.cells #[.int .i64 a2,.string b2,.int .i64 c2,.slice ad2 n2 cc2] 24)) (AZ wO.heap.size) (.agg #[.int .i64 a2,.string b2,.int .i64 c2,.slice ad2 n2 cc2]) gB:=(hvB.mono (fun k hk _=>by have hk':wT.heap.size<=k:=hk;show wO.heap.size<=k;omega)).above (Zh (Zf wB (.cells #[.int .i64 a2,.string b2,.int .i64 c2,.slice ad2 n2 cc2] 24) none) (fun k e=>by cases e))
 refine bodyPost_ret (v:=.agg #[.int .i64 9,.string ⟨#[]⟩,.int .i64 0,.slice (some ⟨wB.heap.size+1,0,none⟩) 2 2]) (by simp[results,Tryz.results112,go_sem,q0,q1,q2,q3]) rfl ⟨⟨_,rfl,?_⟩,by rw[hs];exact Ap hpN hRB _ _ _ _,AG hgw (AX (Z0 _) _ _ _ _)⟩
 have hend:=(Qt (T:=24) ho hvE hvB' (by show wO.heap.size<=_;simp;omega) ((Zh hgN (fun k e=>by injection e with e;show ¬wO.heap.size<=k;omega)).trans (Af (R:=w.heap.size) (by show ¬wO.heap.size<=w.heap.size;omega) (.int .i64 9) (.string ⟨#[]⟩) (.int .i64 0) (.slice (some ⟨wB.heap.size+1,0,none⟩) 2 2)))).mono (M':=AZ w.heap.size) (fun k hk _=>by have hk':wO.heap.size<=k:=hk;show w.heap.size<=k;omega)
 simp only[World.size_alloc]at hend
 exact hend
theorem Uf(Q B:Nat)(v:Value)(S:Src9)(hnf:Au S)(s:PS)(b0:A1 S BD s=false)(b1:A1 S wIf s=true)(hbl:∀st':St9,(∀s',st'=.ok s'->s.tok+1<=s'.tok)->Ah 88 (AP S) Q B v S st')(hel:Aa S CU (A7 (AA (DC S s.step) (AP S)))=true)(w:World)(hp:Par w Q B v S (.ok s)):Calls Tryz.prog 112 #[.pointer (some ⟨Q,0,none⟩)] w fun e w'=>(∃u,e=.returned u/\ValG w' (AZ w.heap.size) u (ifG S s.step))/\Par w' Q B v S (A7 (ifG S s.step))/\w.grownBy w' (some Q):=by
 have hRB:=hp.size
 have hqb:=hp.qb
 have HPA:Hid (Par (w.alloc AK) Q B v S (.ok s)):=hp.below ((Zg _ w).alloc (Z0 _) _)
 have HX:=ZB w
 have hB0:=D6 (Q:=Q) (B:=B) (v:=v) (S:=S) (st:=.ok s) (x:=⟨#[118,97,114]⟩) (l:=BD) (by decide) b0
 have hB1:=CX (Q:=Q) (B:=B) (v:=v) (S:=S) (s:=s) (x:=⟨#[105,102]⟩) (l:=wIf) (by decide) b1
 clear b0 b1 hp
 have hxx:=FM Q B v S hnf (A7 (AA (.ok s.step) (A3 S AE)))
 unfold Ah at hxx
 have hW1:=Bf (Q:=Q) (B:=B) (v:=v) (S:=S) (x:=⟨#[40]⟩) (l:=AE) (by decide) (.ok s.step)
 rw[show AA (A7 (AA (.ok s.step) (A3 S AE))) (AR S)=El S s.step from rfl]at hxx
 have hW2:=Bf (Q:=Q) (B:=B) (v:=v) (S:=S) (x:=⟨#[41]⟩) (l:=AC) (by decide) (A7 (El S s.step))
 rw[show A7 (AA (A7 (El S s.step)) (A3 S AC))=DC S s.step from rfl]at hW2
 have hbb:=hbl (DC S s.step) (fun s' e=>by have:=Jn s' e;exact this)
 unfold Ah at hbb
 obtain⟨kn,sx,bn,s3',hE,hBk,hsee,htk,hG⟩:=WE S s.step hel
 have hBE:=CX (Q:=Q) (B:=B) (v:=v) (S:=S) (x:=⟨#[101,108,115,101]⟩) (l:=CU) (by decide) hsee
 have hcc:=hbl (.ok s3'.step) (fun s' e=>by cases e;have h1:s.tok+1<=s3'.tok:=htk;show s.tok+1<=s3'.tok+1;omega)
 unfold Ah at hcc
 rw[bindS_ok]at hcc
 rw[hG]
 rw[hE]at hxx hW2
 rw[hBk]at hbb
 clear hbl hel hE hBk hsee htk hG
 have HO:Hid (_/\_):=PI 0 (AP S s3'.step)
 generalize AP S s3'.step=gC at *
 have HS:Hid (A7 (gC.then fun c s=>AD 9 [] 0 [kn,bn,c] s)=Cz (A7 gC)):=by
  show _=_
  match gC with
  | .error e=>rfl
  | .ok (c,s)=>rfl
 clear HO
 generalize DC S s.step=st2 at *
 generalize A7 (AA (.ok s.step) (A3 S AE))=st1 at *
 go_enter Tryz.func112,Tryz.ntmps112
 go_wp2_with (first
  | (go_at_call_of 134 (Value.string ⟨#[118,97,114]⟩);refine(hB0 _ HPA.out).mono ?_;rintro e w1 ⟨rfl,hp1,hgx⟩;have hg1:(w.alloc AK).grownBy w1 (some Q):=hgx;clear hB0 hgx)
  | (go_at_call_of 134 (Value.string ⟨#[105,102]⟩);refine(hB1 _ hp1).mono ?_;rintro e w2 ⟨rfl,hp2,hgx⟩;have hg2:(w.alloc AK).grownBy w2 (some Q):=hg1.trans hgx;clear hB1 hgx)
  | (go_at_call_of 87 (Value.string ⟨#[40]⟩);refine(hW1 _ hp2).mono ?_;rintro e wO ⟨rfl,hpO,hgx⟩;have hgO:=hg2.trans hgx;clear hgx)
  | (go_at_call 136;refine(hxx _ hpO).mono ?_;rintro e wE ⟨⟨u,rfl,hv⟩,hpE,hgE⟩;obtain⟨a,b,c,ad,n,cc,hu'⟩:=hv.any;subst hu';have hg8:=hgO.trans hgE;have hpEa:=hpE.below ((Zg _ _).alloc (Z0 _) (.cells #[.int .i64 a,.string b,.int .i64 c,.slice ad n cc] 24));have hsz:w.heap.size<wE.heap.size:=(by have:=hg8.size;simp at this;omega))
  | (go_at_call_of 87 (Value.string ⟨#[41]⟩);refine(hW2 _ hpEa).mono ?_;rintro e wT ⟨rfl,hpT,hgT⟩;have hXT:=((HX.out.grown hg8 (by omega)).alloc (.cells #[.int .i64 a,.string b,.int .i64 c,.slice ad n cc] 24)).grown hgT (by omega);have hKT:=(Box4.new wE (.int .i64 a) (.string b) (.int .i64 c) (.slice ad n cc)).grown hgT (by omega))
  | (go_at_call 88;refine(hbb _ hpT).mono ?_;rintro e wB ⟨⟨u,rfl,hvB⟩,hpB,hgB⟩;obtain⟨a2,b2,c2,ad2,n2,cc2,hu2⟩:=hvB.any;subst hu2;have hXB:=hXT.grown hgB (by omega);have hKB:=hKT.grown hgB (by omega);have hszB:=hgB.size;have hszT:wE.heap.size+1<=wT.heap.size:=(by have:=hgT.size;simpa using this);have hltE:=hKB.lt;obtain⟨⟨p0,p1,p2,p3⟩,_⟩:=hKB.facts)
  | (go_at_call_of 134 (Value.string ⟨#[101,108,115,101]⟩);refine(hBE _ (F7 hpB (.cells #[.int .i64 a2,.string b2,.int .i64 c2,.slice ad2 n2 cc2] 24) (.cells #[.int .i64 a,.string b,.int .i64 c,.slice ad n cc,.int .i64 a2,.string b2,.int .i64 c2,.slice ad2 n2 cc2] 24))).mono ?_;rintro e wH ⟨rfl,hpH,hgH⟩;have hszH:wB.heap.size+2<=wH.heap.size:=(by have:=hgH.size;simpa using this))
  | (go_at_call 88;refine(hcc _ hpH).mono ?_;rintro e wC ⟨⟨u,rfl,hvC⟩,hpC,hgC⟩;obtain⟨a3,b3,c3,ad3,n3,cc3,hu3⟩:=hvC.any;subst hu3;have hszC:=hgC.size;obtain⟨⟨r0,r1,r2,r3⟩,g0,g1,g2,g3⟩:=(((Box4.new wB (.int .i64 a2) (.string b2) (.int .i64 c2) (.slice ad2 n2 cc2)).alloc (.cells #[.int .i64 a,.string b,.int .i64 c,.slice ad n cc,.int .i64 a2,.string b2,.int .i64 c2,.slice ad2 n2 cc2] 24)).grown (hgH.trans hgC) (by omega)).facts;have hszO:w.heap.size<wO.heap.size:=(by have:=hgO.size;simp at this;omega);have hszE:=hgE.size;have hQo:¬(Off w.heap.size wB.heap.size) Q:=(by rintro⟨h,_⟩;omega);obtain⟨xk,yk,hrow⟩:=KRow.two (BB:=wB.heap.size+1) (M:=(Off w.heap.size wB.heap.size)) (w:=wB.alloc (.cells #[.int .i64 a2,.string b2,.int .i64 c2,.slice ad2 n2 cc2] 24)) (NodeV.above (Zi (NodeV.above (NodeV.above (NodeV.above hv (Zh (Zf wE (.cells #[.int .i64 a,.string b,.int .i64 c,.slice ad n cc] 24) none) (fun k e=>by cases e))) (Zh hgT (fun k e=>by injection e with e;show ¬wO.heap.size<=k;omega))) (Zh hgB (fun k e=>by injection e with e;show ¬wO.heap.size<=k;omega))) (fun k hk hlt=>⟨by have hk':wO.heap.size<=k:=hk;omega,by omega⟩)) (Zh (Zf wB (.cells #[.int .i64 a2,.string b2,.int .i64 c2,.slice ad2 n2 cc2] 24) none) (fun k e=>by cases e))) (NodeV.above (Zi hvB (fun k hk hlt=>⟨by have hk':wT.heap.size<=k:=hk;omega,by omega⟩)) (Zh (Zf wB (.cells #[.int .i64 a2,.string b2,.int .i64 c2,.slice ad2 n2 cc2] 24) none) (fun k e=>by cases e))) (by simp);have hsz1:(wB.alloc (.cells #[.int .i64 a2,.string b2,.int .i64 c2,.slice ad2 n2 cc2] 24)).heap.size=wB.heap.size+1:=(by simp);have hrowC:=(hrow.grown hgH (by omega) hQo).grown hgC (by omega) hQo;rw[hsz1]at hrowC;clear hsz1;have hrowS:=hrowC.put (N:=wB.heap.size) (by omega) (by rintro⟨_,h⟩;exact h rfl) (.int .i64 a3) (.string b3) (.int .i64 c3) (.slice ad3 n3 cc3))
  | (at_builtin;(refine AO CC rfl (.tmp 36) (.tmp 38) rfl (wB.heap.size+1) 2 1 (sl (wB.heap.size+1) 2 2) (An [(kn,xk),(bn,yk)]) [.int .i64 a3,.string b3,.int .i64 c3,.slice ad3 n3 cc3] rfl (hrowS.alloc (.cells #[.int .i64 a3,.string b3,.int .i64 c3,.slice ad3 n3 cc3] 24)).own ⟨wC.heap.size,0,none⟩ rfl rfl (T7 _ _ _ _ _ _ _ (by simp[World.setCell])) (CL _ _ _ _ _ _) (by omega) (by simp[World.setCell];omega) ?_;intro g' cap' w7 O7 hg7x hor7;have hg7:(((((wC.setCell ⟨wB.heap.size,0,none⟩ (.int .i64 a3)).setCell ⟨wB.heap.size,1,none⟩ (.string b3)).setCell ⟨wB.heap.size,2,none⟩ (.int .i64 c3)).setCell ⟨wB.heap.size,3,none⟩ (.slice ad3 n3 cc3)).alloc (.cells #[.int .i64 a3,.string b3,.int .i64 c3,.slice ad3 n3 cc3] 24)).grownBy w7 (some (wB.heap.size+1)):=hg7x;have hb7:Below (w.heap.size+1) wC w7:=(((AX (w:=wC) (B:=w.heap.size+1) (R:=wB.heap.size) (by omega) (.int .i64 a3) (.string b3) (.int .i64 c3) (.slice ad3 n3 cc3)).alloc (by simp[World.setCell];omega) (.cells #[.int .i64 a3,.string b3,.int .i64 c3,.slice ad3 n3 cc3] 24)).grown hg7 (by simp[World.setCell];omega) (fun k e=>by injection e with e;omega));have hp7:=hpC.apart (hb7.mono (by omega));have hX7:Box4 w7 w.heap.size (.int .i64 0) (.string ⟨#[]⟩) (.int .i64 0) (.slice none 0 0):=((hb7.block w.heap.size (by omega)).trans (((hXB.alloc (.cells #[.int .i64 a2,.string b2,.int .i64 c2,.slice ad2 n2 cc2] 24)).alloc (.cells #[.int .i64 a,.string b,.int .i64 c,.slice ad n cc,.int .i64 a2,.string b2,.int .i64 c2,.slice ad2 n2 cc2] 24)).grown (hgH.trans hgC) (by omega)))))
  | (go_at_call 89;refine(At Q B _ S _ _ _ _ ⟨_,_,_,rfl⟩ _ hp7).mono ?_;rintro e wN ⟨rfl,hpN,hgN⟩;obtain⟨⟨q0,q1,q2,q3⟩,s0,s1',s2,s3⟩:=(hX7.grown hgN (by omega)).facts))
 have hgw:w.grownBy wN (some Q):=(AG (((((((((Zf w AK (some Q)).trans hg8).trans (Zf _ _ _)).trans hgT).trans hgB).trans (Zf _ _ _)).trans (Zf _ _ _)).trans hgH).trans hgC) (hb7.mono (by omega))).trans hgN
 refine bodyPost_ret (v:=.agg #[.int .i64 9,.string ⟨#[]⟩,.int .i64 0,sl g' 3 cap']) (by simp[results,Tryz.results112,go_sem,q0,q1,q2,q3]) rfl ⟨⟨_,rfl,?_⟩,by rw[HS.out];exact Ap hpN hRB _ _ _ _,AG hgw (AX (Z0 _) _ _ _ _)⟩
 match gC,hvC with
 | .error e,_=>exact⟨_,_,_,_,_,_,rfl⟩
 | .ok (cn,s4),hvC=>
  obtain⟨zk,hz,hkz⟩:=(show NodeV wC (AZ wH.heap.size) _ cn from hvC)
  simp only[Value.agg.injEq]at hz
  have ez:[.int .i64 a3,.string b3,.int .i64 c3,.slice ad3 n3 cc3]=Bb cn zk:=by
   have:=congrArg Array.toList hz
   simpa using this
  have hkS:=((hkz.above (Af (R:=wB.heap.size) (by show ¬wH.heap.size<=wB.heap.size;omega) (.int .i64 a3) (.string b3) (.int .i64 c3) (.slice ad3 n3 cc3))).above (Zh (Zf _ (.cells #[.int .i64 a3,.string b3,.int .i64 c3,.slice ad3 n3 cc3] 24) none) (fun k e=>by cases e))).mono (M':=fun k=>Off w.heap.size wB.heap.size k/\k≠wB.heap.size+1) (fun k hk _=>by have hk':wH.heap.size<=k:=hk;exact⟨⟨by omega,by omega⟩,by omega⟩)
  have hrow7:=(hrowS.alloc (.cells #[.int .i64 a3,.string b3,.int .i64 c3,.slice ad3 n3 cc3] 24)).snoc hkS (by rw[<-ez];exact O7) hg7 hor7
  have hkv:KidsV w7 (Off w.heap.size wB.heap.size) (sl g' 3 cap') [kn,bn,cn]:=hrow7.kidsV (by have:=(O7.lt g' rfl).1;exact⟨by omega,by omega⟩)
  exact Zi (NodeV.above (EV (tx:=[]) hkv) ((Zh hgN (fun k e=>by injection e with e;rintro⟨h,_⟩;omega)).trans (Af (R:=w.heap.size) (by rintro⟨h,_⟩;omega) _ _ _ _))) (fun k hk _=>Nat.le_of_lt hk.1)
theorem MW(Q B:Nat)(v:Value)(S:Src9)(hnf:Au S)(st:St9)(hbl:∀s,st=.ok s->∀st':St9,(∀s',st'=.ok s'->s.tok+1<=s'.tok)->Ah 88 (AP S) Q B v S st'):Ah 112 (CO S) Q B v S st:=by
 intro w hp
 match st,hbl,hp with
 | .error e,_,hp=>exact PK Q B v S hnf (.error e) rfl rfl rfl rfl rfl rfl rfl rfl rfl rfl w hp
 | .ok s,hbl,hp=>
  have hbl:=hbl s rfl
  rw[bindS_ok,CJ]
  cases b0:A1 S BD s with
  | true=>simp only[if_true];exact T5 Q B v S hnf s b0 w hp
  | false=>
  cases b1:A1 S wIf s with
  | true=>
   simp only[Bool.false_eq_true,if_false,if_true]
   cases hel:Aa S CU (A7 (AA (DC S s.step) (AP S)))with
   | true=>exact Uf Q B v S hnf s b0 b1 hbl hel w hp
   | false=>exact Ue Q B v S hnf s b0 b1 hbl hel w hp
  | false=>
  cases b2:A1 S B4 s with
  | true=>simp only[Bool.false_eq_true,if_false,if_true];exact Q4 Q B v S hnf s b0 b1 b2 hbl w hp
  | false=>
  cases b3:A1 S B3 s with
  | true=>simp only[Bool.false_eq_true,if_false,if_true];exact PJ Q B v S hnf s b0 b1 b2 b3 w hp
  | false=>
  cases b4:A1 S BH s with
  | true=>simp only[Bool.false_eq_true,if_false,if_true];exact Q3 Q B v S hnf s b0 b1 b2 b3 b4 w hp
  | false=>
  cases b5:A1 S CN s with
  | true=>simp only[Bool.false_eq_true,if_false,if_true];exact RZ Q B v S s b0 b1 b2 b3 b4 b5 hbl w hp
  | false=>
  cases b6:A1 S Cm s with
  | true=>simp only[Bool.false_eq_true,if_false,if_true];exact RW Q B v S hnf s b0 b1 b2 b3 b4 b5 b6 w hp
  | false=>
  cases b7:A1 S Bw s with
  | true=>simp only[Bool.false_eq_true,if_false,if_true];exact PH Q B v S hnf s b0 b1 b2 b3 b4 b5 b6 b7 w hp
  | false=>
  cases b8:A1 S Dt s with
  | true=>simp only[Bool.false_eq_true,if_false,if_true];exact RY Q B v S hnf s b0 b1 b2 b3 b4 b5 b6 b7 b8 w hp
  | false=>
   simp only[Bool.false_eq_true,if_false]
   have e1:A2 ⟨#[61]⟩=DU:=by decide
   cases h1:isB S 1 s with
   | false=>
    rw[if_neg (by unfold DD;rw[h1];simp)]
    exact PK Q B v S hnf (.ok s) b0 b1 b2 b3 b4 b5 b6 b7 b8 h1 w hp
   | true=>
    by_cases h2:s.tok+1<S.L.length
    ·cases h3:((BS S.L (s.tok+1)).2.1==A2 ⟨#[61]⟩)with
     | true=>
      rw[if_pos (by unfold DD;rw[h1,decide_eq_true h2];rw[e1]at h3;exact h3)]
      exact Uc Q B v S hnf (.ok s) b0 b1 b2 b3 b4 b5 b6 b7 b8 s rfl h1 h2 h3 w hp
     | false=>
      rw[if_neg (by unfold DD;rw[h1,decide_eq_true h2];rw[e1]at h3;intro h;rw[Bool.true_and,Bool.true_and]at h;exact absurd (h3.symm.trans h) (by decide))]
      exact Ub Q B v S hnf (.ok s) b0 b1 b2 b3 b4 b5 b6 b7 b8 s rfl h1 h2 h3 w hp
    ·rw[if_neg (by unfold DD;rw[decide_eq_false h2];simp)]
     exact Ua Q B v S hnf (.ok s) b0 b1 b2 b3 b4 b5 b6 b7 b8 s rfl h1 h2 w hp
theorem T8(Q B:Nat)(v:Value)(S:Src9)(hnf:Au S):∀(n:Nat) (s:PS),S.left s<=n->Ah 112 (CO S) Q B v S (.ok s):=by
 intro n
 induction n with
 | zero=>
  intro s h
  refine MW Q B v S hnf (.ok s) (fun s0 e st' hs=>JC Q B v S st' (fun s1 h1 h2=>?_))
  cases e
  exfalso
  unfold Src9.left at h
  match st',hs,h1 with
  | .error e,_,h1=>have h1':S.L.length+1<=s1.tok:=h1;omega
  | .ok s',hs,h1=>have h1':s'.tok+1<=s1.tok:=h1;have:=hs s' rfl;omega
 | succ n ih=>
  intro s h
  refine MW Q B v S hnf (.ok s) (fun s0 e st' hs=>JC Q B v S st' (fun s1 h1 h2=>ih s1 ?_))
  cases e
  unfold Src9.left at h⊢
  match st',hs,h1 with
  | .error e,_,h1=>have h1':S.L.length+1<=s1.tok:=h1;omega
  | .ok s',hs,h1=>have h1':s'.tok+1<=s1.tok:=h1;have:=hs s' rfl;omega
theorem MX(Q B:Nat)(v:Value)(S:Src9)(hnf:Au S)(st:St9):Ah 88 (AP S) Q B v S st:=JC Q B v S st (fun s _ _=>T8 Q B v S hnf _ s (Z0 _))
end Go.Proofs.YtibeadcfgcfdbaaGreatDoor
