/- Texts in one. -/
import Derived.Test.YtbglpanjpadldaaGreatDoorMq
set_option maxHeartbeats 16000000
set_option maxRecDepth 20000
namespace Go.Proofs.YtbglpanjpadldaaGreatDoor
open Go.RowKit
theorem SS{S:Src9}{x:List Int}{s:PS}(h:A2 S x s=true):Cv S s=false:=by
 unfold Cv
 cases hi:isB S 1 s with
 | false=>rfl
 | true=>rw[FV hi]at h;cases h
structure At17(w wx:World)(Q B:Nat)(v:Value)(S:Src9)(s:PS):Prop where
 rd:Rdr wx Q B v S s
 gr:w.grownBy wx (some Q)
 bx:Box4 wx w.heap.size (.int .i64 0) (.string ⟨#[]⟩) (.int .i64 0) (.slice none 0 0)
structure NoW(S:Src9)(s:PS)(x:ByteArray):Prop where
 ex:∃l,A7 x=l/\D2 l=true/\A2 S l s=false
theorem At17.no{w:World}{Q B:Nat}{v:Value}{S:Src9}(hl:AP S)(hq:Q<w.heap.size){s:PS}(x:ByteArray)(hx:NoW S s x)(wx:World)(h:At17 w wx Q B v S s):Calls Tryz.prog 49 #[.pointer (some ⟨Q,0,none⟩),.string x] wx fun e w'=>e=.returned (.bool false)/\Hid (At17 w w' Q B v S s):=by
 obtain⟨l,e,hp,hs⟩:=hx.ex
 exact(Az hl e hp hs wx h.rd).mono fun e' w' h'=>⟨h'.1,h'.2.1,h.gr.trans h'.2.2,h.bx.grown h'.2.2 hq⟩
theorem At17.set{w:World}{Q B:Nat}{v:Value}{S:Src9}(hq:Q<w.heap.size){s:PS}{b:Bool}(hset:Cv S s=b)(wx:World)(h:At17 w wx Q B v S s):Calls Tryz.prog 75 #[.pointer (some ⟨Q,0,none⟩)] wx fun e w'=>e=.returned (.bool b)/\Hid (At17 w w' Q B v S s):=by
 have hb:=Jy Q B v S s wx h.rd
 rw[hset]at hb
 exact hb.mono fun e' w' h'=>⟨h'.1,h.rd.below h'.2,h.gr.trans (A3 Q h'.2),h.bx.grown (A3 Q h'.2) hq⟩
theorem At17.first{w:World}{Q B:Nat}{v:Value}{S:Src9}{s:PS}(hp:Rdr w Q B v S s):Hid (At17 w (w.alloc A6) Q B v S s):=⟨hp.below ((Zg _ w).alloc (Z0 _) _),Zf w A6 (some Q),Box4.new _ _ _ _ _⟩
theorem JL(S:Src9)(kind:Int)(s:PS):Ey S kind s=(Bw S s).then fun k s=>(A8 S AQ s).then fun _ s=>AJ kind [] 0 [k] s:=by
 unfold Ey Bw
 rw[BO]
 refine A4 rfl fun u s1 _=>?_
 rw[BO]
 refine A4 rfl fun k s2 _=>?_
 rw[BO]
 refine A4 rfl fun u s3 _=>?_
 rfl
theorem RB(Q B:Nat)(v:Value)(S:Src9)(hl:AP S)(hnf:CE S)(s:PS)(y:A2 S CT s=true)(w:World)(hp:Rdr w Q B v S s) :
  Calls Tryz.prog 53 #[.pointer (some ⟨Q,0,none⟩)] w fun e w'=>BW Q B v S w (Bo w) (EU S 7 s.step) e w':=by
 have hB:=hp.size
 have hqb:=hp.qb
 have HS:=At17.first hp
 have hty:=fun w' (h':Rdr w' Q B v S s)=>BC hl (x:=⟨#[118,97,114]⟩) (l:=CT) (by decide) (by decide) (by decide) (by decide) y w' h'
 have hse:=fun w' (h':Rdr w' Q B v S s.step)=>JJ Q B v S hl hnf s.step 7 w' h'
 clear hp y
 cases hq:EU S 7 s.step with
 | error f=>
  rw[hq]at hse
  clear hq
  go_enter Tryz.func53,Tryz.ntmps53
  go_wp2_with (first | (go_at_call_of 49 (Value.string ⟨#[118,97,114]⟩);refine(hty _ HS.out.rd).mono ?_;rintro e wy ⟨rfl,hpy,hgy'⟩;have hgy:=HS.out.gr.trans hgy';have hXy:=HS.out.bx.grown hgy' (by omega);have hly:=hXy.lt) | (go_at_call 74;refine(hse _ hpy).mono ?_;rintro e w2 ⟨rfl,hg2⟩))
  exact⟨rfl,rfl,hgy.trans hg2⟩
 | ok z=>
  obtain⟨k,s2⟩:=z
  rw[hq]at hse
  clear hq
  go_enter Tryz.func53,Tryz.ntmps53
  go_wp2_with (first | (go_at_call_of 49 (Value.string ⟨#[118,97,114]⟩);refine(hty _ HS.out.rd).mono ?_;rintro e wy ⟨rfl,hpy,hgy'⟩;have hgy:=HS.out.gr.trans hgy';have hXy:=HS.out.bx.grown hgy' (by omega);have hly:=hXy.lt) | (go_at_call 74;refine(hse _ hpy).mono ?_;rintro e w2 ⟨u2,rfl,hv2,hp2,hg2⟩;obtain⟨a,b,c,ad,ln,cp,hu⟩:=NodeV.any hv2;subst hu;have hlx:=hXy.lt;obtain⟨⟨x0,x1,x2,x3⟩,f0,f1,f2,f3⟩:=(hXy.grown hg2 (by omega)).facts))
  refine bodyPost_ret (v:=.agg #[.int .i64 a,.string b,.int .i64 c,.slice ad ln cp]) (by simp[results,Tryz.results53,go_sem,x0,x1,x2,x3]) rfl ?_
  exact B5 (Zi hv2 (fun j hj _=>by have hj':wy.heap.size<=j:=hj;show w.heap.size+1<=j;omega)) hp2 (hgy.trans hg2) hB
theorem RC(Q B:Nat)(v:Value)(S:Src9)(hl:AP S)(hnf:CE S)(s:PS)(n0:A2 S CT s=false)(hset:Cv S s=true)(w:World)(hp:Rdr w Q B v S s) :
  Calls Tryz.prog 53 #[.pointer (some ⟨Q,0,none⟩)] w fun e w'=>BW Q B v S w (Bo w) (EU S 8 s) e w':=by
 have hB:=hp.size
 have hqb:=hp.qb
 have HS:=At17.first hp
 have t0:NoW S s ⟨#[118,97,114]⟩:=⟨⟨CT,by decide,by decide,n0⟩⟩
 have hno:=At17.no (w:=w) (Q:=Q) (B:=B) (v:=v) hl (Z5 hqb hB) (s:=s)
 have hbs:=At17.set (w:=w) (Q:=Q) (B:=B) (v:=v) (Z5 hqb hB) hset
 have hse:=fun w' (h':Rdr w' Q B v S s)=>JJ Q B v S hl hnf s 8 w' h'
 clear hp hset n0
 cases hq:EU S 8 s with
 | error f=>
  rw[hq]at hse
  clear hq
  go_enter Tryz.func53,Tryz.ntmps53
  go_wp2_with (first | (go_at_call 49;refine(hno _ (by first | exact t0) _ HS.out).mono ?_;clear HS;rintro e wx ⟨rfl,HS⟩) | (go_at_call 75;refine(hbs _ HS.out).mono ?_;clear HS;rintro e wx ⟨rfl,HS⟩) | (go_at_call 74;refine(hse _ HS.out.rd).mono ?_;rintro e w2 ⟨rfl,hg2⟩))
  exact⟨rfl,rfl,HS.out.gr.trans hg2⟩
 | ok z=>
  obtain⟨k,s2⟩:=z
  rw[hq]at hse
  clear hq
  go_enter Tryz.func53,Tryz.ntmps53
  go_wp2_with (first | (go_at_call 49;refine(hno _ (by first | exact t0) _ HS.out).mono ?_;clear HS;rintro e wx ⟨rfl,HS⟩) | (go_at_call 75;refine(hbs _ HS.out).mono ?_;clear HS;rintro e wx ⟨rfl,HS⟩) | (go_at_call 74;refine(hse _ HS.out.rd).mono ?_;rintro e w2 ⟨u2,rfl,hv2,hp2,hg2⟩;obtain⟨a,b,c,ad,ln,cp,hu⟩:=NodeV.any hv2;subst hu;have hlx:=HS.out.bx.lt;obtain⟨⟨x0,x1,x2,x3⟩,f0,f1,f2,f3⟩:=(HS.out.bx.grown hg2 (by omega)).facts))
  refine bodyPost_ret (v:=.agg #[.int .i64 a,.string b,.int .i64 c,.slice ad ln cp]) (by simp[results,Tryz.results53,go_sem,x0,x1,x2,x3]) rfl ?_
  exact B5 (Zi hv2 (fun j hj _=>by have hj':wx.heap.size<=j:=hj;show w.heap.size+1<=j;omega)) hp2 (HS.out.gr.trans hg2) hB
theorem NW(Q B:Nat)(v:Value)(S:Src9)(hl:AP S)(hnf:CE S)(s:PS)(n0:A2 S CT s=false)(n1:A2 S wIf s=false)(n2:A2 S C0 s=false)(hset:Cv S s=false)(y:A2 S Bs s=true)(w:World)(hp:Rdr w Q B v S s) :
  Calls Tryz.prog 53 #[.pointer (some ⟨Q,0,none⟩)] w fun e w'=>BW Q B v S w (Bo w) ((Ao S s.step).then fun k s=>(A8 S AQ s).then fun _ s=>AJ 11 [] 0 [k] s) e w':=by
 have hB:=hp.size
 have hqb:=hp.qb
 have HS:=At17.first hp
 have t0:NoW S s ⟨#[118,97,114]⟩:=⟨⟨CT,by decide,by decide,n0⟩⟩
 have t1:NoW S s ⟨#[105,102]⟩:=⟨⟨wIf,by decide,by decide,n1⟩⟩
 have t2:NoW S s ⟨#[119,104,105,108,101]⟩:=⟨⟨C0,by decide,by decide,n2⟩⟩
 have hno:=At17.no (w:=w) (Q:=Q) (B:=B) (v:=v) hl (Z5 hqb hB) (s:=s)
 have hbs:=At17.set (w:=w) (Q:=Q) (B:=B) (v:=v) (Z5 hqb hB) hset
 have hty:=fun w' (h':Rdr w' Q B v S s)=>BC hl (x:=⟨#[114,101,116,117,114,110]⟩) (l:=Bs) (by decide) (by decide) (by decide) (by decide) y w' h'
 have hr:=GI Q B v S hl hnf s.step
 clear hp y hset n0 n1 n2
 unfold AM at hr
 cases hq:Ao S s.step with
 | error f=>
  rw[hq]at hr
  clear hq
  go_enter Tryz.func53,Tryz.ntmps53
  go_wp2_with (first | (go_at_call_of 49 (Value.string ⟨#[114,101,116,117,114,110]⟩);refine(hty _ HS.out.rd).mono ?_;rintro e wy ⟨rfl,hpy,hgy'⟩;have hgy:=HS.out.gr.trans hgy';have hXy:=HS.out.bx.grown hgy' (by omega);have hly:=hXy.lt) | (go_at_call 49;refine(hno _ (by first | exact t0 | exact t1 | exact t2) _ HS.out).mono ?_;clear HS;rintro e wx ⟨rfl,HS⟩) | (go_at_call 75;refine(hbs _ HS.out).mono ?_;clear HS;rintro e wx ⟨rfl,HS⟩) | (go_at_call 79;refine(hr _ hpy).mono ?_;rintro e w2 ⟨rfl,hg2⟩))
  exact⟨rfl,rfl,hgy.trans hg2⟩
 | ok z=>
  obtain⟨k,s2⟩:=z
  rw[hq]at hr
  rw[then_ok]
  clear hq
  have hen:=Fm Q B (Be (w.heap.size+1)) v S hl s2 11 k
  cases hq:A8 S AQ s2 with
  | error f=>
   rw[hq]at hen
   clear hq
   go_enter Tryz.func53,Tryz.ntmps53
   go_wp2_with (first | (go_at_call_of 49 (Value.string ⟨#[114,101,116,117,114,110]⟩);refine(hty _ HS.out.rd).mono ?_;rintro e wy ⟨rfl,hpy,hgy'⟩;have hgy:=HS.out.gr.trans hgy';have hXy:=HS.out.bx.grown hgy' (by omega);have hly:=hXy.lt) | (go_at_call 49;refine(hno _ (by first | exact t0 | exact t1 | exact t2) _ HS.out).mono ?_;clear HS;rintro e wx ⟨rfl,HS⟩) | (go_at_call 75;refine(hbs _ HS.out).mono ?_;clear HS;rintro e wx ⟨rfl,HS⟩) | (go_at_call 79;refine(hr _ hpy).mono ?_;rintro e w2 ⟨u2,rfl,hv2,hp2,hg2⟩;obtain⟨a,b,c,ad,ln,cp,hu⟩:=NodeV.any hv2;subst hu;have hlx:=hXy.lt;have hX2:=hXy.grown hg2 (by omega);have hl2:=hX2.lt) | (go_at_call 78;refine(hen _ _ _ _ _ _ w2 (Zi hv2 (fun j hj _=>by have hj':wy.heap.size<=j:=hj;show w.heap.size+1<=j;omega)) (by show ¬w.heap.size+1<=Q;omega) (fun j hj=>by show w.heap.size+1<=j;omega) hp2).mono ?_;rintro e w3 ⟨rfl,hg3⟩))
   exact⟨rfl,rfl,(hgy.trans hg2).trans hg3⟩
  | ok z=>
   obtain⟨⟨⟩,s3⟩:=z
   rw[hq,then_ok]at hen
   rw[then_ok]
   clear hq
   go_enter Tryz.func53,Tryz.ntmps53
   go_wp2_with (first | (go_at_call_of 49 (Value.string ⟨#[114,101,116,117,114,110]⟩);refine(hty _ HS.out.rd).mono ?_;rintro e wy ⟨rfl,hpy,hgy'⟩;have hgy:=HS.out.gr.trans hgy';have hXy:=HS.out.bx.grown hgy' (by omega);have hly:=hXy.lt) | (go_at_call 49;refine(hno _ (by first | exact t0 | exact t1 | exact t2) _ HS.out).mono ?_;clear HS;rintro e wx ⟨rfl,HS⟩) | (go_at_call 75;refine(hbs _ HS.out).mono ?_;clear HS;rintro e wx ⟨rfl,HS⟩) | (go_at_call 79;refine(hr _ hpy).mono ?_;rintro e w2 ⟨u2,rfl,hv2,hp2,hg2⟩;obtain⟨a,b,c,ad,ln,cp,hu⟩:=NodeV.any hv2;subst hu;have hlx:=hXy.lt;have hX2:=hXy.grown hg2 (by omega);have hl2:=hX2.lt) | (go_at_call 78;refine(hen _ _ _ _ _ _ w2 (Zi hv2 (fun j hj _=>by have hj':wy.heap.size<=j:=hj;show w.heap.size+1<=j;omega)) (by show ¬w.heap.size+1<=Q;omega) (fun j hj=>by show w.heap.size+1<=j;omega) hp2).mono ?_;rintro e w3 ⟨u3,rfl,hv3,hp3,hg3⟩;obtain⟨a3,b3,c3,ad3,ln3,cp3,hu3⟩:=NodeV.any hv3;subst hu3;obtain⟨⟨x0,x1,x2,x3⟩,f0,f1,f2,f3⟩:=(hX2.grown hg3 (by omega)).facts))
   refine bodyPost_ret (v:=.agg #[.int .i64 a3,.string b3,.int .i64 c3,.slice ad3 ln3 cp3]) (by simp[results,Tryz.results53,go_sem,x0,x1,x2,x3]) rfl ?_
   exact B5 hv3 hp3 ((hgy.trans hg2).trans hg3) hB
theorem ON(Q B:Nat)(v:Value)(S:Src9)(hl:AP S)(hnf:CE S)(s:PS)(n0:A2 S CT s=false)(n1:A2 S wIf s=false)(n2:A2 S C0 s=false)(n3:A2 S Bs s=false)(hset:Cv S s=false)(y:A2 S CN s=true)(w:World)(hp:Rdr w Q B v S s) :
  Calls Tryz.prog 53 #[.pointer (some ⟨Q,0,none⟩)] w fun e w'=>BW Q B v S w (Bo w) (Ey S 12 s.step) e w':=by
 have hB:=hp.size
 have hqb:=hp.qb
 have HS:=At17.first hp
 have t0:NoW S s ⟨#[118,97,114]⟩:=⟨⟨CT,by decide,by decide,n0⟩⟩
 have t1:NoW S s ⟨#[105,102]⟩:=⟨⟨wIf,by decide,by decide,n1⟩⟩
 have t2:NoW S s ⟨#[119,104,105,108,101]⟩:=⟨⟨C0,by decide,by decide,n2⟩⟩
 have t3:NoW S s ⟨#[114,101,116,117,114,110]⟩:=⟨⟨Bs,by decide,by decide,n3⟩⟩
 have hno:=At17.no (w:=w) (Q:=Q) (B:=B) (v:=v) hl (Z5 hqb hB) (s:=s)
 have hbs:=At17.set (w:=w) (Q:=Q) (B:=B) (v:=v) (Z5 hqb hB) hset
 have hty:=fun w' (h':Rdr w' Q B v S s)=>BC hl (x:=⟨#[112,114,105,110,116]⟩) (l:=CN) (by decide) (by decide) (by decide) (by decide) y w' h'
 have hr:=GJ Q B v S hl hnf s.step
 clear hp y hset n0 n1 n2 n3
 rw[JL]
 unfold AM at hr
 cases hq:Bw S s.step with
 | error f=>
  rw[hq]at hr
  clear hq
  go_enter Tryz.func53,Tryz.ntmps53
  go_wp2_with (first | (go_at_call_of 49 (Value.string ⟨#[112,114,105,110,116]⟩);refine(hty _ HS.out.rd).mono ?_;rintro e wy ⟨rfl,hpy,hgy'⟩;have hgy:=HS.out.gr.trans hgy';have hXy:=HS.out.bx.grown hgy' (by omega);have hly:=hXy.lt) | (go_at_call 49;refine(hno _ (by first | exact t0 | exact t1 | exact t2 | exact t3) _ HS.out).mono ?_;clear HS;rintro e wx ⟨rfl,HS⟩) | (go_at_call 75;refine(hbs _ HS.out).mono ?_;clear HS;rintro e wx ⟨rfl,HS⟩) | (go_at_call 77;refine(hr _ hpy).mono ?_;rintro e w2 ⟨rfl,hg2⟩))
  exact⟨rfl,rfl,hgy.trans hg2⟩
 | ok z=>
  obtain⟨k,s2⟩:=z
  rw[hq]at hr
  rw[then_ok]
  clear hq
  have hen:=Fm Q B (Be (w.heap.size+1)) v S hl s2 12 k
  cases hq:A8 S AQ s2 with
  | error f=>
   rw[hq]at hen
   clear hq
   go_enter Tryz.func53,Tryz.ntmps53
   go_wp2_with (first | (go_at_call_of 49 (Value.string ⟨#[112,114,105,110,116]⟩);refine(hty _ HS.out.rd).mono ?_;rintro e wy ⟨rfl,hpy,hgy'⟩;have hgy:=HS.out.gr.trans hgy';have hXy:=HS.out.bx.grown hgy' (by omega);have hly:=hXy.lt) | (go_at_call 49;refine(hno _ (by first | exact t0 | exact t1 | exact t2 | exact t3) _ HS.out).mono ?_;clear HS;rintro e wx ⟨rfl,HS⟩) | (go_at_call 75;refine(hbs _ HS.out).mono ?_;clear HS;rintro e wx ⟨rfl,HS⟩) | (go_at_call 77;refine(hr _ hpy).mono ?_;rintro e w2 ⟨u2,rfl,hv2,hp2,hg2⟩;obtain⟨a,b,c,ad,ln,cp,hu⟩:=NodeV.any hv2;subst hu;have hlx:=hXy.lt;have hX2:=hXy.grown hg2 (by omega);have hl2:=hX2.lt) | (go_at_call 78;refine(hen _ _ _ _ _ _ w2 (Zi hv2 (fun j hj _=>by have hj':wy.heap.size<=j:=hj;show w.heap.size+1<=j;omega)) (by show ¬w.heap.size+1<=Q;omega) (fun j hj=>by show w.heap.size+1<=j;omega) hp2).mono ?_;rintro e w3 ⟨rfl,hg3⟩))
   exact⟨rfl,rfl,(hgy.trans hg2).trans hg3⟩
  | ok z=>
   obtain⟨⟨⟩,s3⟩:=z
   rw[hq,then_ok]at hen
   rw[then_ok]
   clear hq
   go_enter Tryz.func53,Tryz.ntmps53
   go_wp2_with (first | (go_at_call_of 49 (Value.string ⟨#[112,114,105,110,116]⟩);refine(hty _ HS.out.rd).mono ?_;rintro e wy ⟨rfl,hpy,hgy'⟩;have hgy:=HS.out.gr.trans hgy';have hXy:=HS.out.bx.grown hgy' (by omega);have hly:=hXy.lt) | (go_at_call 49;refine(hno _ (by first | exact t0 | exact t1 | exact t2 | exact t3) _ HS.out).mono ?_;clear HS;rintro e wx ⟨rfl,HS⟩) | (go_at_call 75;refine(hbs _ HS.out).mono ?_;clear HS;rintro e wx ⟨rfl,HS⟩) | (go_at_call 77;refine(hr _ hpy).mono ?_;rintro e w2 ⟨u2,rfl,hv2,hp2,hg2⟩;obtain⟨a,b,c,ad,ln,cp,hu⟩:=NodeV.any hv2;subst hu;have hlx:=hXy.lt;have hX2:=hXy.grown hg2 (by omega);have hl2:=hX2.lt) | (go_at_call 78;refine(hen _ _ _ _ _ _ w2 (Zi hv2 (fun j hj _=>by have hj':wy.heap.size<=j:=hj;show w.heap.size+1<=j;omega)) (by show ¬w.heap.size+1<=Q;omega) (fun j hj=>by show w.heap.size+1<=j;omega) hp2).mono ?_;rintro e w3 ⟨u3,rfl,hv3,hp3,hg3⟩;obtain⟨a3,b3,c3,ad3,ln3,cp3,hu3⟩:=NodeV.any hv3;subst hu3;obtain⟨⟨x0,x1,x2,x3⟩,f0,f1,f2,f3⟩:=(hX2.grown hg3 (by omega)).facts))
   refine bodyPost_ret (v:=.agg #[.int .i64 a3,.string b3,.int .i64 c3,.slice ad3 ln3 cp3]) (by simp[results,Tryz.results53,go_sem,x0,x1,x2,x3]) rfl ?_
   exact B5 hv3 hp3 ((hgy.trans hg2).trans hg3) hB
theorem Ps(Q B:Nat)(v:Value)(S:Src9)(hl:AP S)(hnf:CE S)(s:PS)(n0:A2 S CT s=false)(n1:A2 S wIf s=false)(n2:A2 S C0 s=false)(n3:A2 S Bs s=false)(n4:A2 S CN s=false)(n5:A2 S DX s=false)(hset:Cv S s=false)(y:A2 S Dd s=true)(w:World)(hp:Rdr w Q B v S s) :
  Calls Tryz.prog 53 #[.pointer (some ⟨Q,0,none⟩)] w fun e w'=>BW Q B v S w (Bo w) (Ey S 14 s.step) e w':=by
 have hB:=hp.size
 have hqb:=hp.qb
 have HS:=At17.first hp
 have t0:NoW S s ⟨#[118,97,114]⟩:=⟨⟨CT,by decide,by decide,n0⟩⟩
 have t1:NoW S s ⟨#[105,102]⟩:=⟨⟨wIf,by decide,by decide,n1⟩⟩
 have t2:NoW S s ⟨#[119,104,105,108,101]⟩:=⟨⟨C0,by decide,by decide,n2⟩⟩
 have t3:NoW S s ⟨#[114,101,116,117,114,110]⟩:=⟨⟨Bs,by decide,by decide,n3⟩⟩
 have t4:NoW S s ⟨#[112,114,105,110,116]⟩:=⟨⟨CN,by decide,by decide,n4⟩⟩
 have t5:NoW S s ⟨#[102,111,114,107]⟩:=⟨⟨DX,by decide,by decide,n5⟩⟩
 have hno:=At17.no (w:=w) (Q:=Q) (B:=B) (v:=v) hl (Z5 hqb hB) (s:=s)
 have hbs:=At17.set (w:=w) (Q:=Q) (B:=B) (v:=v) (Z5 hqb hB) hset
 have hty:=fun w' (h':Rdr w' Q B v S s)=>BC hl (x:=⟨#[119,97,105,116]⟩) (l:=Dd) (by decide) (by decide) (by decide) (by decide) y w' h'
 have hr:=GJ Q B v S hl hnf s.step
 clear hp y hset n0 n1 n2 n3 n4 n5
 rw[JL]
 unfold AM at hr
 cases hq:Bw S s.step with
 | error f=>
  rw[hq]at hr
  clear hq
  go_enter Tryz.func53,Tryz.ntmps53
  go_wp2_with (first | (go_at_call_of 49 (Value.string ⟨#[119,97,105,116]⟩);refine(hty _ HS.out.rd).mono ?_;rintro e wy ⟨rfl,hpy,hgy'⟩;have hgy:=HS.out.gr.trans hgy';have hXy:=HS.out.bx.grown hgy' (by omega);have hly:=hXy.lt) | (go_at_call 49;refine(hno _ (by first | exact t0 | exact t1 | exact t2 | exact t3 | exact t4 | exact t5) _ HS.out).mono ?_;clear HS;rintro e wx ⟨rfl,HS⟩) | (go_at_call 75;refine(hbs _ HS.out).mono ?_;clear HS;rintro e wx ⟨rfl,HS⟩) | (go_at_call 77;refine(hr _ hpy).mono ?_;rintro e w2 ⟨rfl,hg2⟩))
  exact⟨rfl,rfl,hgy.trans hg2⟩
 | ok z=>
  obtain⟨k,s2⟩:=z
  rw[hq]at hr
  rw[then_ok]
  clear hq
  have hen:=Fm Q B (Be (w.heap.size+1)) v S hl s2 14 k
  cases hq:A8 S AQ s2 with
  | error f=>
   rw[hq]at hen
   clear hq
   go_enter Tryz.func53,Tryz.ntmps53
   go_wp2_with (first | (go_at_call_of 49 (Value.string ⟨#[119,97,105,116]⟩);refine(hty _ HS.out.rd).mono ?_;rintro e wy ⟨rfl,hpy,hgy'⟩;have hgy:=HS.out.gr.trans hgy';have hXy:=HS.out.bx.grown hgy' (by omega);have hly:=hXy.lt) | (go_at_call 49;refine(hno _ (by first | exact t0 | exact t1 | exact t2 | exact t3 | exact t4 | exact t5) _ HS.out).mono ?_;clear HS;rintro e wx ⟨rfl,HS⟩) | (go_at_call 75;refine(hbs _ HS.out).mono ?_;clear HS;rintro e wx ⟨rfl,HS⟩) | (go_at_call 77;refine(hr _ hpy).mono ?_;rintro e w2 ⟨u2,rfl,hv2,hp2,hg2⟩;obtain⟨a,b,c,ad,ln,cp,hu⟩:=NodeV.any hv2;subst hu;have hlx:=hXy.lt;have hX2:=hXy.grown hg2 (by omega);have hl2:=hX2.lt) | (go_at_call 78;refine(hen _ _ _ _ _ _ w2 (Zi hv2 (fun j hj _=>by have hj':wy.heap.size<=j:=hj;show w.heap.size+1<=j;omega)) (by show ¬w.heap.size+1<=Q;omega) (fun j hj=>by show w.heap.size+1<=j;omega) hp2).mono ?_;rintro e w3 ⟨rfl,hg3⟩))
   exact⟨rfl,rfl,(hgy.trans hg2).trans hg3⟩
  | ok z=>
   obtain⟨⟨⟩,s3⟩:=z
   rw[hq,then_ok]at hen
   rw[then_ok]
   clear hq
   go_enter Tryz.func53,Tryz.ntmps53
   go_wp2_with (first | (go_at_call_of 49 (Value.string ⟨#[119,97,105,116]⟩);refine(hty _ HS.out.rd).mono ?_;rintro e wy ⟨rfl,hpy,hgy'⟩;have hgy:=HS.out.gr.trans hgy';have hXy:=HS.out.bx.grown hgy' (by omega);have hly:=hXy.lt) | (go_at_call 49;refine(hno _ (by first | exact t0 | exact t1 | exact t2 | exact t3 | exact t4 | exact t5) _ HS.out).mono ?_;clear HS;rintro e wx ⟨rfl,HS⟩) | (go_at_call 75;refine(hbs _ HS.out).mono ?_;clear HS;rintro e wx ⟨rfl,HS⟩) | (go_at_call 77;refine(hr _ hpy).mono ?_;rintro e w2 ⟨u2,rfl,hv2,hp2,hg2⟩;obtain⟨a,b,c,ad,ln,cp,hu⟩:=NodeV.any hv2;subst hu;have hlx:=hXy.lt;have hX2:=hXy.grown hg2 (by omega);have hl2:=hX2.lt) | (go_at_call 78;refine(hen _ _ _ _ _ _ w2 (Zi hv2 (fun j hj _=>by have hj':wy.heap.size<=j:=hj;show w.heap.size+1<=j;omega)) (by show ¬w.heap.size+1<=Q;omega) (fun j hj=>by show w.heap.size+1<=j;omega) hp2).mono ?_;rintro e w3 ⟨u3,rfl,hv3,hp3,hg3⟩;obtain⟨a3,b3,c3,ad3,ln3,cp3,hu3⟩:=NodeV.any hv3;subst hu3;obtain⟨⟨x0,x1,x2,x3⟩,f0,f1,f2,f3⟩:=(hX2.grown hg3 (by omega)).facts))
   refine bodyPost_ret (v:=.agg #[.int .i64 a3,.string b3,.int .i64 c3,.slice ad3 ln3 cp3]) (by simp[results,Tryz.results53,go_sem,x0,x1,x2,x3]) rfl ?_
   exact B5 hv3 hp3 ((hgy.trans hg2).trans hg3) hB
theorem NX(Q B:Nat)(v:Value)(S:Src9)(hl:AP S)(hnf:CE S)(s:PS)(n0:A2 S CT s=false)(n1:A2 S wIf s=false)(n2:A2 S C0 s=false)(n3:A2 S Bs s=false)(n4:A2 S CN s=false)(n5:A2 S DX s=false)(n6:A2 S Dd s=false)(hset:Cv S s=false)(y:A2 S Cu s=true)(w:World)(hp:Rdr w Q B v S s) :
  Calls Tryz.prog 53 #[.pointer (some ⟨Q,0,none⟩)] w fun e w'=>BW Q B v S w (Bo w) (Ey S 15 s.step) e w':=by
 have hB:=hp.size
 have hqb:=hp.qb
 have HS:=At17.first hp
 have t0:NoW S s ⟨#[118,97,114]⟩:=⟨⟨CT,by decide,by decide,n0⟩⟩
 have t1:NoW S s ⟨#[105,102]⟩:=⟨⟨wIf,by decide,by decide,n1⟩⟩
 have t2:NoW S s ⟨#[119,104,105,108,101]⟩:=⟨⟨C0,by decide,by decide,n2⟩⟩
 have t3:NoW S s ⟨#[114,101,116,117,114,110]⟩:=⟨⟨Bs,by decide,by decide,n3⟩⟩
 have t4:NoW S s ⟨#[112,114,105,110,116]⟩:=⟨⟨CN,by decide,by decide,n4⟩⟩
 have t5:NoW S s ⟨#[102,111,114,107]⟩:=⟨⟨DX,by decide,by decide,n5⟩⟩
 have t6:NoW S s ⟨#[119,97,105,116]⟩:=⟨⟨Dd,by decide,by decide,n6⟩⟩
 have hno:=At17.no (w:=w) (Q:=Q) (B:=B) (v:=v) hl (Z5 hqb hB) (s:=s)
 have hbs:=At17.set (w:=w) (Q:=Q) (B:=B) (v:=v) (Z5 hqb hB) hset
 have hty:=fun w' (h':Rdr w' Q B v S s)=>BC hl (x:=⟨#[115,105,103,110,97,108]⟩) (l:=Cu) (by decide) (by decide) (by decide) (by decide) y w' h'
 have hr:=GJ Q B v S hl hnf s.step
 clear hp y hset n0 n1 n2 n3 n4 n5 n6
 rw[JL]
 unfold AM at hr
 cases hq:Bw S s.step with
 | error f=>
  rw[hq]at hr
  clear hq
  go_enter Tryz.func53,Tryz.ntmps53
  go_wp2_with (first | (go_at_call_of 49 (Value.string ⟨#[115,105,103,110,97,108]⟩);refine(hty _ HS.out.rd).mono ?_;rintro e wy ⟨rfl,hpy,hgy'⟩;have hgy:=HS.out.gr.trans hgy';have hXy:=HS.out.bx.grown hgy' (by omega);have hly:=hXy.lt) | (go_at_call 49;refine(hno _ (by first | exact t0 | exact t1 | exact t2 | exact t3 | exact t4 | exact t5 | exact t6) _ HS.out).mono ?_;clear HS;rintro e wx ⟨rfl,HS⟩) | (go_at_call 75;refine(hbs _ HS.out).mono ?_;clear HS;rintro e wx ⟨rfl,HS⟩) | (go_at_call 77;refine(hr _ hpy).mono ?_;rintro e w2 ⟨rfl,hg2⟩))
  exact⟨rfl,rfl,hgy.trans hg2⟩
 | ok z=>
  obtain⟨k,s2⟩:=z
  rw[hq]at hr
  rw[then_ok]
  clear hq
  have hen:=Fm Q B (Be (w.heap.size+1)) v S hl s2 15 k
  cases hq:A8 S AQ s2 with
  | error f=>
   rw[hq]at hen
   clear hq
   go_enter Tryz.func53,Tryz.ntmps53
   go_wp2_with (first | (go_at_call_of 49 (Value.string ⟨#[115,105,103,110,97,108]⟩);refine(hty _ HS.out.rd).mono ?_;rintro e wy ⟨rfl,hpy,hgy'⟩;have hgy:=HS.out.gr.trans hgy';have hXy:=HS.out.bx.grown hgy' (by omega);have hly:=hXy.lt) | (go_at_call 49;refine(hno _ (by first | exact t0 | exact t1 | exact t2 | exact t3 | exact t4 | exact t5 | exact t6) _ HS.out).mono ?_;clear HS;rintro e wx ⟨rfl,HS⟩) | (go_at_call 75;refine(hbs _ HS.out).mono ?_;clear HS;rintro e wx ⟨rfl,HS⟩) | (go_at_call 77;refine(hr _ hpy).mono ?_;rintro e w2 ⟨u2,rfl,hv2,hp2,hg2⟩;obtain⟨a,b,c,ad,ln,cp,hu⟩:=NodeV.any hv2;subst hu;have hlx:=hXy.lt;have hX2:=hXy.grown hg2 (by omega);have hl2:=hX2.lt) | (go_at_call 78;refine(hen _ _ _ _ _ _ w2 (Zi hv2 (fun j hj _=>by have hj':wy.heap.size<=j:=hj;show w.heap.size+1<=j;omega)) (by show ¬w.heap.size+1<=Q;omega) (fun j hj=>by show w.heap.size+1<=j;omega) hp2).mono ?_;rintro e w3 ⟨rfl,hg3⟩))
   exact⟨rfl,rfl,(hgy.trans hg2).trans hg3⟩
  | ok z=>
   obtain⟨⟨⟩,s3⟩:=z
   rw[hq,then_ok]at hen
   rw[then_ok]
   clear hq
   go_enter Tryz.func53,Tryz.ntmps53
   go_wp2_with (first | (go_at_call_of 49 (Value.string ⟨#[115,105,103,110,97,108]⟩);refine(hty _ HS.out.rd).mono ?_;rintro e wy ⟨rfl,hpy,hgy'⟩;have hgy:=HS.out.gr.trans hgy';have hXy:=HS.out.bx.grown hgy' (by omega);have hly:=hXy.lt) | (go_at_call 49;refine(hno _ (by first | exact t0 | exact t1 | exact t2 | exact t3 | exact t4 | exact t5 | exact t6) _ HS.out).mono ?_;clear HS;rintro e wx ⟨rfl,HS⟩) | (go_at_call 75;refine(hbs _ HS.out).mono ?_;clear HS;rintro e wx ⟨rfl,HS⟩) | (go_at_call 77;refine(hr _ hpy).mono ?_;rintro e w2 ⟨u2,rfl,hv2,hp2,hg2⟩;obtain⟨a,b,c,ad,ln,cp,hu⟩:=NodeV.any hv2;subst hu;have hlx:=hXy.lt;have hX2:=hXy.grown hg2 (by omega);have hl2:=hX2.lt) | (go_at_call 78;refine(hen _ _ _ _ _ _ w2 (Zi hv2 (fun j hj _=>by have hj':wy.heap.size<=j:=hj;show w.heap.size+1<=j;omega)) (by show ¬w.heap.size+1<=Q;omega) (fun j hj=>by show w.heap.size+1<=j;omega) hp2).mono ?_;rintro e w3 ⟨u3,rfl,hv3,hp3,hg3⟩;obtain⟨a3,b3,c3,ad3,ln3,cp3,hu3⟩:=NodeV.any hv3;subst hu3;obtain⟨⟨x0,x1,x2,x3⟩,f0,f1,f2,f3⟩:=(hX2.grown hg3 (by omega)).facts))
   refine bodyPost_ret (v:=.agg #[.int .i64 a3,.string b3,.int .i64 c3,.slice ad3 ln3 cp3]) (by simp[results,Tryz.results53,go_sem,x0,x1,x2,x3]) rfl ?_
   exact B5 hv3 hp3 ((hgy.trans hg2).trans hg3) hB
theorem ST(Q B:Nat)(v:Value)(S:Src9)(hl:AP S)(hnf:CE S)(s:PS)(n0:A2 S CT s=false)(n1:A2 S wIf s=false)(n2:A2 S C0 s=false)(n3:A2 S Bs s=false)(n4:A2 S CN s=false)(n5:A2 S DX s=false)(n6:A2 S Dd s=false)(n7:A2 S Cu s=false)(n8:A2 S Ek s=false)(hset:Cv S s=false)(w:World)(hp:Rdr w Q B v S s) :
  Calls Tryz.prog 53 #[.pointer (some ⟨Q,0,none⟩)] w fun e w'=>BW Q B v S w (Bo w) ((Ao S s).then fun k s=>(A8 S AQ s).then fun _ s=>AJ 17 [] 0 [k] s) e w':=by
 have hB:=hp.size
 have hqb:=hp.qb
 have HS:=At17.first hp
 have t0:NoW S s ⟨#[118,97,114]⟩:=⟨⟨CT,by decide,by decide,n0⟩⟩
 have t1:NoW S s ⟨#[105,102]⟩:=⟨⟨wIf,by decide,by decide,n1⟩⟩
 have t2:NoW S s ⟨#[119,104,105,108,101]⟩:=⟨⟨C0,by decide,by decide,n2⟩⟩
 have t3:NoW S s ⟨#[114,101,116,117,114,110]⟩:=⟨⟨Bs,by decide,by decide,n3⟩⟩
 have t4:NoW S s ⟨#[112,114,105,110,116]⟩:=⟨⟨CN,by decide,by decide,n4⟩⟩
 have t5:NoW S s ⟨#[102,111,114,107]⟩:=⟨⟨DX,by decide,by decide,n5⟩⟩
 have t6:NoW S s ⟨#[119,97,105,116]⟩:=⟨⟨Dd,by decide,by decide,n6⟩⟩
 have t7:NoW S s ⟨#[115,105,103,110,97,108]⟩:=⟨⟨Cu,by decide,by decide,n7⟩⟩
 have t8:NoW S s ⟨#[115,119,97,112]⟩:=⟨⟨Ek,by decide,by decide,n8⟩⟩
 have hno:=At17.no (w:=w) (Q:=Q) (B:=B) (v:=v) hl (Z5 hqb hB) (s:=s)
 have hbs:=At17.set (w:=w) (Q:=Q) (B:=B) (v:=v) (Z5 hqb hB) hset
 have hr:=GI Q B v S hl hnf s
 clear hp hset n0 n1 n2 n3 n4 n5 n6 n7 n8
 unfold AM at hr
 cases hq:Ao S s with
 | error f=>
  rw[hq]at hr
  clear hq
  go_enter Tryz.func53,Tryz.ntmps53
  go_wp2_with (first | (go_at_call 49;refine(hno _ (by first | exact t0 | exact t1 | exact t2 | exact t3 | exact t4 | exact t5 | exact t6 | exact t7 | exact t8) _ HS.out).mono ?_;clear HS;rintro e wx ⟨rfl,HS⟩) | (go_at_call 75;refine(hbs _ HS.out).mono ?_;clear HS;rintro e wx ⟨rfl,HS⟩) | (go_at_call 79;refine(hr _ HS.out.rd).mono ?_;rintro e w2 ⟨rfl,hg2⟩))
  exact⟨rfl,rfl,HS.out.gr.trans hg2⟩
 | ok z=>
  obtain⟨k,s2⟩:=z
  rw[hq]at hr
  rw[then_ok]
  clear hq
  have hen:=Fm Q B (Be (w.heap.size+1)) v S hl s2 17 k
  cases hq:A8 S AQ s2 with
  | error f=>
   rw[hq]at hen
   clear hq
   go_enter Tryz.func53,Tryz.ntmps53
   go_wp2_with (first | (go_at_call 49;refine(hno _ (by first | exact t0 | exact t1 | exact t2 | exact t3 | exact t4 | exact t5 | exact t6 | exact t7 | exact t8) _ HS.out).mono ?_;clear HS;rintro e wx ⟨rfl,HS⟩) | (go_at_call 75;refine(hbs _ HS.out).mono ?_;clear HS;rintro e wx ⟨rfl,HS⟩) | (go_at_call 79;refine(hr _ HS.out.rd).mono ?_;rintro e w2 ⟨u2,rfl,hv2,hp2,hg2⟩;obtain⟨a,b,c,ad,ln,cp,hu⟩:=NodeV.any hv2;subst hu;have hlx:=HS.out.bx.lt;have hX2:=HS.out.bx.grown hg2 (by omega);have hl2:=hX2.lt) | (go_at_call 78;refine(hen _ _ _ _ _ _ w2 (Zi hv2 (fun j hj _=>by have hj':wx.heap.size<=j:=hj;show w.heap.size+1<=j;omega)) (by show ¬w.heap.size+1<=Q;omega) (fun j hj=>by show w.heap.size+1<=j;omega) hp2).mono ?_;rintro e w3 ⟨rfl,hg3⟩))
   exact⟨rfl,rfl,(HS.out.gr.trans hg2).trans hg3⟩
  | ok z=>
   obtain⟨⟨⟩,s3⟩:=z
   rw[hq,then_ok]at hen
   rw[then_ok]
   clear hq
   go_enter Tryz.func53,Tryz.ntmps53
   go_wp2_with (first | (go_at_call 49;refine(hno _ (by first | exact t0 | exact t1 | exact t2 | exact t3 | exact t4 | exact t5 | exact t6 | exact t7 | exact t8) _ HS.out).mono ?_;clear HS;rintro e wx ⟨rfl,HS⟩) | (go_at_call 75;refine(hbs _ HS.out).mono ?_;clear HS;rintro e wx ⟨rfl,HS⟩) | (go_at_call 79;refine(hr _ HS.out.rd).mono ?_;rintro e w2 ⟨u2,rfl,hv2,hp2,hg2⟩;obtain⟨a,b,c,ad,ln,cp,hu⟩:=NodeV.any hv2;subst hu;have hlx:=HS.out.bx.lt;have hX2:=HS.out.bx.grown hg2 (by omega);have hl2:=hX2.lt) | (go_at_call 78;refine(hen _ _ _ _ _ _ w2 (Zi hv2 (fun j hj _=>by have hj':wx.heap.size<=j:=hj;show w.heap.size+1<=j;omega)) (by show ¬w.heap.size+1<=Q;omega) (fun j hj=>by show w.heap.size+1<=j;omega) hp2).mono ?_;rintro e w3 ⟨u3,rfl,hv3,hp3,hg3⟩;obtain⟨a3,b3,c3,ad3,ln3,cp3,hu3⟩:=NodeV.any hv3;subst hu3;obtain⟨⟨x0,x1,x2,x3⟩,f0,f1,f2,f3⟩:=(hX2.grown hg3 (by omega)).facts))
   refine bodyPost_ret (v:=.agg #[.int .i64 a3,.string b3,.int .i64 c3,.slice ad3 ln3 cp3]) (by simp[results,Tryz.results53,go_sem,x0,x1,x2,x3]) rfl ?_
   exact B5 hv3 hp3 ((HS.out.gr.trans hg2).trans hg3) hB
theorem Pt(Q B:Nat)(v:Value)(S:Src9)(hl:AP S)(hnf:CE S)(s:PS)(n0:A2 S CT s=false)(n1:A2 S wIf s=false)(n2:A2 S C0 s=false)(n3:A2 S Bs s=false)(n4:A2 S CN s=false)(n5:A2 S DX s=false)(n6:A2 S Dd s=false)(n7:A2 S Cu s=false)(hset:Cv S s=false)(y:A2 S Ek s=true)(w:World)(hp:Rdr w Q B v S s) :
  Calls Tryz.prog 53 #[.pointer (some ⟨Q,0,none⟩)] w fun e w'=>BW Q B v S w (Bo w) (Gm S 16 s.step) e w':=by
 have hB:=hp.size
 have hqb:=hp.qb
 have HS:=At17.first hp
 have t0:NoW S s ⟨#[118,97,114]⟩:=⟨⟨CT,by decide,by decide,n0⟩⟩
 have t1:NoW S s ⟨#[105,102]⟩:=⟨⟨wIf,by decide,by decide,n1⟩⟩
 have t2:NoW S s ⟨#[119,104,105,108,101]⟩:=⟨⟨C0,by decide,by decide,n2⟩⟩
 have t3:NoW S s ⟨#[114,101,116,117,114,110]⟩:=⟨⟨Bs,by decide,by decide,n3⟩⟩
 have t4:NoW S s ⟨#[112,114,105,110,116]⟩:=⟨⟨CN,by decide,by decide,n4⟩⟩
 have t5:NoW S s ⟨#[102,111,114,107]⟩:=⟨⟨DX,by decide,by decide,n5⟩⟩
 have t6:NoW S s ⟨#[119,97,105,116]⟩:=⟨⟨Dd,by decide,by decide,n6⟩⟩
 have t7:NoW S s ⟨#[115,105,103,110,97,108]⟩:=⟨⟨Cu,by decide,by decide,n7⟩⟩
 have hno:=At17.no (w:=w) (Q:=Q) (B:=B) (v:=v) hl (Z5 hqb hB) (s:=s)
 have hbs:=At17.set (w:=w) (Q:=Q) (B:=B) (v:=v) (Z5 hqb hB) hset
 have hty:=fun w' (h':Rdr w' Q B v S s)=>BC hl (x:=⟨#[115,119,97,112]⟩) (l:=Ek) (by decide) (by decide) (by decide) (by decide) y w' h'
 have hse:=Mc Q B v S hl hnf s.step
 unfold AM at hse
 clear hp y hset n0 n1 n2 n3 n4 n5 n6 n7
 cases hq:Gm S 16 s.step with
 | error f=>
  rw[hq]at hse
  clear hq
  go_enter Tryz.func53,Tryz.ntmps53
  go_wp2_with (first | (go_at_call_of 49 (Value.string ⟨#[115,119,97,112]⟩);refine(hty _ HS.out.rd).mono ?_;rintro e wy ⟨rfl,hpy,hgy'⟩;have hgy:=HS.out.gr.trans hgy';have hXy:=HS.out.bx.grown hgy' (by omega);have hly:=hXy.lt) | (go_at_call 49;refine(hno _ (by first | exact t0 | exact t1 | exact t2 | exact t3 | exact t4 | exact t5 | exact t6 | exact t7) _ HS.out).mono ?_;clear HS;rintro e wx ⟨rfl,HS⟩) | (go_at_call 75;refine(hbs _ HS.out).mono ?_;clear HS;rintro e wx ⟨rfl,HS⟩) | (go_at_call 80;refine(hse _ hpy).mono ?_;rintro e w2 ⟨rfl,hg2⟩))
  exact⟨rfl,rfl,hgy.trans hg2⟩
 | ok z=>
  obtain⟨k,s2⟩:=z
  rw[hq]at hse
  clear hq
  go_enter Tryz.func53,Tryz.ntmps53
  go_wp2_with (first | (go_at_call_of 49 (Value.string ⟨#[115,119,97,112]⟩);refine(hty _ HS.out.rd).mono ?_;rintro e wy ⟨rfl,hpy,hgy'⟩;have hgy:=HS.out.gr.trans hgy';have hXy:=HS.out.bx.grown hgy' (by omega);have hly:=hXy.lt) | (go_at_call 49;refine(hno _ (by first | exact t0 | exact t1 | exact t2 | exact t3 | exact t4 | exact t5 | exact t6 | exact t7) _ HS.out).mono ?_;clear HS;rintro e wx ⟨rfl,HS⟩) | (go_at_call 75;refine(hbs _ HS.out).mono ?_;clear HS;rintro e wx ⟨rfl,HS⟩) | (go_at_call 80;refine(hse _ hpy).mono ?_;rintro e w2 ⟨u2,rfl,hv2,hp2,hg2⟩;obtain⟨a,b,c,ad,ln,cp,hu⟩:=NodeV.any hv2;subst hu;have hlx:=hXy.lt;obtain⟨⟨x0,x1,x2,x3⟩,f0,f1,f2,f3⟩:=(hXy.grown hg2 (by omega)).facts))
  refine bodyPost_ret (v:=.agg #[.int .i64 a,.string b,.int .i64 c,.slice ad ln cp]) (by simp[results,Tryz.results53,go_sem,x0,x1,x2,x3]) rfl ?_
  exact B5 (Zi hv2 (fun j hj _=>by have hj':wy.heap.size<=j:=hj;show w.heap.size+1<=j;omega)) hp2 (hgy.trans hg2) hB
theorem Pu(Q B:Nat)(v:Value)(S:Src9)(hl:AP S)(s:PS)(n0:A2 S CT s=false)(n1:A2 S wIf s=false)(n2:A2 S C0 s=false)(n3:A2 S Bs s=false)(n4:A2 S CN s=false)(hset:Cv S s=false)(y:A2 S DX s=true)(hbk:AM 35 (Aj S) Q B v S s.step)(w:World)(hp:Rdr w Q B v S s) :
  Calls Tryz.prog 53 #[.pointer (some ⟨Q,0,none⟩)] w fun e w'=>BW Q B v S w (Bo w) ((Aj S s.step).then fun b s=>AJ 13 [] 0 [b] s) e w':=by
 have hB:=hp.size
 have hqb:=hp.qb
 have HS:=At17.first hp
 have t0:NoW S s ⟨#[118,97,114]⟩:=⟨⟨CT,by decide,by decide,n0⟩⟩
 have t1:NoW S s ⟨#[105,102]⟩:=⟨⟨wIf,by decide,by decide,n1⟩⟩
 have t2:NoW S s ⟨#[119,104,105,108,101]⟩:=⟨⟨C0,by decide,by decide,n2⟩⟩
 have t3:NoW S s ⟨#[114,101,116,117,114,110]⟩:=⟨⟨Bs,by decide,by decide,n3⟩⟩
 have t4:NoW S s ⟨#[112,114,105,110,116]⟩:=⟨⟨CN,by decide,by decide,n4⟩⟩
 have hno:=At17.no (w:=w) (Q:=Q) (B:=B) (v:=v) hl (Z5 hqb hB) (s:=s)
 have hbs:=At17.set (w:=w) (Q:=Q) (B:=B) (v:=v) (Z5 hqb hB) hset
 have hty:=fun w' (h':Rdr w' Q B v S s)=>BC hl (x:=⟨#[102,111,114,107]⟩) (l:=DX) (by decide) (by decide) (by decide) (by decide) y w' h'
 unfold AM at hbk
 clear hp y hset n0 n1 n2 n3 n4
 cases hq:Aj S s.step with
 | error f=>
  rw[hq]at hbk
  clear hq
  go_enter Tryz.func53,Tryz.ntmps53
  go_wp2_with (first | (go_at_call_of 49 (Value.string ⟨#[102,111,114,107]⟩);refine(hty _ HS.out.rd).mono ?_;rintro e wy ⟨rfl,hpy,hgy'⟩;have hgy:=HS.out.gr.trans hgy';have hXy:=HS.out.bx.grown hgy' (by omega);have hly:=hXy.lt) | (go_at_call 49;refine(hno _ (by first | exact t0 | exact t1 | exact t2 | exact t3 | exact t4) _ HS.out).mono ?_;clear HS;rintro e wx ⟨rfl,HS⟩) | (go_at_call 75;refine(hbs _ HS.out).mono ?_;clear HS;rintro e wx ⟨rfl,HS⟩) | (go_at_call 35;refine(hbk _ hpy).mono ?_;rintro e w2 ⟨rfl,hg2⟩))
  exact⟨rfl,rfl,hgy.trans hg2⟩
 | ok z=>
  obtain⟨k,s2⟩:=z
  rw[hq]at hbk
  rw[then_ok]
  clear hq
  go_enter Tryz.func53,Tryz.ntmps53
  go_wp2_with (first | (go_at_call_of 49 (Value.string ⟨#[102,111,114,107]⟩);refine(hty _ HS.out.rd).mono ?_;rintro e wy ⟨rfl,hpy,hgy'⟩;have hgy:=HS.out.gr.trans hgy';have hXy:=HS.out.bx.grown hgy' (by omega);have hly:=hXy.lt) | (go_at_call 49;refine(hno _ (by first | exact t0 | exact t1 | exact t2 | exact t3 | exact t4) _ HS.out).mono ?_;clear HS;rintro e wx ⟨rfl,HS⟩) | (go_at_call 75;refine(hbs _ HS.out).mono ?_;clear HS;rintro e wx ⟨rfl,HS⟩) | (go_at_call 35;refine(hbk _ hpy).mono ?_;rintro e w2 ⟨u2,rfl,hv2,hp2,hg2⟩;obtain⟨a,b,c,ad,ln,cp,hu⟩:=NodeV.any hv2;subst hu;have hX2:=hXy.grown hg2 (by omega);have hl2:=hX2.lt) | (go_at_call 37;refine(CY _ _ _ _ _).mono ?_;rintro e w4 ⟨rfl,hb4⟩;obtain⟨⟨x0,x1,x2,x3⟩,f0,f1,f2,f3⟩:=((hX2.alloc _).grown (A3 Q hb4) (by omega)).facts))
  refine bodyPost_ret (v:=.agg #[.int .i64 13,.string ⟨#[]⟩,.int .i64 0,.slice (some ⟨w2.heap.size,0,none⟩) 1 1]) (by simp[results,Tryz.results53,go_sem,x0,x1,x2,x3]) rfl ?_
  exact Dx (L3 (T:=24) (Zi hv2 (fun j hj _=>by have hj':wy.heap.size<=j:=hj;show w.heap.size+1<=j;omega)) (by show w.heap.size+1<=w2.heap.size;omega) 1) hb4 (hp2.below ((Zg _ _).alloc (Z0 _) _)) ((hgy.trans hg2).trans (Zf _ _ _)) hB
theorem SU(Q B:Nat)(v:Value)(S:Src9)(hl:AP S)(s:PS)(n0:A2 S CT s=false)(hset:Cv S s=false)(y:A2 S wIf s=true)(X:PS->Got Nd)(hch:AM 76 X Q B v S s.step)(w:World)(hp:Rdr w Q B v S s) :
  Calls Tryz.prog 53 #[.pointer (some ⟨Q,0,none⟩)] w fun e w'=>BW Q B v S w (Bo w) (X s.step) e w':=by
 have hB:=hp.size
 have hqb:=hp.qb
 have HS:=At17.first hp
 have t0:NoW S s ⟨#[118,97,114]⟩:=⟨⟨CT,by decide,by decide,n0⟩⟩
 have hno:=At17.no (w:=w) (Q:=Q) (B:=B) (v:=v) hl (Z5 hqb hB) (s:=s)
 have hbs:=At17.set (w:=w) (Q:=Q) (B:=B) (v:=v) (Z5 hqb hB) hset
 have hty:=fun w' (h':Rdr w' Q B v S s)=>BC hl (x:=⟨#[105,102]⟩) (l:=wIf) (by decide) (by decide) (by decide) (by decide) y w' h'
 unfold AM at hch
 clear hp y hset n0
 cases hq:X s.step with
 | error f=>
  rw[hq]at hch
  clear hq
  go_enter Tryz.func53,Tryz.ntmps53
  go_wp2_with (first | (go_at_call_of 49 (Value.string ⟨#[105,102]⟩);refine(hty _ HS.out.rd).mono ?_;rintro e wy ⟨rfl,hpy,hgy'⟩;have hgy:=HS.out.gr.trans hgy';have hXy:=HS.out.bx.grown hgy' (by omega);have hly:=hXy.lt) | (go_at_call 49;refine(hno _ (by first | exact t0) _ HS.out).mono ?_;clear HS;rintro e wx ⟨rfl,HS⟩) | (go_at_call 75;refine(hbs _ HS.out).mono ?_;clear HS;rintro e wx ⟨rfl,HS⟩) | (go_at_call 76;refine(hch _ hpy).mono ?_;rintro e w2 ⟨rfl,hg2⟩))
  exact⟨rfl,rfl,hgy.trans hg2⟩
 | ok z=>
  obtain⟨k,s2⟩:=z
  rw[hq]at hch
  clear hq
  go_enter Tryz.func53,Tryz.ntmps53
  go_wp2_with (first | (go_at_call_of 49 (Value.string ⟨#[105,102]⟩);refine(hty _ HS.out.rd).mono ?_;rintro e wy ⟨rfl,hpy,hgy'⟩;have hgy:=HS.out.gr.trans hgy';have hXy:=HS.out.bx.grown hgy' (by omega);have hly:=hXy.lt) | (go_at_call 49;refine(hno _ (by first | exact t0) _ HS.out).mono ?_;clear HS;rintro e wx ⟨rfl,HS⟩) | (go_at_call 75;refine(hbs _ HS.out).mono ?_;clear HS;rintro e wx ⟨rfl,HS⟩) | (go_at_call 76;refine(hch _ hpy).mono ?_;rintro e w2 ⟨u2,rfl,hv2,hp2,hg2⟩;obtain⟨a,b,c,ad,ln,cp,hu⟩:=NodeV.any hv2;subst hu;have hlx:=hXy.lt;obtain⟨⟨x0,x1,x2,x3⟩,f0,f1,f2,f3⟩:=(hXy.grown hg2 (by omega)).facts))
  refine bodyPost_ret (v:=.agg #[.int .i64 a,.string b,.int .i64 c,.slice ad ln cp]) (by simp[results,Tryz.results53,go_sem,x0,x1,x2,x3]) rfl ?_
  exact B5 (Zi hv2 (fun j hj _=>by have hj':wy.heap.size<=j:=hj;show w.heap.size+1<=j;omega)) hp2 (hgy.trans hg2) hB
theorem NY{S:Src9}{s s':PS}{n:Nd}(h:Bw S s=.ok (n,s')):s.tok+2<=s'.tok:=by
 unfold Bw at h
 cases h1:A8 S AD s with
 | error f=>rw[h1]at h;cases h
 | ok y=>
  obtain⟨⟨⟩,s1⟩:=y
  have e1:=(Eh h1).1
  rw[h1,then_ok]at h
  cases h2:Ao S s1 with
  | error f=>rw[h2]at h;cases h
  | ok y=>
   obtain⟨k,s2⟩:=y
   have e2:=(JV h2).1
   rw[h2,then_ok]at h
   cases h3:A8 S A9 s2 with
   | error f=>rw[h3]at h;cases h
   | ok y=>
    obtain⟨⟨⟩,s3⟩:=y
    have e3:=(Eh h3).1
    rw[h3,then_ok]at h
    cases h
    omega
theorem OO(Q B:Nat)(v:Value)(S:Src9)(hl:AP S)(s:PS)(n0:A2 S CT s=false)(n1:A2 S wIf s=false)(hset:Cv S s=false)(y:A2 S C0 s=true)(hcd:AM 77 (Bw S) Q B v S s.step)(hbk:∀s1:PS,s.tok+1<=s1.tok->s1.tok<=S.L.length->AM 35 (Aj S) Q B v S s1)(w:World)(hp:Rdr w Q B v S s) :
  Calls Tryz.prog 53 #[.pointer (some ⟨Q,0,none⟩)] w fun e w'=>BW Q B v S w (Bo w) ((Bw S s.step).then fun k s=>(Aj S s).then fun b s=>AJ 10 [] 0 [k,b] s) e w':=by
 have hB:=hp.size
 have hqb:=hp.qb
 have HPA:Hid (Rdr (w.alloc A6) Q B v S s):=hp.below ((Zg _ w).alloc (Z0 _) _)
 have HX:=ZC w
 have ht0:=fun w' (h':Rdr w' Q B v S s)=>Az hl (x:=⟨#[118,97,114]⟩) (l:=CT) (by decide) (by decide) n0 w' h'
 have ht1:=fun w' (h':Rdr w' Q B v S s)=>Az hl (x:=⟨#[105,102]⟩) (l:=wIf) (by decide) (by decide) n1 w' h'
 have hbs:∀w',Rdr w' Q B v S s->Calls Tryz.prog 75 #[.pointer (some ⟨Q,0,none⟩)] w' fun e w''=>e=.returned (.bool false)/\Below w'.heap.size w' w'':=fun w' h'=>by have:=Jy Q B v S s w' h';rw[hset]at this;exact this
 have hty:=fun w' (h':Rdr w' Q B v S s)=>BC hl (x:=⟨#[119,104,105,108,101]⟩) (l:=C0) (by decide) (by decide) (by decide) (by decide) y w' h'
 unfold AM at hcd
 have HBK:Hid (∀s1:PS,s.tok+1<=s1.tok->s1.tok<=S.L.length->AM 35 (Aj S) Q B v S s1):=hbk
 have ht:=AG y
 clear hp y hset hbk n0 n1
 cases hq:Bw S s.step with
 | error f=>
  rw[hq]at hcd
  clear hq
  go_enter Tryz.func53,Tryz.ntmps53
  go_wp2_with (first | (go_at_call_of 49 (Value.string ⟨#[118,97,114]⟩);refine(ht0 _ HPA.out).mono ?_;rintro e wa ⟨rfl,hpa,hga'⟩;have hga:=(Zf w A6 (some Q)).trans hga';have hXa:=HX.out.grown hga' (by omega)) | (go_at_call 75;refine(hbs _ hpa).mono ?_;rintro e wb ⟨rfl,hbb'⟩;have hpb:=hpa.below hbb';have hgb:=hga.trans (A3 Q hbb');have hXb:=hXa.grown (A3 Q hbb') (by omega)) | (go_at_call_of 49 (Value.string ⟨#[105,102]⟩);refine(ht1 _ hpb).mono ?_;rintro e wc ⟨rfl,hpc,hgc'⟩;have hgc:=hgb.trans hgc';have hXc:=hXb.grown hgc' (by omega)) | (go_at_call_of 49 (Value.string ⟨#[119,104,105,108,101]⟩);refine(hty _ hpc).mono ?_;rintro e wy ⟨rfl,hpy,hgy'⟩;have hgy:=hgc.trans hgy';have hXy:=hXc.grown hgy' (by omega);have hly:=hXy.lt) | (go_at_call 77;refine(hcd _ hpy).mono ?_;rintro e w2 ⟨rfl,hg2⟩))
  exact⟨rfl,rfl,hgy.trans hg2⟩
 | ok z=>
  obtain⟨k,s2⟩:=z
  have ht2:=NY hq
  rw[hq]at hcd
  rw[then_ok]
  clear hq
  have hr:∀w',Rdr w' Q B v S s2->Calls Tryz.prog 35 #[.pointer (some ⟨Q,0,none⟩)] w' fun e w''=>BW Q B v S w' (Bo w') (Aj S s2) e w'':=fun w' h'=>HBK.out s2 (by have e:s.step.tok=s.tok+1:=rfl;omega) h'.tok w' h'
  clear ht ht2 HBK
  cases hq:Aj S s2 with
  | error f=>
   rw[hq]at hr
   clear hq
   go_enter Tryz.func53,Tryz.ntmps53
   go_wp2_with (first | (go_at_call_of 49 (Value.string ⟨#[118,97,114]⟩);refine(ht0 _ HPA.out).mono ?_;rintro e wa ⟨rfl,hpa,hga'⟩;have hga:=(Zf w A6 (some Q)).trans hga';have hXa:=HX.out.grown hga' (by omega)) | (go_at_call 75;refine(hbs _ hpa).mono ?_;rintro e wb ⟨rfl,hbb'⟩;have hpb:=hpa.below hbb';have hgb:=hga.trans (A3 Q hbb');have hXb:=hXa.grown (A3 Q hbb') (by omega)) | (go_at_call_of 49 (Value.string ⟨#[105,102]⟩);refine(ht1 _ hpb).mono ?_;rintro e wc ⟨rfl,hpc,hgc'⟩;have hgc:=hgb.trans hgc';have hXc:=hXb.grown hgc' (by omega)) | (go_at_call_of 49 (Value.string ⟨#[119,104,105,108,101]⟩);refine(hty _ hpc).mono ?_;rintro e wy ⟨rfl,hpy,hgy'⟩;have hgy:=hgc.trans hgy';have hXy:=hXc.grown hgy' (by omega);have hly:=hXy.lt) | (go_at_call 77;refine(hcd _ hpy).mono ?_;rintro e w2 ⟨u2,rfl,hv2,hp2,hg2⟩;obtain⟨a,b,c,ad,ln,cp,hu⟩:=NodeV.any hv2;subst hu;have hX2:=hXy.grown hg2 (by omega);have hl2:=hX2.lt))
   have hRA:Rdr (w2.alloc (.cells #[.int .i64 a,.string b,.int .i64 c,.slice ad ln cp] 24)).drew Q B v S s2:=hp2.below ((Zg _ _).alloc (Z0 _) _).drew
   have hGA:w.grownBy (w2.alloc (.cells #[.int .i64 a,.string b,.int .i64 c,.slice ad ln cp] 24)).drew (some Q):=(hgy.trans hg2).trans (A3 Q ((Zg _ _).alloc (Z0 _) _).drew)
   obtain⟨⟨r0,r1,r2,r3⟩,_⟩:=(Box4.new w2 (.int .i64 a) (.string b) (.int .i64 c) (.slice ad ln cp)).facts
   go_region_dies
   all_goals (refine(hr _ hRA).mono ?_;rintro e w3 ⟨rfl,hg3⟩;exact⟨rfl,rfl,hGA.trans hg3⟩)
  | ok z=>
   obtain⟨m,s3⟩:=z
   rw[hq]at hr
   rw[then_ok]
   clear hq
   go_enter Tryz.func53,Tryz.ntmps53
   go_wp2_with (first | (go_at_call_of 49 (Value.string ⟨#[118,97,114]⟩);refine(ht0 _ HPA.out).mono ?_;rintro e wa ⟨rfl,hpa,hga'⟩;have hga:=(Zf w A6 (some Q)).trans hga';have hXa:=HX.out.grown hga' (by omega)) | (go_at_call 75;refine(hbs _ hpa).mono ?_;rintro e wb ⟨rfl,hbb'⟩;have hpb:=hpa.below hbb';have hgb:=hga.trans (A3 Q hbb');have hXb:=hXa.grown (A3 Q hbb') (by omega)) | (go_at_call_of 49 (Value.string ⟨#[105,102]⟩);refine(ht1 _ hpb).mono ?_;rintro e wc ⟨rfl,hpc,hgc'⟩;have hgc:=hgb.trans hgc';have hXc:=hXb.grown hgc' (by omega)) | (go_at_call_of 49 (Value.string ⟨#[119,104,105,108,101]⟩);refine(hty _ hpc).mono ?_;rintro e wy ⟨rfl,hpy,hgy'⟩;have hgy:=hgc.trans hgy';have hXy:=hXc.grown hgy' (by omega);have hly:=hXy.lt) | (go_at_call 77;refine(hcd _ hpy).mono ?_;rintro e w2 ⟨u2,rfl,hv2,hp2,hg2⟩;obtain⟨a,b,c,ad,ln,cp,hu⟩:=NodeV.any hv2;subst hu;have hX2:=hXy.grown hg2 (by omega);have hl2:=hX2.lt))
   have hRA:Rdr (w2.alloc (.cells #[.int .i64 a,.string b,.int .i64 c,.slice ad ln cp] 24)).drew Q B v S s2:=hp2.below ((Zg _ _).alloc (Z0 _) _).drew
   have hGA:w.grownBy (w2.alloc (.cells #[.int .i64 a,.string b,.int .i64 c,.slice ad ln cp] 24)).drew (some Q):=(hgy.trans hg2).trans (A3 Q ((Zg _ _).alloc (Z0 _) _).drew)
   have hN2:=Box4.new w2 (.int .i64 a) (.string b) (.int .i64 c) (.slice ad ln cp)
   obtain⟨⟨r0,r1,r2,r3⟩,_⟩:=hN2.facts
   go_region_with (first | (go_at_call 37;refine(CY _ _ _ _ _).mono ?_;rintro e w4 ⟨rfl,hb4⟩;obtain⟨⟨x0,x1,x2,x3⟩,f0,f1,f2,f3⟩:=((hX3.alloc _).grown (A3 Q hb4) (by omega)).facts) | (go_at_call 35;refine(hr _ hRA).mono ?_;rintro e w3 ⟨u3,rfl,hv3,hp3,hg3⟩;obtain⟨a',b',c',ad',n',cc',hu'⟩:=NodeV.any hv3;subst hu';have hg3':(w2.alloc (.cells #[.int .i64 a,.string b,.int .i64 c,.slice ad ln cp] 24)).grownBy w3 (some Q):=(A3 Q (Zg _ _).drew).trans hg3;have hX3:=(hX2.alloc (.cells #[.int .i64 a,.string b,.int .i64 c,.slice ad ln cp] 24)).grown hg3' (by omega);obtain⟨⟨m0,m1,m2,m3⟩,_⟩:=(hN2.grown hg3' (by omega)).facts))
   all_goals go_wp2_with fail
   all_goals
    have hl3:=hg3'.size
    simp at hl3
    have hga:w.grownBy w3 (some Q):=hGA.trans hg3
    have hn3:NodeV w3 (Be (w.heap.size+1)) (.agg #[.int .i64 a,.string b,.int .i64 c,.slice ad ln cp]) k:=(Zi hv2 (M':=Be (w.heap.size+1)) (fun j hj _=>by have hj':wy.heap.size<=j:=hj;show w.heap.size+1<=j;omega)).kept ((Zf _ _ _).trans hg3') (by show ¬w.heap.size+1<=Q;omega)
    have hk3:NodeV w3 (Be (w.heap.size+1)) (.agg #[.int .i64 a',.string b',.int .i64 c',.slice ad' n' cc']) m:=Zi hv3 (fun j hj _=>by have hj':(w2.alloc (.cells #[.int .i64 a,.string b,.int .i64 c,.slice ad ln cp] 24)).heap.size<=j:=hj;simp at hj';show w.heap.size+1<=j;omega)
    refine bodyPost_ret (v:=.agg #[.int .i64 10,.string ⟨#[]⟩,.int .i64 0,.slice (some ⟨w3.heap.size,0,none⟩) 2 2]) (by simp[results,Tryz.results53,go_sem,x0,x1,x2,x3]) rfl ?_
    exact Dx (Pf (T:=24) hn3 hk3 (by show w.heap.size+1<=w3.heap.size;omega) 2) hb4 (hp3.below ((Zg _ _).alloc (Z0 _) _)) (hga.trans (Zf _ _ _)) hB
end Go.Proofs.YtbglpanjpadldaaGreatDoor
