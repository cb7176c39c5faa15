/- Texts in one. -/
import Derived.Test.YtpfdgbalchmmfaaGreatDoorOd
set_option linter.unusedSimpArgs false
set_option linter.unusedVariables false
set_option maxHeartbeats 16000000
set_option maxRecDepth 20000
namespace Go.Proofs.YtpfdgbalchmmfaaGreatDoor
open Go.RowKit
theorem K7(c:CnO)(k m:Int)(x:ByteArray)(ad:Option Addr)(n cp:Nat)(R at':Nat)(vs vN vl:Value)(slots:List ByteArray)(s:MW)(w:World)(h:WrP w c R at' vs slots s vN vl)(hfew:s.locals.length<=900000)(loc slot:Int)(hk:(k=31/\loc=6/\slot=8)\/(k=8/\loc=7/\slot=9)) :
  Calls Tryz.prog 66 #[.pointer (some ⟨R,0,none⟩),.agg #[.int .i64 k,.string x,.int .i64 m,.slice ad n cp]] w fun e w'=>Kc w c R at' vs slots (s,FK slots s x loc slot) vN vl e w':=by
 obtain⟨w1,EW,HB1,hX,hO⟩:=GD w k m x (.slice ad n cp)
 have h1:=h.below HB1.out
 obtain⟨la,lc,rfl,_,_⟩:=BS h.wr.row
 obtain⟨⟨o1,o2,o3⟩,HO3⟩:∃o:Ord,Hid (FK slots s x loc slot=o):=⟨_,rfl⟩
 have hco:=Rm R c.Q at' vs la lc loc slot x s.locals slots c.BB (c.Q+1) w1 h1.wr.obj h1.wr.row h1.wr.slots hfew o1 o2 o3 (by show _=_;rw[<-TB];exact HO3.out)
 have HP:Hid (WrP w c R at' vs slots s vN (.slice la s.locals.length lc)):=h
 have HO:Hid (OBox w1 (w.heap.size+1) 0 0 0):=hO
 rw[EW.out]at hco
 rw[HO3.out]
 clear h h1 hX hO
 rcases hk with⟨rfl,rfl,rfl⟩ | ⟨rfl,rfl,rfl⟩
 all_goals go_enter Tryz.func66,Tryz.ntmps66
 all_goals (go_wp2_with (first
  | (go_at_call 83;refine hco.mono ?_;rintro e w2 ⟨rfl,hb2⟩;rw[<-EW.out]at hb2;have hO2:OBox w2 (w.heap.size+1) 0 0 0:=(hb2.block _ HO.out.lt).trans HO.out;obtain⟨p0,p1,p2⟩:=hO2.facts;have f0:=hO2.frozen 0;have f1:=hO2.frozen 1;have f2:=hO2.frozen 2;have hlo:=hO2.lt)))
 all_goals (have q:=(hO2.set3 o1 o2 o3).facts)
 all_goals (exact bodyPost_ret (v:=.agg #[.int .i64 o1,.int .i64 o2,.int .i64 o3]) (by simp[results,Tryz.results66,go_sem,q.1,q.2.1,q.2.2]) rfl ⟨rfl,(OutP.first HP.out).below (LT (HB1.out.trans (hb2.mono HB1.out.size)) (by omega) _ _ _)⟩)
theorem Rn(c:CnO)(hcl:c.cls.length<=90000)(k m:Int)(x:ByteArray)(ad:Option Addr)(n cp:Nat)(R at' b:Nat)(vs vN vl:Value)(slots:List ByteArray)(s:MW)(w:World)(h:WrP w c R at' vs slots s vN vl)(hk:KindO k m)(hat:at'<s.lists.length)(hf:FewO s b)(hb:b<=90000)(hn:n<=90000) :
  Calls Tryz.prog 66 #[.pointer (some ⟨R,0,none⟩),.agg #[.int .i64 k,.string x,.int .i64 m,.slice ad n cp]] w fun e w'=>Kc w c R at' vs slots (Ai c.cls slots at' k x m n s) vN vl e w':=by
 have hl:=hf.locals
 have hnm:=hf.names
 have hls:=hf.lists
 rcases hk with⟨rfl,_,_⟩ | rfl | rfl | rfl | rfl | rfl | hk
 ·have e:Ai c.cls slots at' 26 x m n s=(s,(1,m,0)):=by unfold Ai;rw[if_pos rfl]
  rw[e]
  exact Rg c m x ad n cp R at' vs vN vl slots s w h
 ·have e:Ai c.cls slots at' 30 x m n s=(s,(5,AX c.cls x,0)):=by unfold Ai;rw[if_neg (by decide),if_pos rfl]
  rw[e]
  exact Rh c m x ad n cp R at' vs vN vl slots s w h (by omega)
 ·have e:Ai c.cls slots at' 31 x m n s=(s,FK slots s x 6 8):=by unfold Ai;rw[if_neg (by decide),if_neg (by decide),if_neg (by decide),if_pos rfl]
  rw[e]
  exact K7 c 31 m x ad n cp R at' vs vN vl slots s w h (by omega) 6 8 (Or.inl ⟨rfl,rfl,rfl⟩)
 ·have e:Ai c.cls slots at' 8 x m n s=(s,FK slots s x 7 9):=by unfold Ai;rw[if_neg (by decide),if_neg (by decide),if_neg (by decide),if_neg (by decide),if_pos rfl]
  rw[e]
  exact K7 c 8 m x ad n cp R at' vs vN vl slots s w h (by omega) 7 9 (Or.inr ⟨rfl,rfl,rfl⟩)
 ·have e:Ai c.cls slots at' 7 x m n s=(s.local at' x,(7,(s.locals.length:Int),0)):=by unfold Ai;rw[if_neg (by decide),if_neg (by decide),if_neg (by decide),if_neg (by decide),if_neg (by decide),if_pos rfl]
  rw[e]
  have hac:at'<s.counts.length:=by rw[hf.same];exact hat
  exact Rj c m x ad n cp R at' vs vN vl slots s w h hac (by omega) (Za (hf.counts _ (Z6 hac)) (by omega)) (by rw[hf.same];omega)
 ·have e:Ai c.cls slots at' 25 x m n s=(s.known x,(10,s.nameNo x,(n:Int)-1)):=by unfold Ai;rw[if_neg (by decide),if_neg (by decide),if_pos rfl]
  rw[e]
  exact QN c m x ad n cp R at' vs vN vl slots s w h (by omega) (by omega)
 ·exact On c k m x ad n cp R at' vs vN vl slots s w h hk
theorem KindO.ne{k m:Int}(hk:KindO k m):k≠6/\k≠13/\k≠10/\k≠9:=by unfold KindO at hk;omega
theorem Ow(cls slots:List ByteArray)(k:Nat)(kd:Int)(x:ByteArray)(m:Int)(len:Nat)(s:MW):s.lists.length<=(Ai cls slots k kd x m len s).1.lists.length:=by
 unfold Ai
 split;exact Z0 _
 split;exact Z0 _
 split
 ·show _<=(MW.known _ _).lists.length
  unfold MW.known
  split<;>exact Z0 _
 split;exact Z0 _
 split;exact Z0 _
 split;exact Z0 _
 exact Z0 _
theorem U4{w0 w:World}{c:CnO}{R at' b n cp:Nat}{vs vN vl:Value}{slots:List ByteArray}{s:MW}{k m:Int}{x:ByteArray}{ad:Option Addr}(hcl:c.cls.length<=90000)(H:OutP w0 c R at' vs slots s vN vl w)(hk:KindO k m)(hat:at'<s.lists.length)(hf:FewO s b)(hb:b<=90000)(hn:n<=90000) :
  Calls Tryz.prog 66 #[.pointer (some ⟨R,0,none⟩),.agg #[.int .i64 k,.string x,.int .i64 m,.slice ad n cp]] w fun e w'=>e=.returned (.agg #[.int .i64 (Ai c.cls slots at' k x m n s).2.1,.int .i64 (Ai c.cls slots at' k x m n s).2.2.1,.int .i64 (Ai c.cls slots at' k x m n s).2.2.2])/\OutP w0 c R at' vs slots (Ai c.cls slots at' k x m n s).1 vN vl w':=by
 obtain⟨vN1,vl1,hw,hfr,hn1,hl1⟩:=H
 exact(Rn c hcl k m x ad n cp R at' b vs vN1 vl1 slots s w hw hk hat hf hb hn).mono fun e w' ⟨h1,h2⟩=>⟨h1,OutP.trans hfr hn1 hl1 h2⟩
theorem Hs(R:Nat)(m:Int)(x:ByteArray)(ad:Option Addr)(n cp:Nat)(w:World)(P:World->Prop) :
  (Calls Tryz.prog 63 #[.pointer (some ⟨R,0,none⟩),.agg #[.int .i64 9,.string x,.int .i64 m,.slice ad n cp]] (w.alloc (.cells #[.int .i64 9,.string x,.int .i64 m,.slice ad n cp] 39)) (fun e w'=>e=.returned (.tuple #[])/\P w')->Calls Tryz.prog 33 #[.pointer (some ⟨R,0,none⟩),.agg #[.int .i64 9,.string x,.int .i64 m,.slice ad n cp]] w (fun e w'=>e=.returned (.tuple #[])/\P w')) /\
  (Calls Tryz.prog 64 #[.pointer (some ⟨R,0,none⟩),.agg #[.int .i64 10,.string x,.int .i64 m,.slice ad n cp]] (w.alloc (.cells #[.int .i64 10,.string x,.int .i64 m,.slice ad n cp] 39)) (fun e w'=>e=.returned (.tuple #[])/\P w')->Calls Tryz.prog 33 #[.pointer (some ⟨R,0,none⟩),.agg #[.int .i64 10,.string x,.int .i64 m,.slice ad n cp]] w (fun e w'=>e=.returned (.tuple #[])/\P w')) /\
  (Calls Tryz.prog 65 #[.pointer (some ⟨R,0,none⟩),.agg #[.int .i64 13,.string x,.int .i64 m,.slice ad n cp]] (w.alloc (.cells #[.int .i64 13,.string x,.int .i64 m,.slice ad n cp] 39)) (fun e w'=>e=.returned (.tuple #[])/\P w')->Calls Tryz.prog 33 #[.pointer (some ⟨R,0,none⟩),.agg #[.int .i64 13,.string x,.int .i64 m,.slice ad n cp]] w (fun e w'=>e=.returned (.tuple #[])/\P w')):=by
 refine⟨fun hcl=>?_,fun hcl=>?_,fun hcl=>?_⟩
 ·go_enter Tryz.func33,Tryz.ntmps33
  go_wp2_with (first | (go_at_call 63;refine hcl.mono ?_;rintro e w2 ⟨rfl,hP⟩))
  exact bodyPost_end (v:=.tuple #[]) (by simp[results,Tryz.results33,go_sem]) rfl ⟨rfl,hP⟩
 ·go_enter Tryz.func33,Tryz.ntmps33
  go_wp2_with (first | (go_at_call 64;refine hcl.mono ?_;rintro e w2 ⟨rfl,hP⟩))
  exact bodyPost_end (v:=.tuple #[]) (by simp[results,Tryz.results33,go_sem]) rfl ⟨rfl,hP⟩
 ·go_enter Tryz.func33,Tryz.ntmps33
  go_wp2_with (first | (go_at_call 65;refine hcl.mono ?_;rintro e w2 ⟨rfl,hP⟩))
  exact bodyPost_end (v:=.tuple #[]) (by simp[results,Tryz.results33,go_sem]) rfl ⟨rfl,hP⟩
theorem Rr(c:CnO)(hcl:c.cls.length<=90000)(k m:Int)(tx:List Int)(ks:List Nd)(hks:∀i (h:i<ks.length),DZ c ks[i])(hk:KindO k m):DZ c (.mk k tx m ks):=by
 intro R at' vs vN vl u slots s b w h hat hf hb hu
 obtain⟨xk,hu1,ad,c0,hx1,hkk⟩:=hu
 obtain⟨cc,hcc⟩:∃cc,c0+ks.length=cc:=⟨_,rfl⟩
 have hx2:xk=.slice ad ks.length cc:=by rw[<-hcc];exact hx1
 subst hx2
 have hu2:u=.agg #[.int .i64 k,.string (strOfNums tx),.int .i64 m,.slice ad ks.length cc]:=hu1
 subst hu2
 have esz:A0 (.mk k tx m ks)=1+A2 ks:=by conv=>lhs;unfold A0
 rw[esz]at hb
 have hkl:=EL ks
 have hkv:KidsV w (Ahd c.Q) (.slice ad ks.length cc) ks:=⟨ad,c0,by rw[hcc],hkk⟩
 have hb0:Below w.heap.size w (w.alloc (.cells #[.int .i64 k,.string (strOfNums tx),.int .i64 m,.slice ad ks.length cc] 39)):=(Zg _ w).alloc (Z0 _) _
 have h0:=h.below hb0
 have hB:=Box4.new w (.int .i64 k) (.string (strOfNums tx)) (.int .i64 m) (.slice ad ks.length cc)
 obtain⟨⟨x0,x1,x2,x3⟩,_⟩:=hB.facts
 have hlx:=hB.lt
 have hQb:=h.wr.mkr.qb
 have hRb:=h.wr.rb
 have hsz:=h.wr.mkr.size
 have hlr0:=h.wr.obj.lt
 have hno:=MM c ks hks R at' vs vN vl _ slots s b _ h0 hat hf (by omega) (hkv.above (Zk hb0))
 have f1:=IY c.cls slots ks at' s b hf
 have t1:=Z5 hat (GA c.cls slots ks at' s)
 have hor:=fun w' H=>U4 (w:=w') (w0:=w.alloc (.cells #[.int .i64 k,.string (strOfNums tx),.int .i64 m,.slice ad ks.length cc] 39)) (c:=c) (R:=R) (at':=at') (vs:=vs) (vN:=vN) (vl:=vl) (slots:=slots) (k:=k) (m:=m) (x:=strOfNums tx) (ad:=ad) (cp:=cc) hcl H hk t1 f1 (by omega) (n:=ks.length) (by omega)
 have f2:=f1.order c.cls slots at' k (strOfNums tx) m ks.length
 have t2:at'<(Ai c.cls slots at' k (strOfNums tx) m ks.length (B0 c.cls slots at' ks s)).1.lists.length:=Z5 t1 (Ow _ _ _ _ _ _ _ _)
 have hwr:=fun w' H=>EU (w:=w') (w0:=w.alloc (.cells #[.int .i64 k,.string (strOfNums tx),.int .i64 m,.slice ad ks.length cc] 39)) (c:=c) (R:=R) (vs:=vs) (vN:=vN) (vl:=vl) (slots:=slots) H t2 f2 (by omega) (Ai c.cls slots at' k (strOfNums tx) m ks.length (B0 c.cls slots at' ks s)).2
 have hkn:=hk.ne
 have HE:Hid (AB c.cls slots at' (.mk k tx m ks) s=(Ai c.cls slots at' k (strOfNums tx) m ks.length (B0 c.cls slots at' ks s)).1.put at' (Ai c.cls slots at' k (strOfNums tx) m ks.length (B0 c.cls slots at' ks s)).2):=by
  show _=_
  conv=>lhs;unfold AB
  rw[if_neg hkn.1,if_neg hkn.2.1,if_neg hkn.2.2.1,if_neg hkn.2.2.2]
 rw[HE.out]
 generalize Ai c.cls slots at' k (strOfNums tx) m ks.length (B0 c.cls slots at' ks s)=r at *
 obtain⟨r1,o1,o2,o3⟩:=r
 dsimp only at *
 have HBX:Hid (∀ {s':MW} {w':World},OutP (w.alloc (.cells #[.int .i64 k,.string (strOfNums tx),.int .i64 m,.slice ad ks.length cc] 39)) c R at' vs slots s' vN vl w'->Box4 w' w.heap.size (.int .i64 k) (.string (strOfNums tx)) (.int .i64 m) (.slice ad ks.length cc)):=fun H=>hB.outp h0.wr H (by omega) (by omega)
 have HB0:Hid (Below w.heap.size w (w.alloc (.cells #[.int .i64 k,.string (strOfNums tx),.int .i64 m,.slice ad ks.length cc] 39))):=hb0
 have n9:(k==9)=false:=by rw[beq_eq_false_iff_ne];exact hkn.2.2.2
 have n10:(k==10)=false:=by rw[beq_eq_false_iff_ne];exact hkn.2.2.1
 have n13:(k==13)=false:=by rw[beq_eq_false_iff_ne];exact hkn.2.1
 generalize B0 c.cls slots at' ks s=s1 at *
 generalize strOfNums tx=tb at *
 clear h0 h hks hkk hkv hf f1 f2 t1 t2 hB hb0 hx1 hu1 hcc esz hat hkn hk HE hkl
 go_enter Tryz.func33,Tryz.ntmps33
 go_wp2_with (first
  | (go_at_call 35;refine(hwr _ H2).mono ?_;rintro e w3 ⟨rfl,H3⟩)
  | (go_at_call 66;refine(hor _ H1).mono ?_;clear hor;rintro e w2 ⟨rfl,H2⟩)
  | (go_at_call 20;refine hno.mono ?_;clear hno;rintro e w1 ⟨rfl,H1⟩;have q1:=HBX.out H1;obtain⟨⟨y0,y1,y2,y3⟩,_⟩:=q1.facts;have hly:=q1.lt;clear q1))
 exact bodyPost_end (v:=.tuple #[]) (by simp[results,Tryz.results33,go_sem]) rfl ⟨rfl,OutP.into HB0.out H3⟩
theorem Rs(c:CnO)(m:Int)(tx:List Int)(bn:Nd)(hbN:Dp c bn):DZ c (.mk 13 tx m [bn]):=by
 intro R at' vs vN vl u slots s b w h hat hf hb hu
 obtain⟨xk,hu1,ad,c0,hx1,hkk⟩:=id hu
 have hx2:xk=.slice ad 1 (c0+1):=hx1
 subst hx2
 have hu2:u=.agg #[.int .i64 13,.string (strOfNums tx),.int .i64 m,.slice ad 1 (c0+1)]:=hu1
 subst hu2
 have hb0:Below w.heap.size w (w.alloc (.cells #[.int .i64 13,.string (strOfNums tx),.int .i64 m,.slice ad 1 (c0+1)] 39)):=(Zg _ w).alloc (Z0 _) _
 have E:AB c.cls slots at' (.mk 13 tx m [bn]) s=(AB c.cls slots s.lists.length bn ((s.begin s.locals.length).put at' (23,(s.lists.length:Int),0))).back s.locals:=by
  conv=>lhs;unfold AB
  rw[if_neg (by decide),if_pos rfl]
 rw[E]
 refine(Hs R m (strOfNums tx) ad 1 (c0+1) w (fun w'=>OutP w c R at' vs slots _ vN vl w')).2.2 ?_
 exact(TG c 13 m tx bn hbN R at' vs vN vl _ slots s b _ (h.below hb0) hat hf hb (hu.above (Zk hb0))).mono fun e w' ⟨h1,h2⟩=>⟨h1,OutP.into hb0 h2⟩
theorem QP(c:CnO)(m:Int)(tx:List Int)(cn bn:Nd)(hcN:DZ c cn)(hbN:Dp c bn):DZ c (.mk 10 tx m [cn,bn]):=by
 intro R at' vs vN vl u slots s b w h hat hf hb hu
 obtain⟨xk,hu1,ad,c0,hx1,hkk⟩:=id hu
 have hx2:xk=.slice ad 2 (c0+2):=hx1
 subst hx2
 have hu2:u=.agg #[.int .i64 10,.string (strOfNums tx),.int .i64 m,.slice ad 2 (c0+2)]:=hu1
 subst hu2
 have hb0:Below w.heap.size w (w.alloc (.cells #[.int .i64 10,.string (strOfNums tx),.int .i64 m,.slice ad 2 (c0+2)] 39)):=(Zg _ w).alloc (Z0 _) _
 have E:AB c.cls slots at' (.mk 10 tx m [cn,bn]) s=((AB c.cls slots at' bn ((AB c.cls slots at' cn (s.put at' (26,0,0))).put at' (25,0,0))).put at' (24,(s.here at':Int),0)).patch at' ((AB c.cls slots at' cn (s.put at' (26,0,0))).here at') (((AB c.cls slots at' bn ((AB c.cls slots at' cn (s.put at' (26,0,0))).put at' (25,0,0))).put at' (24,(s.here at':Int),0)).here at':Int):=by
  conv=>lhs;unfold AB
  rw[if_neg (by decide),if_neg (by decide),if_pos rfl]
 rw[E]
 refine(Hs R m (strOfNums tx) ad 2 (c0+2) w (fun w'=>OutP w c R at' vs slots _ vN vl w')).2.1 ?_
 exact(RL c 10 m tx cn bn hcN hbN R at' vs vN vl _ slots s b _ (h.below hb0) hat hf hb (hu.above (Zk hb0))).mono fun e w' ⟨h1,h2⟩=>⟨h1,OutP.into hb0 (h2 _ _ _ rfl rfl rfl)⟩
theorem TH(c:CnO)(m:Int)(tx:List Int)(cn bn:Nd)(hcN:DZ c cn)(hbN:Dp c bn):DZ c (.mk 9 tx m [cn,bn]):=by
 intro R at' vs vN vl u slots s b w h hat hf hb hu
 obtain⟨xk,hu1,ad,c0,hx1,hkk⟩:=id hu
 have hx2:xk=.slice ad 2 (c0+2):=hx1
 subst hx2
 have hu2:u=.agg #[.int .i64 9,.string (strOfNums tx),.int .i64 m,.slice ad 2 (c0+2)]:=hu1
 subst hu2
 have hb0:Below w.heap.size w (w.alloc (.cells #[.int .i64 9,.string (strOfNums tx),.int .i64 m,.slice ad 2 (c0+2)] 39)):=(Zg _ w).alloc (Z0 _) _
 have E:AB c.cls slots at' (.mk 9 tx m [cn,bn]) s=(AB c.cls slots at' bn ((AB c.cls slots at' cn s).put at' (25,0,0))).patch at' ((AB c.cls slots at' cn s).here at') ((AB c.cls slots at' bn ((AB c.cls slots at' cn s).put at' (25,0,0))).here at':Int):=by
  conv=>lhs;unfold AB
  rw[if_neg (by decide),if_neg (by decide),if_neg (by decide),if_pos rfl]
 rw[E]
 refine(Hs R m (strOfNums tx) ad 2 (c0+2) w (fun w'=>OutP w c R at' vs slots _ vN vl w')).1 ?_
 exact(Q6 c 9 m tx cn bn hcN hbN R at' vs vN vl _ slots s b _ (h.below hb0) hat hf hb (hu.above (Zk hb0))).mono fun e w' ⟨h1,h2⟩=>⟨h1,OutP.into hb0 (h2 _ _ rfl rfl)⟩
theorem QQ(c:CnO)(m:Int)(tx:List Int)(cn bn en:Nd)(hcN:DZ c cn)(hbN:Dp c bn)(heN:Dp c en):DZ c (.mk 9 tx m [cn,bn,en]):=by
 intro R at' vs vN vl u slots s b w h hat hf hb hu
 obtain⟨xk,hu1,ad,c0,hx1,hkk⟩:=id hu
 have hx2:xk=.slice ad 3 (c0+3):=hx1
 subst hx2
 have hu2:u=.agg #[.int .i64 9,.string (strOfNums tx),.int .i64 m,.slice ad 3 (c0+3)]:=hu1
 subst hu2
 have hb0:Below w.heap.size w (w.alloc (.cells #[.int .i64 9,.string (strOfNums tx),.int .i64 m,.slice ad 3 (c0+3)] 39)):=(Zg _ w).alloc (Z0 _) _
 have E:AB c.cls slots at' (.mk 9 tx m [cn,bn,en]) s=(AB c.cls slots at' en (((AB c.cls slots at' bn ((AB c.cls slots at' cn s).put at' (25,0,0))).put at' (24,0,0)).patch at' ((AB c.cls slots at' cn s).here at') (((AB c.cls slots at' bn ((AB c.cls slots at' cn s).put at' (25,0,0))).put at' (24,0,0)).here at':Int))).patch at' ((AB c.cls slots at' bn ((AB c.cls slots at' cn s).put at' (25,0,0))).here at') ((AB c.cls slots at' en (((AB c.cls slots at' bn ((AB c.cls slots at' cn s).put at' (25,0,0))).put at' (24,0,0)).patch at' ((AB c.cls slots at' cn s).here at') (((AB c.cls slots at' bn ((AB c.cls slots at' cn s).put at' (25,0,0))).put at' (24,0,0)).here at':Int))).here at':Int):=by
  conv=>lhs;unfold AB
  rw[if_neg (by decide),if_neg (by decide),if_neg (by decide),if_pos rfl]
 rw[E]
 refine(Hs R m (strOfNums tx) ad 3 (c0+3) w (fun w'=>OutP w c R at' vs slots _ vN vl w')).1 ?_
 exact(NV c 9 m tx cn bn en hcN hbN heN R at' vs vN vl _ slots s b _ (h.below hb0) hat hf hb (hu.above (Zk hb0))).mono fun e w' ⟨h1,h2⟩=>⟨h1,OutP.into hb0 (h2 _ _ _ _ _ rfl rfl rfl rfl rfl)⟩
theorem TI(c:CnO)(hcl:c.cls.length<=90000):∀(N:Nat) (n:Nd) (r:Nat),A0 n<=N->(r=0\/r=1)->WfR r n->DZ c n:=by
 intro N
 induction N with
 | zero=>intro n r hn;cases n with | mk a b d e=>unfold A0 at hn;omega
 | succ N ih=>
  intro n r hn hr hw
  cases n with
  | mk k tx m ks=>
   unfold WfR at hw
   obtain⟨hsh,hks⟩:=hw
   have esz:A0 (.mk k tx m ks)=1+A2 ks:=by conv=>lhs;unfold A0
   have blk:∀b:Nd,WfR 2 b->A0 b<=N->Dp c b:=fun b hb hsb=>by
    cases b with
    | mk k' x' m' bs=>
     unfold WfR at hb
     obtain⟨hs',hk'⟩:=hb
     have h6:k'=6:=hs'.1
     subst h6
     have es:A0 (.mk 6 x' m' bs)=1+A2 bs:=by conv=>lhs;unfold A0
     exact⟨rfl,fun i hi=>ih bs[i] 1 (by have:A0 bs[i]<=A2 bs:=Jl hi;omega) (Or.inr rfl) (by have:=L0 hk' i hi;exact this)⟩
   have hkind:(k=13/\ks.length=1)\/(k=10/\ks.length=2)\/(k=9/\(ks.length=2\/ks.length=3))\/(k≠13/\k≠10/\k≠9/\k≠6/\KindO k m):=by
    unfold KindO
    unfold Kz at hsh
    rcases hr with rfl | rfl
    ·rw[if_pos rfl]at hsh;omega
    ·rw[if_neg (by decide),if_pos rfl]at hsh;omega
   rcases hkind with⟨rfl,hl⟩ | ⟨rfl,hl⟩ | ⟨rfl,hl⟩ | ⟨h13,h10,h9,h6,hk⟩
   ·match ks,hl,hks,hn with
    | [bn],_,hks,hn=>
     unfold WfK at hks
     rw[Ma]at hn
     exact Rs c m tx bn (blk bn hks.1 (by omega))
   ·match ks,hl,hks,hn with
    | [cn,bn],_,hks,hn=>
     unfold WfK WfK at hks
     rw[Hm]at hn
     exact QP c m tx cn bn (ih cn 0 (by omega) (Or.inl rfl) hks.1) (blk bn hks.2.1 (by omega))
   ·match ks,hl,hks,hn with
    | [cn,bn],_,hks,hn=>
     unfold WfK WfK at hks
     rw[Hm]at hn
     exact TH c m tx cn bn (ih cn 0 (by omega) (Or.inl rfl) hks.1) (blk bn hks.2.1 (by omega))
    | [cn,bn,en],_,hks,hn=>
     unfold WfK WfK WfK at hks
     rw[K0]at hn
     exact QQ c m tx cn bn en (ih cn 0 (by omega) (Or.inl rfl) hks.1) (blk bn hks.2.1 (by omega)) (blk en hks.2.2.1 (by omega))
   ·refine Rr c hcl k m tx ks (fun i hi=>ih ks[i] 0 (by have:A0 ks[i]<=A2 ks:=Jl hi;omega) (Or.inl rfl) ?_) hk
    have:=L0 hks i hi
    rw[Px h6 h9 h10 h13]at this
    exact this
theorem Rt{w0 w:World}{c:CnO}{R at' b:Nat}{vs vN vl:Value}{slots:List ByteArray}{s:MW}(H:OutP w0 c R at' vs slots s vN vl w)(hat:at'<s.lists.length)(hf:FewO s b)(hb:b<=900000)(x:ByteArray):Calls Tryz.prog 34 #[.pointer (some ⟨R,0,none⟩),.string x] w fun e w'=>(∃v,e=.returned (.int .i64 v))/\OutP w0 c R at' vs slots (s.local at' x) vN vl w':=by
 obtain⟨vN1,vl1,hw,hfr,hn,hl⟩:=H
 have hac:at'<s.counts.length:=by rw[hf.same];exact hat
 exact(Jz c R at' vs vN1 vl1 slots s x w hw.wr hac (Za hf.locals hb) (Za (hf.counts _ (Z6 hac)) hb) (by rw[hf.same];exact Za hf.lists hb)).mono fun e w' ⟨h1,h2,_⟩=>⟨⟨_,h1⟩,OutP.trans hfr hn hl (h2.p hw)⟩
theorem Kg(at':Nat):∀(l:List Nd) (s:MW) (b:Nat),FewO s b->FewO (C2 at' l s) (b+l.length)/\(C2 at' l s).lists.length=s.lists.length
 | [],s,b,h=>by unfold C2;exact⟨h,rfl⟩
 | a::l,s,b,h=>by
  unfold C2
  obtain⟨h1,h2⟩:=Kg at' l (s.local at' a.str) (b+1) (h.local at' a.str)
  rw[List.length_cons]
  exact⟨h1.mono (by omega),h2⟩
theorem QR(c:CnO)(tx:List Int)(ar:List Nd)(bn:Nd)(hbN:Dp c bn)(R at':Nat)(vs vN vl u:Value)(slots:List ByteArray)(s:MW)(b:Nat)(w:World)(h:WrP w c R at' vs slots s vN vl)(hat:at'<s.lists.length)(hf:FewO s b)(hb:b+ar.length+4*A0 bn+2<=90000)(hu:NodeV w (Ahd c.Q) u (.mk 4 tx (ar.length:Int) (ar++[bn]))) :
  Calls Tryz.prog 21 #[.pointer (some ⟨R,0,none⟩),u] w fun e w'=>e=.returned (.tuple #[])/\OutP w c R at' vs slots (((AB c.cls slots at' bn (C2 at' ar s)).put at' (2,0,0)).put at' (11,0,0)) vN vl w':=by
 obtain⟨xk,hu1,ad,c0,hx1,hkk⟩:=hu
 have hL:(ar++[bn]).length=ar.length+1:=by simp
 obtain⟨cc,hcc⟩:∃cc,c0+(ar++[bn]).length=cc:=⟨_,rfl⟩
 have hx2:xk=.slice ad (ar.length+1) cc:=by rw[<-hcc,<-hL];exact hx1
 subst hx2
 have hu2:u=.agg #[.int .i64 4,.string (strOfNums tx),.int .i64 (ar.length:Int),.slice ad (ar.length+1) cc]:=hu1
 subst hu2
 have hcl:ar.length+1<=cc:=by rw[<-hcc,hL];omega
 have hQb:=h.wr.mkr.qb
 have hRb:=h.wr.rb
 have hsz:=h.wr.mkr.size
 have hlr0:=h.wr.obj.lt
 obtain⟨kb,ko,ad1,l1,c1,hK⟩:=Dy (ks:=ar++[bn]) hkk (i:=ar.length) (by rw[hL];omega)
 have e1:=hK.is
 subst e1
 have ebn:(ar++[bn])[ar.length]'(by rw[hL];omega)=bn:=by simp
 rw[ebn]at hK
 obtain⟨_,_,e1,_,_,hnodes⟩:=hkk (by show 0<(ar++[bn]).length;rw[hL];omega)
 injection e1 with e1
 injection e1 with e1 e2
 subst e1 e2
 have hb0:Below w.heap.size w (w.alloc (.cells #[.int .i64 4,.string (strOfNums tx),.int .i64 (ar.length:Int),.slice (some ⟨kb,ko,none⟩) (ar.length+1) cc] 39)):=(Zg _ w).alloc (Z0 _) _
 have h0:=h.below hb0
 have hB:=Box4.new w (.int .i64 4) (.string (strOfNums tx)) (.int .i64 (ar.length:Int)) (.slice (some ⟨kb,ko,none⟩) (ar.length+1) cc)
 obtain⟨⟨x0,x1,x2,x3⟩,_⟩:=hB.facts
 have hlx:=hB.lt
 have hn0:NodeV _ (Ahd c.Q) _ bn:=hK.node.above (Zk hb0)
 have hklow:=hK.low
 have a0:=hK.kind
 have a1:=hK.text
 have a2:=hK.num
 have a3:=hK.kids
 have HNO:Hid (NodesAt w (Ahd c.Q) kb ko (ar++[bn])):=hnodes
 obtain⟨Z,HZ⟩:∃Z,Hid (C2 at' ar s=Z):=⟨_,rfl⟩
 obtain⟨f1,t1'⟩:=Kg at' ar s b hf
 have t1:at'<(C2 at' ar s).lists.length:=by rw[t1'];exact hat
 rw[HZ.out]at f1 t1
 rw[HZ.out]
 have f2:=Bl c.cls slots bn at' _ _ f1
 have t2:=Z5 t1 (B3 c.cls slots bn at' Z)
 obtain⟨s2,HS2⟩:∃s2,Hid (AB c.cls slots at' bn Z=s2):=⟨_,rfl⟩
 rw[HS2.out]at f2 t2
 rw[HS2.out]
 have f3:=f2.put at' (2,0,0)
 have t3:at'<(s2.put at' (2,0,0)).lists.length:=by rw[DK];exact t2
 have hbl:=fun w' H=>G3 (w:=w') hbN h0.wr H t1 f1 (by omega) hn0
 rw[HS2.out]at hbl
 have hw1:=fun w' H=>EU (w:=w') (w0:=w.alloc (.cells #[.int .i64 4,.string (strOfNums tx),.int .i64 (ar.length:Int),.slice (some ⟨kb,ko,none⟩) (ar.length+1) cc] 39)) (c:=c) (R:=R) (vs:=vs) (vN:=vN) (vl:=vl) (slots:=slots) H t2 f2 (by omega) (2,0,0)
 have hw2:=fun w' H=>EU (w:=w') (w0:=w.alloc (.cells #[.int .i64 4,.string (strOfNums tx),.int .i64 (ar.length:Int),.slice (some ⟨kb,ko,none⟩) (ar.length+1) cc] 39)) (c:=c) (R:=R) (vs:=vs) (vN:=vN) (vl:=vl) (slots:=slots) H t3 f3 (by omega) (11,0,0)
 have HBX:Hid (∀ {s':MW} {w':World},OutP (w.alloc (.cells #[.int .i64 4,.string (strOfNums tx),.int .i64 (ar.length:Int),.slice (some ⟨kb,ko,none⟩) (ar.length+1) cc] 39)) c R at' vs slots s' vN vl w'->Box4 w' w.heap.size (.int .i64 4) (.string (strOfNums tx)) (.int .i64 (ar.length:Int)) (.slice (some ⟨kb,ko,none⟩) (ar.length+1) cc)/\(∀j,w'.cell? ⟨kb,j,none⟩=w.cell? ⟨kb,j,none⟩)/\kb<w'.heap.size):=fun H=>⟨hB.outp h0.wr H (by omega) (by omega),fun j=>((H.low h0.wr hklow).1).trans (hb0.cell (p:=⟨kb,j,none⟩) (by show kb<_;omega)),(H.low (j:=0) h0.wr hklow).2⟩
 have HB0:Hid (Below w.heap.size w (w.alloc (.cells #[.int .i64 4,.string (strOfNums tx),.int .i64 (ar.length:Int),.slice (some ⟨kb,ko,none⟩) (ar.length+1) cc] 39))):=hb0
 have HP0:Hid (OutP (w.alloc (.cells #[.int .i64 4,.string (strOfNums tx),.int .i64 (ar.length:Int),.slice (some ⟨kb,ko,none⟩) (ar.length+1) cc] 39)) c R at' vs slots s vN vl (w.alloc (.cells #[.int .i64 4,.string (strOfNums tx),.int .i64 (ar.length:Int),.slice (some ⟨kb,ko,none⟩) (ar.length+1) cc] 39))):=OutP.first h0
 have HF:Hid (FewO s b):=hf
 have HT:Hid (at'<s.lists.length):=hat
 have hci:(ar.length:Int)<=(cc:Int):=by omega
 have hali:ar.length<=90000:=by omega
 have hbb:b+ar.length<=90000:=by omega
 clear h0 h hbN hn0 hK hkk hnodes hf f1 f2 f3 t1 t2 t3 t1' hB hb0 hx1 hu1 hcc hat ebn hL
 go_enter Tryz.func21,Tryz.ntmps21
 go_wp2_with fail
 go_loopw [12] (fun s12 wr=>∃(i b1:Nat) (s1:MW),s12=.int .i64 i/\i<=ar.length/\Hid (C2 at' (ar.drop i) s1=Z)/\Hid (b1+(ar.length-i)<=90000)/\Hid (FewO s1 b1)/\Hid (at'<s1.lists.length)/\Hid (OutP (w.alloc (.cells #[.int .i64 4,.string (strOfNums tx),.int .i64 (ar.length:Int),.slice (some ⟨kb,ko,none⟩) (ar.length+1) cc] 39)) c R at' vs slots s1 vN vl wr)) (fun s12 _=>90001-(intOf s12).toNat)
 case atStart=>exact⟨0,b,s,rfl,Z3 _,HZ,(by show _<=_;omega),HF,HT,HP0⟩
 case round=>
  obtain⟨i,b1,s1,rfl,hi,HZ1,HN1,HF1,HT1,HP1⟩:=hrel
  by_cases hlt:i<ar.length
  ·have hil:(i:Int)<(ar.length:Int):=by omega
   have hwi:=Ao (x:=(i:Int)+1) (by omega) (by omega)
   have hilt:i<(ar++[bn]).length:=by rw[Z1];omega
   have q:=HBX.out HP1.out
   obtain⟨x',hkx,c0',c1',c2',c3'⟩:=CV HNO.out hilt
   obtain⟨adx,cx0,hxx,_⟩:=id hkx
   subst hxx
   have ei:(ar++[bn])[i]=ar[i]:=Zb hlt
   rw[ei]at c0' c1' c2' c3'
   have d0:=(q.2.1 _).trans c0'
   have d1:=(q.2.1 _).trans c1'
   have d2:=(q.2.1 _).trans c2'
   have d3:=(q.2.1 _).trans c3'
   have d4:=q.2.2
   have hun:ar[i].str=strOfNums ar[i].text:=rfl
   have hcal:=Rt ((HP1.out).below (Zg _ wr |>.alloc (Z0 _) (.cells #[.int .i64 ar[i].kind,.string (strOfNums ar[i].text),.int .i64 ar[i].num,.slice adx ar[i].kids.length (cx0+ar[i].kids.length)] 39))) HT1.out HF1.out (by have:=HN1.out;omega) (strOfNums ar[i].text)
   have hdr:ar.drop i=ar[i]::ar.drop (i+1):=Z4 hlt
   have HZ2:Hid (C2 at' (ar.drop (i+1)) (s1.local at' (strOfNums ar[i].text))=Z):=by
    show _=_
    rw[<-HZ1.out,hdr]
    conv=>rhs;unfold C2
    rfl
   have HF2:Hid (FewO (s1.local at' (strOfNums ar[i].text)) (b1+1)):=HF1.out.local at' _
   have HN2:Hid (b1+1+(ar.length-(i+1))<=90000):=by show _<=_;have:=HN1.out;omega
   have HT2:Hid (at'<(s1.local at' (strOfNums ar[i].text)).lists.length):=HT1.out
   generalize s1.local at' (strOfNums ar[i].text)=s2' at *
   generalize (cx0+ar[i].kids.length)=cx at *
   generalize ar[i].kids.length=lx at *
   clear hun hdr ei c0' c1' c2' c3' q hkx
   generalize ar[i].kind=y0 at *
   generalize strOfNums ar[i].text=y1 at *
   generalize ar[i].num=y2 at *
   go_wp2_with (first | (go_at_call 34;refine hcal.mono ?_;rintro e w2 ⟨⟨vv,rfl⟩,H2⟩))
   exact⟨⟨i+1,b1+1,s2',by simp,by omega,HZ2,HN2,HF2,HT2,H2⟩,by simp[intOf];omega⟩
  ·have hil:¬(i:Int)<(ar.length:Int):=by omega
   have HE:Hid (Z=s1):=by
    show _=_
    rw[<-HZ1.out,Z9 (by omega)]
    unfold C2
    rfl
   have HPZ:Hid (OutP (w.alloc (.cells #[.int .i64 4,.string (strOfNums tx),.int .i64 (ar.length:Int),.slice (some ⟨kb,ko,none⟩) (ar.length+1) cc] 39)) c R at' vs slots Z vN vl wr):=by rw[HE.out];exact HP1
   have q:=HBX.out HPZ.out
   obtain⟨⟨_,_,z2,z3⟩,_⟩:=q.1.facts
   have z4:=q.1.lt
   have z5:=q.2.2
   have e0:=(q.2.1 _).trans a0
   have e1:=(q.2.1 _).trans a1
   have e2:=(q.2.1 _).trans a2
   have e3:=(q.2.1 _).trans a3
   have hlast:(ar.length:Int)<(ar.length:Int)+1:=by omega
   clear q HE HZ1 HF1 HT1 HN1 HP1
   go_wp2_with (first
    | (go_at_call 35;refine(hw2 _ H3).mono ?_;rintro e w4 ⟨rfl,H4⟩)
    | (go_at_call 35;refine(hw1 _ H2).mono ?_;rintro e w3 ⟨rfl,H3⟩)
    | (go_at_call 11;refine(hbl _ HPZ.out).mono ?_;rintro e w2 ⟨rfl,H2⟩))
   exact bodyPost_end (v:=.tuple #[]) (by simp[results,Tryz.results21,go_sem]) rfl ⟨rfl,OutP.into HB0.out H4⟩
def Ih(m:ByteArray×Int×Nat):List Value:=[.string m.1,.int .i64 m.2.1,.int .i64 (m.2.2:Int)]
def Cz(l:List (ByteArray×Int×Nat)):List Value:=l.flatMap Ih
theorem Oy(l:List (ByteArray×Int×Nat))(m:ByteArray×Int×Nat):Cz (l++[m])=Cz l++Ih m:=by simp[Cz,List.flatMap_append]
theorem Ru(m:ByteArray×Int×Nat):∀u∈Ih m,u.oneCell'=true:=fun u hu=>by
 unfold Ih at hu
 simp at hu
 rcases hu with rfl | rfl | rfl<;>rfl
theorem Oz(m:ByteArray×Int×Nat)(l:List (ByteArray×Int×Nat)):Cz (m::l)=.string m.1::.int .i64 m.2.1::.int .i64 (m.2.2:Int)::Cz l:=by simp[Cz,Ih]
theorem Mb:∀(l:List (ByteArray×Int×Nat)) (k:Nat) (h:k<l.length),(Cz l)[k*3]?=some (.string l[k].1)/\(Cz l)[k*3+1]?=some (.int .i64 l[k].2.1)/\(Cz l)[k*3+2]?=some (.int .i64 (l[k].2.2:Int))
 | [],k,h=>by cases h
 | a::r,k,h=>by
  rw[Oz]
  cases k with
  | zero=>exact⟨rfl,rfl,rfl⟩
  | succ k=>
   obtain⟨h1,h2,h3⟩:=Mb r k (by simp at h;omega)
   refine⟨?_,?_,?_⟩
   ·rw[show(k+1)*3=k*3+3 by omega];exact h1
   ·rw[show(k+1)*3+1=k*3+1+3 by omega];exact h2
   ·rw[show(k+1)*3+2=k*3+2+3 by omega];exact h3
structure UW(w:World)(Q BB:Nat)(c:ClW)(xs:List Value)(i:Nat)(vM vs:Value):Prop where
 name:xs[i*4]?=some (.string c.name)
 over:xs[i*4+1]?=some (.int .i64 c.over)
 many:xs[i*4+2]?=some (.int .i64 (c.slots.length:Int))
 meths:xs[i*4+3]?=some vM
 rowM:w.ownsRow (Q+1) 72 3 vM c.meths.length (Cz c.meths)
 rowS:w.ownsRow (Q+1) 9 1 vs c.slots.length (B5 c.slots)
 low:∀g,vs.ownBlock=some g->g<BB
structure ClsF(w:World)(Q BB:Nat)(vC vS:Value)(L:List ClW)(xs ss:List Value):Prop where
 rowC:w.ownsRow (Q+1) 68 4 vC L.length xs
 rowS:w.ownsRow (Q+1) 23 1 vS L.length ss
 each:∀i (h:i<L.length),∃vM vs,UW w Q BB L[i] xs i vM vs/\ss[i]?=some vs
theorem ClsF.fr{w w':World}{Q BB:Nat}{vC vS vN:Value}{L:List ClW}{xs ss:List Value}(h:ClsF w Q BB vC vS L xs ss)(hf:FrO w w' Q Q vN (.slice none 0 0))(hN:∀g,vN.ownBlock=some g->BB<=g/\∃c fz,w.heap[g]?=some (.cells c 9 fz)):ClsF w' Q BB vC vS L xs ss:=by
 have keep:∀ {n size:Nat} {v:Value} {ys:List Value} {e:TypeId},w.ownsRow (Q+1) e size v n ys->e≠3->e≠33->e≠35->(∀g,v.ownBlock=some g->vN.ownBlock≠some g)->w'.ownsRow (Q+1) e size v n ys:=fun hv h1 h2 h3 h4=>AF hv fun g e=>hf.block g (hv.lt g e).2 (by have:=(hv.lt g e).1;omega) (by have:=(hv.lt g e).1;omega) (h4 g e) (fun e=>by cases e) (Or.inr (CB hv h1 h2 h3 e))
 have kind:∀ {n size:Nat} {v:Value} {ys:List Value} {e:TypeId},w.ownsRow (Q+1) e size v n ys->e≠9->∀g,v.ownBlock=some g->vN.ownBlock≠some g:=fun hv he g e e'=>by
  obtain⟨_,c,fz,hc⟩:=hN g e'
  exact AJ hv hc he e
 refine⟨keep h.rowC (by decide) (by decide) (by decide) (kind h.rowC (by decide)),keep h.rowS (by decide) (by decide) (by decide) (kind h.rowS (by decide)),fun i hi=>?_⟩
 obtain⟨vM,vs,hI,e⟩:=h.each i hi
 exact⟨vM,vs,⟨hI.name,hI.over,hI.many,hI.meths,keep hI.rowM (by decide) (by decide) (by decide) (kind hI.rowM (by decide)),keep hI.rowS (by decide) (by decide) (by decide) (fun g e e'=>by have:=hI.low g e;have:=(hN g e').1;omega),hI.low⟩,e⟩
theorem MkO.rowN{w:World}{c:CnO}{s:MW}{vN:Value}(h:MkO w c s vN):∀g,vN.ownBlock=some g->c.BB<=g/\∃cc fz,w.heap[g]?=some (.cells cc 9 fz):=fun g e=>⟨(h.names.lt g e).1,Lib.ownsRow_kind h.names g e⟩
theorem Rv{w:World}{c:CnO}{at':Nat}{vs vN:Value}{slots:List ByteArray}{s:MW}(hm:MkO w c s vN)(ho:OpsW w c.Q)(hs:w.ownsRow (c.Q+1) 9 1 vs slots.length (B5 slots))(hl:∀g,vs.ownBlock=some g->g<c.BB) :
  WrP (w.alloc (.cells #[.pointer (some ⟨c.Q,0,none⟩),.int .i64 (at':Int),vs,.slice none 0 0] 51)) c w.heap.size at' vs slots (s.back []) vN (.slice none 0 0):=by
 have hb:Below w.heap.size w (w.alloc (.cells #[.pointer (some ⟨c.Q,0,none⟩),.int .i64 (at':Int),vs,.slice none 0 0] 51)):=(Zg _ _).alloc (Z0 _) _
 have h1:=hm.below hb
 have hqb:=hm.qb
 have hsz:=hm.size
 have h0:=ho.1
 refine⟨⟨⟨h1.obj,h1.names,h1.cls,h1.qb,h1.size⟩,heap_alloc_new w _,Zl _ _ _ _,fun g _ e=>(by cases e),AF hs fun g e=>hb.block g (hs.lt g e).2,hl,hsz⟩,ho.1,fun k hk=>?_⟩
 rw[hb.cell (p:=⟨0,k,none⟩) (by show 0<_;omega)]
 exact ho.2 k hk
theorem Pj{w w1 w':World}{c:CnO}{R at':Nat}{vs vN:Value}{slots:List ByteArray}{s':MW}(hb:Below w.heap.size w w1)(hR:w.heap.size<=R)(H:OutP w1 c R at' vs slots s' vN (.slice none 0 0) w'):∃vN',MkO w' c s' vN'/\OpsW w' c.Q/\FrO w w' c.Q c.Q vN (.slice none 0 0)/\Onto w vN vN':=by
 obtain⟨vN',vl',hw,hf,hn,hl⟩:=H
 have hbs:=hb.size
 refine⟨vN',hw.wr.mkr,hw.ops,⟨hf.os.trans hb.os,hf.tape.trans hb.tape,hf.output.trans hb.output,Za hbs hf.size,fun k h1 h2 _ h4 h5 h6=>?_⟩,(Onto.refl _ _).trans hn hbs⟩
 have e:=hb.block k h1
 refine(hf.block k (by omega) h2 (by omega) h4 h5 ?_).trans e
 rcases h6 with h6 | h6
 ·exact Or.inl h6
 ·exact Or.inr fun⟨c',t,fz,hc,ht⟩=>h6 ⟨c',t,fz,by rw[<-e];exact hc,ht⟩
theorem Mc(cls slots:List ByteArray)(at':Nat)(x:List Int)(ar:List Nd)(bn:Nd)(s:MW):Cc cls slots at' (.mk 4 x (ar.length:Int) (ar++[bn])) s=((AB cls slots at' bn (C2 at' ar (s.back []))).put at' (2,0,0)).put at' (11,0,0):=by
 unfold Cc
 have e1:(Nd.mk 4 x (ar.length:Int) (ar++[bn])).num.toNat=ar.length:=by show((ar.length:Int)).toNat=_;omega
 have e2:(Nd.mk 4 x (ar.length:Int) (ar++[bn])).kids[ar.length]?=some bn:=by show(ar++[bn])[ar.length]?=_;simp
 have e3:(Nd.mk 4 x (ar.length:Int) (ar++[bn])).kids.take ar.length=ar:=List.take_left
 rw[e1,e2,e3]
 rfl
theorem Md(x:List Int)(ar:List Nd)(bn:Nd):ar.length+A0 bn+1<=A0 (.mk 4 x (ar.length:Int) (ar++[bn])):=by
 have e:A0 (.mk 4 x (ar.length:Int) (ar++[bn]))=1+A2 (ar++[bn]):=by conv=>lhs;unfold A0
 have h:∀l:List Nd,l.length+A0 bn<=A2 (l++[bn]):=fun l=>by
  induction l with
  | nil=>
   show 0+A0 bn<=A2 [bn]
   conv=>rhs;unfold A2
   omega
  | cons a l ih=>
   have ha:1<=A0 a:=by cases a with | mk k x m ks=>unfold A0;omega
   show(a::l).length+A0 bn<=A2 (a::(l++[bn]))
   conv=>rhs;unfold A2
   rw[List.length_cons]
   omega
 have:=h ar
 rw[e]
 omega
theorem Lc(cls slots:List ByteArray)(at':Nat)(x:List Int)(ar:List Nd)(bn:Nd)(s:MW)(b:Nat)(hf:FewO s b):FewO (Cc cls slots at' (.mk 4 x (ar.length:Int) (ar++[bn])) s) (b+4*A0 (.mk 4 x (ar.length:Int) (ar++[bn])))/\s.lists.length<=(Cc cls slots at' (.mk 4 x (ar.length:Int) (ar++[bn])) s).lists.length:=by
 have hsz:=Md x ar bn
 rw[Mc]
 obtain⟨h1,h2⟩:=Kg at' ar (s.back []) b (hf.back (Z3 _))
 refine⟨(((Bl cls slots bn at' _ _ h1).put at' _).put at' _).mono (by omega),?_⟩
 rw[DK,DK]
 have:=B3 cls slots bn at' (C2 at' ar (s.back []))
 have e:(s.back []).lists.length=s.lists.length:=rfl
 omega
theorem Me(c:CnO)(hcl:c.cls.length<=90000){b:Nd}(hb:WfR 2 b):Dp c b:=by
 cases b with
 | mk k' x' m' bs=>
  unfold WfR at hb
  obtain⟨hs',hk'⟩:=hb
  have h6:k'=6:=hs'.1
  subst h6
  exact⟨rfl,fun i hi=>TI c hcl _ bs[i] 1 (Z0 _) (Or.inr rfl) (L0 hk' i hi)⟩
end Go.Proofs.YtpfdgbalchmmfaaGreatDoor
