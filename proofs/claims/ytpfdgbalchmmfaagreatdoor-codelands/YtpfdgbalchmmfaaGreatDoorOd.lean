/- Texts in one. -/
import Derived.Test.YtpfdgbalchmmfaaGreatDoorOc
import Derived.Test.YtpfdgbalchmmfaaGreatDoorMs
import Derived.Test.YtpfdgbalchmmfaaGreatDoorNd
set_option linter.unusedSimpArgs false
set_option linter.unusedVariables false
set_option maxHeartbeats 16000000
set_option maxRecDepth 20000
namespace Go.Proofs.YtpfdgbalchmmfaaGreatDoor
open Go.RowKit
def Kc(w:World)(c:CnO)(R at':Nat)(vs:Value)(slots:List ByteArray)(r:MW×Ord)(vN vl:Value)(e:Ending)(w':World):Prop:=e=.returned (.agg #[.int .i64 r.2.1,.int .i64 r.2.2.1,.int .i64 r.2.2.2])/\OutP w c R at' vs slots r.1 vN vl w'
theorem OutP.below{w w1 w2:World}{c:CnO}{R at':Nat}{vs vN vl:Value}{slots:List ByteArray}{s:MW}(H:OutP w c R at' vs slots s vN vl w1)(hb:Below w1.heap.size w1 w2):OutP w c R at' vs slots s vN vl w2:=by
 obtain⟨vN1,vl1,a,b,d,e⟩:=H
 exact⟨vN1,vl1,a.below hb,b.trans (FrO.of_below hb) d e,d,e⟩
def KindO(k m:Int):Prop:=(k=26/\0<=m/\m<=1073741823)\/k=30\/k=31\/k=8\/k=7\/k=25\/(k=18\/k=19\/k=20\/k=21\/k=22\/k=23\/k=24\/k=27\/k=28\/k=29\/k=11\/k=12\/k=14\/k=15\/k=16\/k=17)
theorem On(c:CnO)(k m:Int)(x:ByteArray)(ad:Option Addr)(n cp:Nat)(R at':Nat)(vs vN vl:Value)(slots:List ByteArray)(s:MW)(w:World)(h:WrP w c R at' vs slots s vN vl)(hk:k=18\/k=19\/k=20\/k=21\/k=22\/k=23\/k=24\/k=27\/k=28\/k=29\/k=11\/k=12\/k=14\/k=15\/k=16\/k=17) :
  Calls Tryz.prog 66 #[.pointer (some ⟨R,0,none⟩),.agg #[.int .i64 k,.string x,.int .i64 m,.slice ad n cp]] w fun e w'=>Kc w c R at' vs slots (Ai c.cls slots at' k x m n s) vN vl e w':=by
 obtain⟨j,hj,rfl⟩:∃j:Nat,j<30/\k=(j:Int):=⟨k.toNat,by omega,by omega⟩
 have hop:=h.ops.2 j hj
 have hqg:=h.ops.1
 have hlt:0<w.heap.size:=by have:=h.wr.mkr.qb;have:=h.wr.mkr.size;omega
 have e:Ai c.cls slots at' (j:Int) x m n s=(s,(opP (j:Int),0,0)):=by
  unfold Ai
  rw[if_neg (by omega),if_neg (by omega),if_neg (by omega),if_neg (by omega),if_neg (by omega),if_neg (by omega)]
 rw[e]
 have n26:((j:Int)==26)=false:=by rw[beq_eq_false_iff_ne];omega
 have n30:((j:Int)==30)=false:=by rw[beq_eq_false_iff_ne];omega
 have n25:((j:Int)==25)=false:=by rw[beq_eq_false_iff_ne];omega
 have n31:((j:Int)==31)=false:=by rw[beq_eq_false_iff_ne];omega
 have n8:((j:Int)==8)=false:=by rw[beq_eq_false_iff_ne];omega
 have n7:((j:Int)==7)=false:=by rw[beq_eq_false_iff_ne];omega
 have hji:(j:Int)<30:=by omega
 have HP:Hid (WrP w c R at' vs slots s vN vl):=h
 have hb2:=Au w (.cells #[.int .i64 (j:Int),.string x,.int .i64 m,.slice ad n cp] 39) (.cells #[.int .i64 0,.int .i64 0,.int .i64 0] 35)
 generalize opP (j:Int)=p at *
 clear h e hk
 go_enter Tryz.func66,Tryz.ntmps66
 go_wp2_with fail
 exact bodyPost_ret (v:=.agg #[.int .i64 p,.int .i64 0,.int .i64 0]) (by simp[results,Tryz.results66,go_sem]) rfl ⟨rfl,(OutP.first HP.out).below (Au _ _ _)⟩
theorem Rg(c:CnO)(m:Int)(x:ByteArray)(ad:Option Addr)(n cp:Nat)(R at':Nat)(vs vN vl:Value)(slots:List ByteArray)(s:MW)(w:World)(h:WrP w c R at' vs slots s vN vl) :
  Calls Tryz.prog 66 #[.pointer (some ⟨R,0,none⟩),.agg #[.int .i64 26,.string x,.int .i64 m,.slice ad n cp]] w fun e w'=>Kc w c R at' vs slots (s,(1,m,0)) vN vl e w':=by
 have HP:Hid (WrP w c R at' vs slots s vN vl):=h
 clear h
 go_enter Tryz.func66,Tryz.ntmps66
 go_wp2_with fail
 exact bodyPost_ret (v:=.agg #[.int .i64 1,.int .i64 m,.int .i64 0]) (by simp[results,Tryz.results66,go_sem]) rfl ⟨rfl,(OutP.first HP.out).below (Au _ _ _)⟩
theorem OBox.set3{w:World}{X:Nat}{a b d:Int}(h:OBox w X a b d)(p q r:Int):OBox (((w.setCell ⟨X,0,none⟩ (.int .i64 p)).setCell ⟨X,1,none⟩ (.int .i64 q)).setCell ⟨X,2,none⟩ (.int .i64 r)) X p q r:=heap_setCell_same _ _ _ _ _ _ (heap_setCell_same _ _ _ _ _ _ (heap_setCell_same _ _ _ _ _ _ h))
theorem OBox.frozen{w:World}{X:Nat}{a b d:Int}(h:OBox w X a b d)(j:Nat):w.frozen? ⟨X,j,none⟩=false:=frozen_of_row _ _ _ _ _ h
theorem GD(w:World)(k m:Int)(x:ByteArray)(u:Value):∃w1,Hid (w1=(w.alloc (.cells #[.int .i64 k,.string x,.int .i64 m,u] 39)).alloc (.cells #[.int .i64 0,.int .i64 0,.int .i64 0] 35))/\Hid (Below w.heap.size w w1)/\Box4 w1 w.heap.size (.int .i64 k) (.string x) (.int .i64 m) u/\OBox w1 (w.heap.size+1) 0 0 0:=by
 refine⟨_,rfl,Au _ _ _,(Below.heap_alloc _ _ _ (by simp)).trans (heap_alloc_new w _),?_⟩
 have h1:=heap_alloc_new (w.alloc (.cells #[.int .i64 k,.string x,.int .i64 m,u] 39)) (.cells #[.int .i64 0,.int .i64 0,.int .i64 0] 35)
 rw[show(w.alloc (.cells #[.int .i64 k,.string x,.int .i64 m,u] 39)).heap.size=w.heap.size+1 by simp]at h1
 exact h1
theorem LT{w w':World}{B X:Nat}(h:Below B w w')(hX:B<=X)(a b d:Value):Below B w (((w'.setCell ⟨X,0,none⟩ a).setCell ⟨X,1,none⟩ b).setCell ⟨X,2,none⟩ d):=((h.setCell (p:=⟨X,0,none⟩) hX a).setCell (p:=⟨X,1,none⟩) hX b).setCell (p:=⟨X,2,none⟩) hX d
theorem Rh(c:CnO)(m:Int)(x:ByteArray)(ad:Option Addr)(n cp:Nat)(R at':Nat)(vs vN vl:Value)(slots:List ByteArray)(s:MW)(w:World)(h:WrP w c R at' vs slots s vN vl)(hcl:c.cls.length<=900000) :
  Calls Tryz.prog 66 #[.pointer (some ⟨R,0,none⟩),.agg #[.int .i64 30,.string x,.int .i64 m,.slice ad n cp]] w fun e w'=>Kc w c R at' vs slots (s,(5,AX c.cls x,0)) vN vl e w':=by
 obtain⟨w1,EW,HB1,hX,hO⟩:=GD w 30 m x (.slice ad n cp)
 have h1:=h.below HB1.out
 obtain⟨vL,vK,vis,ho,_,_⟩:=h1.wr.mkr.obj
 have hco:=K2 c.Q x c.cls c.vC vN vL vK c.vS w1.drew ho (h1.wr.mkr.cls.same fun _ _=>rfl) hcl
 obtain⟨⟨r0,_⟩,_⟩:=h1.wr.obj.cells
 have hlr:=h1.wr.obj.lt
 obtain⟨⟨x0,x1,x2,x3⟩,_⟩:=hX.facts
 have hlx:=hX.lt
 have HP:Hid (WrP w c R at' vs slots s vN vl):=h
 have HO:Hid (OBox w1 (w.heap.size+1) 0 0 0):=hO
 generalize AX c.cls x=p at *
 clear h h1 ho hX hO
 go_enter Tryz.func66,Tryz.ntmps66
 go_wp2_with fail
 rw[<-EW.out]
 clear EW
 go_region_law (first
  | (refine F1 rfl 18 (.tmp 17) (.tmp 19) _ _ rfl (.pointer (some ⟨c.Q,0,none⟩)) (.string x) (by first | (simp[Act.eval];done) | simp[Act.eval,Act.put]) (by first | (simp[Act.eval];done) | simp[Act.eval,Act.put]) (fun w=>by kernel_rfl) hco ?_;rintro e w2 ⟨rfl,hb2⟩;refine⟨_,rfl,?_⟩;have hO2:OBox w2 (w.heap.size+1) 0 0 0:=(hb2.block _ HO.out.lt).trans HO.out;obtain⟨o0,o1,o2⟩:=hO2.facts;have f0:=hO2.frozen 0;have f1:=hO2.frozen 1;have f2:=hO2.frozen 2;have hlo:=hO2.lt;clear hco))
 all_goals (go_wp2_with fail)
 all_goals (have q:=(hO2.set3 5 p 0).facts)
 all_goals (exact bodyPost_ret (v:=.agg #[.int .i64 5,.int .i64 p,.int .i64 0]) (by simp[results,Tryz.results66,go_sem,q.1,q.2.1,q.2.2]) rfl ⟨rfl,(OutP.first HP.out).below (LT (HB1.out.trans (((Zg _ _).drew.trans hb2).mono HB1.out.size)) (by omega) _ _ _)⟩)
theorem WrO.box{w:World}{c:CnO}{R at' B:Nat}{vs vN vl vL vK:Value}{slots:List ByteArray}{s:MW}{vis:List Value}(h:WrO w c R at' vs slots s vN vl){a b d:Int}(hO:OBox w B a b d)(ho:MkObj w c.Q c.vC vN vL vK c.vS)(hr:RowsO w (c.Q+1) vL vis s.lists)(hc:w.ownsRow (c.Q+1) 3 1 vK s.counts.length (CE s.counts))(hfree:∀(i:Nat) v,vis[i]?=some v->v.ownBlock≠some B)(p q r:Int):WrO (((w.setCell ⟨B,0,none⟩ (.int .i64 p)).setCell ⟨B,1,none⟩ (.int .i64 q)).setCell ⟨B,2,none⟩ (.int .i64 r)) c R at' vs slots s vN vl:=by
 have hb:∀k,k≠B->(((w.setCell ⟨B,0,none⟩ (.int .i64 p)).setCell ⟨B,1,none⟩ (.int .i64 q)).setCell ⟨B,2,none⟩ (.int .i64 r)).heap[k]?=w.heap[k]?:=fun k hk=>(Zm _ _ _ _ hk).trans ((Zm _ _ _ _ hk).trans (Zm _ _ _ _ hk))
 have mB:Fj w B:=⟨_,_,_,hO,Or.inr (Or.inr rfl)⟩
 refine h.mut (by simp) (fun k _ h2=>hb k (fun e=>h2 (by rw[e];exact mB))) rfl rfl ho ⟨AF hr.row fun g e=>hb g (fun e'=>AJ hr.row hO (fun e=>Hi e.symm) (by rw[<-e'];exact e)),fun i hi=>?_,hr.apart⟩ (AF hc fun g e=>hb g (fun e'=>AJ hc hO (by decide) (by rw[<-e'];exact e)))
 obtain⟨v,e,hv⟩:=hr.inner i hi
 exact⟨v,e,AF hv fun g e'=>hb g (fun e2=>hfree i v e (by rw[<-e2];exact e'))⟩
theorem MkObj.inj{w:World}{Q:Nat}{vC vN vL vK vS vC' vN' vL' vK' vS':Value}(h:MkObj w Q vC vN vL vK vS)(h':MkObj w Q vC' vN' vL' vK' vS'):vL=vL'/\vK=vK':=by
 have e:some (Obj.cells #[vC,vN,vL,vK,vS] 45)=some (Obj.cells #[vC',vN',vL',vK',vS'] 45):=h.symm.trans h'
 injection e with e
 injection e with e _ _
 simp only[Array.mk.injEq,List.cons.injEq,and_true]at e
 exact⟨e.2.2.1,e.2.2.2.1⟩
theorem MkObj.injN{w:World}{Q:Nat}{vC vN vL vK vS vC' vN' vL' vK' vS':Value}(h:MkObj w Q vC vN vL vK vS)(h':MkObj w Q vC' vN' vL' vK' vS'):vN=vN':=by
 have e:some (Obj.cells #[vC,vN,vL,vK,vS] 45)=some (Obj.cells #[vC',vN',vL',vK',vS'] 45):=h.symm.trans h'
 injection e with e
 injection e with e _ _
 simp only[Array.mk.injEq,List.cons.injEq,and_true]at e
 exact e.2.1
theorem MX{w1 w2:World}{c:CnO}{R at' B:Nat}{vs vN vl vN2 vl2:Value}{slots:List ByteArray}{s s2:MW}(h1:WrP w1 c R at' vs slots s vN vl)(h2:WrO w2 c R at' vs slots s2 vN2 vl2)(hf:FrO w1 w2 c.Q R vN vl)(hN:Onto w1 vN vN2)(hl:Onto w1 vl vl2)(hO:OBox w2 B 0 0 0)(hls:s2.lists=s.lists)(hmk:∀vL vK,MkObj w1 c.Q c.vC vN vL vK c.vS->MkObj w2 c.Q c.vC vN2 vL vK c.vS)(hrow:∀(k:Nat) cc fz e,w1.heap[k]?=some (Obj.cells cc e fz)->(e=33\/e=35)->w2.heap[k]?=w1.heap[k]?){vL vK:Value}{vis:List Value}(ho:MkObj w1 c.Q c.vC vN vL vK c.vS)(hr:RowsO w1 (c.Q+1) vL vis s.lists)(hB:∀(i:Nat) v,vis[i]?=some v->v.ownBlock≠some B)(hQ:c.Q<B)(p q r:Int) :
  OutP w1 c R at' vs slots s2 vN vl (((w2.setCell ⟨B,0,none⟩ (.int .i64 p)).setCell ⟨B,1,none⟩ (.int .i64 q)).setCell ⟨B,2,none⟩ (.int .i64 r)):=by
 have ho2:=hmk vL vK ho
 have hr2:RowsO w2 (c.Q+1) vL vis s2.lists:=by rw[hls];exact hr.same hrow
 obtain⟨vL',vK',vis',ho',hr',hc'⟩:=h2.mkr.obj
 obtain⟨e1,e2⟩:=ho2.inj ho'
 subst e1 e2
 have hw:=h2.box hO ho2 hr2 hc' hB p q r
 have hfr:FrO w2 (((w2.setCell ⟨B,0,none⟩ (.int .i64 p)).setCell ⟨B,1,none⟩ (.int .i64 q)).setCell ⟨B,2,none⟩ (.int .i64 r)) c.Q R vN2 vl2:=⟨rfl,rfl,rfl,by simp,fun k _ _ _ _ _ h6=>by
  have hk:k≠B:=fun e=>by
   subst e
   rcases h6 with h6 | h6
   ·omega
   ·exact h6 ⟨_,_,_,hO,Or.inr (Or.inr rfl)⟩
  exact(Zm _ _ _ _ hk).trans ((Zm _ _ _ _ hk).trans (Zm _ _ _ _ hk))⟩
 have hfa:=hf.trans hfr hN hl
 exact⟨vN2,vl2,⟨hw,h1.ops.fr h1.wr hfa⟩,hfa,hN,hl⟩
theorem Nl{w:World}{B Q:Nat}{vL:Value}{vis:List Value}{LL:List (List Ord)}(hr:RowsO w Q vL vis LL)(hB:w.heap.size<=B):∀(i:Nat) v,vis[i]?=some v->v.ownBlock≠some B:=fun i v e e'=>by
 have hi:i<LL.length:=by have:=(List.getElem?_eq_some_iff.1 e).1;rw[hr.len]at this;exact this
 obtain⟨v',e2,hv⟩:=hr.inner i hi
 rw[e]at e2
 injection e2 with e2
 subst e2
 have:=(hv.lt B e').2
 omega
theorem Ri{w:World}{c:CnO}{s:MW}{vN:Value}(h:MkO w c s vN){k:Nat}{cc:Array Value}{fz:Nat×Nat}{e:TypeId}(hk:w.heap[k]?=some (Obj.cells cc e fz))(ht:e=33\/e=35):k≠c.Q:=fun e'=>by
 obtain⟨vL,vK,vis,ho,_⟩:=h.obj
 have hQ':w.heap[k]?=some (.cells #[c.vC,vN,vL,vK,c.vS] 45):=by rw[e'];exact ho
 rw[hk]at hQ'
 injection hQ' with hQ'
 injection hQ' with _ hQ' _
 rcases ht with rfl | rfl<;>cases hQ'
theorem QN(c:CnO)(m:Int)(x:ByteArray)(ad:Option Addr)(n cp:Nat)(R at':Nat)(vs vN vl:Value)(slots:List ByteArray)(s:MW)(w:World)(h:WrP w c R at' vs slots s vN vl)(hfw:s.names.length<=900000)(hn:n<=900000) :
  Calls Tryz.prog 66 #[.pointer (some ⟨R,0,none⟩),.agg #[.int .i64 25,.string x,.int .i64 m,.slice ad n cp]] w fun e w'=>Kc w c R at' vs slots (s.known x,(10,s.nameNo x,(n:Int)-1)) vN vl e w':=by
 obtain⟨w1,EW,HB1,hX,hO⟩:=GD w 25 m x (.slice ad n cp)
 have h1:=h.below HB1.out
 obtain⟨vL,vK,vis,ho,hr,hc⟩:=h.wr.mkr.obj
 have HOO:Hid (MkObj w1 c.Q c.vC vN vL vK c.vS):=(HB1.out.block _ ho.lt).trans ho
 have HRR:Hid (RowsO w1 (c.Q+1) vL vis s.lists):=hr.same fun k _ _ _ hc _=>HB1.out.block k (Array.getElem?_eq_some_iff.1 hc).1
 have HFB:Hid (∀(i:Nat) v,vis[i]?=some v->v.ownBlock≠some (w.heap.size+1)):=Nl hr (by omega)
 have hlr0:=h.wr.obj.lt
 have hco:=QH c vN s x w1.drew (h1.wr.mkr.below (Zg _ _).drew) hfw
 obtain⟨⟨r0,_⟩,_⟩:=h1.wr.obj.cells
 have hlr:=h1.wr.obj.lt
 obtain⟨⟨x0,x1,x2,x3⟩,_⟩:=hX.facts
 have hlx:=hX.lt
 have hqb:=h.wr.mkr.qb
 have hrb:=h.wr.rb
 have hsz:=h.wr.mkr.size
 have HP:Hid (WrP w c R at' vs slots s vN vl):=h
 have H1:Hid (WrP w1 c R at' vs slots s vN vl):=h1
 have HO:Hid (OBox w1 (w.heap.size+1) 0 0 0):=hO
 have HX:Hid (Box4 w1 w.heap.size (.int .i64 25) (.string x) (.int .i64 m) (.slice ad n cp)):=hX
 have HWR:Hid (wrap64 ((n:Int)-1)=(n:Int)-1):=by show _=_;unfold wrap64;omega
 have hwn:=Ao (x:=(n:Int)-1) (by omega) (by omega)
 generalize s.nameNo x=p at *
 have HKL:Hid ((s.known x).locals=s.locals):=by show _=_;unfold MW.known;split<;>rfl
 have HLS:Hid ((s.known x).lists=s.lists):=by show _=_;unfold MW.known;split<;>rfl
 generalize s.known x=s2 at *
 clear h h1 hX hO ho hr hc
 go_enter Tryz.func66,Tryz.ntmps66
 go_wp2_with fail
 rw[<-EW.out]
 clear EW
 go_region_law (first
  | (refine F1 rfl 82 (.tmp 27) (.tmp 29) _ _ rfl (.pointer (some ⟨c.Q,0,none⟩)) (.string x) (by first | (simp[Act.eval];done) | simp[Act.eval,Act.put]) (by first | (simp[Act.eval];done) | simp[Act.eval,Act.put]) (fun w=>by kernel_rfl) hco ?_;rintro e w2 ⟨rfl,vN2,hm2,hf2,hn2,hk2,hq2⟩;refine⟨_,rfl,?_⟩;have hof:=(H1.out.below (Zg _ _).drew).wr.of_mk hm2 hf2 hn2 HKL.out;have hO2:OBox w2 (w.heap.size+1) 0 0 0:=(hk2 _ HO.out.lt (by omega) (AJ H1.out.wr.mkr.names HO.out (by decide))).trans HO.out;obtain⟨o0,o1,o2⟩:=hO2.facts;have f0:=hO2.frozen 0;have f1:=hO2.frozen 1;have f2:=hO2.frozen 2;have hlo:=hO2.lt;have hX2:Box4 w2 w.heap.size (.int .i64 25) (.string x) (.int .i64 m) (.slice ad n cp):=(hof.2.block _ HX.out.lt (by omega) (by omega) (AJ H1.out.wr.mkr.names HX.out (by decide)) (AJ H1.out.wr.row HX.out (by decide)) (Or.inr (D4 HX.out (by decide) (by decide) (by decide)))).trans HX.out;obtain⟨⟨_,_,_,y3⟩,_⟩:=hX2.facts;have hly:=hX2.lt;clear hco))
 all_goals (go_wp2_with fail)
 all_goals (have q:=(hO2.set3 10 p ((n:Int)-1)).facts)
 all_goals (have hend:=MX H1.out hof.1 ((FrO.of_below (Zg _ _).drew).trans hof.2 (Onto.refl _ _) (Onto.refl _ _)) hn2 (Onto.refl _ _) hO2 HLS.out hq2 (fun k cc fz e hk ht=>hk2 k (Array.getElem?_eq_some_iff.1 hk).1 (fun e'=>Ri H1.out.wr.mkr hk ht e') (AJ H1.out.wr.mkr.names hk (by rcases ht with rfl | rfl<;>decide))) HOO.out HRR.out HFB.out (by omega) 10 p ((n:Int)-1))
 all_goals (exact bodyPost_ret (v:=.agg #[.int .i64 10,.int .i64 p,.int .i64 ((n:Int)-1)]) (by simp[results,Tryz.results66,go_sem,q.1,q.2.1,q.2.2]) rfl ⟨rfl,OutP.into HB1.out hend⟩)
theorem Rj(c:CnO)(m:Int)(x:ByteArray)(ad:Option Addr)(n cp:Nat)(R at':Nat)(vs vN vl:Value)(slots:List ByteArray)(s:MW)(w:World)(h:WrP w c R at' vs slots s vN vl)(hat:at'<s.counts.length)(hfew:s.locals.length<=900000)(hcnt:s.counts[at']<=900000)(hlst:s.counts.length<=900000) :
  Calls Tryz.prog 66 #[.pointer (some ⟨R,0,none⟩),.agg #[.int .i64 7,.string x,.int .i64 m,.slice ad n cp]] w fun e w'=>Kc w c R at' vs slots (s.local at' x,(7,(s.locals.length:Int),0)) vN vl e w':=by
 obtain⟨w1,EW,HB1,hX,hO⟩:=GD w 7 m x (.slice ad n cp)
 have h1:=h.below HB1.out
 obtain⟨vL,vK,vis,ho,hr,hc⟩:=h.wr.mkr.obj
 have HOO:Hid (MkObj w1 c.Q c.vC vN vL vK c.vS):=(HB1.out.block _ ho.lt).trans ho
 have HRR:Hid (RowsO w1 (c.Q+1) vL vis s.lists):=hr.same fun k _ _ _ hc _=>HB1.out.block k (Array.getElem?_eq_some_iff.1 hc).1
 have HFB:Hid (∀(i:Nat) v,vis[i]?=some v->v.ownBlock≠some (w.heap.size+1)):=Nl hr (by omega)
 have hco:=Jz c R at' vs vN vl slots s x w1 h1.wr hat hfew hcnt hlst
 obtain⟨⟨x0,x1,x2,x3⟩,_⟩:=hX.facts
 have hlx:=hX.lt
 have hqb:=h.wr.mkr.qb
 have hsz:=h.wr.mkr.size
 have H1:Hid (WrP w1 c R at' vs slots s vN vl):=h1
 have HO:Hid (OBox w1 (w.heap.size+1) 0 0 0):=hO
 have HLS:Hid ((s.local at' x).lists=s.lists):=rfl
 rw[EW.out]at hco
 generalize s.local at' x=s2 at *
 clear h h1 hX hO ho hr hc x0 x1 x2 x3
 go_enter Tryz.func66,Tryz.ntmps66
 go_wp2_with (first
  | (go_at_call 34;refine hco.mono ?_;rintro e w2 ⟨rfl,hout,hok⟩;rw[<-EW.out]at hout hok;have hO2:OBox w2 (w.heap.size+1) 0 0 0:=(hok _ _ _ (Or.inl HO.out)).trans HO.out;obtain⟨o0,o1,o2⟩:=hO2.facts;have f0:=hO2.frozen 0;have f1:=hO2.frozen 1;have f2:=hO2.frozen 2;have hlo:=hO2.lt))
 have q:=(hO2.set3 7 (s.locals.length:Int) 0).facts
 obtain⟨vN2,vl2,hw2,hf2,hn2,hl2⟩:=hout
 have hm2:MkObj w2 c.Q c.vC vN vL vK c.vS:=(hok _ _ _ (Or.inr (Or.inr HOO.out))).trans HOO.out
 obtain⟨vL',vK',vis',ho',hr',hc'⟩:=hw2.mkr.obj
 have eN:=hm2.injN ho'
 subst eN
 have hend:=MX H1.out hw2 hf2 hn2 hl2 hO2 HLS.out (fun a b h=>(hok _ _ _ (Or.inr (Or.inr h))).trans h) (fun k cc fz e hk ht=>hok k cc fz (by rcases ht with rfl | rfl;exact Or.inr (Or.inl hk);exact Or.inl hk)) HOO.out HRR.out HFB.out (by omega) 7 (s.locals.length:Int) 0
 exact bodyPost_ret (v:=.agg #[.int .i64 7,.int .i64 (s.locals.length:Int),.int .i64 0]) (by simp[results,Tryz.results66,go_sem,q.1,q.2.1,q.2.2]) rfl ⟨rfl,OutP.into HB1.out hend⟩
theorem Ma(k m:Int)(tx:List Int)(a:Nd):A0 (.mk k tx m [a])=1+(A0 a+0):=by
 conv=>lhs;unfold A0
 conv=>lhs;rhs;unfold A2
 conv=>lhs;rhs;rhs;unfold A2
theorem Rq{w2 w4 w5:World}{c:CnO}{R R' at' at'':Nat}{vs vN2 vl2 v3:Value}{slots:List ByteArray}{s2 s5:MW}(hw2:WrP w2 c R at' vs slots s2 vN2 vl2)(hb:Below w2.heap.size w2 w4)(hR':w2.heap.size<=R')(hv3:∀g,v3.ownBlock=some g->w2.heap.size<=g)(H:OutP w4 c R' at'' vs slots s5 vN2 v3 w5) :
  OutP w2 c R at' vs slots (s5.back s2.locals) vN2 vl2 w5:=by
 obtain⟨vN5,vl5,hw5,hf5,hn5,hl5⟩:=H
 have hqb:=hw2.wr.mkr.qb
 have hrb:=hw2.wr.rb
 have hsz:=hw2.wr.mkr.size
 have hbs:=hb.size
 have hk:∀k,k<w2.heap.size->k≠c.Q->vN2.ownBlock≠some k->(k<=c.Q\/¬Fj w2 k)->w5.heap[k]?=w2.heap[k]?:=fun k h1 h2 h3 h4=>by
  have e:=hb.block k h1
  refine(hf5.block k (by omega) h2 (by omega) h3 (fun e=>by have:=hv3 k e;omega) ?_).trans e
  rcases h4 with h4 | h4
  ·exact Or.inl h4
  ·exact Or.inr fun⟨c',t,fz,hc,ht⟩=>h4 ⟨c',t,fz,by rw[<-e];exact hc,ht⟩
 have str:∀ {B n:Nat} {v:Value} {ys:List Value},w2.ownsRow B 9 1 v n ys->c.Q<B->(∀g,v.ownBlock=some g->vN2.ownBlock≠some g)->w5.ownsRow B 9 1 v n ys:=fun hv hB hne=>AF hv fun g e=>hk g (hv.lt g e).2 (by have:=(hv.lt g e).1;omega) (hne g e) (Or.inr (CB hv (by decide) (by decide) (by decide) e))
 have hon:Onto w2 vN2 vN5:=(Onto.refl _ _).trans hn5 hbs
 have hfr:FrO w2 w5 c.Q R vN2 vl2:=⟨hf5.os.trans hb.os,hf5.tape.trans hb.tape,hf5.output.trans hb.output,Za hbs hf5.size,fun k h1 h2 _ h4 _ h6=>hk k h1 h2 h4 h6⟩
 have hm5:=hw5.wr.mkr
 refine⟨vN5,vl2,⟨⟨⟨hm5.obj,hm5.names,hm5.cls,hm5.qb,hm5.size⟩,(hk R hw2.wr.obj.lt (by omega) (AJ hw2.wr.mkr.names hw2.wr.obj (by decide)) (Or.inr (D4 hw2.wr.obj (by decide) (by decide) (by decide)))).trans hw2.wr.obj,str hw2.wr.row (by omega) (fun g e e'=>hw2.wr.apart g e' e),fun g e e'=>?_,str hw2.wr.slots (by omega) (fun g e e'=>?_),hw2.wr.low,hw2.wr.rb⟩,hw5.ops⟩,hfr,hon,Onto.refl _ _⟩
 ·rcases hon with hon | hon
  ·exact hw2.wr.apart g (by rw[<-hon];exact e) e'
  ·have:=hon g e;have:=(hw2.wr.row.lt g e').2;omega
 ·have:=hw2.wr.low g e;have:=(hw2.wr.mkr.names.lt g e').1;omega
theorem TF{w2 w3:World}{c:CnO}{R at' at'':Nat}{vs vN2 vl2 v3:Value}{slots:List ByteArray}{s2:MW}(hw2:WrP w2 c R at' vs slots s2 vN2 vl2)(hb:Below w2.heap.size w2 w3)(h3:w3.ownsRow w2.heap.size 9 1 v3 s2.locals.length (B5 s2.locals)) :
  WrP (w3.alloc (.cells #[.pointer (some ⟨c.Q,0,none⟩),.int .i64 (at'':Int),vs,v3] 51)) c w3.heap.size at'' vs slots s2 vN2 v3/\Below w2.heap.size w2 (w3.alloc (.cells #[.pointer (some ⟨c.Q,0,none⟩),.int .i64 (at'':Int),vs,v3] 51)):=by
 have hb1:=hb.alloc hb.size (.cells #[.pointer (some ⟨c.Q,0,none⟩),.int .i64 (at'':Int),vs,v3] 51)
 have hw:=hw2.below hb1
 have hb2:Below w3.heap.size w3 (w3.alloc (.cells #[.pointer (some ⟨c.Q,0,none⟩),.int .i64 (at'':Int),vs,v3] 51)):=(Zg _ _).alloc (Z0 _) _
 have hsz:=hw2.wr.mkr.size
 have hbs:=hb.size
 have hr:=AF (w':=w3.alloc (.cells #[.pointer (some ⟨c.Q,0,none⟩),.int .i64 (at'':Int),vs,v3] 51)) h3 fun g e=>hb2.block g (h3.lt g e).2
 exact⟨⟨⟨hw.wr.mkr,heap_alloc_new w3 _,DJ hr hsz,fun g e e'=>by have:=(hw2.wr.mkr.names.lt g e).2;have:=(h3.lt g e').1;omega,hw.wr.slots,hw.wr.low,by omega⟩,hw.ops⟩,hb1⟩
theorem began{w0 w1:World}{c:CnO}{R at' k:Nat}{vs vN vl:Value}{slots:List ByteArray}{s:MW}(h:WrP w0 c R at' vs slots s vN vl)(hm:MkO w1 c (s.begin k) vN)(hf:FrO w0.drew w1 c.Q c.Q vN (.slice none 0 0)):OutP w0 c R at' vs slots (s.begin k) vN vl w1:=by
 have hd:=h.below (Zg _ _).drew
 have h1:=hd.wr.of_mk hm hf (Onto.refl _ _) rfl
 exact OutP.into (Zg _ _).drew ⟨vN,vl,⟨h1.1,hd.ops.fr hd.wr h1.2⟩,h1.2,Onto.refl _ _,Onto.refl _ _⟩
theorem TG(c:CnO)(k m:Int)(tx:List Int)(bn:Nd)(hbN:Dp c bn)(R at':Nat)(vs vN vl u:Value)(slots:List ByteArray)(s:MW)(b:Nat)(w:World)(h:WrP w c R at' vs slots s vN vl)(hat:at'<s.lists.length)(hf:FewO s b)(hb:b+4*A0 (.mk k tx m [bn])<=90000)(hu:NodeV w (Ahd c.Q) u (.mk k tx m [bn])) :
  Calls Tryz.prog 65 #[.pointer (some ⟨R,0,none⟩),u] w fun e w'=>e=.returned (.tuple #[])/\OutP w c R at' vs slots ((AB c.cls slots s.lists.length bn ((s.begin s.locals.length).put at' (23,(s.lists.length:Int),0))).back s.locals) vN vl w':=by
 obtain⟨xk,hu1,ad,c0,hx1,hkk⟩:=hu
 obtain⟨cc,hcc⟩:∃cc,c0+1=cc:=⟨_,rfl⟩
 have hx2:xk=.slice ad 1 cc:=by rw[<-hcc];exact hx1
 subst hx2
 have hu2:u=.agg #[.int .i64 k,.string (strOfNums tx),.int .i64 m,.slice ad 1 cc]:=hu1
 subst hu2
 have esz:=Ma k m tx bn
 rw[esz]at hb
 have hQb:=h.wr.mkr.qb
 have hRb:=h.wr.rb
 have hsz:=h.wr.mkr.size
 obtain⟨kb,ko,ad1,l1,c1,hK0⟩:=Dy (ks:=[bn]) hkk (i:=0) (show 0<1 by decide)
 have e1:=hK0.is
 subst e1
 have hb0:Below w.heap.size w (w.alloc (.cells #[.int .i64 k,.string (strOfNums tx),.int .i64 m,.slice (some ⟨kb,ko,none⟩) 1 cc] 39)):=(Zg _ w).alloc (Z0 _) _
 have h0:=h.below hb0
 have hB:=Box4.new w (.int .i64 k) (.string (strOfNums tx)) (.int .i64 m) (.slice (some ⟨kb,ko,none⟩) 1 cc)
 have hlr0:=h.wr.obj.lt
 have hn0:NodeV _ (Ahd c.Q) _ bn:=hK0.node.above (Zk hb0)
 have a0:=hK0.kind
 have a1:=hK0.text
 have a2:=hK0.num
 have ak:=hK0.kids
 simp only[List.getElem_cons_zero,Nat.zero_mul,Nat.add_zero]at a0 a1 a2 ak
 have hklow:=hK0.low
 obtain⟨la,lc,rfl,_,_⟩:=BS h.wr.row
 obtain⟨sa,sc,rfl,_,_⟩:=BS h.wr.slots
 obtain⟨w0,ew0⟩:∃w0,w0=w.alloc (.cells #[.int .i64 k,.string (strOfNums tx),.int .i64 m,.slice (some ⟨kb,ko,none⟩) 1 cc] 39):=⟨_,rfl⟩
 rw[<-ew0]at hb0 h0 hB hn0
 obtain⟨⟨r0,_,r2,r3⟩,_⟩:=h0.wr.obj.cells
 have hlr:=h0.wr.obj.lt
 have H0:Hid (WrP w0 c R at' (.slice sa slots.length sc) slots s vN (.slice la s.locals.length lc)):=h0
 have HB0:Hid (Below w.heap.size w w0):=hb0
 have f1:=hf.begin hf.locals
 have hnl:(s.begin s.locals.length).lists.length=s.lists.length+1:=by unfold MW.begin;simp
 have t1:at'<(s.begin s.locals.length).lists.length:=by rw[hnl];omega
 have f2:=f1.put at' (23,(s.lists.length:Int),0)
 have t2:s.lists.length<((s.begin s.locals.length).put at' (23,(s.lists.length:Int),0)).lists.length:=by rw[DK,hnl];omega
 have hbg:=JF c vN s s.locals.length w0.drew (h0.wr.mkr.below (Zg _ _).drew) (Za hf.lists (by omega)) (by rw[hf.same];exact Za hf.lists (by omega))
 have HW:=fun w' H=>EU (w:=w') (w0:=w0) (c:=c) (R:=R) (vs:=.slice sa slots.length sc) (vN:=vN) (vl:=.slice la s.locals.length lc) (slots:=slots) H t1 f1 (by omega) (23,(s.lists.length:Int),0)
 have HBX:Hid (∀ {s':MW} {w':World},OutP w0 c R at' (.slice sa slots.length sc) slots s' vN (.slice la s.locals.length lc) w'->Box4 w' w.heap.size (.int .i64 k) (.string (strOfNums tx)) (.int .i64 m) (.slice (some ⟨kb,ko,none⟩) 1 cc)/\(∀j,w'.cell? ⟨kb,j,none⟩=w.cell? ⟨kb,j,none⟩)/\kb<w'.heap.size/\Above (Ahd c.Q) w0 w'):=fun H=>⟨hB.outp H0.out.wr H (by omega) (by omega),fun j=>((H.low H0.out.wr hklow).1).trans (hb0.cell (p:=⟨kb,j,none⟩) (by show kb<_;omega)),(H.low (j:=0) H0.out.wr hklow).2,H.ahd H0.out.wr⟩
 have HBK:=fun w4 (R4:Nat) (v4 v5:Value) (h4:WrP w4 c R4 s.lists.length (.slice sa slots.length sc) slots ((s.begin s.locals.length).put at' (23,(s.lists.length:Int),0)) v4 v5) (ha:Above (Ahd c.Q) w0 w4)=>G3 hbN h4.wr (OutP.first h4) t2 f2 (by omega) (hn0.above ha)
 have hls:s.locals.length<=90000:=Za hf.locals (by omega)
 have hli:(s.lists.length:Int)=(s.lists.length:Int):=rfl
 clear h0 h hbN hn0 hK0 hkk hf f1 f2 t1 t2 hB hb0 hx1 hu1 hcc esz hat hnl hli hsz hlr0
 go_enter Tryz.func65,Tryz.ntmps65
 go_wp2_with fail
 rw[<-ew0]
 clear ew0
 go_region_law (first
  | (refine F1 rfl 9 (.tmp 9) (.tmp 14) _ _ rfl (.pointer (some ⟨c.Q,0,none⟩)) (.int .i64 (s.locals.length:Int)) (by first | (simp[Act.eval];done) | simp[Act.eval,Act.put]) (by first | (simp[Act.eval];done) | simp[Act.eval,Act.put]) (fun w=>by kernel_rfl) hbg ?_;rintro e w1 ⟨rfl,hm1,hf1⟩;refine⟨_,rfl,?_⟩;have H1:=began H0.out hm1 hf1;clear hm1 hf1 hbg))
 all_goals (go_wp2_with (first
  | (go_at_call 35;refine(HW _ H1).mono ?_;rintro e w2 ⟨rfl,H2⟩;have q2:=HBX.out H2;obtain⟨vN2,vl2,hw2,hf2,hn2,hl2⟩:=id H2;have row2:w2.ownsRow c.BB 9 1 vl2 s.locals.length (B5 s.locals):=hw2.wr.row;obtain⟨la2,lc2,rfl,_,_⟩:=BS row2;obtain⟨⟨y0,_,y2,y3⟩,_⟩:=hw2.wr.obj.cells;have hlr2:=hw2.wr.obj.lt;have hcl:=JR s.locals (fun k=>c.BB<=k) (.slice la2 s.locals.length lc2) w2.drew (EH (AF row2 fun g e=>rfl)) (Za hls (by decide)))))
 all_goals (go_region_law (first
  | (refine FO rfl 19 (.tmp 32) _ rfl (.slice la2 s.locals.length lc2) (by first | (simp[Act.eval];done) | simp[Act.eval,Act.put]) (fun w=>by kernel_rfl) hcl ?_;rintro e w3 ⟨v3,rfl,hr3,hb3⟩;refine⟨_,rfl,?_⟩;obtain⟨a3,c3,rfl,_,_⟩:=BS hr3;have hb3':Below w2.heap.size w2 w3:=(Zg _ _).drew.trans hb3;have hnw:=TF (at'':=s.lists.length) hw2 hb3' hr3;have m0:=(hb3'.cell (p:=⟨R,0,none⟩) hlr2).trans y0;have m2:=(hb3'.cell (p:=⟨R,2,none⟩) hlr2).trans y2;have m3:R<w3.heap.size:=Z5 hlr2 hb3'.size;clear hcl)))
 all_goals (have hbx:Box4 (w3.alloc (.cells #[.pointer (some ⟨c.Q,0,none⟩),.int .i64 (s.lists.length:Int),.slice sa slots.length sc,.slice a3 s.locals.length c3] 51)) w.heap.size (.int .i64 k) (.string (strOfNums tx)) (.int .i64 m) (.slice (some ⟨kb,ko,none⟩) 1 cc):=(hnw.2.block _ q2.1.lt).trans q2.1)
 all_goals (obtain⟨⟨_,_,_,x3⟩,_⟩:=hbx.facts)
 all_goals (have x4:=hbx.lt)
 all_goals (have kc:∀j,(w3.alloc (.cells #[.pointer (some ⟨c.Q,0,none⟩),.int .i64 (s.lists.length:Int),.slice sa slots.length sc,.slice a3 s.locals.length c3] 51)).cell? ⟨kb,j,none⟩=w.cell? ⟨kb,j,none⟩:=fun j=>(hnw.2.cell (p:=⟨kb,j,none⟩) q2.2.2.1).trans (q2.2.1 j))
 all_goals (have d0:=(kc _).trans a0)
 all_goals (have d1:=(kc _).trans a1)
 all_goals (have d2:=(kc _).trans a2)
 all_goals (have d3:=(kc _).trans ak)
 all_goals (have x5:kb<(w3.alloc (.cells #[.pointer (some ⟨c.Q,0,none⟩),.int .i64 (s.lists.length:Int),.slice sa slots.length sc,.slice a3 s.locals.length c3] 51)).heap.size:=Z5 q2.2.2.1 hnw.2.size)
 all_goals (have hbk:=HBK _ w3.heap.size vN2 _ hnw.1 (q2.2.2.2.trans (Zk hnw.2)))
 all_goals (clear HBK)
 all_goals (go_wp2_with (first | (go_at_call 11;refine hbk.mono ?_;rintro e w5 ⟨rfl,H5⟩;have hfb:=Rq hw2 hnw.2 hb3'.size (fun g e=>(hr3.lt g e).1) H5)))
 all_goals (refine bodyPost_end (v:=.tuple #[]) (by simp[results,Tryz.results65,go_sem]) rfl ⟨rfl,OutP.into HB0.out (OutP.trans hf2 hn2 hl2 hfb)⟩)
end Go.Proofs.YtpfdgbalchmmfaaGreatDoor
