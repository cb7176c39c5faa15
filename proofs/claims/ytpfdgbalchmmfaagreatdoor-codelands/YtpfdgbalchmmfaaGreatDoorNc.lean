/- Texts in one. -/
import Derived.Test.YtpfdgbalchmmfaaGreatDoorNb
import Derived.Deep.RegionWith
import Derived.Deep.CutBlock
set_option maxHeartbeats 16000000
set_option maxRecDepth 20000
namespace Go.Proofs.YtpfdgbalchmmfaaGreatDoor
open Go.RowKit
theorem Box4.keeps{w w':World}{Q R m:Nat}{v a b c d:Value}(h:Box4 w R a b c d)(hk:Keeps w w' Q v m)(hq:R≠Q)(hv:v.ownBlock≠some R):Box4 w' R a b c d:=(hk.block R h.lt hq hv).trans h
theorem FO{ops:Array Oper}{o:Oper}{a:Act}{w:World}{K:Act->World->Prop}{Q:Exit->Act->World->Prop}{E:Prop}(hg:o.guard=none)(f:FuncId)(x:Operand)(t:TypeId)(hop:o.op=Op.call { callee:=Callee.value (.func f),args:=#[x],argTypes:=#[t] })(v:Value)(hx:a.eval x=v)(hent:∀w,Sem.run Tryz.prog (callFunc f #[v]) w=.ok (.enter f #[v]) w){R:Ending->World->Prop}(hC:Calls Tryz.prog f #[v] w R)(hR:∀e w',R e w'->∃u,e=.returned u/\K (a.put o.dst u) w') :
  if Region.wanted o (yielded ops a.tmps)=true then Oper.wp Tryz.prog o a w K Q else E:=by
 have hw:Region.wanted o (yielded ops a.tmps)=true:=by simp[Region.wanted,hg]
 rw[if_pos hw]
 subst hx
 have e:Sem.run Tryz.prog (execOp a.eval o) w=.ok (.enter f #[a.eval x]) w:=by
  simp[execOp,hop,resolve,invoke,Deferred.ofValue,go_sem]
  have h9:=hent w
  simp[Act.eval]at h9
  exact h9
 unfold Oper.wp
 rw[e,Oper.upon_enter]
 refine hC.mono fun e w' hr=>?_
 obtain⟨u,rfl,hk⟩:=hR e w' hr
 exact hk
theorem QG{ops:Array Oper}{o:Oper}{a:Act}{w:World}{K:Act->World->Prop}{Q:Exit->Act->World->Prop}{E:Prop}(hg:o.guard=none)(f:FuncId)(x y z:Operand)(t t' t'':TypeId)(hop:o.op=Op.call { callee:=Callee.value (.func f),args:=#[x,y,z],argTypes:=#[t,t',t''] })(v v' v'':Value)(hx:a.eval x=v)(hy:a.eval y=v')(hz:a.eval z=v'')(hent:∀w,Sem.run Tryz.prog (callFunc f #[v,v',v'']) w=.ok (.enter f #[v,v',v'']) w){R:Ending->World->Prop}(hC:Calls Tryz.prog f #[v,v',v''] w R)(hR:∀e w',R e w'->∃u,e=.returned u/\K (a.put o.dst u) w') :
  if Region.wanted o (yielded ops a.tmps)=true then Oper.wp Tryz.prog o a w K Q else E:=by
 have hw:Region.wanted o (yielded ops a.tmps)=true:=by simp[Region.wanted,hg]
 rw[if_pos hw]
 subst hx hy hz
 have e:Sem.run Tryz.prog (execOp a.eval o) w=.ok (.enter f #[a.eval x,a.eval y,a.eval z]) w:=by
  simp[execOp,hop,resolve,invoke,Deferred.ofValue,go_sem]
  have h9:=hent w
  simp[Act.eval]at h9
  exact h9
 unfold Oper.wp
 rw[e,Oper.upon_enter]
 refine hC.mono fun e w' hr=>?_
 obtain⟨u,rfl,hk⟩:=hR e w' hr
 exact hk
theorem I3{ops:Array Oper}{o:Oper}{a:Act}{w:World}{K:Act->World->Prop}{Q:Exit->Act->World->Prop}{E:Prop}(hg:o.guard=none)(f:FuncId)(x y z:Operand)(t t' t'':TypeId)(hop:o.op=Op.call { callee:=Callee.value (.func f),args:=#[x,y,z],argTypes:=#[t,t',t''] })(v v' v'':Value)(hx:a.eval x=v)(hy:a.eval y=v')(hz:a.eval z=v'')(hent:∀w,Sem.run Tryz.prog (callFunc f #[v,v',v'']) w=.ok (.enter f #[v,v',v'']) w){R:Ending->World->Prop}(hC:Calls Tryz.prog f #[v,v',v''] w R)(hR:∀e w',R e w'->∃ps,e=.panicked ps/\Q (.panic ps) a w')(u:Value)(_hK:Hid False->K (a.put o.dst u) w) :
  if Region.wanted o (yielded ops a.tmps)=true then Oper.wp Tryz.prog o a w K Q else E:=by
 have hw:Region.wanted o (yielded ops a.tmps)=true:=by simp[Region.wanted,hg]
 rw[if_pos hw]
 subst hx hy hz
 have e:Sem.run Tryz.prog (execOp a.eval o) w=.ok (.enter f #[a.eval x,a.eval y,a.eval z]) w:=by
  simp[execOp,hop,resolve,invoke,Deferred.ofValue,go_sem]
  have h9:=hent w
  simp[Act.eval]at h9
  exact h9
 unfold Oper.wp
 rw[e,Oper.upon_enter]
 refine hC.mono fun e w' hr=>?_
 obtain⟨ps,rfl,hk⟩:=hR e w' hr
 exact hk
theorem Nf(Q BB mb:Nat)(M:List (ByteArray×Int))(vp vs:Value):∀(N:Nat) (n:Nd),A0 n<=N->JH Q BB mb M vp vs n:=by
 intro N
 induction N with
 | zero=>intro n hn;cases n with | mk a b c d=>unfold A0 at hn;omega
 | succ N ih=>
  intro n hn E own nx L v u w h hu hN
  cases n with
  | mk k tx nm ks=>
   obtain⟨xk,hu1,ad,c0,hx1,hkk⟩:=hu
   obtain⟨c,hcc⟩:∃c,c0+ks.length=c:=⟨_,rfl⟩
   have hx2:xk=.slice ad ks.length c:=by rw[<-hcc];exact hx1
   subst hx2
   have hu2:u=.agg #[.int .i64 k,.string (strOfNums tx),.int .i64 nm,.slice ad ks.length c]:=hu1
   subst hu2
   have esz:A0 (.mk k tx nm ks)=1+A2 ks:=by conv=>lhs;unfold A0
   rw[esz]at hn hN
   have hks:∀i (h:i<ks.length),JH Q BB mb M vp vs ks[i]:=fun i hi=>ih ks[i] (by have:=Jl hi;omega)
   have hkv:KidsV w (Low BB Q) (.slice ad ks.length c) ks:=⟨ad,c0,by rw[hcc],hkk⟩
   obtain⟨la,lc,hv1,_,_⟩:=BS h.row
   subst hv1
   obtain⟨sa,sc,hs1,_⟩:=id h.slots
   subst hs1
   have hqb:=h.qb
   have hsz:=h.size
   have hvb:∀g,(Value.slice la L.length lc).ownBlock=some g->BB<=g:=fun g e=>(h.row.lt g e).1
   have hvl:∀g,(Value.slice la L.length lc).ownBlock=some g->g<w.heap.size:=fun g e=>(h.row.lt g e).2
   have hb0:Below w.heap.size w (w.alloc (.cells #[.int .i64 k,.string (strOfNums tx),.int .i64 nm,.slice ad ks.length c] 39)):=(Zg _ w).alloc (Z0 _) _
   have hen:=JE Q BB mb own nx M vp _ _ E L _ (h.below hb0) (by omega)
   have HX:Hid (Box4 (w.alloc (.cells #[.int .i64 k,.string (strOfNums tx),.int .i64 nm,.slice ad ks.length c] 39)) w.heap.size (.int .i64 k) (.string (strOfNums tx)) (.int .i64 nm) (.slice ad ks.length c)):=Box4.new _ _ _ _ _
   have hlo:=fun w' (h':Wk w' Q BB mb M vp (.slice sa E.slots.length sc) E own (nx+1) L (.slice la L.length lc))=>St Q BB mb own (nx+1) M vp _ _ E L k (strOfNums tx) nm ad ks.length c nx w' h'
   have hall:=fun w' (h':Wk w' Q BB mb M vp (.slice sa E.slots.length sc) E own (nx+1) L (.slice la L.length lc)) (hu':KidsV w' (Low BB Q) (.slice ad ks.length c) ks)=>I1 Q BB mb M vp _ ks hks E own (nx+1) L _ _ w' h' hu' (by omega)
   have hatB:=fun w' (h':Wk w' Q BB mb M vp (.slice sa E.slots.length sc) E own (nx+1) L (.slice la L.length lc)) (hu':KidsV w' (Low BB Q) (.slice ad ks.length c) ks)=>LP Q BB mb M vp _ ks hks E E rfl rfl own L.length (nx+1) L (Z0 _) _ _ w' h' hu' (by omega)
   have hatF:=fun w' (h':Wk w' Q BB mb M vp (.slice sa E.slots.length sc) E own (nx+1) L (.slice la L.length lc)) (hu':KidsV w' (Low BB Q) (.slice ad ks.length c) ks)=>LP Q BB mb M vp _ ks hks E { E with returns:=false } rfl rfl own own (nx+1) L h.own _ _ w' h' hu' (by omega)
   have hib:=OW sa la E.slots.length sc L.length lc own E.inside E.returns
   have hif:=Q3 sa la E.slots.length sc L.length lc own E.inside E.returns
   have had:=fun(y:StZ) (v2:Value) w' (h':Wk w' Q BB mb M vp (.slice sa E.slots.length sc) E own y.1 y.2 v2)=>PY Q BB mb own y.1 M vp _ v2 E y.2 (strOfNums tx) nx w' h'
   have HK0:Hid (Keeps w (w.alloc (.cells #[.int .i64 k,.string (strOfNums tx),.int .i64 nm,.slice ad ks.length c] 39)) Q (.slice la L.length lc) L.length):=Keeps.of_below hb0
   have HKV:Hid (KidsV (w.alloc (.cells #[.int .i64 k,.string (strOfNums tx),.int .i64 nm,.slice ad ks.length c] 39)) (Low BB Q) (.slice ad ks.length c) ks):=hkv.above (Zk hb0)
   rw[DW]
   dsimp only
   generalize strOfNums tx=x at *
   clear h hkk hkv hks ih hb0 esz hx1 hu1 hcc
   cases hlz:C9 E L k x nx with
   | error f=>
    rw[hlz]at hlo
    rw[chk_err]
    clear hlz hall hatB hatF hib hif had
    go_enter Tryz.func30,Tryz.ntmps30
    go_wp2_with (first
     | (go_at_call 28;refine hen.mono ?_;rintro e w1 ⟨rfl,hw1,hg1⟩;obtain⟨⟨x0,x1,x2,x3⟩,_⟩:=(HX.out.grown hg1 (by omega)).facts;have hlx:=(HX.out.grown hg1 (by omega)).lt)
     | (go_at_call 57;refine(hlo _ hw1).mono ?_;rintro e w2 ⟨hb2,rfl⟩))
    exact⟨rfl,rfl,(HK0.out.trans (Keeps.of_grown (m:=L.length) hg1) (Or.inl rfl) (fun _=>Z0 _)).trans (Keeps.of_below (m:=L.length) hb2) (Or.inl rfl) (fun _=>Z0 _)⟩
   | ok _=>
    rw[hlz]at hlo
    rw[chk_ok]
    clear hlz
    by_cases e6:k=6
    ·subst e6
     rw[if_pos rfl]
     clear hall hatF hif had
     cases hz:At E L.length ks (nx+1,L)with
     | error f=>
      rw[chk_err]
      simp only[hz,chk_err]at hatB
      clear hz
      go_enter Tryz.func30,Tryz.ntmps30
      go_wp2_with (first
       | (go_at_call 28;refine hen.mono ?_;rintro e w1 ⟨rfl,hw1,hg1⟩;have hX1:=HX.out.grown hg1 (by omega);obtain⟨⟨x0,x1,x2,x3⟩,_⟩:=hX1.facts;have hlx:=hX1.lt)
       | (go_at_call 57;refine(hlo _ hw1).mono ?_;rintro e w2 ⟨hb2,rfl⟩;have hw2:=hw1.below hb2;have hX2:Box4 w2 w.heap.size (.int .i64 6) (.string x) (.int .i64 nm) (.slice ad ks.length c):=(hb2.block _ hlx).trans hX1;obtain⟨⟨y0,y1,y2,y3⟩,_⟩:=hX2.facts;have hly:=hX2.lt;have hK2:=(HK0.out.trans (Keeps.of_grown (m:=L.length) hg1) (Or.inl rfl) (fun _=>Z0 _)).trans (Keeps.of_below (m:=L.length) hb2) (Or.inl rfl) (fun _=>Z0 _);have hv2:=(HKV.out.above (Zh hg1 (fun k e=>by injection e with e;rintro⟨_,h⟩;exact h e.symm))).above (Zk hb2)))
      obtain⟨_,k3,k4,k5,k6,k7⟩:=hw2.obj.cells
      have hlq:=hw2.obj.lt
      go_region_law (first
        | (refine FO rfl 59 (.tmp 23) _ rfl (.agg #[.slice sa E.slots.length sc,.slice la L.length lc,.int .i64 (own:Int),.bool E.inside,.bool E.returns]) (by first | (simp[Act.eval];done) | simp[Act.eval,Act.put]) (fun w=>by kernel_rfl) (hib _) ?_;rintro e w3 ⟨rfl,hb3⟩;refine⟨_,rfl,?_⟩;have hw3:=(hw2.below (Zg _ _).drew).below hb3;have hX3:Box4 w3 w.heap.size (.int .i64 6) (.string x) (.int .i64 nm) (.slice ad ks.length c):=(hb3.block _ hly).trans hX2;obtain⟨⟨t0,t1,t2,t3⟩,_⟩:=hX3.facts;have hlt3:=hX3.lt;have hv3:=hv2.above (Zk ((Zg _ _).drew.trans hb3)))
        | (refine I3 rfl 58 (.tmp 19) (.tmp 24) (.tmp 26) _ _ _ rfl (.pointer (some ⟨Q,0,none⟩)) (.agg #[.slice sa E.slots.length sc,.slice la L.length lc,.int .i64 (L.length:Int),.bool E.inside,.bool E.returns]) (.slice ad ks.length c) (by first | (simp[Act.eval];done) | simp[Act.eval,Act.put]) (by first | (simp[Act.eval];done) | simp[Act.eval,Act.put]) (by first | (simp[Act.eval];done) | simp[Act.eval,Act.put]) (fun w=>by kernel_rfl) (hatB _ hw3 hv3) ?_ (.tuple #[]) ?_;(rintro e w4 ⟨rfl,hk4⟩;refine⟨_,rfl,?_⟩;exact⟨rfl,rfl,(hK2.trans (Keeps.of_below (m:=L.length) ((Zg _ _).drew.trans hb3)) (Or.inl rfl) (fun _=>Z0 _)).trans hk4 (Or.inl rfl) (fun _=>Z0 _)⟩);intro hF))
      all_goals exact hF.out.elim
     | ok y=>
      rw[chk_ok]
      simp only[hz,chk_ok]at hatB
      clear hz
      go_enter Tryz.func30,Tryz.ntmps30
      go_wp2_with (first
       | (go_at_call 28;refine hen.mono ?_;rintro e w1 ⟨rfl,hw1,hg1⟩;have hX1:=HX.out.grown hg1 (by omega);obtain⟨⟨x0,x1,x2,x3⟩,_⟩:=hX1.facts;have hlx:=hX1.lt)
       | (go_at_call 57;refine(hlo _ hw1).mono ?_;rintro e w2 ⟨hb2,rfl⟩;have hw2:=hw1.below hb2;have hX2:Box4 w2 w.heap.size (.int .i64 6) (.string x) (.int .i64 nm) (.slice ad ks.length c):=(hb2.block _ hlx).trans hX1;obtain⟨⟨y0,y1,y2,y3⟩,_⟩:=hX2.facts;have hly:=hX2.lt;have hK2:=(HK0.out.trans (Keeps.of_grown (m:=L.length) hg1) (Or.inl rfl) (fun _=>Z0 _)).trans (Keeps.of_below (m:=L.length) hb2) (Or.inl rfl) (fun _=>Z0 _);have hv2:=(HKV.out.above (Zh hg1 (fun k e=>by injection e with e;rintro⟨_,h⟩;exact h e.symm))).above (Zk hb2)))
      obtain⟨_,k3,k4,k5,k6,k7⟩:=hw2.obj.cells
      have hlq:=hw2.obj.lt
      go_region_with (first
        | (go_at_call 59;refine(hib _).mono ?_;rintro e w3 ⟨rfl,hb3⟩;have hw3:=(hw2.below (Zg _ _).drew).below hb3;have hX3:Box4 w3 w.heap.size (.int .i64 6) (.string x) (.int .i64 nm) (.slice ad ks.length c):=(hb3.block _ hly).trans hX2;obtain⟨⟨t0,t1,t2,t3⟩,_⟩:=hX3.facts;have hlt3:=hX3.lt;have hv3:=hv2.above (Zk ((Zg _ _).drew.trans hb3)))
        | (go_at_call 58;refine(hatB _ hw3 hv3).mono ?_;rintro e w4 ⟨v4,rfl,hw4,hk4,ho4,hm4⟩;have hX4:=hX3.keeps hk4 (by omega) (fun e=>by have:=hvl _ e;omega);obtain⟨⟨s0,s1,s2,s3⟩,_⟩:=hX4.facts;have hls4:=hX4.lt))
      all_goals go_wp2_with fail
      all_goals exact bodyPost_end (v:=.tuple #[]) (by simp[results,Tryz.results30,go_sem]) rfl ⟨v4,rfl,hw4,(hK2.trans (Keeps.of_below (m:=L.length) ((Zg _ _).drew.trans hb3)) (Or.inl rfl) (fun _=>Z0 _)).trans hk4 (Or.inl rfl) (fun _=>Z0 _),(Onto.refl w _).trans ho4 (Za hK2.size ((Zg _ _).drew.trans hb3).size),hm4⟩
    ·by_cases e13:k=13
     ·subst e13
      rw[if_neg (by decide),if_pos rfl]
      clear hall hatB hib had
      cases hz:At { E with returns:=false } own ks (nx+1,L)with
      | error f=>
       rw[chk_err]
       simp only[hz,chk_err]at hatF
       clear hz
       go_enter Tryz.func30,Tryz.ntmps30
       go_wp2_with (first
        | (go_at_call 28;refine hen.mono ?_;rintro e w1 ⟨rfl,hw1,hg1⟩;have hX1:=HX.out.grown hg1 (by omega);obtain⟨⟨x0,x1,x2,x3⟩,_⟩:=hX1.facts;have hlx:=hX1.lt)
        | (go_at_call 57;refine(hlo _ hw1).mono ?_;rintro e w2 ⟨hb2,rfl⟩;have hw2:=hw1.below hb2;have hX2:Box4 w2 w.heap.size (.int .i64 13) (.string x) (.int .i64 nm) (.slice ad ks.length c):=(hb2.block _ hlx).trans hX1;obtain⟨⟨y0,y1,y2,y3⟩,_⟩:=hX2.facts;have hly:=hX2.lt;have hK2:=(HK0.out.trans (Keeps.of_grown (m:=L.length) hg1) (Or.inl rfl) (fun _=>Z0 _)).trans (Keeps.of_below (m:=L.length) hb2) (Or.inl rfl) (fun _=>Z0 _);have hv2:=(HKV.out.above (Zh hg1 (fun k e=>by injection e with e;rintro⟨_,h⟩;exact h e.symm))).above (Zk hb2)))
       obtain⟨_,k3,k4,k5,k6,k7⟩:=hw2.obj.cells
       have hlq:=hw2.obj.lt
       go_region_law (first
         | (refine FO rfl 60 (.tmp 34) _ rfl (.agg #[.slice sa E.slots.length sc,.slice la L.length lc,.int .i64 (own:Int),.bool E.inside,.bool E.returns]) (by first | (simp[Act.eval];done) | simp[Act.eval,Act.put]) (fun w=>by kernel_rfl) (hif _) ?_;rintro e w3 ⟨rfl,hb3⟩;refine⟨_,rfl,?_⟩;have hw3:=(hw2.below (Zg _ _).drew).below hb3;have hX3:Box4 w3 w.heap.size (.int .i64 13) (.string x) (.int .i64 nm) (.slice ad ks.length c):=(hb3.block _ hly).trans hX2;obtain⟨⟨t0,t1,t2,t3⟩,_⟩:=hX3.facts;have hlt3:=hX3.lt;have hv3:=hv2.above (Zk ((Zg _ _).drew.trans hb3)))
         | (refine I3 rfl 58 (.tmp 30) (.tmp 35) (.tmp 37) _ _ _ rfl (.pointer (some ⟨Q,0,none⟩)) (.agg #[.slice sa E.slots.length sc,.slice la L.length lc,.int .i64 (own:Int),.bool E.inside,.bool false]) (.slice ad ks.length c) (by first | (simp[Act.eval];done) | simp[Act.eval,Act.put]) (by first | (simp[Act.eval];done) | simp[Act.eval,Act.put]) (by first | (simp[Act.eval];done) | simp[Act.eval,Act.put]) (fun w=>by kernel_rfl) (hatF _ hw3 hv3) ?_ (.tuple #[]) ?_;(rintro e w4 ⟨rfl,hk4⟩;refine⟨_,rfl,?_⟩;exact⟨rfl,rfl,(hK2.trans (Keeps.of_below (m:=L.length) ((Zg _ _).drew.trans hb3)) (Or.inl rfl) (fun _=>Z0 _)).trans hk4 (Or.inl rfl) (fun _=>Z0 _)⟩);intro hF))
       all_goals exact hF.out.elim
      | ok y=>
       rw[chk_ok]
       simp only[hz,chk_ok]at hatF
       clear hz
       go_enter Tryz.func30,Tryz.ntmps30
       go_wp2_with (first
        | (go_at_call 28;refine hen.mono ?_;rintro e w1 ⟨rfl,hw1,hg1⟩;have hX1:=HX.out.grown hg1 (by omega);obtain⟨⟨x0,x1,x2,x3⟩,_⟩:=hX1.facts;have hlx:=hX1.lt)
        | (go_at_call 57;refine(hlo _ hw1).mono ?_;rintro e w2 ⟨hb2,rfl⟩;have hw2:=hw1.below hb2;have hX2:Box4 w2 w.heap.size (.int .i64 13) (.string x) (.int .i64 nm) (.slice ad ks.length c):=(hb2.block _ hlx).trans hX1;obtain⟨⟨y0,y1,y2,y3⟩,_⟩:=hX2.facts;have hly:=hX2.lt;have hK2:=(HK0.out.trans (Keeps.of_grown (m:=L.length) hg1) (Or.inl rfl) (fun _=>Z0 _)).trans (Keeps.of_below (m:=L.length) hb2) (Or.inl rfl) (fun _=>Z0 _);have hv2:=(HKV.out.above (Zh hg1 (fun k e=>by injection e with e;rintro⟨_,h⟩;exact h e.symm))).above (Zk hb2)))
       obtain⟨_,k3,k4,k5,k6,k7⟩:=hw2.obj.cells
       have hlq:=hw2.obj.lt
       go_region_with (first
         | (go_at_call 60;refine(hif _).mono ?_;rintro e w3 ⟨rfl,hb3⟩;have hw3:=(hw2.below (Zg _ _).drew).below hb3;have hX3:Box4 w3 w.heap.size (.int .i64 13) (.string x) (.int .i64 nm) (.slice ad ks.length c):=(hb3.block _ hly).trans hX2;obtain⟨⟨t0,t1,t2,t3⟩,_⟩:=hX3.facts;have hlt3:=hX3.lt;have hv3:=hv2.above (Zk ((Zg _ _).drew.trans hb3)))
         | (go_at_call 58;refine(hatF _ hw3 hv3).mono ?_;rintro e w4 ⟨v4,rfl,hw4,hk4,ho4,hm4⟩;have hX4:=hX3.keeps hk4 (by omega) (fun e=>by have:=hvl _ e;omega);obtain⟨⟨s0,s1,s2,s3⟩,_⟩:=hX4.facts;have hls4:=hX4.lt))
       all_goals go_wp2_with fail
       all_goals exact bodyPost_end (v:=.tuple #[]) (by simp[results,Tryz.results30,go_sem]) rfl ⟨v4,rfl,hw4,(hK2.trans (Keeps.of_below (m:=L.length) ((Zg _ _).drew.trans hb3)) (Or.inl rfl) (fun _=>Z0 _)).trans hk4 (Or.inl rfl) (fun _=>Z0 _),(Onto.refl w _).trans ho4 (Za hK2.size ((Zg _ _).drew.trans hb3).size),hm4⟩
     ·rw[if_neg e6,if_neg e13]
      have n6:(k==6)=false:=by simpa using e6
      have n13:(k==13)=false:=by simpa using e13
      clear hatB hatF hib hif e6 e13
      cases hz:At E own ks (nx+1,L)with
      | error f=>
       rw[chk_err]
       rw[hz]at hall
       clear hz had
       go_enter Tryz.func30,Tryz.ntmps30
       go_wp2_with (first
        | (go_at_call 28;refine hen.mono ?_;rintro e w1 ⟨rfl,hw1,hg1⟩;have hX1:=HX.out.grown hg1 (by omega);obtain⟨⟨x0,x1,x2,x3⟩,_⟩:=hX1.facts;have hlx:=hX1.lt)
        | (go_at_call 57;refine(hlo _ hw1).mono ?_;rintro e w2 ⟨hb2,rfl⟩;have hw2:=hw1.below hb2;have hX2:Box4 w2 w.heap.size (.int .i64 k) (.string x) (.int .i64 nm) (.slice ad ks.length c):=(hb2.block _ hlx).trans hX1;obtain⟨⟨y0,y1,y2,y3⟩,_⟩:=hX2.facts;have hly:=hX2.lt;have hK2:=(HK0.out.trans (Keeps.of_grown (m:=L.length) hg1) (Or.inl rfl) (fun _=>Z0 _)).trans (Keeps.of_below (m:=L.length) hb2) (Or.inl rfl) (fun _=>Z0 _);have hv2:=(HKV.out.above (Zh hg1 (fun k e=>by injection e with e;rintro⟨_,h⟩;exact h e.symm))).above (Zk hb2))
        | (go_at_call 61;refine(hall _ hw2 hv2).mono ?_;rintro e w3 ⟨rfl,hk3⟩))
       exact⟨rfl,rfl,hK2.trans hk3 (Or.inl rfl) (fun _=>Z0 _)⟩
      | ok y=>
       rw[chk_ok]
       rw[hz]at hall
       clear hz
       by_cases e7:k=7
       ·subst e7
        rw[if_pos rfl]
        have had2:=fun v2 w' h'=>had y v2 w' h'
        clear had
        cases haz:Ds own x nx y.2 with
        | error f=>
         rw[chk_err]
         simp only[haz,chk_err]at had2
         clear haz
         go_enter Tryz.func30,Tryz.ntmps30
         go_wp2_with (first
          | (go_at_call 28;refine hen.mono ?_;rintro e w1 ⟨rfl,hw1,hg1⟩;have hX1:=HX.out.grown hg1 (by omega);obtain⟨⟨x0,x1,x2,x3⟩,_⟩:=hX1.facts;have hlx:=hX1.lt)
          | (go_at_call 57;refine(hlo _ hw1).mono ?_;rintro e w2 ⟨hb2,rfl⟩;have hw2:=hw1.below hb2;have hX2:Box4 w2 w.heap.size (.int .i64 7) (.string x) (.int .i64 nm) (.slice ad ks.length c):=(hb2.block _ hlx).trans hX1;obtain⟨⟨y0,y1,y2,y3⟩,_⟩:=hX2.facts;have hly:=hX2.lt;have hK2:=(HK0.out.trans (Keeps.of_grown (m:=L.length) hg1) (Or.inl rfl) (fun _=>Z0 _)).trans (Keeps.of_below (m:=L.length) hb2) (Or.inl rfl) (fun _=>Z0 _);have hv2:=(HKV.out.above (Zh hg1 (fun k e=>by injection e with e;rintro⟨_,h⟩;exact h e.symm))).above (Zk hb2))
          | (go_at_call 61;refine(hall _ hw2 hv2).mono ?_;rintro e w3 ⟨v3,rfl,hw3,hk3,ho3,hm3⟩;have hX3:=hX2.keeps hk3 (by omega) (fun e=>by have:=hvl _ e;omega);obtain⟨⟨t0,t1,t2,t3⟩,_⟩:=hX3.facts;have hlt3:=hX3.lt)
          | (go_at_call 62;refine(had2 _ _ hw3).mono ?_;rintro e w4 ⟨rfl,hk4⟩))
         exact⟨rfl,rfl,(hK2.trans hk3 (Or.inl rfl) (fun _=>Z0 _)).trans hk4 ((Onto.refl w _).trans ho3 hK2.size) (fun _=>hm3)⟩
        | ok L2=>
         rw[chk_ok]
         simp only[haz,chk_ok]at had2
         clear haz
         go_enter Tryz.func30,Tryz.ntmps30
         go_wp2_with (first
          | (go_at_call 28;refine hen.mono ?_;rintro e w1 ⟨rfl,hw1,hg1⟩;have hX1:=HX.out.grown hg1 (by omega);obtain⟨⟨x0,x1,x2,x3⟩,_⟩:=hX1.facts;have hlx:=hX1.lt)
          | (go_at_call 57;refine(hlo _ hw1).mono ?_;rintro e w2 ⟨hb2,rfl⟩;have hw2:=hw1.below hb2;have hX2:Box4 w2 w.heap.size (.int .i64 7) (.string x) (.int .i64 nm) (.slice ad ks.length c):=(hb2.block _ hlx).trans hX1;obtain⟨⟨y0,y1,y2,y3⟩,_⟩:=hX2.facts;have hly:=hX2.lt;have hK2:=(HK0.out.trans (Keeps.of_grown (m:=L.length) hg1) (Or.inl rfl) (fun _=>Z0 _)).trans (Keeps.of_below (m:=L.length) hb2) (Or.inl rfl) (fun _=>Z0 _);have hv2:=(HKV.out.above (Zh hg1 (fun k e=>by injection e with e;rintro⟨_,h⟩;exact h e.symm))).above (Zk hb2))
          | (go_at_call 61;refine(hall _ hw2 hv2).mono ?_;rintro e w3 ⟨v3,rfl,hw3,hk3,ho3,hm3⟩;have hX3:=hX2.keeps hk3 (by omega) (fun e=>by have:=hvl _ e;omega);obtain⟨⟨t0,t1,t2,t3⟩,_⟩:=hX3.facts;have hlt3:=hX3.lt)
          | (go_at_call 62;refine(had2 _ _ hw3).mono ?_;rintro e w4 ⟨v4,rfl,hw4,hk4,ho4,hm4⟩))
         exact bodyPost_end (v:=.tuple #[]) (by simp[results,Tryz.results30,go_sem]) rfl ⟨v4,rfl,hw4,(hK2.trans hk3 (Or.inl rfl) (fun _=>Z0 _)).trans hk4 ((Onto.refl w _).trans ho3 hK2.size) (fun _=>hm3),((Onto.refl w _).trans ho3 hK2.size).trans ho4 (Za hK2.size hk3.size),Za hm3 hm4⟩
       ·rw[if_neg e7]
        have n7:(k==7)=false:=by simpa using e7
        clear had e7
        go_enter Tryz.func30,Tryz.ntmps30
        go_wp2_with (first
         | (go_at_call 28;refine hen.mono ?_;rintro e w1 ⟨rfl,hw1,hg1⟩;have hX1:=HX.out.grown hg1 (by omega);obtain⟨⟨x0,x1,x2,x3⟩,_⟩:=hX1.facts;have hlx:=hX1.lt)
         | (go_at_call 57;refine(hlo _ hw1).mono ?_;rintro e w2 ⟨hb2,rfl⟩;have hw2:=hw1.below hb2;have hX2:Box4 w2 w.heap.size (.int .i64 k) (.string x) (.int .i64 nm) (.slice ad ks.length c):=(hb2.block _ hlx).trans hX1;obtain⟨⟨y0,y1,y2,y3⟩,_⟩:=hX2.facts;have hly:=hX2.lt;have hK2:=(HK0.out.trans (Keeps.of_grown (m:=L.length) hg1) (Or.inl rfl) (fun _=>Z0 _)).trans (Keeps.of_below (m:=L.length) hb2) (Or.inl rfl) (fun _=>Z0 _);have hv2:=(HKV.out.above (Zh hg1 (fun k e=>by injection e with e;rintro⟨_,h⟩;exact h e.symm))).above (Zk hb2))
         | (go_at_call 61;refine(hall _ hw2 hv2).mono ?_;rintro e w3 ⟨v3,rfl,hw3,hk3,ho3,hm3⟩;have hX3:=hX2.keeps hk3 (by omega) (fun e=>by have:=hvl _ e;omega);obtain⟨⟨t0,t1,t2,t3⟩,_⟩:=hX3.facts;have hlt3:=hX3.lt))
        exact bodyPost_end (v:=.tuple #[]) (by simp[results,Tryz.results30,go_sem]) rfl ⟨v3,rfl,hw3,hK2.trans hk3 (Or.inl rfl) (fun _=>Z0 _),(Onto.refl w _).trans ho3 hK2.size,hm3⟩
theorem TC(Q BB mb:Nat)(M:List (ByteArray×Int))(vp vs:Value)(n:Nd)(E:CN)(own nx:Nat)(L:List ByteArray)(v u:Value)(w:World)(h:Wk w Q BB mb M vp vs E own nx L v)(hu:NodeV w (Low BB Q) u n)(hN:nx+A0 n<=100000) :
  Calls Tryz.prog 80 #[.pointer (some ⟨Q,0,none⟩),u] w fun e w'=>Lv w Q BB mb M vp vs E own v L.length (At E own n.kids (nx+1,L)) e w':=by
 cases n with
 | mk k tx nm ks=>
  obtain⟨xk,hu1,ad,c0,hx1,hkk⟩:=hu
  obtain⟨c,hcc⟩:∃c,c0+ks.length=c:=⟨_,rfl⟩
  have hx2:xk=.slice ad ks.length c:=by rw[<-hcc];exact hx1
  subst hx2
  have hu2:u=.agg #[.int .i64 k,.string (strOfNums tx),.int .i64 nm,.slice ad ks.length c]:=hu1
  subst hu2
  have esz:A0 (.mk k tx nm ks)=1+A2 ks:=by conv=>lhs;unfold A0
  rw[esz]at hN
  have hqb:=h.qb
  have hsz:=h.size
  have hb0:Below w.heap.size w (w.alloc (.cells #[.int .i64 k,.string (strOfNums tx),.int .i64 nm,.slice ad ks.length c] 39)):=(Zg _ w).alloc (Z0 _) _
  have hen:=JE Q BB mb own nx M vp _ _ E L _ (h.below hb0) (by omega)
  have hall:=fun w' (h':Wk w' Q BB mb M vp vs E own (nx+1) L v) (hu':KidsV w' (Low BB Q) (.slice ad ks.length c) ks)=>I1 Q BB mb M vp vs ks (fun i hi=>Nf Q BB mb M vp vs _ ks[i] (Z0 _)) E own (nx+1) L _ _ w' h' hu' (by omega)
  have HX:Hid (Box4 (w.alloc (.cells #[.int .i64 k,.string (strOfNums tx),.int .i64 nm,.slice ad ks.length c] 39)) w.heap.size (.int .i64 k) (.string (strOfNums tx)) (.int .i64 nm) (.slice ad ks.length c)):=Box4.new _ _ _ _ _
  have HK0:Hid (Keeps w (w.alloc (.cells #[.int .i64 k,.string (strOfNums tx),.int .i64 nm,.slice ad ks.length c] 39)) Q v L.length):=Keeps.of_below hb0
  have HKV:Hid (KidsV (w.alloc (.cells #[.int .i64 k,.string (strOfNums tx),.int .i64 nm,.slice ad ks.length c] 39)) (Low BB Q) (.slice ad ks.length c) ks):=KidsV.above (⟨ad,c0,by rw[hcc],hkk⟩:KidsV w (Low BB Q) (.slice ad ks.length c) ks) (Zk hb0)
  show Calls _ _ _ _ fun e w'=>Lv w Q BB mb M vp vs E own v L.length (At E own ks (nx+1,L)) e w'
  generalize strOfNums tx=x at *
  clear h hkk hb0 esz hx1 hu1 hcc
  cases hz:At E own ks (nx+1,L)with
  | error f=>
   rw[hz]at hall
   clear hz
   go_enter Tryz.func80,Tryz.ntmps80
   go_wp2_with (first
    | (go_at_call 28;refine hen.mono ?_;rintro e w1 ⟨rfl,hw1,hg1⟩;have hX1:=HX.out.grown hg1 (by omega);obtain⟨⟨x0,x1,x2,x3⟩,_⟩:=hX1.facts;have hlx:=hX1.lt;have hv1:=HKV.out.above (Zh hg1 (fun k e=>by injection e with e;rintro⟨_,h⟩;exact h e.symm)))
    | (go_at_call 61;refine(hall _ hw1 hv1).mono ?_;rintro e w3 ⟨rfl,hk3⟩))
   exact⟨rfl,rfl,(HK0.out.trans (Keeps.of_grown (m:=L.length) hg1) (Or.inl rfl) (fun _=>Z0 _)).trans hk3 (Or.inl rfl) (fun _=>Z0 _)⟩
  | ok y=>
   rw[hz]at hall
   clear hz
   go_enter Tryz.func80,Tryz.ntmps80
   go_wp2_with (first
    | (go_at_call 28;refine hen.mono ?_;rintro e w1 ⟨rfl,hw1,hg1⟩;have hX1:=HX.out.grown hg1 (by omega);obtain⟨⟨x0,x1,x2,x3⟩,_⟩:=hX1.facts;have hlx:=hX1.lt;have hv1:=HKV.out.above (Zh hg1 (fun k e=>by injection e with e;rintro⟨_,h⟩;exact h e.symm)))
    | (go_at_call 61;refine(hall _ hw1 hv1).mono ?_;rintro e w3 ⟨v3,rfl,hw3,hk3,ho3,hm3⟩))
   have hK2:=HK0.out.trans (Keeps.of_grown (m:=L.length) hg1) (Or.inl rfl) (fun _=>Z0 _)
   exact bodyPost_end (v:=.tuple #[]) (by simp[results,Tryz.results80,go_sem]) rfl ⟨v3,rfl,hw3,hK2.trans hk3 (Or.inl rfl) (fun _=>Z0 _),(Onto.refl w _).trans ho3 hK2.size,hm3⟩
structure Wc(w:World)(Q mb:Nat)(M:List (ByteArray×Int))(vp:Value)(names:List ByteArray)(nx:Nat):Prop where
 obj:WObj w Q nx mb vp (.slice none 0 0) (.slice none 0 0) 0 false false
 map:w.heap[mb]?=some (Aw M)
 mq:mb≠Q
 names:FB M names
def V1(w:World)(Q mb:Nat)(M:List (ByteArray×Int))(vp:Value)(names:List ByteArray)(g:Chk Nat)(e:Ending)(w':World):Prop:=match g with
 | .ok nx=>e=.returned (.tuple #[])/\Wc w' Q mb M vp names nx/\w.grownBy w' (some Q)
 | .error f=>e=.panicked [{ v:=F0 f,recovered:=false }]/\w.grownBy w' (some Q)
theorem Keeps.grown0{w w':World}{Q m:Nat}(h:Keeps w w' Q (.slice none 0 0) m):w.grownBy w' (some Q):=
 ⟨h.os,h.tape,h.output,h.size,fun k hk hq=>h.block k hk (fun e=>hq (by rw[e])) (fun e=>by cases e)⟩
theorem LV:∀(as':List Nd) (s y:StZ),DG as' s=.ok y->y.1=s.1+as'.length
 | [],s,y,h=>by unfold DG at h;cases h;rfl
 | a::as',s,y,h=>by
  unfold DG at h
  cases ha:Ds 0 a.str s.1 s.2 with
  | error f=>rw[ha]at h;cases h
  | ok L=>
   rw[ha,chk_ok]at h
   have:=LV as' _ _ h
   rw[this,List.length_cons]
   show s.1+1+_=_
   omega
theorem PBox.keeps{w w':World}{Q R m:Nat}{v a b c d e:Value}(h:PBox w R a b c d e)(hk:Keeps w w' Q v m)(hq:R≠Q)(hv:v.ownBlock≠some R):PBox w' R a b c d e:=(hk.block R h.facts.1 hq hv).trans h
theorem Ie:∀(ks:List Nd) (i:Nat) (h:i<ks.length),i+A0 ks[i]<=A2 ks
 | k::ks,0,_=>by
  have e:A2 (k::ks)=A0 k+A2 ks:=by conv=>lhs;unfold A2
  rw[e,List.getElem_cons_zero]
  omega
 | k::ks,i+1,h=>by
  have e:A2 (k::ks)=A0 k+A2 ks:=by conv=>lhs;unfold A2
  have hk:1<=A0 k:=by cases k with | mk a b c d=>unfold A0;omega
  have:=Ie ks i (by simp at h;omega)
  rw[e,List.getElem_cons_succ]
  omega
theorem Ot(Q mb:Nat)(M:List (ByteArray×Int))(vp vs u:Value)(names slots:List ByteArray)(k:Int)(tx:List Int)(na:Nat)(ks:List Nd)(hks:ks.length=na+1)(nx:Nat)(w:World)(h:Wc w Q mb M vp names nx)(hu:NodeV w (fun j=>j≠Q) u (.mk k tx (na:Int) ks))(hvs:StrsV w (fun j=>j≠Q) vs slots)(hN:nx+A2 ks<=100000) :
  Calls Tryz.prog 56 #[.pointer (some ⟨Q,0,none⟩),u,vs] w fun e w'=>V1 w Q mb M vp names (CI names slots (.mk k tx (na:Int) ks) nx) e w':=by
 obtain⟨xk,hu1,ad,c0,hx1,hkk⟩:=hu
 obtain⟨c,hcc⟩:∃c,c0+ks.length=c:=⟨_,rfl⟩
 have hx2:xk=.slice ad ks.length c:=by rw[<-hcc];exact hx1
 subst hx2
 have hu2:u=.agg #[.int .i64 k,.string (strOfNums tx),.int .i64 (na:Int),.slice ad ks.length c]:=hu1
 have hcp:ks.length<=c:=by omega
 subst hu2
 obtain⟨bk,ok,rfl,hMk,hbk,hnodes⟩:=hkk (by show 0<ks.length;omega)
 obtain⟨sa,sc,hs1,hs2,hs3,hs4,hs5⟩:=hvs
 subst hs1
 have hql:=h.obj.lt
 have hml:mb<w.heap.size:=(Array.getElem?_eq_some_iff.1 h.map).1
 have hkl:=EL ks
 obtain⟨bn,HBN⟩:∃bn,Hid (ks[na]?=some bn):=⟨ks[na]'(by omega),List.getElem?_eq_getElem (by omega)⟩
 have hmz:CI names slots (.mk k tx (na:Int) ks) nx=(DG (ks.take na) (nx,[])).then fun y=>(At ⟨names,slots,true,true⟩ 0 bn.kids (y.1+1,y.2)).then fun z=>.ok z.1:=by
  unfold CI
  show(DG (ks.take ((na:Int)).toNat) (nx,[])).then _=_
  rw[Int.toNat_natCast]
  have e:(Nd.mk k tx (na:Int) ks).kids[((Nd.mk k tx (na:Int) ks).num).toNat]?=some bn:=by
   show ks[((na:Int)).toNat]?=_
   rw[Int.toNat_natCast]
   exact HBN.out
  rw[e]
 rw[hmz]
 clear hmz
 obtain⟨wA,hWA⟩:∃wA,wA=(((((w.setCell ⟨Q,3,none⟩ (.slice sa slots.length sc)).setCell ⟨Q,4,none⟩ (.slice none 0 0)).setCell ⟨Q,5,none⟩ (.int .i64 0)).setCell ⟨Q,6,none⟩ (.bool true)).setCell ⟨Q,7,none⟩ (.bool true)):=⟨_,rfl⟩
 have hgA:w.grownBy wA (some Q):=by rw[hWA];exact GC w Q _ _ _ _ _
 have hzA:wA.heap.size=w.heap.size:=by rw[hWA];simp[World.setCell]
 have hA:Wk wA Q w.heap.size mb M vp (.slice sa slots.length sc) ⟨names,slots,true,true⟩ 0 nx [] (.slice none 0 0):=by
  refine⟨by rw[hWA];exact h.obj.setPlace _ _ 0 true true,Zl _ _ _ _,⟨sa,sc,rfl,hs2,hs3,hs4,fun a ea=>?_⟩,by rw[hgA.block mb hml (fun e=>h.mq (by injection e))];exact h.map,⟨hml,h.mq⟩,h.names,hql,by rw[hzA];exact Z0 _,Z3 _,by simp⟩
  obtain⟨b,o,e2,hm,hb,hc⟩:=hs5 a ea
  refine⟨b,o,e2,⟨hb,hm⟩,by rw[hzA];exact hb,fun i hi=>?_⟩
  rw[World.cell?_of_block (w:=w) (a:=⟨b,o+i,none⟩) (hgA.block b hb (fun e=>hm (by injection e)))]
  exact hc i hi
 obtain⟨NB,hNB⟩:∃NB:Obj,NB=.cells #[.int .i64 k,.string (strOfNums tx),.int .i64 (na:Int),.slice (some ⟨bk,ok,none⟩) ks.length c] 39:=⟨_,rfl⟩
 obtain⟨PB,hPB⟩:∃PB:Obj,PB=.cells #[.slice none 0 0,.slice none 0 0,.int .i64 0,.bool false,.bool false] 63:=⟨_,rfl⟩
 have hb1:Below wA.heap.size wA ((wA.alloc NB).alloc PB):=Au _ _ _
 have HW1:Hid (Wk ((wA.alloc NB).alloc PB) Q w.heap.size mb M vp (.slice sa slots.length sc) ⟨names,slots,true,true⟩ 0 nx [] (.slice none 0 0)):=hA.below hb1
 have HX1:Hid (Box4 ((wA.alloc NB).alloc PB) w.heap.size (.int .i64 k) (.string (strOfNums tx)) (.int .i64 (na:Int)) (.slice (some ⟨bk,ok,none⟩) ks.length c)):=by
  have:=(Box4.new wA (.int .i64 k) (.string (strOfNums tx)) (.int .i64 (na:Int)) (.slice (some ⟨bk,ok,none⟩) ks.length c)).alloc PB
  rw[hzA]at this
  rw[hNB]
  exact this
 have HP1:Hid (PBox ((wA.alloc NB).alloc PB) (w.heap.size+1) (.slice none 0 0) (.slice none 0 0) (.int .i64 0) (.bool false) (.bool false)):=by
  have hx:=heap_alloc_new (wA.alloc NB) PB
  rw[show(wA.alloc NB).heap.size=w.heap.size+1 by simp[hzA],hPB]at hx
  rw[hPB]
  exact hx
 have HG1:Hid (w.grownBy ((wA.alloc NB).alloc PB) (some Q)):=hgA.trans (A1 Q hb1)
 have HNA:Hid (NodesAt ((wA.alloc NB).alloc PB) (Low w.heap.size Q) bk ok ks):=by
  have h0:KidsV w (Low w.heap.size Q) (.slice (some ⟨bk,ok,none⟩) ks.length c) ks:=KidsV.mono (M:=fun j=>j≠Q) ⟨_,c0,by rw[hcc],fun _=>⟨bk,ok,rfl,hMk,hbk,hnodes⟩⟩ (fun j hj hl=>⟨hl,hj⟩)
  obtain⟨_,_,e1,h2⟩:=(h0.above (Zh hgA (fun j e=>by injection e with e;rintro⟨_,h⟩;exact h e.symm))).above (Zk hb1)
  obtain⟨b2,o2,e2,_,_,h3⟩:=h2 (by omega)
  injection e1 with e1 _ _
  rw[<-e1]at e2
  injection e2 with e2
  injection e2 with e3 e4
  subst e3 e4
  exact h3
 have HWC:Hid (Wc w Q mb M vp names nx):=h
 have hbl:bk<w.heap.size/\bk≠Q:=⟨hbk,hMk⟩
 have hz1:((wA.alloc NB).alloc PB).heap.size=w.heap.size+2:=by simp[hzA]
 obtain⟨_,k3,k4,k5,k6,k7⟩:=h.obj.cells
 have z3:=h.obj.frozen 3
 have z4:=h.obj.frozen 4
 have z5:=h.obj.frozen 5
 have z6:=h.obj.frozen 6
 have z7:=h.obj.frozen 7
 obtain⟨W1,hW1⟩:∃W1,W1=(wA.alloc NB).alloc PB:=⟨_,rfl⟩
 rw[<-hW1]at HW1 HX1 HP1 HG1 HNA hz1
 rw[hWA,hNB,hPB]at hW1
 have hnac:(na:Int)<=(c:Int):=by omega
 obtain⟨nk,hnk⟩:∃nk,nk=ks.length:=⟨_,rfl⟩
 rw[<-hnk]at HX1 hW1⊢
 have hnal:(na:Int)<(nk:Int):=by omega
 have HKS:Hid (ks.length=na+1/\nk=ks.length):=⟨hks,hnk⟩
 clear hcc hA hgA hzA hb1 hnodes hWA hNB hPB h hs2 hs3 hs4 hs5 hx1 hu1 hkk
 clear hks hnk hcp hkl
 obtain⟨R,HR⟩:∃R,Hid (DG (ks.take na) (nx,[])=R):=⟨_,rfl⟩
 rw[HR.out]
 obtain⟨G,HG⟩:∃G,Hid (G=R.then fun y=>(At ⟨names,slots,true,true⟩ 0 bn.kids (y.1+1,y.2)).then fun z=>.ok z.1):=⟨_,rfl⟩
 rw[<-HG.out]
 go_enter Tryz.func56,Tryz.ntmps56
 go_wp2_with fail
 rw[<-hW1]
 clear hW1 k3 k4 k5 k6 k7 z3 z4 z5 z6 z7
 have HN:Hid (nx+A2 ks<=100000):=hN
 clear hN
 go_loopw [24] (fun s24 wr=>∃(i nx1:Nat) (L1:List ByteArray) (v1:Value),s24=.int .i64 i/\i<=na/\Hid (DG ((ks.take na).drop i) (nx1,L1)=R)/\Hid (nx1=nx+i)/\Hid (Wk wr Q w.heap.size mb M vp (.slice sa slots.length sc) ⟨names,slots,true,true⟩ 0 nx1 L1 v1)/\Hid (Keeps W1 wr Q (.slice none 0 0) 0)/\Hid (Onto W1 (.slice none 0 0) v1)) (fun s24 _=>na-(intOf s24).toNat)
 case atStart=>exact⟨0,nx,[],_,rfl,Z3 _,HR,rfl,HW1,Keeps.refl _ _ _ _,Onto.refl _ _⟩
 case round=>
  clear HR HW1
  obtain⟨i,nx1,L1,v1,rfl,hi,HR1,HNX,HW,HK,HO⟩:=hrel
  have hks:=HKS.out.1
  have hab:=I0 (BB:=w.heap.size) HK.out (fun g e=>by cases e)
  have hsz1:=hab.size
  have hna1:(na:Int)<=100000:=by have:=HN.out;have:=EL ks;omega
  by_cases hlt:i<na
  ·have hil:(i:Int)<(na:Int):=by omega
   have hwi:=Ao (x:=(i:Int)+1) (by omega) (by omega)
   have hkw:NodesAt wr (Low w.heap.size Q) bk ok ks:=NodesAt.above hab ks bk ok hbl (by omega) HNA.out
   obtain⟨xx,hkx,c0,c1,c2,c3⟩:=CV hkw (i:=i) (by omega)
   obtain⟨adx,cx0,hxx,_⟩:=hkx
   obtain⟨cx,hcx⟩:∃cx,cx0+(ks[i]'(by omega)).kids.length=cx:=⟨_,rfl⟩
   rw[hcx]at hxx
   clear hcx
   subst hxx
   have hbr:bk<wr.heap.size:=by omega
   have hdr:(ks.take na).drop i=ks[i]'(by omega)::(ks.take na).drop (i+1):=by
    rw[Z4 (by rw[List.length_take];omega),List.getElem_take]
   have hnb:nx1+1<=1000000:=by have:=HN.out;have:=HNX.out;have:=EL ks;omega
   have HRE:=HR1.out
   rw[hdr,DG]at HRE
   have hstr:(ks[i]'(by omega)).str=strOfNums (ks[i]'(by omega)).text:=rfl
   rw[hstr]at HRE
   clear hkw hdr hstr HR1
   generalize strOfNums (ks[i]'(by omega)).text=x at *
   generalize (ks[i]'(by omega)).kind=y0 at *
   generalize (ks[i]'(by omega)).num=y2 at *
   generalize (ks[i]'(by omega)).kids.length=lx at *
   have hen:=JE Q w.heap.size mb 0 nx1 M vp _ _ _ L1 _ (HW.out.below ((Zg _ wr).alloc (Z0 _) (.cells #[.int .i64 y0,.string x,.int .i64 y2,.slice adx lx cx] 39)).drew) (by omega)
   have had:=fun w' (h':Wk w' Q w.heap.size mb M vp (.slice sa slots.length sc) ⟨names,slots,true,true⟩ 0 (nx1+1) L1 v1)=>PY Q w.heap.size mb 0 (nx1+1) M vp _ v1 _ L1 x nx1 w' h'
   have hwb:=HW.out.obj.lt
   dsimp only at HRE
   cases haz:Ds 0 x nx1 L1 with
   | error f=>
    rw[haz]at had HRE
    rw[chk_err]at had HRE
    have HE:Hid (R=.error f):=HRE.symm
    clear haz HRE
    go_wp2_with fail
    go_region_law (first
     | (refine FO rfl 28 (.tmp 31) _ rfl (.pointer (some ⟨Q,0,none⟩)) (by first | (simp[Act.eval];done) | simp[Act.eval,Act.put]) (fun w=>by kernel_rfl) hen ?_;rintro e w2 ⟨rfl,hw2,hg2⟩;refine⟨_,rfl,?_⟩;have hX2:Box4 w2 wr.heap.size (.int .i64 y0) (.string x) (.int .i64 y2) (.slice adx lx cx):=Box4.grown (w:=(wr.alloc (.cells #[.int .i64 y0,.string x,.int .i64 y2,.slice adx lx cx] 39)).drew) (Box4.new wr _ _ _ _) hg2 (by omega);obtain⟨⟨s0,s1,s2,s3⟩,_⟩:=hX2.facts;have hls:=hX2.lt)
     | (refine I3 rfl 62 (.tmp 28) (.tmp 30) (.tmp 32) _ _ _ rfl (.pointer (some ⟨Q,0,none⟩)) (.string x) (.int .i64 (nx1:Int)) (by first | (simp[Act.eval];done) | simp[Act.eval,Act.put]) (by first | (simp[Act.eval];done) | simp[Act.eval,Act.put]) (by first | (simp[Act.eval];done) | simp[Act.eval,Act.put]) (fun w=>by kernel_rfl) (had _ hw2) ?_ (.tuple #[]) ?_;(rintro e w3 ⟨rfl,hk3⟩;refine⟨_,rfl,?_⟩;refine⟨rfl,?_⟩;rw[HG.out,HE.out];exact⟨rfl,HG1.out.trans (HK.out.trans (((Keeps.of_below (m:=L1.length) ((Zg _ wr).alloc (Z0 _) (.cells #[.int .i64 y0,.string x,.int .i64 y2,.slice adx lx cx] 39)).drew).trans (Keeps.of_grown (m:=L1.length) hg2) (Or.inl rfl) (fun _=>Z0 _)).trans hk3 (Or.inl rfl) (fun _=>Z0 _)) HO.out (fun _=>Z3 _)).grown0⟩);intro hF))
    all_goals exact hF.out.elim
   | ok L2=>
    rw[haz]at had HRE
    rw[chk_ok]at had HRE
    have HRY:Hid (DG ((ks.take na).drop (i+1)) (nx1+1,L2)=R):=HRE
    clear haz HRE
    go_wp2_with fail
    go_region_law (first
     | (refine FO rfl 28 (.tmp 31) _ rfl (.pointer (some ⟨Q,0,none⟩)) (by first | (simp[Act.eval];done) | simp[Act.eval,Act.put]) (fun w=>by kernel_rfl) hen ?_;rintro e w2 ⟨rfl,hw2,hg2⟩;refine⟨_,rfl,?_⟩;have hX2:Box4 w2 wr.heap.size (.int .i64 y0) (.string x) (.int .i64 y2) (.slice adx lx cx):=Box4.grown (w:=(wr.alloc (.cells #[.int .i64 y0,.string x,.int .i64 y2,.slice adx lx cx] 39)).drew) (Box4.new wr _ _ _ _) hg2 (by omega);obtain⟨⟨s0,s1,s2,s3⟩,_⟩:=hX2.facts;have hls:=hX2.lt)
     | (refine QG rfl 62 (.tmp 28) (.tmp 30) (.tmp 32) _ _ _ rfl (.pointer (some ⟨Q,0,none⟩)) (.string x) (.int .i64 (nx1:Int)) (by first | (simp[Act.eval];done) | simp[Act.eval,Act.put]) (by first | (simp[Act.eval];done) | simp[Act.eval,Act.put]) (by first | (simp[Act.eval];done) | simp[Act.eval,Act.put]) (fun w=>by kernel_rfl) (had _ hw2) ?_;rintro e w3 ⟨v3,rfl,hw3,hk3,ho3,hm3⟩;refine⟨_,rfl,?_⟩))
    all_goals go_wp2_with fail
    all_goals exact⟨⟨i+1,nx1+1,L2,v3,by simp,by omega,HRY,(by show nx1+1=nx+(i+1);have:=HNX.out;omega),hw3,HK.out.trans (((Keeps.of_below (m:=L1.length) ((Zg _ wr).alloc (Z0 _) (.cells #[.int .i64 y0,.string x,.int .i64 y2,.slice adx lx cx] 39)).drew).trans (Keeps.of_grown (m:=L1.length) hg2) (Or.inl rfl) (fun _=>Z0 _)).trans hk3 (Or.inl rfl) (fun _=>Z0 _)) HO.out (fun _=>Z3 _),HO.out.trans ho3 (by have h1:=HK.out.size;have h2:=hg2.size;have h3:wr.heap.size<=(wr.alloc (.cells #[.int .i64 y0,.string x,.int .i64 y2,.slice adx lx cx] 39)).drew.heap.size:=(by simp);omega)⟩,by simp[intOf];omega⟩
  ·obtain rfl:i=na:=by omega
   have hkw:NodesAt wr (Low w.heap.size Q) bk ok ks:=NodesAt.above hab ks bk ok hbl (by omega) HNA.out
   obtain⟨xx,hkx,c0,c1,c2,c3⟩:=CV hkw (i:=i) (by omega)
   have hbn:ks[i]'(by omega)=bn:=by
    have:=HBN.out
    rw[List.getElem?_eq_getElem (by omega)]at this
    injection this
   have hsp:=Ie ks i (by omega)
   rw[hbn]at hkx c0 c1 c2 hsp
   have hRok:R=.ok (nx1,L1):=by
    rw[<-HR1.out,Z9 (by rw[List.length_take];omega),DG]
   have hbd:=TC Q w.heap.size mb M vp _ bn _ 0 nx1 L1 v1 (.agg (CA bn xx).toArray) wr HW.out ⟨xx,rfl,hkx⟩ (by have:=HN.out;have:=HNX.out;omega)
   have hun:(CA bn xx).toArray=#[.int .i64 bn.kind,.string (strOfNums bn.text),.int .i64 bn.num,xx]:=rfl
   rw[hun]at hbd
   obtain⟨adx,cx0,hxx,_⟩:=hkx
   obtain⟨cx,hcx⟩:∃cx,cx0+bn.kids.length=cx:=⟨_,rfl⟩
   rw[hcx]at hxx
   clear hcx
   subst hxx
   have hXr:=HX1.out.keeps HK.out (by omega) (fun e=>by cases e)
   obtain⟨⟨x0,x1,x2,x3⟩,_⟩:=hXr.facts
   have hlx:=hXr.lt
   have hPr:=HP1.out.keeps HK.out (by omega) (fun e=>by cases e)
   have HPR:Hid (PBox wr (w.heap.size+1) (.slice none 0 0) (.slice none 0 0) (.int .i64 0) (.bool false) (.bool false)):=hPr
   have hbr:bk<wr.heap.size:=by omega
   have hil:¬(i:Int)<(i:Int):=by omega
   have HVL:Hid (∀g,v1.ownBlock=some g->w.heap.size+2<=g):=fun g e=>by
    rcases HO.out with h | h
    ·rw[h]at e;cases e
    ·have:=h g e;omega
   clear hkw hun hXr hPr HR1 hbn
   generalize strOfNums bn.text=x at *
   generalize bn.kind=y0 at *
   generalize bn.num=y2 at *
   generalize bn.kids.length=lx at *
   cases hz:At ⟨names,slots,true,true⟩ 0 bn.kids (nx1+1,L1)with
   | error f=>
    rw[hz]at hbd
    have HGE:Hid (G=.error f):=by show _=_;rw[HG.out,hRok,chk_ok,hz];rfl
    clear hz hRok
    go_wp2_with (first | (go_at_call 80;refine hbd.mono ?_;rintro e w2 ⟨rfl,hk2⟩))
    refine⟨rfl,?_⟩
    rw[HGE.out]
    exact⟨rfl,HG1.out.trans (HK.out.trans hk2 HO.out (fun _=>Z3 _)).grown0⟩
   | ok z=>
    rw[hz]at hbd
    have HGE:Hid (G=.ok z.1):=by show _=_;rw[HG.out,hRok,chk_ok,hz];rfl
    clear hz hRok
    go_wp2_with (first | (go_at_call 80;refine hbd.mono ?_;rintro e w2 ⟨v2,rfl,hw2,hk2,ho2,hm2⟩;have hP2:=HPR.out.keeps hk2 (by omega) (fun e=>by have:=HVL.out _ e;omega);obtain⟨lp,p0,p1,p2,p3,p4⟩:=hP2.facts;obtain⟨_,y3,y4,y5,y6,y7⟩:=hw2.obj.cells;have u3:=hw2.obj.frozen 3;have u4:=hw2.obj.frozen 4;have u5:=hw2.obj.frozen 5;have u6:=hw2.obj.frozen 6;have u7:=hw2.obj.frozen 7;have hl2:=hw2.obj.lt))
    have hgw:=(HG1.out.trans (HK.out.trans hk2 HO.out (fun _=>Z3 _)).grown0).trans (GC w2 Q (.slice none 0 0) (.slice none 0 0) (.int .i64 0) (.bool false) (.bool false))
    refine bodyPost_end (v:=.tuple #[]) (by simp[results,Tryz.results56,go_sem]) rfl ?_
    rw[HGE.out]
    exact⟨rfl,⟨hw2.obj.setPlace (.slice none 0 0) (.slice none 0 0) 0 false false,by rw[hgw.block mb hml (fun e=>HWC.out.mq (by injection e))];exact HWC.out.map,HWC.out.mq,HWC.out.names⟩,hgw⟩
theorem LW(Q mb:Nat)(M:List (ByteArray×Int))(pa:Option Addr)(pn pc:Nat)(names:List ByteArray)(nx:Nat)(x:ByteArray)(w:World)(h:Wc w Q mb M (.slice pa pn pc) names nx) :
  Calls Tryz.prog 51 #[.pointer (some ⟨Q,0,none⟩),.string x] w fun e w'=>e=.returned (.bool (Eu names pn x).isSome)/\w'=w:=by
 obtain⟨⟨_,k1,k2⟩,_⟩:=h.obj.cells
 have hl:=h.obj.lt
 have hlk:=G2 h.map x
 rw[h.names x]at hlk
 unfold Eu
 clear h
 cases hf:names.findIdx? (fun y=>decide (y=x))with
 | none=>
  rw[hf]at hlk
  have hlk':(Instr.lookup 61 (.map (some mb)) (.string x) true).run Tryz.prog w=.ok (.tuple #[.int .i64 0,.bool false]) w:=hlk
  clear hlk hf
  go_enter Tryz.func51,Tryz.ntmps51
  go_wp2_with fail
  go_ret
  exact⟨rfl,rfl⟩
 | some i=>
  rw[hf]at hlk
  have hlk':(Instr.lookup 61 (.map (some mb)) (.string x) true).run Tryz.prog w=.ok (.tuple #[.int .i64 (i:Int),.bool true]) w:=hlk
  clear hlk hf
  show Calls _ _ _ _ fun e w'=>e=.returned (.bool (if i<pn then some i else none).isSome)/\w'=w
  by_cases hi:i<pn
  ·have hii:(i:Int)<(pn:Int):=by omega
   rw[if_pos hi]
   clear hi
   go_enter Tryz.func51,Tryz.ntmps51
   go_wp2_with fail
   go_ret
   exact⟨by simp,rfl⟩
  ·have hii:¬(i:Int)<(pn:Int):=by omega
   rw[if_neg hi]
   clear hi
   go_enter Tryz.func51,Tryz.ntmps51
   go_wp2_with fail
   go_ret
   exact⟨by simp,rfl⟩
def Lz(l:List ByteArray)(x:ByteArray)(at':Nat):Chk (List ByteArray):=if BQ l x=true then .error (5,(at':Int))else if l.length=59 then .error (1,(at':Int))else .ok (l++[x])
theorem Ou(B:Nat)(v:Value)(l:List ByteArray)(x:ByteArray)(at':Nat)(w:World)(h:w.ownsRow B 9 1 v l.length (B5 l))(hB:B<=w.heap.size)(hl:l.length<=59) :
  Calls Tryz.prog 54 #[v,.string x,.int .i64 (at':Int)] w fun e w'=>match Lz l x at' with
   | .ok l'=>∃v',e=.returned v'/\w'.ownsRow B 9 1 v' l'.length (B5 l')/\(∀Q,Keeps w w' Q v l.length)/\Onto w v v'
   | .error f=>e=.panicked [{ v:=F0 f,recovered:=false }]/\w'=w:=by
 have hcn:=E9 l x _ v w (EH h)
 obtain⟨ad,c,hv,_,_⟩:=BS h
 subst hv
 have hth:=FW
 have HO:Hid (w.ownsRow B 9 1 (.slice ad l.length c) l.length (B5 l)):=h
 clear h
 unfold Lz
 cases hh:BQ l x with
 | true=>
  rw[hh]at hcn
  rw[if_pos rfl]
  clear hh
  go_enter Tryz.func54,Tryz.ntmps54
  go_wp2_with (first
   | (go_at_call 79;refine hcn.mono ?_;rintro e w1 ⟨rfl,rfl⟩)
   | (go_at_call 52;refine(hth _ _ _).mono ?_;rintro e w2 ⟨rfl,rfl⟩))
  exact⟨rfl,rfl,rfl⟩
 | false=>
  rw[hh]at hcn
  rw[if_neg (by decide)]
  clear hh
  by_cases h59:l.length=59
  ·rw[if_pos h59]
   have h59i:((l.length:Int)==59)=true:=by rw[h59];decide
   clear h59
   go_enter Tryz.func54,Tryz.ntmps54
   go_wp2_with (first
    | (go_at_call 79;refine hcn.mono ?_;rintro e w1 ⟨rfl,rfl⟩)
    | (go_at_call 52;refine(hth _ _ _).mono ?_;rintro e w2 ⟨rfl,rfl⟩))
   exact⟨rfl,rfl,rfl⟩
  ·rw[if_neg h59]
   have h59i:((l.length:Int)==59)=false:=by simp;omega
   clear h59
   go_enter Tryz.func54,Tryz.ntmps54
   go_wp2_with (first
    | (go_at_call 79;refine hcn.mono ?_;rintro e w1 ⟨rfl,rfl⟩)
    | (at_builtin;refine Eg rfl (.tmp 17) (.tmp 19) rfl B l.length 1 (.slice ad l.length c) (B5 l) x rfl (HO.out.alloc (.cells #[.string x] 9)) ⟨_,0,none⟩ rfl (by simp) (by omega) (by simp;omega) ?_;intro g' cap' w7 O7 hk7 hon7))
   go_ret
   refine⟨_,rfl,by rw[Z1,GF];exact O7,fun Q=>(Keeps.of_below (m:=l.length) ((Zg _ _).alloc (Z0 _) _)).trans (hk7 Q) (Or.inl rfl) (fun _=>Z0 _),(Onto.refl _ _).trans hon7 (by simp)⟩
end Go.Proofs.YtpfdgbalchmmfaaGreatDoor
