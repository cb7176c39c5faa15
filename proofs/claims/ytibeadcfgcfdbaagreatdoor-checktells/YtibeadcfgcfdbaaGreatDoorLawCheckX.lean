/- CheckTells holds for every text that can come in, with no condition: the program tells whether its names are right, or what is wrong first. What the library's variables hold at the start is tied to the program's text. -/
import Derived.Test.YtibeadcfgcfdbaaGreatDoorCk9X
import Derived.Test.YtibeadcfgcfdbaaGreatDoorTie
import Derived.Test.YtibeadcfgcfdbaaGreatDoorCards
import Derived.ProofKit
import Derived.LaidMore
import Derived.OpenShut
import Derived.Stop.Joined
import Derived.Stop.LaidErr
import Derived.SevenTiedAt
import Derived.ChangeMaps5
set_option maxHeartbeats 8000000
set_option maxRecDepth 100000
namespace Go.Proofs.YtibeadcfgcfdbaaGreatDoor.checkTells
open Go.ChangeShapes Go.WideShapes Go.ChangeAt Go.RowKit
theorem small{T:List Int}{n:Nd}(h:JH T=.ok n):A4 n<=600:=by
 unfold JH at h
 cases hq:Cc T with
 | error e=>rw[hq]at h;cases h
 | ok l=>
  rw[hq]at h
  dsimp only at h
  cases hz:FR l with
  | error e=>rw[hz]at h;cases h
  | ok y=>rw[hz]at h;cases h;exact LR hq
theorem none_node(w:World)(M:Nat->Prop):NodeV w M (.agg #[.int .i64 0,.string ⟨#[]⟩,.int .i64 0,.slice none 0 0]) (.mk 0 [] 0 []):=⟨_,rfl,none,0,rfl,fun h=>by cases h⟩
theorem both{T:List Int}:∃(n:Nd) (c a:Int),A4 n<=600/\∀w e w',GN w T e w'->Below w.heap.size w w'/\∃u,e=.returned (.tuple #[u,.agg #[.int .i64 c,.int .i64 a]])/\NodeV w' (AZ w.heap.size) u n:=by
 cases hp:JH T with
 | error f=>
  obtain⟨c,a⟩:=f
  refine⟨.mk 0 [] 0 [],c,a,by decide,fun w e w' h=>?_⟩
  unfold GN at h
  rw[hp]at h
  exact⟨h.1,_,h.2,none_node _ _⟩
 | ok n=>
  refine⟨n,0,0,small hp,fun w e w' h=>?_⟩
  unfold GN at h
  rw[hp]at h
  obtain⟨h1,u,h2,h3⟩:=h
  exact⟨h1,u,h2,h3⟩
theorem fault_new(w:World)(o:Obj)(x y:Value):Box2 ((w.alloc o).alloc (.cells #[x,y] 27)) (w.heap.size+1) x y:=by
 have h:=heap_alloc_new (w.alloc o) (.cells #[x,y] 27)
 rw[show(w.alloc o).heap.size=w.heap.size+1 by simp]at h
 exact h
theorem walk(t:ByteArray)(w:World)(he:Errs w)(hm:t.size<=maxLen) :
  Calls Tryz.prog 3 #[.string t] w fun e w'=>e=.returned (.bool true)/\Below w.heap.size w w':=by
 obtain⟨n,c,a,hsz,hEnd⟩:=both (T:=A2 t)
 have h1:=(S9 t w he hm).mono (fun e w' h=>hEnd w e w' h)
 have h2:=fun w=>(QU t w hm).mono (fun e w' h=>hEnd w e w' h)
 have hs:=fun M M' u u' w=>VC 600 (by decide) n hsz M M' u u' w
 clear hEnd he
 go_enter Tryz.func3,Tryz.ntmps3
 go_wp2_with (first
  | (go_at_call 6;refine h1.mono ?_;rintro e w1 ⟨hb1,u1,rfl,hv1⟩;obtain⟨a1,b1,c1,ad1,n1,cc1,hu1⟩:=hv1.any;subst hu1)
  | (go_at_call 7;refine(h2 _).mono ?_;rintro e w2 ⟨hb2,u2,rfl,hv2⟩;obtain⟨a2,b2,c2,ad2,n2,cc2,hu2⟩:=hv2.any;subst hu2;have hsz2:=hb2.size;have hN2:Box4 w2 w1.heap.size (.int .i64 a1) (.string b1) (.int .i64 c1) (.slice ad1 n1 cc1):=((Box4.new w1 _ _ _ _).alloc (.cells #[.int .i64 c,.int .i64 a] 27)).below hb2 (by simp;omega);have hF2:Box2 w2 (w1.heap.size+1) (.int .i64 c) (.int .i64 a):=Box2.below (fault_new w1 (.cells #[.int .i64 a1,.string b1,.int .i64 c1,.slice ad1 n1 cc1] 24) _ _) hb2 (by simp);obtain⟨⟨p0,p1,p2,p3⟩,_⟩:=hN2.facts;obtain⟨hl2,⟨q0,q1⟩,_⟩:=hF2.facts;have hlN:=hN2.lt;have hb12:=(BQ w1 (.cells #[.int .i64 a1,.string b1,.int .i64 c1,.slice ad1 n1 cc1] 24) (.cells #[.int .i64 c,.int .i64 a] 27) (Z0 _)).trans (hb2.mono (by simp;omega));have hv1':NodeV ((w2.alloc (.cells #[.int .i64 a2,.string b2,.int .i64 c2,.slice ad2 n2 cc2] 24)).alloc (.cells #[.int .i64 c,.int .i64 a] 27)) (AZ w.heap.size) (.agg #[.int .i64 a1,.string b1,.int .i64 c1,.slice ad1 n1 cc1]) n:=(hv1.above (Zk hb12)).above (Zk (BQ w2 (.cells #[.int .i64 a2,.string b2,.int .i64 c2,.slice ad2 n2 cc2] 24) (.cells #[.int .i64 c,.int .i64 a] 27) (Z0 _)));have hv2':NodeV ((w2.alloc (.cells #[.int .i64 a2,.string b2,.int .i64 c2,.slice ad2 n2 cc2] 24)).alloc (.cells #[.int .i64 c,.int .i64 a] 27)) (AZ ((w1.alloc (.cells #[.int .i64 a1,.string b1,.int .i64 c1,.slice ad1 n1 cc1] 24)).alloc (.cells #[.int .i64 c,.int .i64 a] 27)).heap.size) (.agg #[.int .i64 a2,.string b2,.int .i64 c2,.slice ad2 n2 cc2]) n:=hv2.above (Zk (BQ w2 (.cells #[.int .i64 a2,.string b2,.int .i64 c2,.slice ad2 n2 cc2] 24) (.cells #[.int .i64 c,.int .i64 a] 27) (Z0 _))))
  | (go_at_call 8;refine(hs _ _ _ _ _ hv1' hv2').mono ?_;rintro e w3 ⟨rfl,hb3⟩;have hF3:Box2 w3 (w1.heap.size+1) (.int .i64 c) (.int .i64 a):=(hF2.below (BQ w2 (.cells #[.int .i64 a2,.string b2,.int .i64 c2,.slice ad2 n2 cc2] 24) (.cells #[.int .i64 c,.int .i64 a] 27) (Z0 _)) hl2).below hb3 (by simp;omega);have hF4:Box2 w3 (w2.heap.size+1) (.int .i64 c) (.int .i64 a):=Box2.below (fault_new w2 (.cells #[.int .i64 a2,.string b2,.int .i64 c2,.slice ad2 n2 cc2] 24) _ _) hb3 (by simp);obtain⟨hl3,⟨r0,r1⟩,_⟩:=hF3.facts;obtain⟨hl4,⟨r2,r3⟩,_⟩:=hF4.facts))
 go_ret
 refine⟨by first | rfl | simp,?_⟩
 have hs1:=hb1.size
 exact(hb1.trans (hb12.mono hs1)).trans (((BQ w2 (.cells #[.int .i64 a2,.string b2,.int .i64 c2,.slice ad2 n2 cc2] 24) (.cells #[.int .i64 c,.int .i64 a] 27) (Z0 _)).trans (hb3.mono (by simp;omega))).mono (by omega))
theorem own:ownKnob Tryz.prog.godebug=none:=by kernel_rfl
theorem lt4:Tryz.prog.underlying 4=some .bool:=by kernel_rfl
theorem gRange:Tryz.prog.globalNamed "strconv.ErrRange"=some 3:=by kernel_rfl
theorem gRangeType:(Tryz.prog.globals[3]?).map (·.type)=some 139:=by kernel_rfl
theorem star: "*"++ "errors.errorString"= "*errors.errorString":=by decide
theorem rowErr(u:TypeId)(h:Tryz.prog.typeName? 3 u=some "*errors.errorString"):u=183:=
 typeName_ptr_named (nm:= "errors.errorString") (by rw[star];kernel_rfl) (by kernel_rfl) (by decide) u (by rw[star];exact h)
theorem door_met(os:Os)(args:Array Value):laidMetH Tryz.prog Rows.checkTellsRow.laid ((World.doorLaid Tryz.prog 62 os).forCall (fun _ _=>0) ⟨#[],args,[]⟩).memory:=
 laidMetH_of_parts3 (fuel:=8) (laidMet_of_run' 8 (by kernel_rfl) (by kernel_rfl)) (by kernel_rfl) (by kernel_rfl)
theorem of_laid{W:World}(h:laidMetH Tryz.prog Rows.checkTellsRow.laid W):Errs W:=by
 rw[MakeChecks.laidMetH_plain _ _ _ (by kernel_rfl)]at h
 have h3:=h.tail.tail.tail
 obtain⟨a,s,hv,-,-,-⟩:=laid_sentinel h3 gRange gRangeType Tryz.underlying139 rowErr Tryz.underlying183 Tryz.underlying185 rfl rfl Tryz.underlying9 (by kernel_rfl) (by kernel_rfl)
 have hc:=World.var?_cell gRange hv 0
 simp at hc
 exact⟨Lib.lt_of_cell hc,_,_,hc⟩
theorem lifted(os:Os)(started:os.Started)(H:Type)(enc:TypeId×Value->H) :
  ReturnsInHanded {} Tryz.checked os 3 .any (fun w args=>(Rows.checkTellsSpec.pre enc Tryz.prog Tryz.f3 Rows.checkTellsRow.domain false w args/\laidMetH Tryz.prog Rows.checkTellsRow.laid w)/\sizedMet enc Tryz.prog Tryz.f3 (OpenSpec.ofChange Rows.checkTellsSpec) false w args)
   (Rows.checkTellsSpec.post enc Tryz.prog Tryz.f3 false true false false):=by
 refine returnsInHanded_of_change_and (C:=Tryz.checked) (X:=fun w _=>laidMetH Tryz.prog Rows.checkTellsRow.laid w) (fun _ _ _ hh h=>h.of_heap hh) own started (by kernel_rfl) Tryz.func3
  (ChangeSpec.witness_shaped (enc:=enc) (C:=Tryz.checked) (os:=os) (X:=fun w _=>laidMetH Tryz.prog Rows.checkTellsRow.laid w) false (World.doorLaid Tryz.prog 62 os) #[.string ⟨#[]⟩] 8 rfl (World.shaped_of_RefB (by kernel_rfl) (by kernel_rfl)) (by kernel_rfl) (by kernel_rfl) (by kernel_rfl) (door_met os _)) ?_
 intro W base args ds gs before hval0 hW _ _ hL _
 have hval:∀(j:Nat) t v,Tryz.f3.params[j]?=some t->args[j]?=some v->Value.okWide Tryz.prog W .any base t v:=hval0
 have hW':=hW
 obtain⟨p,q,hA0,hV,rfl,hfz,hnd⟩:=hW
 have hA:DataW.TrodAll enc Tryz.prog W 0 (fun _=>true) true Tryz.f3.params.toList args.toList ds p:=hA0
 rw[Tryz.params3]at hA hval
 obtain⟨v0,d0,rfl,rfl,h0⟩:=trodAll_one hA
 obtain⟨rfl,rfl⟩:=trodVars_none hV
 obtain⟨s,rfl,rfl,rfl,hs⟩:=Go.ChangeMaps.open_string VE (hval 0 9 v0 rfl rfl) h0
 clear hA0 hval0
 simp only[List.append_nil]at hW'
 refine(walk s W (of_laid hL) hs).mono fun e W' ⟨he,bel⟩=>?_
 subst he
 exact⟨_,rfl,_,_,_,[],[],[],hW',trodAll_mk1 (shut_bool lt4 _),trodAll_mk1 (Go.ChangeMaps.shut_string VE hs),rfl,bel.frame _,fun h=>by cases h⟩
theorem over:Rows.CheckTellsSaid:=
 OpenClaim.holds_of_wide 3 Tryz.f3 rfl rfl rfl rfl rfl rfl rfl ⟨rfl,rfl,rfl,rfl,rfl⟩ rfl rfl rfl rfl rfl (by kernel_rfl) Tryz.func3 (by kernel_rfl)
  (of_decide_eq_true (by kernel_rfl)) (by unfold Func.isWrapper;first | (rw[if_pos (by decide +kernel)];kernel_rfl) | (rw[if_neg (by decide +kernel)];exact⟨rfl,rfl⟩))
  (fun os started H enc _=>lifted os started H enc)
theorem card:Rows.CheckTellsCardSaid:=
 Claim7.holds_tied_plain_at .later [] [.data,.data,.data,.sentinel,.sentinel] true _ true
  over (fun _ h=>by cases h) (by kernel_rfl) (fun _ h=>by cases h) checkTells_row_tie rfl ⟨rfl,rfl⟩ (by kernel_rfl) rfl
  (fun f fn hf hfn=>by
   obtain rfl:f=3:=Option.some.inj ((show Tryz.prog.funcNamed "gesso/gessolaw.CheckTells"=some 3 by kernel_rfl).symm.trans hf) |>.symm
   obtain rfl:fn=Tryz.f3:=(Option.some.inj (Tryz.func3.symm.trans hfn)).symm
   exact⟨by kernel_rfl,fun j t ht=>by
    rw[Tryz.params3]at ht
    have hm:t∈[9]:=by simpa using Array.mem_of_getElem? ht
    have hall:([9].all fun u=>!Tryz.prog.wantsStandIn u)=true:=by kernel_rfl
    exact(show Tryz.prog.wantsStandIn t=false by simpa using List.all_eq_true.1 hall t hm)⟩)
  (by kernel_rfl)
end Go.Proofs.YtibeadcfgcfdbaaGreatDoor.checkTells
namespace Go.Proofs.YtibeadcfgcfdbaaGreatDoor
theorem checkTells_holds:Rows.CheckTellsCardSaid:=checkTells.card
#print axioms checkTells_holds
end Go.Proofs.YtibeadcfgcfdbaaGreatDoor
