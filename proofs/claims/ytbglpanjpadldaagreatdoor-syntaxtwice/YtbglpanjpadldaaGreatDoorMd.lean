/- Texts in one. -/
import Derived.Test.YtbglpanjpadldaaGreatDoorMz
import Derived.Maps.AppendAt
import Derived.Laws.Rows
namespace Go.Proofs.YtbglpanjpadldaaGreatDoor
open Go.RowKit
abbrev St9:Type:=Except (Int×Int) PS
def Tc{α:Type}(g:Got α):St9:=match g with
 | .ok (_,s)=>.ok s
 | .error e=>.error e
def Sk{α:Type}(st:St9)(f:PS->Got α):Got α:=match st with
 | .ok s=>f s
 | .error e=>.error e
@[simp] theorem stOf_ok {α:Type} (a:α) (s:PS):Tc (.ok (a,s):Got α)=.ok s:=rfl
@[simp] theorem stOf_err {α:Type} (e:Int×Int):Tc (.error e:Got α)=.error e:=rfl
@[simp] theorem bindS_ok {α:Type} (s:PS) (f:PS->Got α):Sk (.ok s) f=f s:=rfl
@[simp] theorem bindS_err {α:Type} (e:Int×Int) (f:PS->Got α):Sk (.error e) f=.error e:=rfl
@[simp] theorem then_ok {α β:Type} (a:α) (s:PS) (f:α->PS->Got β):Got.then (.ok (a,s):Got α) f=f a s:=rfl
@[simp] theorem then_err {α β:Type} (e:Int×Int) (f:α->PS->Got β):Got.then (.error e:Got α) f=.error e:=rfl
def TokRow(w:World)(Q:Nat)(v:Value)(l:List Tok):Prop:=
 ∃ad c,v=.slice ad l.length c/\(0<l.length->∃b off,ad=some ⟨b,off,none⟩/\b<w.heap.size/\b<Q/\∀k,k<l.length->w.cell? ⟨b,off+k*3,none⟩=some (.int .i64 (EH l k).1)/\w.cell? ⟨b,off+k*3+1,none⟩=some (.string (strOfNums (EH l k).2.1))/\w.cell? ⟨b,off+k*3+2,none⟩=some (.int .i64 ((EH l k).2.2:Int)))
theorem GV{w w':World}{Q b o:Nat}(hg:w.grownBy w' (some Q))(hb:b<w.heap.size)(hq:b≠Q):w'.cell? ⟨b,o,none⟩=w.cell? ⟨b,o,none⟩:=
 World.cell?_of_block (hg.block b hb (fun e=>hq (by injection e)))
theorem TokRow.grown{w w':World}{Q:Nat}{v:Value}{l:List Tok}(h:TokRow w Q v l)(hg:w.grownBy w' (some Q)):TokRow w' Q v l:=by
 obtain⟨ad,c,hv,hr⟩:=h
 refine⟨ad,c,hv,fun h0=>?_⟩
 obtain⟨b,off,he,hlt,hq,hc⟩:=hr h0
 have hq':b≠Q:=by omega
 refine⟨b,off,he,by have:=hg.size;omega,hq,fun k hk=>?_⟩
 obtain⟨c1,c2,c3⟩:=hc k hk
 exact⟨by rw[GV hg hlt hq'];exact c1,by rw[GV hg hlt hq'];exact c2,by rw[GV hg hlt hq'];exact c3⟩
theorem D4(w:World)(Q j:Nat)(x:Value):w.grownBy (w.setCell ⟨Q,j,none⟩ x) (some Q):=
 ⟨rfl,rfl,rfl,by simp[World.setCell],fun k _ hk=>Zm _ _ _ _ (fun e=>hk (by rw[e]))⟩
theorem A3{w w':World}(Q:Nat)(h:Below w.heap.size w w'):w.grownBy w' (some Q):=⟨h.os,h.tape,h.output,h.size,fun k hk _=>h.block k hk⟩
theorem Kz(w:World)(Q:Nat):w.grownBy w (some Q):=A3 Q (Zg _ _)
structure ParB(w:World)(Q B:Nat)(v:Value)(S:Src9):Prop where
 qb:Q<B
 size:B<=w.heap.size
 toks:TokRow w Q v S.L
 few:S.L.length<=4000
 bytes:DV S.L
theorem ParB.grown{w w':World}{Q B:Nat}{v:Value}{S:Src9}(h:ParB w Q B v S)(hg:w.grownBy w' (some Q)):ParB w' Q B v S:=⟨h.qb,Za h.size hg.size,h.toks.grown hg,h.few,h.bytes⟩
def U3(v:Value):Prop:=∃k t m ad n c,v=.agg #[.int .i64 k,.string t,.int .i64 m,.slice ad n c]
theorem NodeV.any{w:World}{M:Nat->Prop}{v:Value}{n:Nd}(h:NodeV w M v n):U3 v:=by
 obtain⟨x,hv,ad,c,hx,_⟩:=h
 exact⟨n.kind,strOfNums n.text,n.num,ad,n.kids.length,_,by rw[hv,hx];rfl⟩
end Go.Proofs.YtbglpanjpadldaaGreatDoor
namespace Go.Proofs.YtbglpanjpadldaaGreatDoor
open Go.RowKit
end Go.Proofs.YtbglpanjpadldaaGreatDoor
namespace Go.Proofs.YtbglpanjpadldaaGreatDoor
open Go.RowKit
def Box4(w:World)(R:Nat)(a b c d:Value):Prop:=w.heap[R]?=some (.cells #[a,b,c,d] 24)
theorem Box4.lt{w:World}{R:Nat}{a b c d:Value}(h:Box4 w R a b c d):R<w.heap.size:=(Array.getElem?_eq_some_iff.1 h).1
theorem Box4.facts{w:World}{R:Nat}{a b c d:Value}(h:Box4 w R a b c d):(w.cell? ⟨R,0,none⟩=some a/\w.cell? ⟨R,1,none⟩=some b/\w.cell? ⟨R,2,none⟩=some c/\w.cell? ⟨R,3,none⟩=some d)/\(w.frozen? ⟨R,0,none⟩=false/\w.frozen? ⟨R,1,none⟩=false/\w.frozen? ⟨R,2,none⟩=false/\w.frozen? ⟨R,3,none⟩=false):=
 ⟨⟨cell_of_row _ _ _ _ _ _ h,cell_of_row _ _ _ _ _ _ h,cell_of_row _ _ _ _ _ _ h,cell_of_row _ _ _ _ _ _ h⟩,frozen_of_row _ _ _ _ _ h,frozen_of_row _ _ _ _ _ h,frozen_of_row _ _ _ _ _ h,frozen_of_row _ _ _ _ _ h⟩
theorem Box4.grown{w w':World}{Q R:Nat}{a b c d:Value}(h:Box4 w R a b c d)(hg:w.grownBy w' (some Q))(hr:Q<R):Box4 w' R a b c d:=(hg.block R h.lt (fun e=>by injection e;omega)).trans h
theorem Box4.new(w:World)(a b c d:Value):Box4 (w.alloc (.cells #[a,b,c,d] 24)) w.heap.size a b c d:=heap_alloc_new w _
theorem Box4.alloc{w:World}{R:Nat}{a b c d:Value}(h:Box4 w R a b c d)(o:Obj):Box4 (w.alloc o) R a b c d:=(((Zg _ w).alloc (Z0 _) o).block R h.lt).trans h
theorem Box4.put{w:World}{R:Nat}{a b c d:Value}(h:Box4 w R a b c d)(a' b' c' d':Value):Box4 ((((w.setCell ⟨R,0,none⟩ a').setCell ⟨R,1,none⟩ b').setCell ⟨R,2,none⟩ c').setCell ⟨R,3,none⟩ d') R a' b' c' d':=
 heap_setCell_same _ _ _ _ _ _ (heap_setCell_same _ _ _ _ _ _ (heap_setCell_same _ _ _ _ _ _ (heap_setCell_same _ _ _ _ _ _ h)))
theorem Box4.setNum{w:World}{R:Nat}{a b c d:Value}(h:Box4 w R a b c d)(x:Value):Box4 (w.setCell ⟨R,2,none⟩ x) R a b x d:=heap_setCell_same _ _ _ _ _ _ h
theorem Box4.other{w:World}{R N:Nat}{a b c d:Value}(h:Box4 w R a b c d)(hn:N≠R)(a' b' c' d':Value):Box4 ((((w.setCell ⟨N,0,none⟩ a').setCell ⟨N,1,none⟩ b').setCell ⟨N,2,none⟩ c').setCell ⟨N,3,none⟩ d') R a b c d:=by
 unfold Box4
 rw[Zm _ _ _ _ (fun e=>hn e.symm),Zm _ _ _ _ (fun e=>hn e.symm),Zm _ _ _ _ (fun e=>hn e.symm),Zm _ _ _ _ (fun e=>hn e.symm)]
 exact h
theorem Bf{w w1 w2:World}{Q:Nat}(h:w.grownBy w1 (some Q))(hb:Below w.heap.size w1 w2):w.grownBy w2 (some Q):=
 ⟨by rw[hb.os,h.os],by rw[hb.tape,h.tape],by rw[hb.output,h.output],Za h.size hb.size,fun k hk hq=>(hb.block k hk).trans (h.block k hk hq)⟩
theorem Ef{w:World}{M:Nat->Prop}{R:Nat}(hR:¬M R)(a b c d:Value):Above M w ((((w.setCell ⟨R,0,none⟩ a).setCell ⟨R,1,none⟩ b).setCell ⟨R,2,none⟩ c).setCell ⟨R,3,none⟩ d):=
 ((((Above.refl _ _).set (a:=⟨R,0,none⟩) hR _).set (a:=⟨R,1,none⟩) hR _).set (a:=⟨R,2,none⟩) hR _).set (a:=⟨R,3,none⟩) hR _
theorem Eg{w:World}{B R:Nat}(hR:B<=R)(a b c d:Value):Below B w ((((w.setCell ⟨R,0,none⟩ a).setCell ⟨R,1,none⟩ b).setCell ⟨R,2,none⟩ c).setCell ⟨R,3,none⟩ d):=
 ((((Zg _ _).setCell hR _).setCell hR _).setCell hR _).setCell hR _
theorem L3{w:World}{M:Nat->Prop}{a b c d:Value}{T:TypeId}{n:Nd}(h:NodeV w M (.agg #[a,b,c,d]) n)(hB:M w.heap.size)(cap:Nat)(hcap:1<=cap:=by decide):KidsV (w.alloc (.cells #[a,b,c,d] T)) M (.slice (some ⟨w.heap.size,0,none⟩) 1 cap) [n]:=by
 obtain⟨x,hv,hk⟩:=h
 simp only[Value.agg.injEq]at hv
 have e:[a,b,c,d]=D8 n x:=by
  have:=congrArg Array.toList hv
  simpa using this
 have hab:Above M w (w.alloc (.cells #[a,b,c,d] T)):=Zh (Zf w _ none) (fun k e=>by cases e)
 refine⟨_,cap-1,(by have e:cap-1+[n].length=cap:=Nat.sub_add_cancel hcap;rw[e];rfl),fun _=>⟨w.heap.size,0,rfl,hB,by simp,?_⟩⟩
 refine Fe fun k hk'=>?_
 have hk0:k=0:=by simp at hk';omega
 subst hk0
 rw[EI]
 refine⟨x,hk.above hab,fun j u hu=>?_⟩
 rw[cell_of_row _ _ _ _ _ _ (heap_alloc_new w _)]
 have hu':[a,b,c,d][j]?=some u:=by rw[e];exact hu
 show #[a,b,c,d][0+4*0+j]?=some u
 rw[Nat.mul_zero,Nat.zero_add]
 simpa using hu'
theorem Pf{w:World}{M:Nat->Prop}{a b c d a' b' c' d':Value}{T:TypeId}{n m:Nd}(h:NodeV w M (.agg #[a,b,c,d]) n)(h':NodeV w M (.agg #[a',b',c',d']) m)(hB:M w.heap.size)(cap:Nat)(hcap:2<=cap:=by decide):KidsV (w.alloc (.cells #[a,b,c,d,a',b',c',d'] T)) M (.slice (some ⟨w.heap.size,0,none⟩) 2 cap) [n,m]:=by
 obtain⟨x,hv,hk⟩:=h
 obtain⟨y,hv',hk'⟩:=h'
 simp only[Value.agg.injEq]at hv hv'
 have e:[a,b,c,d]=D8 n x:=by
  have:=congrArg Array.toList hv
  simpa using this
 have e':[a',b',c',d']=D8 m y:=by
  have:=congrArg Array.toList hv'
  simpa using this
 have hab:Above M w (w.alloc (.cells #[a,b,c,d,a',b',c',d'] T)):=Zh (Zf w _ none) (fun k e=>by cases e)
 have hrow:∀j,(w.alloc (.cells #[a,b,c,d,a',b',c',d'] T)).cell? ⟨w.heap.size,j,none⟩=#[a,b,c,d,a',b',c',d'][j]?:=fun j=>cell_of_row _ _ _ _ _ _ (heap_alloc_new w _)
 refine⟨_,cap-2,(by have e:cap-2+[n,m].length=cap:=Nat.sub_add_cancel hcap;rw[e];rfl),fun _=>⟨w.heap.size,0,rfl,hB,by simp,?_⟩⟩
 unfold NodesAt
 refine⟨?_,?_⟩
 ·rw[EI]
  refine⟨x,hk.above hab,fun j u hu=>?_⟩
  have hu':[a,b,c,d][j]?=some u:=by rw[e];exact hu
  rw[Nat.zero_add,hrow j]
  match j,hu' with
  | 0,h=>exact h
  | 1,h=>exact h
  | 2,h=>exact h
  | 3,h=>exact h
 ·unfold NodesAt
  refine⟨?_,by unfold NodesAt;trivial⟩
  rw[EI]
  refine⟨y,hk'.above hab,fun j u hu=>?_⟩
  have hu':[a',b',c',d'][j]?=some u:=by rw[e'];exact hu
  rw[hrow]
  match j,hu' with
  | 0,h=>exact h
  | 1,h=>exact h
  | 2,h=>exact h
  | 3,h=>exact h
theorem Gt{w:World}{M:Nat->Prop}{kind:Int}{tx:List Int}{u:Value}{ks:List Nd}(h:KidsV w M u ks):NodeV w M (.agg #[.int .i64 kind,.string (strOfNums tx),.int .i64 0,u]) (.mk kind tx 0 ks):=⟨u,rfl,h⟩
end Go.Proofs.YtbglpanjpadldaaGreatDoor
namespace Go.Proofs.YtbglpanjpadldaaGreatDoor
open Go.RowKit
end Go.Proofs.YtbglpanjpadldaaGreatDoor
