/- Texts in one. -/
import Derived.Test.YtibeadcfgcfdbaaGreatDoorMz
import Derived.Maps.AppendAt
import Derived.Laws.Rows
set_option maxHeartbeats 4000000
namespace Go.Proofs.YtibeadcfgcfdbaaGreatDoor
open Go.RowKit
abbrev St9:Type:=Except (Int×Int) PS
def A7{α:Type}(g:Got α):St9:=match g with
 | .ok (_,s)=>.ok s
 | .error e=>.error e
def AA{α:Type}(st:St9)(f:PS->Got α):Got α:=match st with
 | .ok s=>f s
 | .error e=>.error e
@[simp] theorem stOf_ok {α:Type} (a:α) (s:PS):A7 (.ok (a,s):Got α)=.ok s:=rfl
@[simp] theorem stOf_err {α:Type} (e:Int×Int):A7 (.error e:Got α)=.error e:=rfl
@[simp] theorem bindS_ok {α:Type} (s:PS) (f:PS->Got α):AA (.ok s) f=f s:=rfl
@[simp] theorem bindS_err {α:Type} (e:Int×Int) (f:PS->Got α):AA (.error e) f=.error e:=rfl
@[simp] theorem then_ok {α β:Type} (a:α) (s:PS) (f:α->PS->Got β):Got.then (.ok (a,s):Got α) f=f a s:=rfl
@[simp] theorem then_err {α β:Type} (e:Int×Int) (f:α->PS->Got β):Got.then (.error e:Got α) f=.error e:=rfl
def TokRow(w:World)(Q:Nat)(v:Value)(l:List Tok):Prop:=
 ∃ad c,v=.slice ad l.length c/\(0<l.length->∃b off,ad=some ⟨b,off,none⟩/\b<w.heap.size/\b<Q/\∀k,k<l.length->w.cell? ⟨b,off+k*3,none⟩=some (.int .i64 (BS l k).1)/\w.cell? ⟨b,off+k*3+1,none⟩=some (.string (strOfNums (BS l k).2.1))/\w.cell? ⟨b,off+k*3+2,none⟩=some (.int .i64 ((BS l k).2.2:Int)))
theorem I5{w w':World}{Q b o:Nat}(hg:w.grownBy w' (some Q))(hb:b<w.heap.size)(hq:b≠Q):w'.cell? ⟨b,o,none⟩=w.cell? ⟨b,o,none⟩:=
 World.cell?_of_block (hg.block b hb (fun e=>hq (by injection e)))
theorem TokRow.grown{w w':World}{Q:Nat}{v:Value}{l:List Tok}(h:TokRow w Q v l)(hg:w.grownBy w' (some Q)):TokRow w' Q v l:=by
 obtain⟨ad,c,hv,hr⟩:=h
 refine⟨ad,c,hv,fun h0=>?_⟩
 obtain⟨b,off,he,hlt,hq,hc⟩:=hr h0
 have hq':b≠Q:=by omega
 refine⟨b,off,he,by have:=hg.size;omega,hq,fun k hk=>?_⟩
 obtain⟨c1,c2,c3⟩:=hc k hk
 exact⟨by rw[I5 hg hlt hq'];exact c1,by rw[I5 hg hlt hq'];exact c2,by rw[I5 hg hlt hq'];exact c3⟩
def ParObj(w:World)(Q:Nat)(v:Value)(fin tok deep many fc fa:Int):Prop:=
 w.heap[Q]?=some (.cells #[v,.int .i64 fin,.int .i64 tok,.int .i64 deep,.int .i64 many,.int .i64 fc,.int .i64 fa] 111)
theorem ParObj.lt{w:World}{Q:Nat}{v:Value}{fin tok deep many fc fa:Int}(h:ParObj w Q v fin tok deep many fc fa):Q<w.heap.size:=(Array.getElem?_eq_some_iff.1 h).1
theorem ParObj.cells{w:World}{Q:Nat}{v:Value}{fin tok deep many fc fa:Int}(h:ParObj w Q v fin tok deep many fc fa) :
  w.cell? ⟨Q,0,none⟩=some v/\w.cell? ⟨Q,1,none⟩=some (.int .i64 fin)/\w.cell? ⟨Q,2,none⟩=some (.int .i64 tok)/\w.cell? ⟨Q,3,none⟩=some (.int .i64 deep)/\w.cell? ⟨Q,4,none⟩=some (.int .i64 many)/\w.cell? ⟨Q,5,none⟩=some (.int .i64 fc)/\w.cell? ⟨Q,6,none⟩=some (.int .i64 fa):=
 ⟨cell_of_row _ _ _ _ _ _ h,cell_of_row _ _ _ _ _ _ h,cell_of_row _ _ _ _ _ _ h,cell_of_row _ _ _ _ _ _ h,cell_of_row _ _ _ _ _ _ h,cell_of_row _ _ _ _ _ _ h,cell_of_row _ _ _ _ _ _ h⟩
theorem ParObj.frozen{w:World}{Q:Nat}{v:Value}{fin tok deep many fc fa:Int}(h:ParObj w Q v fin tok deep many fc fa)(j:Nat):w.frozen? ⟨Q,j,none⟩=false:=frozen_of_row _ _ _ _ _ h
theorem ParObj.setTok{w:World}{Q:Nat}{v:Value}{fin tok deep many fc fa:Int}(h:ParObj w Q v fin tok deep many fc fa)(x:Int):ParObj (w.setCell ⟨Q,2,none⟩ (.int .i64 x)) Q v fin x deep many fc fa:=heap_setCell_same _ _ _ _ _ _ h
theorem ParObj.setDeep{w:World}{Q:Nat}{v:Value}{fin tok deep many fc fa:Int}(h:ParObj w Q v fin tok deep many fc fa)(x:Int):ParObj (w.setCell ⟨Q,3,none⟩ (.int .i64 x)) Q v fin tok x many fc fa:=heap_setCell_same _ _ _ _ _ _ h
theorem ParObj.setMany{w:World}{Q:Nat}{v:Value}{fin tok deep many fc fa:Int}(h:ParObj w Q v fin tok deep many fc fa)(x:Int):ParObj (w.setCell ⟨Q,4,none⟩ (.int .i64 x)) Q v fin tok deep x fc fa:=heap_setCell_same _ _ _ _ _ _ h
theorem ParObj.setCode{w:World}{Q:Nat}{v:Value}{fin tok deep many fc fa:Int}(h:ParObj w Q v fin tok deep many fc fa)(x:Int):ParObj (w.setCell ⟨Q,5,none⟩ (.int .i64 x)) Q v fin tok deep many x fa:=heap_setCell_same _ _ _ _ _ _ h
theorem ParObj.setByte{w:World}{Q:Nat}{v:Value}{fin tok deep many fc fa:Int}(h:ParObj w Q v fin tok deep many fc fa)(x:Int):ParObj (w.setCell ⟨Q,6,none⟩ (.int .i64 x)) Q v fin tok deep many fc x:=heap_setCell_same _ _ _ _ _ _ h
theorem ParObj.keep{w w':World}{Q:Nat}{v:Value}{fin tok deep many fc fa:Int}(h:ParObj w Q v fin tok deep many fc fa)(hb:w'.heap[Q]?=w.heap[Q]?):ParObj w' Q v fin tok deep many fc fa:=hb.trans h
theorem AJ(w:World)(Q j:Nat)(x:Value):w.grownBy (w.setCell ⟨Q,j,none⟩ x) (some Q):=
 ⟨rfl,rfl,rfl,by simp[World.setCell],fun k _ hk=>Zm _ _ _ _ (fun e=>hk (by rw[e]))⟩
theorem A0{w w':World}(Q:Nat)(h:Below w.heap.size w w'):w.grownBy w' (some Q):=⟨h.os,h.tape,h.output,h.size,fun k hk _=>h.block k hk⟩
theorem Fv{w w':World}{Q:Nat}(h:w.grownBy w' (some Q)):w.grownBy w'.drew (some Q):=h.trans (A0 Q (Zg _ _).drew)
theorem ParObj.drew{w:World}{Q:Nat}{v:Value}{fin tok deep many fc fa:Int}(h:ParObj w Q v fin tok deep many fc fa):ParObj w.drew Q v fin tok deep many fc fa:=h
theorem Ge(w:World)(Q:Nat):w.grownBy w (some Q):=A0 Q (Zg _ _)
def Qa(S:Src9)(st:St9)(tok deep many fc fa:Int):Prop:=match st with
 | .ok s=>tok=(s.tok:Int)/\s.tok<=S.L.length/\deep=s.deep/\-(s.tok:Int)<=s.deep/\s.deep<=20/\many=IntKind.i64.wrap s.many/\fc=0/\fa=0
 | .error (c,a)=>fc=c/\fa=a/\c≠0
structure ParB(w:World)(Q B:Nat)(v:Value)(S:Src9):Prop where
 qb:Q<B
 size:B<=w.heap.size
 toks:TokRow w Q v S.L
 few:S.L.length<=4000
 bytes:Do S.L
theorem ParB.grown{w w':World}{Q B:Nat}{v:Value}{S:Src9}(h:ParB w Q B v S)(hg:w.grownBy w' (some Q)):ParB w' Q B v S:=⟨h.qb,Za h.size hg.size,h.toks.grown hg,h.few,h.bytes⟩
structure Par(w:World)(Q B:Nat)(v:Value)(S:Src9)(st:St9):Prop where
 base:ParB w Q B v S
 obj:∃tok deep many fc fa,ParObj w Q v S.fin tok deep many fc fa/\Qa S st tok deep many fc fa
theorem Par.below{w w':World}{Q B:Nat}{v:Value}{S:Src9}{st:St9}(h:Par w Q B v S st)(hb:Below w.heap.size w w'):Par w' Q B v S st:=by
 obtain⟨tok,deep,many,fc,fa,ho,hf⟩:=h.obj
 exact⟨h.base.grown (A0 Q hb),tok,deep,many,fc,fa,ho.keep (hb.block Q ho.lt),hf⟩
theorem Par.apart{w w':World}{Q B:Nat}{v:Value}{S:Src9}{st:St9}(h:Par w Q B v S st)(hb:Below B w w'):Par w' Q B v S st:=by
 obtain⟨tok,deep,many,fc,fa,ho,hf⟩:=h.obj
 have hq:=h.base.qb
 refine⟨⟨hq,Za h.base.size hb.size,?_,h.base.few,h.base.bytes⟩,tok,deep,many,fc,fa,ho.keep (hb.block Q hq),hf⟩
 obtain⟨ad,c,hv,hr⟩:=h.base.toks
 refine⟨ad,c,hv,fun h0=>?_⟩
 obtain⟨b,off,he,hlt,hbq,hc⟩:=hr h0
 refine⟨b,off,he,by have:=hb.size;omega,hbq,fun k hk=>?_⟩
 obtain⟨c1,c2,c3⟩:=hc k hk
 exact⟨by rw[hb.cell (p:=⟨b,off+k*3,none⟩) (by dsimp only;omega)];exact c1,by rw[hb.cell (p:=⟨b,off+k*3+1,none⟩) (by dsimp only;omega)];exact c2,by rw[hb.cell (p:=⟨b,off+k*3+2,none⟩) (by dsimp only;omega)];exact c3⟩
theorem Par.qb{w:World}{Q B:Nat}{v:Value}{S:Src9}{st:St9}(h:Par w Q B v S st):Q<B:=h.base.qb
theorem Par.size{w:World}{Q B:Nat}{v:Value}{S:Src9}{st:St9}(h:Par w Q B v S st):B<=w.heap.size:=h.base.size
theorem Par.toks{w:World}{Q B:Nat}{v:Value}{S:Src9}{st:St9}(h:Par w Q B v S st):TokRow w Q v S.L:=h.base.toks
theorem Par.few{w:World}{Q B:Nat}{v:Value}{S:Src9}{st:St9}(h:Par w Q B v S st):S.L.length<=4000:=h.base.few
theorem Par.bytes{w:World}{Q B:Nat}{v:Value}{S:Src9}{st:St9}(h:Par w Q B v S st):Do S.L:=h.base.bytes
def OX(v:Value):Prop:=∃k t m ad n c,v=.agg #[.int .i64 k,.string t,.int .i64 m,.slice ad n c]
theorem NodeV.any{w:World}{M:Nat->Prop}{v:Value}{n:Nd}(h:NodeV w M v n):OX v:=by
 obtain⟨x,hv,ad,c,hx,_⟩:=h
 exact⟨n.kind,strOfNums n.text,n.num,ad,n.kids.length,_,by rw[hv,hx];rfl⟩
def ValG(w:World)(M:Nat->Prop)(v:Value)(g:Got Nd):Prop:=match g with
 | .ok (n,_)=>NodeV w M v n
 | .error _=>OX v
theorem ValG.any{w:World}{M:Nat->Prop}{v:Value}{g:Got Nd}(h:ValG w M v g):OX v:=by
 unfold ValG at h
 match g,h with
 | .ok (n,_),h=>exact NodeV.any h
 | .error _,h=>exact h
theorem ValG.above{w w':World}{M:Nat->Prop}{v:Value}{g:Got Nd}(h:ValG w M v g)(ha:Above M w w'):ValG w' M v g:=by
 unfold ValG at h⊢
 match g,h with
 | .ok (n,_),h=>exact NodeV.above h ha
 | .error _,h=>exact h
theorem ValG.mono{w:World}{M M':Nat->Prop}{v:Value}{g:Got Nd}(h:ValG w M v g)(hm:∀k,M k->k<w.heap.size->M' k):ValG w M' v g:=by
 unfold ValG at h⊢
 match g,h with
 | .ok (n,_),h=>exact Zi h hm
 | .error _,h=>exact h
def R9(S:Src9)(code:Int)(st:St9):St9:=match st with
 | .ok s=>.error (code,S.byte s)
 | .error e=>.error e
theorem ParB.bad{w w':World}{Q B:Nat}{v:Value}{S:Src9}{tok deep many fc fa:Int}(h:ParB w Q B v S)(hg:w.grownBy w' (some Q))(ho:ParObj w' Q v S.fin tok deep many fc fa)(hc:fc≠0):Par w' Q B v S (.error (fc,fa)):=
 ⟨h.grown hg,tok,deep,many,fc,fa,ho,rfl,rfl,hc⟩
theorem ParB.good{w w':World}{Q B:Nat}{v:Value}{S:Src9}{s:PS}{many:Int}(h:ParB w Q B v S)(hg:w.grownBy w' (some Q))(ho:ParObj w' Q v S.fin s.tok s.deep many 0 0)(hm:many=IntKind.i64.wrap s.many)(h1:s.tok<=S.L.length)(h2:-(s.tok:Int)<=s.deep)(h3:s.deep<=20):Par w' Q B v S (.ok s):=
 ⟨h.grown hg,_,_,_,_,_,ho,rfl,h1,rfl,h2,h3,hm,rfl,rfl⟩
theorem NW(Q B:Nat)(v:Value)(S:Src9)(tok:Nat)(deep many fa code:Int)(hc:code≠0)(w:World)(hp:ParB w Q B v S)(ho:ParObj w Q v S.fin tok deep many 0 fa) :
  Calls Tryz.prog 53 #[.pointer (some ⟨Q,0,none⟩),.int .i64 code] w fun e w'=>e=.returned (.tuple #[])/\Par w' Q B v S (.error (code,S.byte ⟨tok,0,0⟩))/\w.grownBy w' (some Q):=by
 obtain⟨k0,k1,k2,k3,k4,k5,k6⟩:=ho.cells
 have z5:=ho.frozen 5
 have z6:=ho.frozen 6
 have hfew:=hp.few
 obtain⟨ad,c,hv,hrow⟩:=hp.toks
 subst hv
 have HP:Hid (ParB w Q B (.slice ad S.L.length c) S):=hp
 have HO:Hid (ParObj w Q (.slice ad S.L.length c) S.fin tok deep many 0 fa):=ho
 by_cases ht:tok<S.L.length
 ·obtain⟨b,off,rfl,hb,hbq,hcl⟩:=hrow (by omega)
  obtain⟨x1,x2,x3⟩:=hcl tok ht
  have hil:(tok:Int)<(S.L.length:Int):=by omega
  have HB:Hid (S.byte ⟨tok,0,0⟩=((BS S.L tok).2.2:Int)):=by show _=_;unfold Src9.byte;rw[if_pos ht];rfl
  clear hrow hcl hp ho
  generalize ((BS S.L tok).2.2:Int)=at' at *
  go_enter Tryz.func53,Tryz.ntmps53
  go_wp2
  go_region
  go_wp2
  go_region
  go_wp2
  have hg:w.grownBy (((w.setCell ⟨Q,5,none⟩ (.int .i64 code)).setCell ⟨Q,6,none⟩ (.int .i64 at')).drew.drew) (some Q):=Fv (Fv ((AJ w Q 5 _).trans (AJ _ Q 6 _)))
  refine bodyPost_end (v:=.tuple #[]) (by simp[results,Tryz.results53,go_sem]) rfl ⟨rfl,?_,hg⟩
  rw[HB.out]
  exact HP.out.bad hg ((HO.out.setCode code).setByte at').drew.drew hc
 ·have hil:¬(tok:Int)<(S.L.length:Int):=by omega
  have HB:Hid (S.byte ⟨tok,0,0⟩=(S.fin:Int)):=by show _=_;unfold Src9.byte;rw[if_neg ht]
  clear hrow hp ho
  go_enter Tryz.func53,Tryz.ntmps53
  go_wp2
  go_region
  go_wp2
  have hg:w.grownBy (((w.setCell ⟨Q,5,none⟩ (.int .i64 code)).setCell ⟨Q,6,none⟩ (.int .i64 (S.fin:Int))).drew) (some Q):=Fv ((AJ w Q 5 _).trans (AJ _ Q 6 _))
  refine bodyPost_end (v:=.tuple #[]) (by simp[results,Tryz.results53,go_sem]) rfl ⟨rfl,?_,hg⟩
  rw[HB.out]
  exact HP.out.bad hg ((HO.out.setCode code).setByte _).drew hc
theorem Lh(Q B:Nat)(v:Value)(S:Src9)(st:St9)(code:Int)(hc:code≠0)(w:World)(hp:Par w Q B v S st) :
  Calls Tryz.prog 53 #[.pointer (some ⟨Q,0,none⟩),.int .i64 code] w fun e w'=>e=.returned (.tuple #[])/\Par w' Q B v S (R9 S code st)/\w.grownBy w' (some Q):=by
 obtain⟨tok,deep,many,fc,fa,ho,hf⟩:=hp.obj
 match st,hf with
 | .error (c,a),hf=>
  obtain⟨k0,k1,k2,k3,k4,k5,k6⟩:=ho.cells
  obtain⟨rfl,rfl,hc0⟩:=hf
  go_enter Tryz.func53,Tryz.ntmps53
  go_wp2
  exact bodyPost_ret (v:=.tuple #[]) (by simp[results,Tryz.results53,go_sem]) rfl ⟨rfl,hp,Ge _ _⟩
 | .ok s,hf=>
  obtain⟨rfl,h1,rfl,h2,h3,rfl,rfl,rfl⟩:=hf
  exact NW Q B v S s.tok s.deep _ 0 code hc w hp.base ho
theorem Ae(w:World)(n:Nat):Below w.heap.size w (w.drewN n):=⟨rfl,rfl,rfl,Z0 _,fun _ _=>rfl⟩
def Aa(S:Src9)(x:List Int)(st:St9):Bool:=match st with
 | .ok s=>A1 S x s
 | .error _=>false
theorem DG(Q B:Nat)(v:Value)(S:Src9)(st:St9)(x:ByteArray)(w:World)(hp:Par w Q B v S st) :
  Calls Tryz.prog 85 #[.pointer (some ⟨Q,0,none⟩),.string x] w fun e w'=>e=.returned (.bool (Aa S (A2 x) st))/\Below w.heap.size w w':=by
 obtain⟨tok,deep,many,fc,fa,ho,hf⟩:=hp.obj
 obtain⟨k0,k1,k2,k3,k4,k5,k6⟩:=ho.cells
 have hql:=ho.lt
 match st,hf with
 | .error (c,a),hf=>
  obtain⟨rfl,rfl,hc0⟩:=hf
  obtain⟨ad,c,hv,hrow⟩:=hp.toks
  subst hv
  have hcb:(fc != 0)=true:=by simpa using hc0
  clear hrow
  go_enter Tryz.func85,Tryz.ntmps85
  go_wp2
  go_quiet (fail)
  go_wp2
  go_ret
  exact⟨rfl,Ae _ _⟩
 | .ok s,hf=>
  obtain⟨rfl,h1,rfl,h2,h3,rfl,rfl,rfl⟩:=hf
  have hfew:=hp.few
  obtain⟨ad,c,hv,hrow⟩:=hp.toks
  subst hv
  by_cases ht:s.tok<S.L.length
  ·obtain⟨b,off,rfl,hb,hbq,hcl⟩:=hrow (by omega)
   obtain⟨x1,x2,x3⟩:=hcl s.tok ht
   have hil:(s.tok:Int)<(S.L.length:Int):=by omega
   have hsm:=LU (xs:=(BS S.L s.tok).2.1) (by
    refine hp.bytes _ ?_
    unfold BS
    rw[Z2,List.getElem?_eq_getElem ht]
    exact Z6 _) x
   clear hrow hcl
   go_enter Tryz.func85,Tryz.ntmps85
   go_wp2
   go_quiet (fail)
   go_wp2
   obtain⟨w1,e1⟩:∃w1,w1=w.drewN nq:=⟨_,rfl⟩
   have y0:w1.cell? ⟨Q,0,none⟩=some (.slice (some ⟨b,off,none⟩) S.L.length c):=by rw[e1];simpa using k0
   have y2:w1.cell? ⟨Q,2,none⟩=some (.int .i64 (s.tok:Int)):=by rw[e1];simpa using k2
   have z1:w1.cell? ⟨b,off+s.tok*3,none⟩=some (.int .i64 (BS S.L s.tok).1):=by rw[e1];simpa using x1
   have z2:w1.cell? ⟨b,off+s.tok*3+1,none⟩=some (.string (strOfNums (BS S.L s.tok).2.1)):=by rw[e1];simpa using x2
   have z3:w1.cell? ⟨b,off+s.tok*3+2,none⟩=some (.int .i64 ((BS S.L s.tok).2.2:Int)):=by rw[e1];simpa using x3
   have l1:Q<w1.heap.size:=by rw[e1];simpa using hql
   have l2:b<w1.heap.size:=by rw[e1];simpa using hb
   have hB1:Below w.heap.size w w1:=by rw[e1];exact Ae _ _
   rw[<-e1]
   clear e1 k0 k1 k2 k3 k4 k5 k6 x1 x2 x3 hql hb
   have HS:Hid (Aa S (A2 x) (.ok s)=((BS S.L s.tok).2.1==A2 x&&((BS S.L s.tok).1==3||(BS S.L s.tok).1==4))):=by
    show A1 S (A2 x) s=_
    unfold A1
    rw[decide_eq_true ht,Bool.true_and]
    rfl
   generalize BS S.L s.tok=tk at *
   obtain⟨kd,tx,pl⟩:=tk
   simp only at z1 z2 z3 HS hsm
   go_region
   go_wp2
   all_goals
    go_ret
    refine⟨?_,(hB1.alloc hB1.size _).drew⟩
    rw[HS.out]
    simp[*]
  ·have hil:¬(s.tok:Int)<(S.L.length:Int):=by omega
   have HS:Hid (Aa S (A2 x) (.ok s)=false):=by
    show A1 S (A2 x) s=_
    unfold A1
    rw[decide_eq_false ht];rfl
   clear hrow
   go_enter Tryz.func85,Tryz.ntmps85
   go_wp2
   go_quiet (fail)
   go_wp2
   go_ret
   exact⟨by rw[HS.out];rfl,Ae _ _⟩
def isS(S:Src9)(k:Int)(st:St9):Bool:=match st with
 | .ok s=>isB S k s
 | .error _=>false
theorem MD(Q B:Nat)(v:Value)(S:Src9)(st:St9)(k:Int)(w:World)(hp:Par w Q B v S st) :
  Calls Tryz.prog 133 #[.pointer (some ⟨Q,0,none⟩),.int .i64 k] w fun e w'=>e=.returned (.bool (isS S k st))/\Below w.heap.size w w':=by
 obtain⟨tok,deep,many,fc,fa,ho,hf⟩:=hp.obj
 obtain⟨k0,k1,k2,k3,k4,k5,k6⟩:=ho.cells
 have hql:=ho.lt
 match st,hf with
 | .error (c,a),hf=>
  obtain⟨rfl,rfl,hc0⟩:=hf
  obtain⟨ad,c,hv,hrow⟩:=hp.toks
  subst hv
  have hcb:(fc==0)=false:=by simpa using hc0
  clear hrow
  go_enter Tryz.func133,Tryz.ntmps133
  go_wp2
  go_quiet (fail)
  go_wp2
  go_ret
  exact⟨rfl,Ae _ _⟩
 | .ok s,hf=>
  obtain⟨rfl,h1,rfl,h2,h3,rfl,rfl,rfl⟩:=hf
  have hfew:=hp.few
  obtain⟨ad,c,hv,hrow⟩:=hp.toks
  subst hv
  by_cases ht:s.tok<S.L.length
  ·obtain⟨b,off,rfl,hb,hbq,hcl⟩:=hrow (by omega)
   obtain⟨x1,x2,x3⟩:=hcl s.tok ht
   have hil:(s.tok:Int)<(S.L.length:Int):=by omega
   have HS:Hid (isS S k (.ok s)=((BS S.L s.tok).1==k)):=by
    show isB S k s=_
    unfold isB
    rw[decide_eq_true ht,Bool.true_and]
    rfl
   clear hrow hcl x2 x3
   generalize (BS S.L s.tok).1=kd at *
   go_enter Tryz.func133,Tryz.ntmps133
   go_wp2
   go_quiet (fail)
   go_wp2
   go_ret
   exact⟨by rw[HS.out];rfl,Ae _ _⟩
  ·have hil:¬(s.tok:Int)<(S.L.length:Int):=by omega
   have HS:Hid (isS S k (.ok s)=false):=by
    show isB S k s=_
    unfold isB
    rw[decide_eq_false ht];rfl
   clear hrow
   go_enter Tryz.func133,Tryz.ntmps133
   go_wp2
   go_quiet (fail)
   go_wp2
   go_ret
   exact⟨by rw[HS.out];rfl,Ae _ _⟩
theorem Par.ok{w:World}{Q B:Nat}{v:Value}{S:Src9}{s:PS}(h:Par w Q B v S (.ok s)):∃many,ParObj w Q v S.fin s.tok s.deep many 0 0/\many=IntKind.i64.wrap s.many/\s.tok<=S.L.length/\-(s.tok:Int)<=s.deep/\s.deep<=20:=by
 obtain⟨tok,deep,many,fc,fa,ho,hf⟩:=h.obj
 obtain⟨rfl,h1,rfl,h2,h3,h4,rfl,rfl⟩:=hf
 exact⟨many,ho,h4,h1,h2,h3⟩
theorem IA(Q B:Nat)(v:Value)(S:Src9)(s:PS)(w:World)(hp:Par w Q B v S (.ok s)) :
  Calls Tryz.prog 111 #[.pointer (some ⟨Q,0,none⟩)] w fun e w'=>e=.returned (.tuple #[])/\Par w' Q B v S (if 20<s.deep+1 then .error (13,S.byte s)else .ok { s with deep:=s.deep+1 })/\w.grownBy w' (some Q):=by
 obtain⟨many,ho,hmm,h1,h2,h3⟩:=hp.ok
 obtain⟨k0,k1,k2,k3,k4,k5,k6⟩:=ho.cells
 have z3:=ho.frozen 3
 have hfew:=hp.few
 have hw:=AN (x:=s.deep+1) (by omega) (by omega)
 have HO:Hid (ParObj (w.setCell ⟨Q,3,none⟩ (.int .i64 (s.deep+1))) Q v S.fin s.tok (s.deep+1) many 0 0):=ho.setDeep (s.deep+1)
 have HG:Hid (w.grownBy (w.setCell ⟨Q,3,none⟩ (.int .i64 (s.deep+1))) (some Q)):=AJ w Q 3 (.int .i64 (s.deep+1))
 have HB:Hid (ParB w Q B v S):=hp.base
 have HM:Hid (many=IntKind.i64.wrap s.many):=hmm
 clear hmm ho hp
 by_cases hd:20<s.deep+1
 ·rw[if_pos hd]
  have hfl:=NW Q B v S s.tok (s.deep+1) many 0 13 (by decide) _ (HB.out.grown HG.out) HO.out
  go_enter Tryz.func111,Tryz.ntmps111
  go_wp2_with (first | (go_at_call 53;refine hfl.mono ?_;rintro e w' ⟨rfl,hp',hg'⟩))
  exact bodyPost_end (v:=.tuple #[]) (by simp[results,Tryz.results111,go_sem]) rfl ⟨rfl,hp',HG.out.trans hg'⟩
 ·rw[if_neg hd]
  go_enter Tryz.func111,Tryz.ntmps111
  go_wp2
  exact bodyPost_end (v:=.tuple #[]) (by simp[results,Tryz.results111,go_sem]) rfl ⟨rfl,HB.out.good (s:={ s with deep:=s.deep+1 }) HG.out HO.out HM.out h1 (by show -(s.tok:Int)<=s.deep+1;omega) (by show s.deep+1<=20;omega),HG.out⟩
theorem Kr{xs:ByteArray}{l:List UInt8}(h:¬xs=⟨l.toArray⟩):(xs.toList==l)=false:=by
 refine beq_eq_false_iff_ne.2 fun e=>h ?_
 rw[ByteArray.toList_eq]at e
 cases xs with
 | mk d=>
  simp only at e
  rw[<-e]
theorem Je{xs:ByteArray}{l:List UInt8}(h:¬xs=⟨l.toArray⟩):A2 xs≠l.map fun x=>(x.toNat:Int):=fun e=>h (by
 have:=Fa xs
 rw[e]at this
 rw[<-this]
 unfold strOfNums
 rw[List.map_map]
 have e:(fun n:Int=>UInt8.ofNat n.toNat) ∘ (fun x:UInt8=>(x.toNat:Int))=id:=by funext x;simp
 rw[e,List.map_id])
theorem U6(Q B:Nat)(v:Value)(S:Src9)(st:St9)(x:ByteArray)(w:World)(hp:Par w Q B v S st) :
  Calls Tryz.prog 87 #[.pointer (some ⟨Q,0,none⟩),.string x] w fun e w'=>e=.returned (.tuple #[])/\Par w' Q B v S (A7 (AA st (A3 S (A2 x))))/\w.grownBy w' (some Q):=by
 have hse:=DG Q B v S st x w hp
 have HP:Hid (Par w Q B v S st):=hp
 cases hb:Aa S (A2 x) st with
 | false=>
  rw[hb]at hse
  have HE:Hid (A7 (AA st (A3 S (A2 x)))=R9 S 12 st):=by
   show _=_
   match st,hb with
   | .error e,_=>rfl
   | .ok s,hb=>
    have hb':A1 S (A2 x) s=false:=hb
    show A7 (A3 S (A2 x) s)=_
    unfold A3
    rw[if_neg (by rw[hb'];decide)]
    rfl
  clear hb hp
  go_enter Tryz.func87,Tryz.ntmps87
  go_wp2_with (first | (go_at_call 85;refine hse.mono ?_;rintro e w1 ⟨rfl,hb1⟩) | (go_at_call 53;refine(Lh Q B v S st 12 (by decide) _ (HP.out.below hb1)).mono ?_;rintro e w2 ⟨rfl,hp2,hg2⟩))
  exact bodyPost_ret (v:=.tuple #[]) (by simp[results,Tryz.results87,go_sem]) rfl ⟨rfl,by rw[HE.out];exact hp2,(A0 Q hb1).trans hg2⟩
 | true=>
  rw[hb]at hse
  match st,hb,HP,hse with
  | .ok s,hb,HP,hse=>
   have hb':A1 S (A2 x) s=true:=hb
   have ht:=AH hb'
   have hfew:=HP.out.few
   by_cases hx:x=⟨#[40]⟩
   ·subst hx
    have hw:=AN (x:=(s.tok:Int)+1) (by omega) (by omega)
    have HE:Hid (A3 S (A2 ⟨#[40]⟩) s=if 20<s.deep+1 then C7 S 13 s else .ok ((),{ s with tok:=s.tok+1,deep:=s.deep+1 })):=by
     show _=_
     unfold A3
     rw[if_pos hb',if_pos (by decide)]
    clear hb hb'
    by_cases hd:20<s.deep+1
    ·rw[if_pos hd]at HE
     have hdp:∀w1,Par w1 Q B v S (.ok s)->Calls Tryz.prog 111 #[.pointer (some ⟨Q,0,none⟩)] w1 fun e w'=>e=.returned (.tuple #[])/\Par w' Q B v S (.error (13,S.byte s))/\w1.grownBy w' (some Q):=fun w1 h1=>by have:=IA Q B v S s w1 h1;rw[if_pos hd]at this;exact this
     go_enter Tryz.func87,Tryz.ntmps87
     go_wp2_with (first | (go_at_call 85;refine hse.mono ?_;rintro e w1 ⟨rfl,hb1⟩) | (go_at_call 111;refine(hdp _ (HP.out.below hb1)).mono ?_;rintro e w2 ⟨rfl,hp2,hg2⟩;obtain⟨tk,dp,mn,fc,fa,ho,hf⟩:=hp2.obj;obtain⟨rfl,rfl,hfc⟩:=hf;obtain⟨k0,k1,k2,k3,k4,k5,k6⟩:=ho.cells))
     exact bodyPost_ret (v:=.tuple #[]) (by simp[results,Tryz.results87,go_sem]) rfl ⟨rfl,by show Par _ Q B v S (A7 (A3 S _ s));rw[HE.out];exact hp2,(A0 Q hb1).trans hg2⟩
    ·rw[if_neg hd]at HE
     have hdp:∀w1,Par w1 Q B v S (.ok s)->Calls Tryz.prog 111 #[.pointer (some ⟨Q,0,none⟩)] w1 fun e w'=>e=.returned (.tuple #[])/\Par w' Q B v S (.ok { s with deep:=s.deep+1 })/\w1.grownBy w' (some Q):=fun w1 h1=>by have:=IA Q B v S s w1 h1;rw[if_neg hd]at this;exact this
     go_enter Tryz.func87,Tryz.ntmps87
     go_wp2_with (first | (go_at_call 85;refine hse.mono ?_;rintro e w1 ⟨rfl,hb1⟩) | (go_at_call 111;refine(hdp _ (HP.out.below hb1)).mono ?_;rintro e w2 ⟨rfl,hp2,hg2⟩;obtain⟨many,ho,hmm,h1,h2,h3⟩:=hp2.ok;obtain⟨k0,k1,k2,k3,k4,k5,k6⟩:=ho.cells;have z2:=ho.frozen 2;have z3:=ho.frozen 3;have HO:Hid (ParObj w2 Q v S.fin s.tok (s.deep+1) many 0 0):=ho;have HM:Hid (many=IntKind.i64.wrap s.many):=hmm;have HB:Hid (ParB w2 Q B v S):=hp2.base;clear hmm ho))
     have hg3:w.grownBy (w2.setCell ⟨Q,2,none⟩ (.int .i64 ((s.tok:Int)+1))) (some Q):=((A0 Q hb1).trans hg2).trans (AJ _ Q 2 _)
     refine bodyPost_end (v:=.tuple #[]) (by simp[results,Tryz.results87,go_sem]) rfl ⟨rfl,?_,hg3⟩
     show Par _ Q B v S (A7 (A3 S _ s))
     rw[HE.out]
     have h2':-(s.tok:Int)<=s.deep+1:=h2
     have h3':s.deep+1<=20:=h3
     exact HB.out.good (s:={ s with tok:=s.tok+1,deep:=s.deep+1 }) (AJ _ Q 2 _) (HO.out.setTok _) HM.out ht (by show -((s.tok+1:Nat):Int)<=s.deep+1;omega) h3'
   have n1:=Kr (l:=[40]) hx
   have m1:=Je (l:=[40]) hx
   clear hx
   by_cases hx:x=⟨#[123]⟩
   ·subst hx
    have hw:=AN (x:=(s.tok:Int)+1) (by omega) (by omega)
    have HE:Hid (A3 S (A2 ⟨#[123]⟩) s=if 20<s.deep+1 then C7 S 13 s else .ok ((),{ s with tok:=s.tok+1,deep:=s.deep+1 })):=by
     show _=_
     unfold A3
     rw[if_pos hb',if_pos (by decide)]
    clear hb hb'
    by_cases hd:20<s.deep+1
    ·rw[if_pos hd]at HE
     have hdp:∀w1,Par w1 Q B v S (.ok s)->Calls Tryz.prog 111 #[.pointer (some ⟨Q,0,none⟩)] w1 fun e w'=>e=.returned (.tuple #[])/\Par w' Q B v S (.error (13,S.byte s))/\w1.grownBy w' (some Q):=fun w1 h1=>by have:=IA Q B v S s w1 h1;rw[if_pos hd]at this;exact this
     go_enter Tryz.func87,Tryz.ntmps87
     go_wp2_with (first | (go_at_call 85;refine hse.mono ?_;rintro e w1 ⟨rfl,hb1⟩) | (go_at_call 111;refine(hdp _ (HP.out.below hb1)).mono ?_;rintro e w2 ⟨rfl,hp2,hg2⟩;obtain⟨tk,dp,mn,fc,fa,ho,hf⟩:=hp2.obj;obtain⟨rfl,rfl,hfc⟩:=hf;obtain⟨k0,k1,k2,k3,k4,k5,k6⟩:=ho.cells))
     exact bodyPost_ret (v:=.tuple #[]) (by simp[results,Tryz.results87,go_sem]) rfl ⟨rfl,by show Par _ Q B v S (A7 (A3 S _ s));rw[HE.out];exact hp2,(A0 Q hb1).trans hg2⟩
    ·rw[if_neg hd]at HE
     have hdp:∀w1,Par w1 Q B v S (.ok s)->Calls Tryz.prog 111 #[.pointer (some ⟨Q,0,none⟩)] w1 fun e w'=>e=.returned (.tuple #[])/\Par w' Q B v S (.ok { s with deep:=s.deep+1 })/\w1.grownBy w' (some Q):=fun w1 h1=>by have:=IA Q B v S s w1 h1;rw[if_neg hd]at this;exact this
     go_enter Tryz.func87,Tryz.ntmps87
     go_wp2_with (first | (go_at_call 85;refine hse.mono ?_;rintro e w1 ⟨rfl,hb1⟩) | (go_at_call 111;refine(hdp _ (HP.out.below hb1)).mono ?_;rintro e w2 ⟨rfl,hp2,hg2⟩;obtain⟨many,ho,hmm,h1,h2,h3⟩:=hp2.ok;obtain⟨k0,k1,k2,k3,k4,k5,k6⟩:=ho.cells;have z2:=ho.frozen 2;have z3:=ho.frozen 3;have HO:Hid (ParObj w2 Q v S.fin s.tok (s.deep+1) many 0 0):=ho;have HM:Hid (many=IntKind.i64.wrap s.many):=hmm;have HB:Hid (ParB w2 Q B v S):=hp2.base;clear hmm ho))
     have hg3:w.grownBy (w2.setCell ⟨Q,2,none⟩ (.int .i64 ((s.tok:Int)+1))) (some Q):=((A0 Q hb1).trans hg2).trans (AJ _ Q 2 _)
     refine bodyPost_end (v:=.tuple #[]) (by simp[results,Tryz.results87,go_sem]) rfl ⟨rfl,?_,hg3⟩
     show Par _ Q B v S (A7 (A3 S _ s))
     rw[HE.out]
     have h2':-(s.tok:Int)<=s.deep+1:=h2
     have h3':s.deep+1<=20:=h3
     exact HB.out.good (s:={ s with tok:=s.tok+1,deep:=s.deep+1 }) (AJ _ Q 2 _) (HO.out.setTok _) HM.out ht (by show -((s.tok+1:Nat):Int)<=s.deep+1;omega) h3'
   have n2:=Kr (l:=[123]) hx
   have m2:=Je (l:=[123]) hx
   clear hx
   by_cases hx:x=⟨#[41]⟩
   ·subst hx
    have hw:=AN (x:=(s.tok:Int)+1) (by omega) (by omega)
    obtain⟨_,_,_,_,hd2,hd3⟩:=HP.out.ok
    have hw2:=AN (x:=s.deep-1) (by omega) (by omega)
    have HE:Hid (A3 S (A2 ⟨#[41]⟩) s=.ok ((),{ s with tok:=s.tok+1,deep:=s.deep-1 })):=by
     show _=_
     unfold A3
     rw[if_pos hb',if_neg (by decide),if_pos (by decide)]
    clear hb hb'
    go_enter Tryz.func87,Tryz.ntmps87
    go_wp2_with (first | (go_at_call 85;refine hse.mono ?_;rintro e w2 ⟨rfl,hb1⟩;have hp2:=HP.out.below hb1;obtain⟨many,ho,hmm,h1,h2,h3⟩:=hp2.ok;obtain⟨k0,k1,k2,k3,k4,k5,k6⟩:=ho.cells;have z2:=ho.frozen 2;have z3:=ho.frozen 3;have HO:Hid (ParObj w2 Q v S.fin s.tok s.deep many 0 0):=ho;have HM:Hid (many=IntKind.i64.wrap s.many):=hmm;have HB:Hid (ParB w2 Q B v S):=hp2.base;clear hmm ho))
    have hg3:w2.grownBy ((w2.setCell ⟨Q,2,none⟩ (.int .i64 ((s.tok:Int)+1))).setCell ⟨Q,3,none⟩ (.int .i64 (s.deep-1))) (some Q):=(AJ _ Q 2 _).trans (AJ _ Q 3 _)
    refine bodyPost_end (v:=.tuple #[]) (by simp[results,Tryz.results87,go_sem]) rfl ⟨rfl,?_,(A0 Q hb1).trans hg3⟩
    show Par _ Q B v S (A7 (A3 S _ s))
    rw[HE.out]
    exact HB.out.good (s:={ s with tok:=s.tok+1,deep:=s.deep-1 }) hg3 ((HO.out.setTok _).setDeep _) HM.out ht (by show -((s.tok+1:Nat):Int)<=s.deep-1;omega) (by show s.deep-1<=20;omega)
   have n3:=Kr (l:=[41]) hx
   have m3:=Je (l:=[41]) hx
   clear hx
   by_cases hx:x=⟨#[125]⟩
   ·subst hx
    have hw:=AN (x:=(s.tok:Int)+1) (by omega) (by omega)
    obtain⟨_,_,_,_,hd2,hd3⟩:=HP.out.ok
    have hw2:=AN (x:=s.deep-1) (by omega) (by omega)
    have HE:Hid (A3 S (A2 ⟨#[125]⟩) s=.ok ((),{ s with tok:=s.tok+1,deep:=s.deep-1 })):=by
     show _=_
     unfold A3
     rw[if_pos hb',if_neg (by decide),if_pos (by decide)]
    clear hb hb'
    go_enter Tryz.func87,Tryz.ntmps87
    go_wp2_with (first | (go_at_call 85;refine hse.mono ?_;rintro e w2 ⟨rfl,hb1⟩;have hp2:=HP.out.below hb1;obtain⟨many,ho,hmm,h1,h2,h3⟩:=hp2.ok;obtain⟨k0,k1,k2,k3,k4,k5,k6⟩:=ho.cells;have z2:=ho.frozen 2;have z3:=ho.frozen 3;have HO:Hid (ParObj w2 Q v S.fin s.tok s.deep many 0 0):=ho;have HM:Hid (many=IntKind.i64.wrap s.many):=hmm;have HB:Hid (ParB w2 Q B v S):=hp2.base;clear hmm ho))
    have hg3:w2.grownBy ((w2.setCell ⟨Q,2,none⟩ (.int .i64 ((s.tok:Int)+1))).setCell ⟨Q,3,none⟩ (.int .i64 (s.deep-1))) (some Q):=(AJ _ Q 2 _).trans (AJ _ Q 3 _)
    refine bodyPost_end (v:=.tuple #[]) (by simp[results,Tryz.results87,go_sem]) rfl ⟨rfl,?_,(A0 Q hb1).trans hg3⟩
    show Par _ Q B v S (A7 (A3 S _ s))
    rw[HE.out]
    exact HB.out.good (s:={ s with tok:=s.tok+1,deep:=s.deep-1 }) hg3 ((HO.out.setTok _).setDeep _) HM.out ht (by show -((s.tok+1:Nat):Int)<=s.deep-1;omega) (by show s.deep-1<=20;omega)
   have n4:=Kr (l:=[125]) hx
   have m4:=Je (l:=[125]) hx
   have hw:=AN (x:=(s.tok:Int)+1) (by omega) (by omega)
   have HE:Hid (A3 S (A2 x) s=.ok ((),s.step)):=by
    show _=_
    unfold A3
    rw[if_pos hb',if_neg (by rintro(h | h);exact m1 h;exact m2 h),if_neg (by rintro(h | h);exact m3 h;exact m4 h)]
   clear hb hb' hx m1 m2 m3 m4
   go_enter Tryz.func87,Tryz.ntmps87
   go_wp2_with (first | (go_at_call 85;refine hse.mono ?_;rintro e w2 ⟨rfl,hb1⟩;have hp2:=HP.out.below hb1;obtain⟨many,ho,hmm,h1,h2,h3⟩:=hp2.ok;obtain⟨k0,k1,k2,k3,k4,k5,k6⟩:=ho.cells;have z2:=ho.frozen 2;have z3:=ho.frozen 3;have HO:Hid (ParObj w2 Q v S.fin s.tok s.deep many 0 0):=ho;have HM:Hid (many=IntKind.i64.wrap s.many):=hmm;have HB:Hid (ParB w2 Q B v S):=hp2.base;clear hmm ho))
   have hg3:w2.grownBy (w2.setCell ⟨Q,2,none⟩ (.int .i64 ((s.tok:Int)+1))) (some Q):=AJ _ Q 2 _
   refine bodyPost_end (v:=.tuple #[]) (by simp[results,Tryz.results87,go_sem]) rfl ⟨rfl,?_,(A0 Q hb1).trans hg3⟩
   show Par _ Q B v S (A7 (A3 S _ s))
   rw[HE.out]
   exact HB.out.good (s:=s.step) hg3 (HO.out.setTok _) HM.out ht (by show -((s.tok+1:Nat):Int)<=s.deep;omega) h3
def FH(v:Value)(g:Got (List Int)):Prop:=match g with
 | .ok (t,_)=>v=.string (strOfNums t)
 | .error _=>∃t,v=.string t
theorem FI(Q B:Nat)(v:Value)(S:Src9)(st:St9)(w:World)(hp:Par w Q B v S st) :
  Calls Tryz.prog 109 #[.pointer (some ⟨Q,0,none⟩)] w fun e w'=>(∃x,e=.returned x/\FH x (AA st (AW S)))/\Par w' Q B v S (A7 (AA st (AW S)))/\w.grownBy w' (some Q):=by
 have his:=MD Q B v S st 1 w hp
 have HP:Hid (Par w Q B v S st):=hp
 cases hb:isS S 1 st with
 | false=>
  rw[hb]at his
  have HE:Hid (A7 (AA st (AW S))=R9 S 12 st/\∃e,AA st (AW S)=.error e):=by
   show _/\_
   match st,hb with
   | .error e,_=>exact⟨rfl,e,rfl⟩
   | .ok s,hb=>
    have hb':isB S 1 s=false:=hb
    have:AW S s=C7 S 12 s:=by unfold AW;rw[if_neg (by rw[hb'];decide)]
    exact⟨by show A7 (AW S s)=_;rw[this];rfl,_,this⟩
  clear hb hp
  go_enter Tryz.func109,Tryz.ntmps109
  go_wp2_with (first | (go_at_call 133;refine his.mono ?_;rintro e w1 ⟨rfl,hb1⟩) | (go_at_call 53;refine(Lh Q B v S st 12 (by decide) _ (HP.out.below hb1)).mono ?_;rintro e w2 ⟨rfl,hp2,hg2⟩))
  go_ret
  refine⟨⟨_,rfl,?_⟩,by rw[HE.out.1];exact hp2,(A0 Q hb1).trans hg2⟩
  obtain⟨e,he⟩:=HE.out.2
  rw[he]
  exact⟨_,rfl⟩
 | true=>
  rw[hb]at his
  match st,hb,HP,his with
  | .ok s,hb,HP,his=>
   have hb':isB S 1 s=true:=hb
   have ht:=M1 hb'
   have hfew:=HP.out.few
   have hw:=AN (x:=(s.tok:Int)+1) (by omega) (by omega)
   have hw2:=AN (x:=(s.tok:Int)) (by omega) (by omega)
   have hw3:(s.tok:Int)+1-1=(s.tok:Int):=by omega
   have hil:(s.tok:Int)<(S.L.length:Int):=by omega
   have HE:Hid (AW S s=.ok ((BS S.L s.tok).2.1,s.step)):=by show _=_;unfold AW;rw[if_pos hb'];rfl
   clear hb hb' hp
   go_enter Tryz.func109,Tryz.ntmps109
   go_wp2_with (first | (go_at_call 133;refine his.mono ?_;rintro e w2 ⟨rfl,hb1⟩;have hp2:=HP.out.below hb1;obtain⟨many,ho,hmm,h1,h2,h3⟩:=hp2.ok;obtain⟨k0,k1,k2,k3,k4,k5,k6⟩:=ho.cells;have z2:=ho.frozen 2;have HO:Hid (ParObj w2 Q v S.fin s.tok s.deep many 0 0):=ho;have HM:Hid (many=IntKind.i64.wrap s.many):=hmm;have HB:Hid (ParB w2 Q B v S):=hp2.base;have hql:=ho.lt;clear hmm ho;obtain⟨ad,c,hv,hrow⟩:=hp2.toks;subst hv;obtain⟨b,off,had,hbl,hbq,hcl⟩:=hrow (by omega);subst had;obtain⟨x1,x2,x3⟩:=hcl s.tok ht;have hne:¬b=Q:=(by omega);clear hrow hcl hp2))
   go_region
   go_wp2
   go_ret
   have hg3:w2.grownBy ((w2.setCell ⟨Q,2,none⟩ (.int .i64 ((s.tok:Int)+1))).drew) (some Q):=Fv (AJ _ Q 2 _)
   refine⟨⟨_,rfl,?_⟩,?_,(A0 Q hb1).trans hg3⟩
   ·show FH _ (AW S s)
    rw[HE.out]
    rfl
   ·show Par _ Q B _ S (A7 (AW S s))
    rw[HE.out]
    exact HB.out.good (s:=s.step) hg3 (HO.out.setTok _).drew HM.out ht (by show -((s.tok+1:Nat):Int)<=s.deep;omega) h3
def CA(S:Src9)(x:List Int)(st:St9):St9:=if Aa S x st=true then(match st with
 | .ok s=>.ok s.step
 | .error e=>.error e)else st
theorem EN(Q B:Nat)(v:Value)(S:Src9)(st:St9)(x:ByteArray)(w:World)(hp:Par w Q B v S st) :
  Calls Tryz.prog 134 #[.pointer (some ⟨Q,0,none⟩),.string x] w fun e w'=>e=.returned (.bool (Aa S (A2 x) st))/\Par w' Q B v S (CA S (A2 x) st)/\w.grownBy w' (some Q):=by
 have hse:=DG Q B v S st x w hp
 have HP:Hid (Par w Q B v S st):=hp
 unfold CA
 cases hb:Aa S (A2 x) st with
 | false=>
  rw[hb]at hse
  rw[if_neg (by decide)]
  clear hb hp
  go_enter Tryz.func134,Tryz.ntmps134
  go_wp2_with (first | (go_at_call 85;refine hse.mono ?_;rintro e w1 ⟨rfl,hb1⟩))
  go_ret
  exact⟨rfl,HP.out.below hb1,A0 Q hb1⟩
 | true=>
  rw[hb]at hse
  rw[if_pos rfl]
  match st,hb,HP,hse with
  | .ok s,hb,HP,hse=>
   have hb':A1 S (A2 x) s=true:=hb
   have ht:=AH hb'
   have hfew:=HP.out.few
   have hw:=AN (x:=(s.tok:Int)+1) (by omega) (by omega)
   clear hb hb' hp
   go_enter Tryz.func134,Tryz.ntmps134
   go_wp2_with (first | (go_at_call 85;refine hse.mono ?_;rintro e w2 ⟨rfl,hb1⟩;have hp2:=HP.out.below hb1;obtain⟨many,ho,hmm,h1,h2,h3⟩:=hp2.ok;obtain⟨k0,k1,k2,k3,k4,k5,k6⟩:=ho.cells;have z2:=ho.frozen 2;have HO:Hid (ParObj w2 Q v S.fin s.tok s.deep many 0 0):=ho;have HM:Hid (many=IntKind.i64.wrap s.many):=hmm;have HB:Hid (ParB w2 Q B v S):=hp2.base;clear hmm ho hp2))
   go_ret
   have hg3:w2.grownBy (w2.setCell ⟨Q,2,none⟩ (.int .i64 ((s.tok:Int)+1))) (some Q):=AJ _ Q 2 _
   exact⟨rfl,HB.out.good (s:=s.step) hg3 (HO.out.setTok _) HM.out ht (by show -((s.tok+1:Nat):Int)<=s.deep;omega) h3,(A0 Q hb1).trans hg3⟩
def Cz(st:St9):St9:=match st with
 | .ok s=>.ok s.node
 | .error e=>.error e
theorem SY(m:Int):IntKind.i64.wrap (IntKind.i64.wrap m+1)=IntKind.i64.wrap (m+1):=by
 rw[IntKind.wrap_i64,IntKind.wrap_i64,IntKind.wrap_i64];omega
theorem At(Q B:Nat)(v:Value)(S:Src9)(st:St9)(kind:Int)(x:ByteArray)(u:Value)(hu:∃ad n c,u=.slice ad n c)(w:World)(hp:Par w Q B v S st) :
  Calls Tryz.prog 89 #[.pointer (some ⟨Q,0,none⟩),.int .i64 kind,.string x,u] w fun e w'=>e=.returned (.agg #[.int .i64 kind,.string x,.int .i64 0,u])/\Par w' Q B v S (Cz st)/\w.grownBy w' (some Q):=by
 obtain⟨ad,n,c,rfl⟩:=hu
 obtain⟨tok,deep,many,fc,fa,ho,hf⟩:=hp.obj
 obtain⟨k0,k1,k2,k3,k4,k5,k6⟩:=ho.cells
 have z4:=ho.frozen 4
 have hql:=ho.lt
 have HO:Hid (ParObj w Q v S.fin tok deep many fc fa):=ho
 have HB:Hid (ParB w Q B v S):=hp.base
 have HF:Hid (Qa S st tok deep many fc fa):=hf
 clear hf ho hp
 go_enter Tryz.func89,Tryz.ntmps89
 go_wp2
 have hg:w.grownBy ((w.setCell ⟨Q,4,none⟩ (.int .i64 (wrap64 (many+1)))).alloc (.cells #[.int .i64 kind,.string x,.int .i64 0,.slice ad n c] 24)) (some Q):=(AJ _ Q 4 _).trans (Zf _ _ _)
 refine bodyPost_ret (v:=.agg #[.int .i64 kind,.string x,.int .i64 0,.slice ad n c]) (by simp[results,Tryz.results89,go_sem]) rfl ⟨rfl,?_,hg⟩
 have ho2:ParObj ((w.setCell ⟨Q,4,none⟩ (.int .i64 (wrap64 (many+1)))).alloc (.cells #[.int .i64 kind,.string x,.int .i64 0,.slice ad n c] 24)) Q v S.fin tok deep (wrap64 (many+1)) fc fa:=
  (HO.out.setMany (wrap64 (many+1))).keep (((Zg _ _).alloc (Z0 _) _).block Q (by have:=(HO.out.setMany (wrap64 (many+1))).lt;exact this))
 refine⟨HB.out.grown hg,_,_,_,_,_,ho2,?_⟩
 have hf:=HF.out
 match st,hf with
 | .error (c,a),hf=>exact hf
 | .ok s,hf=>
  obtain⟨e1,e2,e3,e4,e5,e6,e7,e8⟩:=hf
  refine⟨e1,e2,e3,e4,e5,?_,e7,e8⟩
  show wrap64 (many+1)=IntKind.i64.wrap (s.many+1)
  rw[e6,<-SY]
  rw[IntKind.wrap_i64 (_+1)]
  simp only[wrap64]
def Ah(K:Nat)(X:PS->Got Nd)(Q B:Nat)(v:Value)(S:Src9)(st:St9):Prop:=∀w,Par w Q B v S st ->
 Calls Tryz.prog K #[.pointer (some ⟨Q,0,none⟩)] w fun e w'=>(∃u,e=.returned u/\ValG w' (AZ w.heap.size) u (AA st X))/\Par w' Q B v S (A7 (AA st X))/\w.grownBy w' (some Q)
def Box4(w:World)(R:Nat)(a b c d:Value):Prop:=w.heap[R]?=some (.cells #[a,b,c,d] 24)
theorem Box4.lt{w:World}{R:Nat}{a b c d:Value}(h:Box4 w R a b c d):R<w.heap.size:=(Array.getElem?_eq_some_iff.1 h).1
theorem Box4.facts{w:World}{R:Nat}{a b c d:Value}(h:Box4 w R a b c d):(w.cell? ⟨R,0,none⟩=some a/\w.cell? ⟨R,1,none⟩=some b/\w.cell? ⟨R,2,none⟩=some c/\w.cell? ⟨R,3,none⟩=some d)/\(w.frozen? ⟨R,0,none⟩=false/\w.frozen? ⟨R,1,none⟩=false/\w.frozen? ⟨R,2,none⟩=false/\w.frozen? ⟨R,3,none⟩=false):=
 ⟨⟨cell_of_row _ _ _ _ _ _ h,cell_of_row _ _ _ _ _ _ h,cell_of_row _ _ _ _ _ _ h,cell_of_row _ _ _ _ _ _ h⟩,frozen_of_row _ _ _ _ _ h,frozen_of_row _ _ _ _ _ h,frozen_of_row _ _ _ _ _ h,frozen_of_row _ _ _ _ _ h⟩
theorem Box4.grown{w w':World}{Q R:Nat}{a b c d:Value}(h:Box4 w R a b c d)(hg:w.grownBy w' (some Q))(hr:Q<R):Box4 w' R a b c d:=(hg.block R h.lt (fun e=>by injection e;omega)).trans h
theorem Box4.new(w:World)(a b c d:Value):Box4 (w.alloc (.cells #[a,b,c,d] 24)) w.heap.size a b c d:=heap_alloc_new w _
theorem Box4.alloc{w:World}{R:Nat}{a b c d:Value}(h:Box4 w R a b c d)(o:Obj):Box4 (w.alloc o) R a b c d:=(((Zg _ w).alloc (Z0 _) o).block R h.lt).trans h
theorem Box4.put{w:World}{R:Nat}{a b c d:Value}(h:Box4 w R a b c d)(a' b' c' d':Value):Box4 ((((w.setCell ⟨R,0,none⟩ a').setCell ⟨R,1,none⟩ b').setCell ⟨R,2,none⟩ c').setCell ⟨R,3,none⟩ d') R a' b' c' d':=
 heap_setCell_same _ _ _ _ _ _ (heap_setCell_same _ _ _ _ _ _ (heap_setCell_same _ _ _ _ _ _ (heap_setCell_same _ _ _ _ _ _ h)))
theorem Box4.setNum{w:World}{R:Nat}{a b c d:Value}(h:Box4 w R a b c d)(x:Value):Box4 (w.setCell ⟨R,2,none⟩ x) R a b x d:=heap_setCell_same _ _ _ _ _ _ h
theorem Box4.other{w:World}{R N:Nat}{a b c d:Value}(h:Box4 w R a b c d)(hn:N≠R)(a' b' c' d':Value):Box4 ((((w.setCell ⟨N,0,none⟩ a').setCell ⟨N,1,none⟩ b').setCell ⟨N,2,none⟩ c').setCell ⟨N,3,none⟩ d') R a b c d:=by
 unfold Box4
 rw[Zm _ _ _ _ (fun e=>hn e.symm),Zm _ _ _ _ (fun e=>hn e.symm),Zm _ _ _ _ (fun e=>hn e.symm),Zm _ _ _ _ (fun e=>hn e.symm)]
 exact h
theorem AG{w w1 w2:World}{Q:Nat}(h:w.grownBy w1 (some Q))(hb:Below w.heap.size w1 w2):w.grownBy w2 (some Q):=
 ⟨by rw[hb.os,h.os],by rw[hb.tape,h.tape],by rw[hb.output,h.output],Za h.size hb.size,fun k hk hq=>(hb.block k hk).trans (h.block k hk hq)⟩
theorem Ap{w:World}{Q B R:Nat}{v:Value}{S:Src9}{st:St9}(h:Par w Q B v S st)(hR:B<=R)(a b c d:Value):Par ((((w.setCell ⟨R,0,none⟩ a).setCell ⟨R,1,none⟩ b).setCell ⟨R,2,none⟩ c).setCell ⟨R,3,none⟩ d) Q B v S st:=
 h.apart (((((Zg _ _).setCell hR _).setCell hR _).setCell hR _).setCell hR _)
theorem Af{w:World}{M:Nat->Prop}{R:Nat}(hR:¬M R)(a b c d:Value):Above M w ((((w.setCell ⟨R,0,none⟩ a).setCell ⟨R,1,none⟩ b).setCell ⟨R,2,none⟩ c).setCell ⟨R,3,none⟩ d):=
 ((((Above.refl _ _).set (a:=⟨R,0,none⟩) hR _).set (a:=⟨R,1,none⟩) hR _).set (a:=⟨R,2,none⟩) hR _).set (a:=⟨R,3,none⟩) hR _
theorem AX{w:World}{B R:Nat}(hR:B<=R)(a b c d:Value):Below B w ((((w.setCell ⟨R,0,none⟩ a).setCell ⟨R,1,none⟩ b).setCell ⟨R,2,none⟩ c).setCell ⟨R,3,none⟩ d):=
 ((((Zg _ _).setCell hR _).setCell hR _).setCell hR _).setCell hR _
theorem Jf{w:World}{M:Nat->Prop}{a b c d:Value}{T:TypeId}{n:Nd}(h:NodeV w M (.agg #[a,b,c,d]) n)(hB:M w.heap.size)(cap:Nat)(hcap:1<=cap:=by decide):KidsV (w.alloc (.cells #[a,b,c,d] T)) M (.slice (some ⟨w.heap.size,0,none⟩) 1 cap) [n]:=by
 obtain⟨x,hv,hk⟩:=h
 simp only[Value.agg.injEq]at hv
 have e:[a,b,c,d]=Bb n x:=by
  have:=congrArg Array.toList hv
  simpa using this
 have hab:Above M w (w.alloc (.cells #[a,b,c,d] T)):=Zh (Zf w _ none) (fun k e=>by cases e)
 refine⟨_,cap-1,(by have e:cap-1+[n].length=cap:=Nat.sub_add_cancel hcap;rw[e];rfl),fun _=>⟨w.heap.size,0,rfl,hB,by simp,?_⟩⟩
 refine JX fun k hk'=>?_
 have hk0:k=0:=by simp at hk';omega
 subst hk0
 rw[Gd]
 refine⟨x,hk.above hab,fun j u hu=>?_⟩
 rw[cell_of_row _ _ _ _ _ _ (heap_alloc_new w _)]
 have hu':[a,b,c,d][j]?=some u:=by rw[e];exact hu
 show #[a,b,c,d][0+4*0+j]?=some u
 rw[Nat.mul_zero,Nat.zero_add]
 simpa using hu'
theorem ME{w:World}{M:Nat->Prop}{a b c d a' b' c' d':Value}{T:TypeId}{n m:Nd}(h:NodeV w M (.agg #[a,b,c,d]) n)(h':NodeV w M (.agg #[a',b',c',d']) m)(hB:M w.heap.size)(cap:Nat)(hcap:2<=cap:=by decide):KidsV (w.alloc (.cells #[a,b,c,d,a',b',c',d'] T)) M (.slice (some ⟨w.heap.size,0,none⟩) 2 cap) [n,m]:=by
 obtain⟨x,hv,hk⟩:=h
 obtain⟨y,hv',hk'⟩:=h'
 simp only[Value.agg.injEq]at hv hv'
 have e:[a,b,c,d]=Bb n x:=by
  have:=congrArg Array.toList hv
  simpa using this
 have e':[a',b',c',d']=Bb m y:=by
  have:=congrArg Array.toList hv'
  simpa using this
 have hab:Above M w (w.alloc (.cells #[a,b,c,d,a',b',c',d'] T)):=Zh (Zf w _ none) (fun k e=>by cases e)
 have hrow:∀j,(w.alloc (.cells #[a,b,c,d,a',b',c',d'] T)).cell? ⟨w.heap.size,j,none⟩=#[a,b,c,d,a',b',c',d'][j]?:=fun j=>cell_of_row _ _ _ _ _ _ (heap_alloc_new w _)
 refine⟨_,cap-2,(by have e:cap-2+[n,m].length=cap:=Nat.sub_add_cancel hcap;rw[e];rfl),fun _=>⟨w.heap.size,0,rfl,hB,by simp,?_⟩⟩
 unfold NodesAt
 refine⟨?_,?_⟩
 ·rw[Gd]
  refine⟨x,hk.above hab,fun j u hu=>?_⟩
  have hu':[a,b,c,d][j]?=some u:=by rw[e];exact hu
  rw[Nat.zero_add,hrow j]
  match j,hu' with
  | 0,h=>exact h
  | 1,h=>exact h
  | 2,h=>exact h
  | 3,h=>exact h
 ·unfold NodesAt
  refine⟨?_,by unfold NodesAt;trivial⟩
  rw[Gd]
  refine⟨y,hk'.above hab,fun j u hu=>?_⟩
  have hu':[a',b',c',d'][j]?=some u:=by rw[e'];exact hu
  rw[hrow]
  match j,hu' with
  | 0,h=>exact h
  | 1,h=>exact h
  | 2,h=>exact h
  | 3,h=>exact h
theorem EV{w:World}{M:Nat->Prop}{kind:Int}{tx:List Int}{u:Value}{ks:List Nd}(h:KidsV w M u ks):NodeV w M (.agg #[.int .i64 kind,.string (strOfNums tx),.int .i64 0,u]) (.mk kind tx 0 ks):=⟨u,rfl,h⟩
theorem Qr{w:World}{M:Nat->Prop}{kind:Int}{g:Got Nd}{a b c d:Value}{T:TypeId}(h:ValG w M (.agg #[a,b,c,d]) g)(hB:M w.heap.size){w':World}(ha:Above M (w.alloc (.cells #[a,b,c,d] T)) w') :
  ValG w' M (.agg #[.int .i64 kind,.string ⟨#[]⟩,.int .i64 0,.slice (some ⟨w.heap.size,0,none⟩) 1 1]) (g.then fun k s=>AD kind [] 0 [k] s):=by
 match g,h with
 | .ok (n,s),h=>exact NodeV.above (EV (tx:=[]) (Jf h hB 1)) ha
 | .error e,h=>exact⟨_,_,_,_,_,_,rfl⟩
theorem WD{kind:Int}{g:Got Nd}:A7 (g.then fun k s=>AD kind [] 0 [k] s)=Cz (A7 g):=by
 match g with
 | .ok (n,s)=>rfl
 | .error e=>rfl
theorem FL{w:World}{Q B:Nat}{v:Value}{S:Src9}{s:PS}(h:Par w Q B v S (.ok s))(ht:s.tok<S.L.length):Par (w.setCell ⟨Q,2,none⟩ (.int .i64 ((s.tok:Int)+1))) Q B v S (.ok s.step):=by
 obtain⟨many,ho,hmm,h1,h2,h3⟩:=h.ok
 exact h.base.good (s:=s.step) (AJ _ Q 2 _) (ho.setTok _) hmm ht (by show -((s.tok+1:Nat):Int)<=s.deep;omega) h3
theorem F7{w:World}{Q B:Nat}{v:Value}{S:Src9}{st:St9}(h:Par w Q B v S st)(x y:Obj):Par ((w.alloc x).alloc y) Q B v S st:=(h.below ((Zg _ _).alloc (Z0 _) _)).below ((Zg _ _).alloc (Z0 _) _)
abbrev AK:Obj:=.cells #[.int .i64 0,.string ⟨#[]⟩,.int .i64 0,.slice none 0 0] 24
theorem MT(Q B:Nat)(v:Value)(S:Src9)(s:PS)(ht:s.tok<S.L.length)(kind:Int)(w:World)(hp:Par w Q B v S (.ok s))(hun:Ah 166 (Aw S) Q B v S (.ok s.step))(hse:(A1 S B7 s=true/\kind=23)\/(A1 S B7 s=false/\A1 S Es s=true/\kind=24)) :
  Calls Tryz.prog 166 #[.pointer (some ⟨Q,0,none⟩)] w fun e w'=>(∃u,e=.returned u/\ValG w' (AZ w.heap.size) u ((Aw S s.step).then fun k s=>AD kind [] 0 [k] s))/\Par w' Q B v S (A7 ((Aw S s.step).then fun k s=>AD kind [] 0 [k] s))/\w.grownBy w' (some Q):=by
 have hRB:=hp.size
 have hqb:=hp.qb
 have hfew:=hp.few
 have hw:=AN (x:=(s.tok:Int)+1) (by omega) (by omega)
 have HPA:Hid (Par (w.alloc AK) Q B v S (.ok s)):=hp.below ((Zg _ w).alloc (Z0 _) _)
 have HX:Hid (Box4 (w.alloc AK) w.heap.size (.int .i64 0) (.string ⟨#[]⟩) (.int .i64 0) (.slice none 0 0)):=Box4.new _ _ _ _ _
 have e1:A2 ⟨#[45]⟩=B7:=by decide
 have e2:A2 ⟨#[33]⟩=Es:=by decide
 have hs1:=fun w' (hw':Par w' Q B v S (.ok s))=>DG Q B v S (.ok s) ⟨#[45]⟩ w' hw'
 have hs2:=fun w' (hw':Par w' Q B v S (.ok s))=>DG Q B v S (.ok s) ⟨#[33]⟩ w' hw'
 rw[e1]at hs1
 rw[e2]at hs2
 rw[WD]
 generalize hgu:Aw S s.step=g
 have hu:∀w',Par w' Q B v S (.ok s.step)->Calls Tryz.prog 166 #[.pointer (some ⟨Q,0,none⟩)] w' fun e w''=>(∃u,e=.returned u/\ValG w'' (AZ w'.heap.size) u g)/\Par w'' Q B v S (A7 g)/\w'.grownBy w'' (some Q):=fun w' h'=>by have:=hun w' h';rw[bindS_ok,hgu]at this;exact this
 clear hun hgu hp
 rcases hse with⟨h1,rfl⟩ | ⟨h1,h2,rfl⟩
 ·have hs1':∀w',Par w' Q B v S (.ok s)->Calls Tryz.prog 85 #[.pointer (some ⟨Q,0,none⟩),.string ⟨#[45]⟩] w' fun e w''=>e=.returned (.bool true)/\Below w'.heap.size w' w'':=fun w' h'=>by have:=hs1 w' h';rw[show Aa S B7 (.ok s)=true from h1]at this;exact this
  clear hs1 hs2 h1
  go_enter Tryz.func166,Tryz.ntmps166
  go_wp2_with (first
   | (go_at_call 85;refine(hs1' _ HPA.out).mono ?_;rintro e w1 ⟨rfl,hb1⟩;have hp1:=HPA.out.below hb1;have hX1:=HX.out.grown (A0 Q hb1) (by omega);obtain⟨many,ho,hmm,_,_,_⟩:=hp1.ok;obtain⟨k0,k1,k2,k3,k4,k5,k6⟩:=ho.cells;have z2:=ho.frozen 2;clear hmm)
   | (go_at_call 166;refine(hu _ (FL hp1 ht)).mono ?_;rintro e w3 ⟨⟨u,rfl,hv⟩,hp3,hg3⟩;obtain⟨a,b,c,ad,n,cc,hu'⟩:=hv.any;subst hu';have hX3:=(hX1.grown (AJ _ Q 2 _) (by omega)).grown hg3 (by omega))
   | (go_at_call 89;refine(At Q B v S (A7 g) _ _ _ ⟨_,_,_,rfl⟩ _ (F7 hp3 _ _)).mono ?_;rintro e w4 ⟨rfl,hp4,hg4⟩;have hX4:=((hX3.alloc _).alloc _).grown hg4 (by omega);obtain⟨⟨x0,x1,x2,x3⟩,f0,f1,f2,f3⟩:=hX4.facts))
  have sz1:w.heap.size<w1.heap.size:=by have:=hb1.size;simp at this;omega
  have sz3:w1.heap.size<=w3.heap.size:=by have:=hg3.size;simpa [World.setCell] using this
  have hgw:w.grownBy w4 (some Q):=((((((Zf w AK (some Q)).trans (A0 Q hb1)).trans (AJ _ Q 2 _)).trans hg3).trans (Zf _ _ _)).trans (Zf _ _ _)).trans hg4
  have hvA:ValG (w3.alloc (.cells #[.int .i64 a,.string b,.int .i64 c,.slice ad n cc] 24)) (AZ w1.heap.size) (.agg #[.int .i64 a,.string b,.int .i64 c,.slice ad n cc]) g:=by
   have hz:(w1.setCell ⟨Q,2,none⟩ (.int .i64 ((s.tok:Int)+1))).heap.size=w1.heap.size:=by simp[World.setCell]
   rw[hz]at hv
   exact hv.above (Zh (Zf _ _ none) (fun k e=>by cases e))
  refine bodyPost_ret (v:=.agg #[.int .i64 23,.string ⟨#[]⟩,.int .i64 0,.slice (some ⟨w3.heap.size+1,0,none⟩) 1 1]) (by simp[results,Tryz.results166,go_sem,x0,x1,x2,x3]) rfl ⟨⟨_,rfl,?_⟩,Ap hp4 hRB _ _ _ _,AG hgw (AX (Z0 _) _ _ _ _)⟩
  have hend:=Qr (kind:=23) (T:=24) hvA (by show w1.heap.size<=_;simp;omega) ((Zh hg4 (fun k e=>by injection e with e;show ¬w1.heap.size<=k;omega)).trans (Af (R:=w.heap.size) (by show ¬w1.heap.size<=w.heap.size;omega) (.int .i64 23) (.string ⟨#[]⟩) (.int .i64 0) (.slice (some ⟨w3.heap.size+1,0,none⟩) 1 1)))
  simp only[World.size_alloc]at hend
  exact hend.mono (fun k hk _=>by have hk':w1.heap.size<=k:=hk;show w.heap.size<=k;omega)
 ·have hs1':∀w',Par w' Q B v S (.ok s)->Calls Tryz.prog 85 #[.pointer (some ⟨Q,0,none⟩),.string ⟨#[45]⟩] w' fun e w''=>e=.returned (.bool false)/\Below w'.heap.size w' w'':=fun w' h'=>by have:=hs1 w' h';rw[show Aa S B7 (.ok s)=false from h1]at this;exact this
  have hs2':∀w',Par w' Q B v S (.ok s)->Calls Tryz.prog 85 #[.pointer (some ⟨Q,0,none⟩),.string ⟨#[33]⟩] w' fun e w''=>e=.returned (.bool true)/\Below w'.heap.size w' w'':=fun w' h'=>by have:=hs2 w' h';rw[show Aa S Es (.ok s)=true from h2]at this;exact this
  clear hs1 hs2 h1 h2
  go_enter Tryz.func166,Tryz.ntmps166
  go_wp2_with (first
   | (go_at_call_of 85 (Value.string ⟨#[45]⟩);refine(hs1' _ HPA.out).mono ?_;rintro e w0 ⟨rfl,hb0⟩)
   | (go_at_call_of 85 (Value.string ⟨#[33]⟩);refine(hs2' _ (HPA.out.below hb0)).mono ?_;rintro e w1 ⟨rfl,hb1'⟩;have hb1:=hb0.trans (hb1'.mono hb0.size);have hp1:=HPA.out.below hb1;have hX1:=HX.out.grown (A0 Q hb1) (by omega);obtain⟨many,ho,hmm,_,_,_⟩:=hp1.ok;obtain⟨k0,k1,k2,k3,k4,k5,k6⟩:=ho.cells;have z2:=ho.frozen 2;clear hmm)
   | (go_at_call 166;refine(hu _ (FL hp1 ht)).mono ?_;rintro e w3 ⟨⟨u,rfl,hv⟩,hp3,hg3⟩;obtain⟨a,b,c,ad,n,cc,hu'⟩:=hv.any;subst hu';have hX3:=(hX1.grown (AJ _ Q 2 _) (by omega)).grown hg3 (by omega))
   | (go_at_call 89;refine(At Q B v S (A7 g) _ _ _ ⟨_,_,_,rfl⟩ _ (F7 hp3 _ _)).mono ?_;rintro e w4 ⟨rfl,hp4,hg4⟩;have hX4:=((hX3.alloc _).alloc _).grown hg4 (by omega);obtain⟨⟨x0,x1,x2,x3⟩,f0,f1,f2,f3⟩:=hX4.facts))
  have sz1:w.heap.size<w1.heap.size:=by have:=hb1.size;simp at this;omega
  have sz3:w1.heap.size<=w3.heap.size:=by have:=hg3.size;simpa [World.setCell] using this
  have hgw:w.grownBy w4 (some Q):=((((((Zf w AK (some Q)).trans (A0 Q hb1)).trans (AJ _ Q 2 _)).trans hg3).trans (Zf _ _ _)).trans (Zf _ _ _)).trans hg4
  have hvA:ValG (w3.alloc (.cells #[.int .i64 a,.string b,.int .i64 c,.slice ad n cc] 24)) (AZ w1.heap.size) (.agg #[.int .i64 a,.string b,.int .i64 c,.slice ad n cc]) g:=by
   have hz:(w1.setCell ⟨Q,2,none⟩ (.int .i64 ((s.tok:Int)+1))).heap.size=w1.heap.size:=by simp[World.setCell]
   rw[hz]at hv
   exact hv.above (Zh (Zf _ _ none) (fun k e=>by cases e))
  refine bodyPost_ret (v:=.agg #[.int .i64 24,.string ⟨#[]⟩,.int .i64 0,.slice (some ⟨w3.heap.size+1,0,none⟩) 1 1]) (by simp[results,Tryz.results166,go_sem,x0,x1,x2,x3]) rfl ⟨⟨_,rfl,?_⟩,Ap hp4 hRB _ _ _ _,AG hgw (AX (Z0 _) _ _ _ _)⟩
  have hend:=Qr (kind:=24) (T:=24) hvA (by show w1.heap.size<=_;simp;omega) ((Zh hg4 (fun k e=>by injection e with e;show ¬w1.heap.size<=k;omega)).trans (Af (R:=w.heap.size) (by show ¬w1.heap.size<=w.heap.size;omega) (.int .i64 24) (.string ⟨#[]⟩) (.int .i64 0) (.slice (some ⟨w3.heap.size+1,0,none⟩) 1 1)))
  simp only[World.size_alloc]at hend
  exact hend.mono (fun k hk _=>by have hk':w1.heap.size<=k:=hk;show w.heap.size<=k;omega)
theorem ZB(w:World):Hid (Box4 (w.alloc AK) w.heap.size (.int .i64 0) (.string ⟨#[]⟩) (.int .i64 0) (.slice none 0 0)):=Box4.new _ _ _ _ _
theorem Q2(Q B:Nat)(v:Value)(S:Src9)(st:St9)(hcl:Aa S B7 st=false->Aa S Es st=false->Ah 169 (E4 S) Q B v S st)(hun:∀s,st=.ok s->s.tok<S.L.length->Ah 166 (Aw S) Q B v S (.ok s.step)):Ah 166 (Aw S) Q B v S st:=by
 intro w hp
 by_cases h1:Aa S B7 st=true
 ·match st,h1,hun,hp with
  | .ok s,h1,hun,hp=>
   have h1':A1 S B7 s=true:=h1
   have ht:=AH h1'
   have:=MT Q B v S s ht 23 w hp (hun s rfl ht) (Or.inl ⟨h1',rfl⟩)
   rw[bindS_ok,Fb,if_pos h1']
   exact this
 ·have h1f:Aa S B7 st=false:=by simpa using h1
  by_cases h2:Aa S Es st=true
  ·match st,h1f,h2,hun,hp with
   | .ok s,h1,h2,hun,hp=>
    have h1':A1 S B7 s=false:=h1
    have h2':A1 S Es s=true:=h2
    have ht:=AH h2'
    have:=MT Q B v S s ht 24 w hp (hun s rfl ht) (Or.inr ⟨h1',h2',rfl⟩)
    rw[bindS_ok,Fb,if_neg (by rw[h1'];decide),if_pos h2']
    exact this
  ·have h2f:Aa S Es st=false:=by simpa using h2
   have hRB:=hp.size
   have hqb:=hp.qb
   have HPA:Hid (Par (w.alloc AK) Q B v S st):=hp.below ((Zg _ w).alloc (Z0 _) _)
   have HX:=ZB w
   have e1:A2 ⟨#[45]⟩=B7:=by decide
   have e2:A2 ⟨#[33]⟩=Es:=by decide
   have hs1:∀w',Par w' Q B v S st->Calls Tryz.prog 85 #[.pointer (some ⟨Q,0,none⟩),.string ⟨#[45]⟩] w' fun e w''=>e=.returned (.bool false)/\Below w'.heap.size w' w'':=fun w' h'=>by have:=DG Q B v S st ⟨#[45]⟩ w' h';rw[e1,h1f]at this;exact this
   have hs2:∀w',Par w' Q B v S st->Calls Tryz.prog 85 #[.pointer (some ⟨Q,0,none⟩),.string ⟨#[33]⟩] w' fun e w''=>e=.returned (.bool false)/\Below w'.heap.size w' w'':=fun w' h'=>by have:=DG Q B v S st ⟨#[33]⟩ w' h';rw[e2,h2f]at this;exact this
   have hc:=hcl h1f h2f
   have HE:AA st (Aw S)=AA st (E4 S):=by
    match st,h1f,h2f with
    | .error e,_,_=>rfl
    | .ok s,h1,h2=>
     have h1':A1 S B7 s=false:=h1
     have h2':A1 S Es s=false:=h2
     show Aw S s=E4 S s
     rw[Fb,if_neg (by rw[h1'];decide),if_neg (by rw[h2'];decide)]
   rw[HE]
   unfold Ah at hc
   generalize AA st (E4 S)=g at hc⊢
   clear HE hcl hun h1 h2 h1f h2f hp
   go_enter Tryz.func166,Tryz.ntmps166
   go_wp2_with (first
    | (go_at_call_of 85 (Value.string ⟨#[45]⟩);refine(hs1 _ HPA.out).mono ?_;rintro e w0 ⟨rfl,hb0⟩)
    | (go_at_call_of 85 (Value.string ⟨#[33]⟩);refine(hs2 _ (HPA.out.below hb0)).mono ?_;rintro e w1 ⟨rfl,hb1'⟩;have hb1:=hb0.trans (hb1'.mono hb0.size);have hp1:=HPA.out.below hb1;have hX1:=HX.out.grown (A0 Q hb1) (by omega))
    | (go_at_call 169;refine(hc _ hp1).mono ?_;rintro e w3 ⟨⟨u,rfl,hv⟩,hp3,hg3⟩;obtain⟨a,b,c,ad,n,cc,hu'⟩:=hv.any;subst hu';have hX3:=hX1.grown hg3 (by omega);obtain⟨⟨x0,x1,x2,x3⟩,f0,f1,f2,f3⟩:=hX3.facts))
   have sz1:w.heap.size<w1.heap.size:=by have:=hb1.size;simp at this;omega
   have hgw:w.grownBy w3 (some Q):=((Zf w AK (some Q)).trans (A0 Q hb1)).trans hg3
   refine bodyPost_ret (v:=.agg #[.int .i64 a,.string b,.int .i64 c,.slice ad n cc]) (by simp[results,Tryz.results166,go_sem,x0,x1,x2,x3]) rfl ⟨⟨_,rfl,?_⟩,Ap hp3 hRB _ _ _ _,AG hgw (AX (Z0 _) _ _ _ _)⟩
   exact(hv.above (Af (R:=w.heap.size) (by show ¬w1.heap.size<=w.heap.size;omega) _ _ _ _)).mono (fun k hk _=>by have hk':w1.heap.size<=k:=hk;show w.heap.size<=k;omega)
end Go.Proofs.YtibeadcfgcfdbaaGreatDoor
