/- Texts in one. -/
import Derived.Test.YtbglpanjpadldaaGreatDoorRows
import Derived.Test.YtbglpanjpadldaaGreatDoorMa
import Derived.WalkKit
import Derived.WalkSpells
import Derived.WalkLawsBesides
import Derived.Below
import Derived.OpenShut
import Derived.Laws.BytesArg
import Derived.Laws.IdiomStrings
import Derived.Maps.OwnSet
import Derived.WalkSmall
import Derived.Deep.QuietTactic
import Derived.BigQuiet
import Derived.Deep.RegionLaw
namespace Go.Proofs.YtbglpanjpadldaaGreatDoor
open Go.RowKit
abbrev sl (b n cap:Nat):Value:=.slice (some ⟨b,0,none⟩) n cap
theorem GR{w w1:World}{o:Obj}(hb:Below (w.alloc o).heap.size (w.alloc o) w1):Below w.heap.size w w1:=
 ((Below.refl _ _).alloc (Z0 _) _).trans (hb.mono (by simp))
theorem C4{x:Int}(h1:-9223372036854775808<=x)(h2:x<=9223372036854775807):IntKind.i64.wrap x=x:=by
 rw[IntKind.wrap_i64];omega
theorem Sh:Tryz.prog.underlying 9=some .string:=by kernel_rfl
theorem H7(b off j:Nat):(⟨b,off,none⟩:Addr).add j=⟨b,off+j,none⟩:=by unfold Addr.add;split<;>simp_all
theorem JP{xs:List Int}(h:∀c∈xs,0<=c/\c<=255)(k:Nat):0<=wd xs k/\wd xs k<=255:=by
 unfold wd
 by_cases hk:k<xs.length
 ·rw[Z2,List.getElem?_eq_getElem hk];exact h _ (Z6 hk)
 ·rw[Z2,List.getElem?_eq_none (by omega)];simp
def A7(t:ByteArray):List Int:=t.data.toList.map fun x=>(x.toNat:Int)
theorem Ag(t:ByteArray):(A7 t).length=t.size:=by
 unfold A7;rw[List.length_map,Array.length_toList];rfl
theorem GB(t:ByteArray):∀c∈A7 t,0<=c/\c<=255:=fun c hc=>by
 obtain⟨x,_,rfl⟩:=List.mem_map.1 hc
 have:=x.toNat_lt
 omega
theorem JQ{t:ByteArray}{i:Nat}(h:i<t.size):((t[i]'h).toNat:Int)=wd (A7 t) i:=by
 have hl:i<(A7 t).length:=by rw[Ag];exact h
 unfold wd
 rw[Z2,List.getElem?_eq_getElem hl]
 simp[A7]
 rfl
theorem I8{xs:List Int}(h:∀c∈xs,0<=c/\c<=255):A7 (strOfNums xs)=xs:=by
 unfold A7
 rw[strOfNums_data,List.map_map]
 conv=>rhs;rw[<-List.map_id xs]
 refine List.map_congr_left fun c hc=>?_
 have:=h c hc
 simp only[Function.comp,id]
 rw[UInt8.toNat_ofNat']
 omega
theorem Fs(t:ByteArray):strOfNums (A7 t)=t:=by
 cases t with
 | mk d=>
  unfold strOfNums A7
  rw[List.map_map]
  have e:(fun n:Int=>UInt8.ofNat n.toNat) ∘ (fun x:UInt8=>(x.toNat:Int))=id:=by
   funext x
   simp
  rw[e,List.map_id]
structure KU(t e:TypeId)(size bytes:Nat):Prop where
 under:Tryz.prog.underlying t=some (.slice e)
 info:∃i z,Tryz.prog.info? e=some i/\i.zero=some z/\i.size=size/\i.bytes=bytes/\z.cells.size=size
 pos:0<size
 few:bytes<=1000
theorem Ma{t e:TypeId}{size bytes:Nat}(he:KU t e size bytes){w:World}{ty:TypeId}{base n c:Nat}{v v':Value}{w':World}{xs news:List Value}{ad:Addr}(hown:w.ownsRow base e size v n xs)(hn:news.length=size)(hx:∀j u,news[j]?=some u->w.cell? (ad.add j)=some u)(h1:∀u∈news,u.oneCell'=true)(hb:n<=1000000)(hr:(Builtin.append_ #[t,t] ty #[v,.slice (some ad) 1 c]).run Tryz.prog w=.ok v' w'):v'.ownBlock=v.ownBlock\/v'.ownBlock=some w.heap.size:=by
 obtain⟨i,z,hi,hz0,hz1,hz2,hz3⟩:=he.info
 have hf:=he.few
 rcases hown.2 with⟨rfl,rfl⟩ | ⟨g,cap,cur,rfl,hbg,hg,hnc,hcm,hcs,htake⟩
 ·have h:=run_append_nil (P:=Tryz.prog) w t ty e i _ he.under hi hz0 ad 1 c news (by rw[hz1,Nat.one_mul];exact hn) hx (by omega) (by omega) (by rw[hz2];omega)
  rw[h]at hr
  injection hr with e1 e2
  subst e1;exact Or.inr rfl
 ·by_cases hroom:n+1<=cap
  ·obtain⟨w2,h,_⟩:=run_append_fits (P:=Tryz.prog) w base t ty e i size he.under hi hz1 g n cap xs hown ad 1 c news (by rw[Nat.one_mul];exact hn) hx h1 hroom
   rw[h]at hr
   injection hr with e1 e2
   subst e1;exact Or.inl rfl
  ·have hm:(n+1)*i.bytes<=140737488355328:=by
    rw[hz2]
    exact Za (Nat.mul_le_mul (show n+1<=1000001 by omega) hf) (by decide)
   have h:=run_append_grow (P:=Tryz.prog) w t ty e i _ he.under hi hz0 ⟨g,0,none⟩ n cap xs (by rw[hown.1,hz1]) (hown.cells (g:=g) rfl) ad 1 c news (by rw[hz1,Nat.one_mul];exact hn) hx (by omega) (by omega) (growslice_fits (by omega) hm)
   rw[h]at hr
   injection hr with e1 e2
   subst e1;exact Or.inr rfl
theorem Ci{t e:TypeId}{size bytes:Nat}(he:KU t e size bytes){ops:Array Oper}{rest:List Oper}{o:Oper}{a:Act}{w:World}{Q:Exit->Act->World->Prop}(hgd:o.guard=none)(s x:Operand)(ho:o.op=.call { callee:=.builtin .append,args:=#[s,x],argTypes:=#[t,t] })(base n c:Nat)(v:Value)(xs news:List Value)(hs:a.eval s=v)(hown:w.ownsRow base e size v n xs)(ad:Addr)(hx:a.eval x=.slice (some ad) 1 c)(hn:news.length=size)(hc:∀j u,news[j]?=some u->w.cell? (ad.add j)=some u)(h1:∀u∈news,u.oneCell'=true)(hb:n<=1000000)(hbase:base<=w.heap.size)(h:∀g cap' w',w'.ownsRow base e size (sl g (n+1) cap') (n+1) (xs++news)->w.grownBy w' v.ownBlock->(v.ownBlock=some g\/g=w.heap.size)->wpList Tryz.prog ops Q rest (a.put o.dst (sl g (n+1) cap')) w'):wpList Tryz.prog ops Q (o::rest) a w:=by
 refine wpList_plain hgd fun K' hK'=>?_
 obtain⟨i,z,hi,hz0,hz1,hz2,hz3⟩:=he.info
 have hm:(n+1)*bytes<=140737488355328:=Za (Nat.mul_le_mul (show n+1<=1000001 by omega) he.few) (by decide)
 obtain⟨v',w',hr,r1,r2,_⟩:=run_append_own (P:=Tryz.prog) w base t o.type e i _ size bytes he.under hi hz0 hz1 hz2 hz3 he.pos v n xs hown ad 1 c news (by rw[Nat.one_mul];exact hn) hc h1 (by unfold maxLen;omega) hm hbase
 have hw:=Ma he hown hn hc h1 hb hr
 rcases r1.2 with⟨_,h0⟩ | ⟨g,cap,cur,rfl,r⟩
 ·omega
 ·unfold Oper.wp
  simp[execOp,ho,resolve,invoke,builtin,hs,hx,hr,Result.andThen]
  exact hK' _ _ (h g cap w' r1 r2 (by rcases hw with hw | hw;exact Or.inl hw.symm;exact Or.inr (by simpa [Value.ownBlock] using hw)))
def Gs(t:Tok):List Value:=[.int .i64 t.1,.string (strOfNums t.2.1),.int .i64 (t.2.2:Int)]
def Dn(l:List Tok):List Value:=l.flatMap Gs
theorem PY(l:List Tok)(t:Tok):Dn (l++[t])=Dn l++Gs t:=by simp[Dn,List.flatMap_append]
theorem S8(t:Tok):∀u∈Gs t,u.oneCell'=true:=fun u hu=>by
 unfold Gs at hu
 simp at hu
 rcases hu with rfl | rfl | rfl<;>rfl
def EH(l:List Tok)(k:Nat):Tok:=l.getD k (0,[],0)
theorem S9(l:List Tok):∀(k:Nat),k<l.length->(Dn l)[k*3]?=some (.int .i64 (EH l k).1)/\(Dn l)[k*3+1]?=some (.string (strOfNums (EH l k).2.1))/\(Dn l)[k*3+2]?=some (.int .i64 ((EH l k).2.2:Int)):=by
 induction l with
 | nil=>intro k hk;cases hk
 | cons a r ih=>
  intro k hk
  have e:Dn (a::r)=.int .i64 a.1::.string (strOfNums a.2.1)::.int .i64 (a.2.2:Int)::Dn r:=by simp[Dn,Gs]
  rw[e]
  cases k with
  | zero=>exact⟨rfl,rfl,rfl⟩
  | succ k=>
   obtain⟨h1,h2,h3⟩:=ih k (by simp at hk;omega)
   refine⟨?_,?_,?_⟩
   ·rw[show(k+1)*3=k*3+3 by omega];exact h1
   ·rw[show(k+1)*3+1=k*3+1+3 by omega];exact h2
   ·rw[show(k+1)*3+2=k*3+2+3 by omega];exact h3
def ReadsT(w:World)(v:Value)(l:List Tok):Prop:=
 ∃ad c,v=.slice ad l.length c/\(0<l.length->∃b off,ad=some ⟨b,off,none⟩/\b<w.heap.size/\∀k,k<l.length->w.cell? ⟨b,off+k*3,none⟩=some (.int .i64 (EH l k).1)/\w.cell? ⟨b,off+k*3+1,none⟩=some (.string (strOfNums (EH l k).2.1))/\w.cell? ⟨b,off+k*3+2,none⟩=some (.int .i64 ((EH l k).2.2:Int)))
theorem ReadsT.of_own{w:World}{B:Nat}{e:TypeId}{v:Value}{l:List Tok}(h:w.ownsRow B e 3 v l.length (Dn l)):ReadsT w v l:=by
 rcases h.2 with⟨rfl,h0⟩ | ⟨g,cap,cur,rfl,hg,r⟩
 ·exact⟨none,0,by rw[h0],fun h=>by omega⟩
 ·refine⟨_,_,rfl,fun _=>⟨g,0,rfl,(h.lt g rfl).2,fun k hk=>?_⟩⟩
  obtain⟨p1,p2,p3⟩:=S9 l k hk
  rw[Nat.zero_add]
  exact⟨by rw[h.cellAt (k*3) (by omega)];exact p1,by rw[h.cellAt (k*3+1) (by omega)];exact p2,by rw[h.cellAt (k*3+2) (by omega)];exact p3⟩
theorem ReadsT.below{w w':World}{v:Value}{l:List Tok}(h:ReadsT w v l)(hb:Below w.heap.size w w'):ReadsT w' v l:=by
 obtain⟨ad,c,hv,hr⟩:=h
 refine⟨ad,c,hv,fun h0=>?_⟩
 obtain⟨b,off,he,hlt,hc⟩:=hr h0
 refine⟨b,off,he,by have:=hb.size;omega,fun k hk=>?_⟩
 obtain⟨c1,c2,c3⟩:=hc k hk
 exact⟨by rw[hb.cell (p:=⟨b,off+k*3,none⟩) hlt];exact c1,by rw[hb.cell (p:=⟨b,off+k*3+1,none⟩) hlt];exact c2,by rw[hb.cell (p:=⟨b,off+k*3+2,none⟩) hlt];exact c3⟩
theorem D3(t:ByteArray)(i j:Nat):A7 (t.extract i j)=Am (A7 t) i j:=by
 unfold A7 Am
 rw[ByteArray.data_extract,Array.toList_extract,List.extract_eq_take_drop,<-List.map_drop,<-List.map_take]
theorem Nx(t:ByteArray)(i j:Nat):t.extract i j=strOfNums (Am (A7 t) i j):=by
 rw[<-D3,Fs]
def DV(l:List Tok):Prop:=∀t∈l,∀c∈t.2.1,0<=c/\c<=255
abbrev Be (B:Nat):Nat->Prop:=fun k=>B<=k
structure Above(M:Nat->Prop)(w w':World):Prop where
 size:w.heap.size<=w'.heap.size
 block:∀k,M k->k<w.heap.size->w'.heap[k]?=w.heap[k]?
theorem Above.refl(M:Nat->Prop)(w:World):Above M w w:=⟨Z0 _,fun _ _ _=>rfl⟩
theorem Above.trans{M:Nat->Prop}{w w' w'':World}(h:Above M w w')(h':Above M w' w''):Above M w w'':=
 ⟨Za h.size h'.size,fun k h1 h2=>(h'.block k h1 (by have:=h.size;omega)).trans (h.block k h1 h2)⟩
theorem Above.grown{M:Nat->Prop}{w w':World}{row:Option Nat}(h:w.grownBy w' row)(hr:∀k,row=some k->¬M k):Above M w w':=
 ⟨h.size,fun k h1 h2=>h.block k h2 fun e=>hr k e.symm h1⟩
theorem Above.cell{M:Nat->Prop}{w w':World}(h:Above M w w'){a:Addr}(h1:M a.block)(h2:a.block<w.heap.size):w'.cell? a=w.cell? a:=World.cell?_of_block (h.block _ h1 h2)
theorem Above.set{M:Nat->Prop}{w w':World}(h:Above M w w'){a:Addr}(ha:¬M a.block)(x:Value):Above M w (w'.setCell a x):=
 ⟨by simp[World.setCell];exact h.size,fun k h1 h2=>(Below.heap_setCell _ _ _ _ (fun e=>ha (by rw[<-e];exact h1))).trans (h.block k h1 h2)⟩
theorem Above.below{M:Nat->Prop}{w w':World}(h:Below w.heap.size w w'):Above M w w':=⟨h.size,fun k _ h2=>h.block k h2⟩
mutual
def NodeAt(w:World)(M:Nat->Prop)(b o:Nat):Nd->Prop
 | .mk k t m ks=>w.cell? ⟨b,o,none⟩=some (.int .i64 k)/\w.cell? ⟨b,o+1,none⟩=some (.string (strOfNums t))/\w.cell? ⟨b,o+2,none⟩=some (.int .i64 m) /\
   ∃ad c,w.cell? ⟨b,o+3,none⟩=some (.slice ad ks.length (c+ks.length))/\(0<ks.length->∃b' o',ad=some ⟨b',o',none⟩/\M b'/\b'<w.heap.size/\NodesAt w M b' o' ks)
def NodesAt (w:World) (M:Nat->Prop) (b o:Nat):List Nd->Prop
 | []=>True
 | n::ns=>NodeAt w M b o n/\NodesAt w M b (o+4) ns
end
def KidsV(w:World)(M:Nat->Prop)(v:Value)(ks:List Nd):Prop:=∃ad c,v=.slice ad ks.length (c+ks.length)/\(0<ks.length->∃b o,ad=some ⟨b,o,none⟩/\M b/\b<w.heap.size/\NodesAt w M b o ks)
def D8(n:Nd)(v:Value):List Value:=[.int .i64 n.kind,.string (strOfNums n.text),.int .i64 n.num,v]
def NodeV(w:World)(M:Nat->Prop)(v:Value)(n:Nd):Prop:=∃x,v=.agg (D8 n x).toArray/\KidsV w M x n.kids
theorem EI(w:World)(M:Nat->Prop)(b o:Nat)(n:Nd):NodeAt w M b o n↔∃x,KidsV w M x n.kids/\∀j u,(D8 n x)[j]?=some u->w.cell? ⟨b,o+j,none⟩=some u:=by
 cases n with
 | mk k t m ks=>
  unfold NodeAt
  constructor
  ·rintro⟨h1,h2,h3,ad,c,h4,h5⟩
   refine⟨_,⟨ad,c,rfl,h5⟩,fun j u hu=>?_⟩
   match j,hu with
   | 0,hu=>injection hu with hu;subst hu;exact h1
   | 1,hu=>injection hu with hu;subst hu;exact h2
   | 2,hu=>injection hu with hu;subst hu;exact h3
   | 3,hu=>injection hu with hu;subst hu;exact h4
   | j+4,hu=>simp[D8]at hu
  ·rintro⟨x,⟨ad,c,rfl,h5⟩,hc⟩
   exact⟨hc 0 _ rfl,hc 1 _ rfl,hc 2 _ rfl,ad,c,hc 3 _ rfl,h5⟩
theorem Ev{w:World}{M:Nat->Prop}{b:Nat}:∀ {ks:List Nd} {o:Nat},NodesAt w M b o ks->∀k (hk:k<ks.length),NodeAt w M b (o+4*k) ks[k]
 | [],_,_,k,hk=>by cases hk
 | n::ns,o,h,0,_=>by unfold NodesAt at h;exact h.1
 | n::ns,o,h,k+1,hk=>by
  unfold NodesAt at h
  have:=Ev h.2 k (by simp at hk;omega)
  rw[show o+4*(k+1)=o+4+4*k by omega]
  exact this
theorem Fe{w:World}{M:Nat->Prop}{b:Nat}:∀ {ks:List Nd} {o:Nat},(∀k (hk:k<ks.length),NodeAt w M b (o+4*k) ks[k])->NodesAt w M b o ks
 | [],_,_=>by unfold NodesAt;trivial
 | n::ns,o,h=>by
  unfold NodesAt
  refine⟨h 0 (by simp),Fe fun k hk=>?_⟩
  have:=h (k+1) (by simp;omega)
  rw[show o+4+4*k=o+4*(k+1) by omega]
  exact this
mutual
theorem NodeAt.above{w w':World}{M:Nat->Prop}(h:Above M w w'):∀(n:Nd) (b o:Nat),M b->b<w.heap.size->NodeAt w M b o n->NodeAt w' M b o n
 | .mk k t m ks,b,o,hb,hlt,hn=>by
  unfold NodeAt at hn⊢
  obtain⟨h1,h2,h3,ad,c,h4,h5⟩:=hn
  refine⟨by rw[h.cell (a:=⟨b,o,none⟩) hb hlt];exact h1,by rw[h.cell (a:=⟨b,o+1,none⟩) hb hlt];exact h2,by rw[h.cell (a:=⟨b,o+2,none⟩) hb hlt];exact h3,ad,c,by rw[h.cell (a:=⟨b,o+3,none⟩) hb hlt];exact h4,fun h0=>?_⟩
  obtain⟨b',o',e,l1,l2,hk⟩:=h5 h0
  exact⟨b',o',e,l1,by have:=h.size;omega,NodesAt.above h ks b' o' l1 l2 hk⟩
theorem NodesAt.above {w w':World} {M:Nat->Prop} (h:Above M w w'):∀(ks:List Nd) (b o:Nat),M b->b<w.heap.size->NodesAt w M b o ks->NodesAt w' M b o ks
 | [],b,o,_,_,_=>by unfold NodesAt;trivial
 | n::ns,b,o,hb,hlt,hn=>by
  unfold NodesAt at hn⊢
  exact⟨NodeAt.above h n b o hb hlt hn.1,NodesAt.above h ns b (o+4) hb hlt hn.2⟩
end
theorem KidsV.above{w w':World}{M:Nat->Prop}{v:Value}{ks:List Nd}(h:KidsV w M v ks)(ha:Above M w w'):KidsV w' M v ks:=by
 obtain⟨ad,c,hv,hr⟩:=h
 refine⟨ad,c,hv,fun h0=>?_⟩
 obtain⟨b,o,e,l1,l2,hk⟩:=hr h0
 exact⟨b,o,e,l1,by have:=ha.size;omega,NodesAt.above ha ks b o l1 l2 hk⟩
theorem NodeV.above{w w':World}{M:Nat->Prop}{v:Value}{n:Nd}(h:NodeV w M v n)(ha:Above M w w'):NodeV w' M v n:=by
 obtain⟨x,hv,hk⟩:=h
 exact⟨x,hv,hk.above ha⟩
mutual
theorem NodeAt.mono{w:World}{M M':Nat->Prop}(h:∀k,M k->k<w.heap.size->M' k):∀(n:Nd) (b o:Nat),NodeAt w M b o n->NodeAt w M' b o n
 | .mk k t m ks,b,o,hn=>by
  unfold NodeAt at hn⊢
  obtain⟨h1,h2,h3,ad,c,h4,h5⟩:=hn
  refine⟨h1,h2,h3,ad,c,h4,fun h0=>?_⟩
  obtain⟨b',o',e,l1,l2,hk⟩:=h5 h0
  exact⟨b',o',e,h _ l1 l2,l2,NodesAt.mono h ks b' o' hk⟩
theorem NodesAt.mono {w:World} {M M':Nat->Prop} (h:∀k,M k->k<w.heap.size->M' k):∀(ks:List Nd) (b o:Nat),NodesAt w M b o ks->NodesAt w M' b o ks
 | [],b,o,_=>by unfold NodesAt;trivial
 | n::ns,b,o,hn=>by
  unfold NodesAt at hn⊢
  exact⟨NodeAt.mono h n b o hn.1,NodesAt.mono h ns b (o+4) hn.2⟩
end
theorem KidsV.mono{w:World}{M M':Nat->Prop}{v:Value}{ks:List Nd}(h:KidsV w M v ks)(hm:∀k,M k->k<w.heap.size->M' k):KidsV w M' v ks:=by
 obtain⟨ad,c,hv,hr⟩:=h
 refine⟨ad,c,hv,fun h0=>?_⟩
 obtain⟨b,o,e,l1,l2,hk⟩:=hr h0
 exact⟨b,o,e,hm _ l1 l2,l2,NodesAt.mono hm ks b o hk⟩
theorem NodeV.mono{w:World}{M M':Nat->Prop}{v:Value}{n:Nd}(h:NodeV w M v n)(hm:∀k,M k->k<w.heap.size->M' k):NodeV w M' v n:=by
 obtain⟨x,hv,hk⟩:=h
 exact⟨x,hv,hk.mono hm⟩
theorem Dw(w:World)(M:Nat->Prop)(c:Nat):KidsV w M (.slice none 0 c) []:=⟨none,c,rfl,fun h=>absurd h (by decide)⟩
def Af(l:List (Nd×Value)):List Value:=l.flatMap fun z=>D8 z.1 z.2
theorem GN(l:List (Nd×Value)):(Af l).length=l.length*4:=by
 unfold Af
 induction l with
 | nil=>rfl
 | cons a l ih=>rw[List.flatMap_cons,Z1,ih];simp[D8];omega
theorem Ny(l:List (Nd×Value))(n:Nd)(x:Value):Af (l++[(n,x)])=Af l++D8 n x:=by simp[Af,List.flatMap_append]
theorem MA:∀(l:List (Nd×Value)) (k:Nat) (hk:k<l.length) (j:Nat),j<4->(Af l)[k*4+j]?=(D8 l[k].1 l[k].2)[j]?
 | [],k,hk,_,_=>by cases hk
 | a::r,k,hk,j,hj=>by
  have e:Af (a::r)=D8 a.1 a.2++Af r:=by simp[Af]
  have hl:(D8 a.1 a.2).length=4:=rfl
  rw[e]
  cases k with
  | zero=>rw[Nat.zero_mul,Nat.zero_add,List.getElem?_append_left (by omega)];rfl
  | succ k=>
   rw[List.getElem?_append_right (by omega),hl,show(k+1)*4+j-4=k*4+j by omega]
   exact MA r k (by simp at hk;omega) j hj
theorem KidsV.of_own{w:World}{M:Nat->Prop}{B:Nat}{e:TypeId}{v:Value}{l:List (Nd×Value)}(h:w.ownsRow B e 4 v l.length (Af l))(hM:∀g,v.ownBlock=some g->M g)(hk:∀z∈l,KidsV w M z.2 z.1.kids):KidsV w M v (l.map Prod.fst):=by
 rcases h.2 with⟨rfl,h0⟩ | ⟨g,cap,cur,rfl,hg,r⟩
 ·have e0:l=[]:=Zd h0
  subst e0
  exact Dw w M 0
 ·refine⟨_,cap-l.length,by rw[List.length_map,Nat.sub_add_cancel r.2.1],fun _=>⟨g,0,rfl,hM g rfl,(h.lt g rfl).2,Fe fun k hk'=>?_⟩⟩
  rw[List.length_map]at hk'
  rw[List.getElem_map,EI]
  refine⟨l[k].2,hk _ (Z6 hk'),fun j u hu=>?_⟩
  have hj:j<4:=by
   have:=(List.getElem?_eq_some_iff.1 hu).1
   exact this
  show w.cell? ⟨g,0+4*k+j,none⟩=some u
  rw[h.cellAt (0+4*k+j) (by omega),show 0+4*k+j=k*4+j by omega,MA l k hk' j hj]
  exact hu
abbrev Zf:=@World.grownBy_alloc
abbrev Zg:=@Below.refl
abbrev Zh:=@Above.grown
abbrev Zi:=@NodeV.mono
abbrev Zk:=@Above.below
abbrev Zl:=@World.ownsRow_nil
abbrev Zm:=@Below.heap_setCell
end Go.Proofs.YtbglpanjpadldaaGreatDoor
