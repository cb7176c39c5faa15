/- Texts in one. -/
import Derived.Test.YtbglpanjpadldaaGreatDoorCheckWX
import Derived.Test.YtbglpanjpadldaaGreatDoorMd
import Derived.Test.YtbglpanjpadldaaGreatDoorMy
import Derived.Lib.OwnKind
import Derived.Deep.RegionLaw
import Derived.Lib.LaidTab
import Derived.Lib.ItoaNum
import Derived.Shelf.Strconv.Itoa3
set_option maxHeartbeats 8000000
set_option maxRecDepth 20000
namespace Go.Proofs.YtbglpanjpadldaaGreatDoor
open Go.RowKit
theorem T9:(Tryz.prog.info? 9).map (fun i=>(i.zero,i.size,i.bytes))=some (some (.string ⟨#[]⟩),1,16):=by kernel_rfl
theorem U4:KU 39 9 1 16:=by
 obtain⟨i,h1,h2⟩:=Option.map_eq_some_iff.1 T9
 simp only[Prod.mk.injEq]at h2
 exact⟨by kernel_rfl,⟨i,_,h1,h2.1,h2.2.1,h2.2.2,rfl⟩,by decide,by decide⟩
def CU(l:List ByteArray):List Value:=l.map Value.string
theorem Nz(l:List ByteArray):(CU l).length=l.length:=List.length_map _
end Go.Proofs.YtbglpanjpadldaaGreatDoor
namespace Go.Proofs.YtbglpanjpadldaaGreatDoor
open Go.RowKit
theorem FS{w w':World}{base n size:Nat}{v:Value}{xs:List Value}{e:TypeId}(h:w.ownsRow base e size v n xs)(hb:∀g,v.ownBlock=some g->w'.heap[g]?=w.heap[g]?):w'.ownsRow base e size v n xs:=by
 refine⟨h.1,?_⟩
 rcases h.2 with h0 | ⟨g,cap,cur,rfl,h1,hg,r⟩
 ·exact Or.inl h0
 ·exact Or.inr ⟨g,cap,cur,rfl,h1,(hb g rfl).trans hg,r⟩
theorem IQ{w:World}{B n size:Nat}{v:Value}{xs:List Value}{e:TypeId}(h:w.ownsRow B e size v n xs):∃ad c,v=.slice ad n c:=by
 rcases h.2 with⟨rfl,rfl⟩ | ⟨g,cap,cur,rfl,_⟩
 ·exact⟨none,0,rfl⟩
 ·exact⟨_,cap,rfl⟩
theorem Qh{w:World}{B B' n size:Nat}{v:Value}{xs:List Value}{e:TypeId}(h:w.ownsRow B e size v n xs)(hB:B'<=B):w.ownsRow B' e size v n xs:=by
 refine⟨h.1,?_⟩
 rcases h.2 with h0 | ⟨g,cap,cur,rfl,hb,r⟩
 ·exact Or.inl h0
 ·exact Or.inr ⟨g,cap,cur,rfl,Za hB hb,r⟩
theorem Le{t e:TypeId}{size bytes:Nat}(he:KU t e size bytes){w:World}{ty:TypeId}{base n m:Nat}{v u:Value}{xs news:List Value}(hown:w.ownsRow base e size v n xs)(hn:news.length=m*size)(hu:(u=.slice none 0 0/\m=0)\/∃ad c,u=.slice (some ad) m c/\∀j x,news[j]?=some x->w.cell? (ad.add j)=some x)(h1:∀x∈news,x.oneCell'=true)(hb:n+m<=1000000)(hbase:base<=w.heap.size) :
  ∃v' w',(Builtin.append_ #[t,t] ty #[v,u]).run Tryz.prog w=.ok v' w'/\w'.ownsRow base e size v' (n+m) (xs++news)/\w.grownBy w' v.ownBlock:=by
 obtain⟨i,z,hi,hz0,hz1,hz2,hz3⟩:=he.info
 rcases hu with⟨rfl,rfl⟩ | ⟨ad,c,rfl,hc⟩
 ·have e0:news=[]:=Zd (by omega)
  subst e0
  refine⟨v,w,run_append_owned_none _ base t ty e i size he.under hi v n xs hown,by rw[List.append_nil];exact hown,⟨rfl,rfl,rfl,Z0 _,fun _ _ _=>rfl⟩⟩
 ·have hm:(n+m)*bytes<=140737488355328:=Za (Nat.mul_le_mul (show n+m<=1000001 by omega) he.few) (by decide)
  obtain⟨v',w',hr,r1,r2,_⟩:=run_append_own (P:=Tryz.prog) w base t ty e i _ size bytes he.under hi hz0 hz1 hz2 hz3 he.pos v n xs hown ad m c news hn hc h1 (by unfold maxLen;omega) hm hbase
  exact⟨v',w',hr,r1,r2⟩
theorem TA(l:List ByteArray):∀x∈CU l,x.oneCell'=true:=fun x hx=>by
 unfold CU at hx
 obtain⟨y,-,rfl⟩:=List.mem_map.1 hx
 rfl
theorem MB(w:World)(xs:List Value)(e:TypeId):∀j u,xs[j]?=some u->(w.alloc (.cells xs.toArray e)).cell? ((⟨w.heap.size,0,none⟩:Addr).add j)=some u:=fun j u h=>by
 rw[H7,Nat.zero_add,cell_of_row _ _ _ _ _ _ (heap_alloc_new w (.cells xs.toArray e))]
 simpa using h
def WtObj(w:World)(R:Nat)(v:Value):Prop:=w.heap[R]?=some (.cells #[v] 80)
theorem WtObj.lt{w:World}{R:Nat}{v:Value}(h:WtObj w R v):R<w.heap.size:=(Array.getElem?_eq_some_iff.1 h).1
theorem WtObj.facts{w:World}{R:Nat}{v:Value}(h:WtObj w R v):w.cell? ⟨R,0,none⟩=some v/\w.frozen? ⟨R,0,none⟩=false:=⟨cell_of_row _ _ _ _ _ _ h,frozen_of_row _ _ _ _ _ h⟩
def PowW(w:World)(R:Nat):Prop:=5<R/\Lib.TabIs Tryz.prog w "internal/strconv.uint64pow10" .u64 Lib.pow10Tab
theorem SA:Tryz.prog.globalNamed "internal/strconv.uint64pow10"=some 5:=by kernel_rfl
theorem PowW.same{w w':World}{R:Nat}(h:PowW w R)(hb:w'.heap[5]?=w.heap[5]?):PowW w' R:=by
 refine⟨h.1,?_⟩
 have h2:=h.2
 unfold Lib.TabIs World.var? at h2⊢
 rw[SA]at h2⊢
 simp only[Option.bind_some]at h2⊢
 rw[hb]
 exact h2
structure TkO(w:World)(R:Nat)(L:List ByteArray):Prop where
 obj:∃v,WtObj w R v/\w.ownsRow (R+1) 9 1 v L.length (CU L)
 pow:PowW w R
def U5(w:World)(k:Nat):Prop:=∃c fz,w.heap[k]?=some (Obj.cells c 9 fz)
structure FrK(w w':World)(R:Nat):Prop where
 os:w'.os=w.os
 tape:w'.tape=w.tape
 output:w'.output=w.output
 size:w.heap.size<=w'.heap.size
 block:∀k,k<w.heap.size->k≠R->(k<R\/¬U5 w k)->w'.heap[k]?=w.heap[k]?
theorem FrK.of_below{w w':World}{R:Nat}(h:Below w.heap.size w w'):FrK w w' R:=⟨h.os,h.tape,h.output,h.size,fun k hk _ _=>h.block k hk⟩
theorem FrK.refl(w:World)(R:Nat):FrK w w R:=FrK.of_below (Zg _ _)
theorem FrK.trans{w w1 w2:World}{R:Nat}(h:FrK w w1 R)(h1:FrK w1 w2 R):FrK w w2 R:=
 ⟨h1.os.trans h.os,h1.tape.trans h.tape,h1.output.trans h.output,Za h.size h1.size,fun k a b c=>by
  have e:=h.block k a b c
  refine(h1.block k (Z5 a h.size) b ?_).trans e
  rcases c with c | c
  ·exact Or.inl c
  ·exact Or.inr fun⟨cc,fz,hc⟩=>c ⟨cc,fz,by rw[<-e];exact hc⟩⟩
theorem FrK.ahd{w w':World}{R:Nat}(h:FrK w w' R):Above (fun k=>k<R) w w':=⟨h.size,fun k h1 h2=>h.block k h2 (by omega) (Or.inl h1)⟩
theorem FrK.keep{w w':World}{R k:Nat}{c:Array Value}{e:TypeId}{fz:Nat×Nat}(h:FrK w w' R)(hk:w.heap[k]?=some (.cells c e fz))(he:e≠9)(hR:k≠R):w'.heap[k]?=some (.cells c e fz):=
 (h.block k (Array.getElem?_eq_some_iff.1 hk).1 hR (Or.inr fun⟨cc,fz',hc⟩=>by
  rw[hk]at hc
  injection hc with hc
  injection hc with _ hc _
  exact he hc)).trans hk
theorem TkO.lt{w:World}{R:Nat}{L:List ByteArray}(h:TkO w R L):R<w.heap.size:=by
 obtain⟨v,h1,_⟩:=h.obj
 exact h1.lt
theorem TkO.below{w w':World}{R:Nat}{L:List ByteArray}(h:TkO w R L)(hb:Below w.heap.size w w'):TkO w' R L:=by
 obtain⟨v,h1,h2⟩:=h.obj
 exact⟨⟨v,(hb.block _ h1.lt).trans h1,FS h2 fun g e=>hb.block g (h2.lt g e).2⟩,h.pow.same (hb.block _ (Nat.lt_trans h.pow.1 h1.lt))⟩
structure OutK(w:World)(R:Nat)(L:List ByteArray)(w':World):Prop where
 tk:TkO w' R L
 fr:FrK w w' R
theorem OutK.first{w:World}{R:Nat}{L:List ByteArray}(h:TkO w R L):OutK w R L w:=⟨h,FrK.refl _ _⟩
theorem OutK.then'{w w1 w2:World}{R:Nat}{L L':List ByteArray}(h:OutK w R L w1)(h1:OutK w1 R L' w2):OutK w R L' w2:=⟨h1.tk,h.fr.trans h1.fr⟩
theorem OutK.below{w w1 w2:World}{R:Nat}{L:List ByteArray}(h:OutK w R L w1)(hb:Below w1.heap.size w1 w2):OutK w R L w2:=⟨h.tk.below hb,h.fr.trans (FrK.of_below hb)⟩
def SrcK(w:World)(u:Value)(xs:List ByteArray):Prop:=(u=.slice none 0 0/\xs=[])\/∃ad c,u=.slice (some ad) xs.length c/\∀j x,(CU xs)[j]?=some x->w.cell? (ad.add j)=some x
theorem Jl{ops:Array Oper}{rest:List Oper}{o:Oper}{a:Act}{w:World}{Q:Exit->Act->World->Prop}(hgd:o.guard=none)(s x:Operand)(ho:o.op=.call { callee:=.builtin .append,args:=#[s,x],argTypes:=#[39,39] })(base:Nat)(v u:Value)(L xs:List ByteArray)(hs:a.eval s=v)(hx:a.eval x=u)(hown:w.ownsRow base 9 1 v L.length (CU L))(hu:SrcK w u xs)(hb:L.length+xs.length<=1000000)(hbase:base<=w.heap.size)(h:∀ad c w',w'.ownsRow base 9 1 (.slice ad (L.length+xs.length) c) (L.length+xs.length) (CU L++CU xs)->w.grownBy w' v.ownBlock->wpList Tryz.prog ops Q rest (a.put o.dst (.slice ad (L.length+xs.length) c)) w'):wpList Tryz.prog ops Q (o::rest) a w:=by
 refine wpList_plain hgd fun K' hK'=>?_
 obtain⟨v',w',hr,r1,r2⟩:=Le (m:=xs.length) (u:=u) U4 (ty:=o.type) hown (by rw[Nz,Nat.mul_one]) (by
  rcases hu with⟨h1,h2⟩ | ⟨ad,c,h1,h2⟩
  ·exact Or.inl ⟨h1,by rw[h2];rfl⟩
  ·exact Or.inr ⟨ad,c,h1,h2⟩) (TA xs) hb hbase
 obtain⟨ad,c,rfl⟩:=IQ r1
 unfold Oper.wp
 simp[execOp,ho,resolve,invoke,builtin,hs,hx,hr,Result.andThen]
 exact hK' _ _ (h ad c w' r1 r2)
theorem TkO.put{w w7:World}{R:Nat}{v v':Value}{L xs:List ByteArray}(hp:PowW w R)(h1:WtObj w R v)(h2:w.ownsRow (R+1) 9 1 v L.length (CU L))(hr:w7.ownsRow (R+1) 9 1 v' (L.length+xs.length) (CU L++CU xs))(hg:w.grownBy w7 v.ownBlock):OutK w R (L++xs) (w7.setCell ⟨R,0,none⟩ v'):=by
 have hne:v.ownBlock≠some R:=fun e=>by have:=(h2.lt R e).1;omega
 have ho:WtObj w7 R v:=(hg.block R h1.lt (fun e=>hne e.symm)).trans h1
 have hr':w7.ownsRow (R+1) 9 1 v' (L++xs).length (CU (L++xs)):=by
  have e:CU (L++xs)=CU L++CU xs:=List.map_append
  rw[e,Z1]
  exact hr
 refine⟨⟨⟨v',heap_setCell_same _ _ _ _ _ _ ho,ownsRow_setCell_other hr' (a:=⟨R,0,none⟩) (fun e=>by have:=(hr'.lt R e).1;omega) _⟩,hp.same ((Zm _ _ _ _ (Nat.ne_of_lt hp.1)).trans (hg.block _ (Nat.lt_trans hp.1 h1.lt) (fun e=>by have:=(h2.lt _ e.symm).1;have:=hp.1;omega)))⟩,⟨hg.os,hg.tape,hg.output,by have:=hg.size;simp;exact this,fun k a b c=>(Zm _ _ _ _ b).trans (hg.block k a (fun e=>?_))⟩⟩
 rcases c with c | c
 ·have:=(h2.lt k e.symm).1;omega
 ·obtain⟨cc,fz,hc⟩:=Lib.ownsRow_kind h2 k e.symm
  exact c ⟨cc,fz,hc⟩
theorem NJ(R:Nat)(L xs:List ByteArray)(u:Value)(w:World)(h:TkO w R L)(hb:(L++xs).length<=900000)(hu:SrcK w u xs) :
  Calls Tryz.prog 57 #[.pointer (some ⟨R,0,none⟩),u] w fun e w'=>e=.returned (.tuple #[])/\OutK w R (L++xs) w':=by
 have hpw:=h.pow
 obtain⟨v,h1,h2⟩:=h.obj
 obtain⟨va,vc,rfl⟩:=IQ h2
 have hlt:=h1.lt
 obtain⟨c0,z0⟩:=h1.facts
 rw[Z1]at hb
 have hne:(Value.slice va L.length vc).ownBlock≠some R:=fun e=>by have:=(h2.lt R e).1;omega
 go_enter Tryz.func57,Tryz.ntmps57
 go_wp2_with (first | (at_builtin;refine Jl rfl (.tmp 8) (.tmp 9) rfl (R+1) (.slice va L.length vc) u L xs rfl rfl h2 hu (by omega) hlt ?_;intro aa cc w7 hr hg;have hO:=TkO.put hpw h1 h2 hr hg;have ho7:WtObj w7 R (.slice va L.length vc):=(hg.block R h1.lt (fun e=>hne e.symm)).trans h1;have hl7:=ho7.lt;obtain⟨c7,z7⟩:=ho7.facts))
 exact bodyPost_end (v:=.tuple #[]) (by simp[results,Tryz.results57,go_sem]) rfl ⟨rfl,hO⟩
theorem PZ{w0 w:World}{R:Nat}{L:List ByteArray}(H:OutK w0 R L w)(xs:List ByteArray)(hb:(L++xs).length<=900000) :
  Calls Tryz.prog 57 #[.pointer (some ⟨R,0,none⟩),.slice (some ⟨w.heap.size,0,none⟩) xs.length xs.length] (w.alloc (.cells (CU xs).toArray 9)) fun e w'=>e=.returned (.tuple #[])/\OutK w0 R (L++xs) w':=by
 have hbl:Below w.heap.size w (w.alloc (.cells (CU xs).toArray 9)):=(Zg _ _).alloc (Z0 _) _
 have H1:=H.below hbl
 refine(NJ R L xs _ _ H1.tk hb (Or.inr ⟨⟨w.heap.size,0,none⟩,_,rfl,MB w (CU xs) 9⟩)).mono ?_
 rintro e w' ⟨rfl,h⟩
 exact⟨rfl,H1.then' h⟩
theorem Mk{w0 w:World}{R g:Nat}{L:List ByteArray}(H:OutK w0 R L w)(hg:w.heap.size=g)(xs:List ByteArray)(hb:(L++xs).length<=900000) :
  Calls Tryz.prog 57 #[.pointer (some ⟨R,0,none⟩),.slice (some ⟨g,0,none⟩) xs.length xs.length] (w.alloc (.cells (CU xs).toArray 9)) fun e w'=>e=.returned (.tuple #[])/\OutK w0 R (L++xs) w':=by
 subst hg
 exact PZ H xs hb
theorem Tw{w w':World}{R X:Nat}{a b c d:Value}(h:FrK w w' R)(hx:w.heap[X]?=some (.cells #[a,b,c,d] 24))(hne:X≠R):(w'.cell? ⟨X,0,none⟩=some a/\w'.cell? ⟨X,1,none⟩=some b/\w'.cell? ⟨X,2,none⟩=some c/\w'.cell? ⟨X,3,none⟩=some d)/\X<w'.heap.size/\w'.heap[X]?=some (.cells #[a,b,c,d] 24):=by
 have hk:=h.keep hx (by decide) hne
 exact⟨⟨cell_of_row _ _ _ _ _ _ hk,cell_of_row _ _ _ _ _ _ hk,cell_of_row _ _ _ _ _ _ hk,cell_of_row _ _ _ _ _ _ hk⟩,(Array.getElem?_eq_some_iff.1 hk).1,hk⟩
theorem NK(k:Int)(w:World):Calls Tryz.prog 112 #[.int .i64 k] w fun e w'=>e=.returned (.int .i64 (FJ k))/\w'=w:=by
 unfold FJ
 by_cases h18:k=18
 ·subst h18
  go_enter Tryz.func112,Tryz.ntmps112
  go_wp2_with fail
  go_ret
  exact⟨by first | rfl | simp,rfl⟩
 by_cases h19:k=19
 ·subst h19
  go_enter Tryz.func112,Tryz.ntmps112
  go_wp2_with fail
  go_ret
  exact⟨by first | rfl | simp,rfl⟩
 by_cases h20:k=20
 ·subst h20
  go_enter Tryz.func112,Tryz.ntmps112
  go_wp2_with fail
  go_ret
  exact⟨by first | rfl | simp,rfl⟩
 by_cases h21:k=21
 ·subst h21
  go_enter Tryz.func112,Tryz.ntmps112
  go_wp2_with fail
  go_ret
  exact⟨by first | rfl | simp,rfl⟩
 by_cases h22:k=22
 ·subst h22
  go_enter Tryz.func112,Tryz.ntmps112
  go_wp2_with fail
  go_ret
  exact⟨by first | rfl | simp,rfl⟩
 by_cases h23:k=23
 ·subst h23
  go_enter Tryz.func112,Tryz.ntmps112
  go_wp2_with fail
  go_ret
  exact⟨by first | rfl | simp,rfl⟩
 by_cases h24:k=24
 ·subst h24
  go_enter Tryz.func112,Tryz.ntmps112
  go_wp2_with fail
  go_ret
  exact⟨by first | rfl | simp,rfl⟩
 by_cases h25:k=25
 ·subst h25
  go_enter Tryz.func112,Tryz.ntmps112
  go_wp2_with fail
  go_ret
  exact⟨by first | rfl | simp,rfl⟩
 rw[if_neg (by omega),if_neg (by omega),if_neg h22,if_neg (by omega),if_neg h25]
 go_enter Tryz.func112,Tryz.ntmps112
 go_wp2_with fail
 go_ret
 exact⟨by first | rfl | simp,rfl⟩
theorem MC{w:World}{M:Nat->Prop}{ad:Option Addr}{c:Nat}{ks:List Nd}(h:KidsV w M (.slice ad ks.length c) ks)(j:Nat):KidsV w M (.slice ad (ks.take j).length c) (ks.take j):=by
 obtain⟨ad',c',e,hk⟩:=h
 injection e with e1 e2 e3
 subst e1 e3
 have hl:(ks.take j).length<=ks.length:=by rw[List.length_take];omega
 refine⟨ad,c'+ks.length-(ks.take j).length,by rw[Nat.sub_add_cancel (by omega)],fun h0=>?_⟩
 obtain⟨b,o,e,m1,m2,hn⟩:=hk (by omega)
 refine⟨b,o,e,m1,m2,Fe fun k hk'=>?_⟩
 have:=Ev hn k (by omega)
 rw[List.getElem_take]
 exact this
theorem MD{w:World}{M:Nat->Prop}{b o c:Nat}{ks:List Nd}(h:KidsV w M (.slice (some ⟨b,o,none⟩) ks.length c) ks)(j:Nat)(hj:j<=ks.length)(ad:Option Addr)(had:0<ks.length-j->ad=some ⟨b,o+j*4,none⟩):KidsV w M (.slice ad (ks.drop j).length (c-j)) (ks.drop j):=by
 obtain⟨ad',c',e,hk⟩:=h
 injection e with e1 e2 e3
 subst e1 e3
 have hl:(ks.drop j).length=ks.length-j:=List.length_drop
 refine⟨ad,c',by rw[hl];congr 1;omega,fun h0=>?_⟩
 obtain⟨b',o',e,m1,m2,hn⟩:=hk (by omega)
 injection e with e
 injection e with e1 e2 _
 subst e1 e2
 refine⟨b,o+j*4,had (by omega),m1,m2,Fe fun k hk'=>?_⟩
 have:=Ev hn (j+k) (by omega)
 rw[List.getElem_drop,show o+j*4+4*k=o+4*(j+k) by omega]
 exact this
theorem ME(n c:Nat)(ad:Option Addr)(many:Int)(w:World)(hc:n<=c)(hn:n<=900000):Calls Tryz.prog 56 #[.slice ad n c,.int .i64 many] w fun e w'=>e=.returned (.slice ad (min many.toNat n) c)/\w'=w:=by
 go_enter Tryz.func56,Tryz.ntmps56
 go_wp2_with fail
 all_goals go_ret
 all_goals refine⟨?_,rfl⟩
 all_goals (show Ending.returned (Value.slice ad _ c)=Ending.returned (Value.slice ad _ c);first | rfl | (congr 2;done) | (congr 2;omega))
theorem Pa(n c:Nat)(ad:Option Addr)(many:Int)(w:World)(hc:n<=c)(hn:n<=900000):Calls Tryz.prog 58 #[.slice ad n c,.int .i64 many] w fun e w'=>(∃ad',e=.returned (.slice ad' (n-min many.toNat n) (c-min many.toNat n))/\∀b o,ad=some ⟨b,o,none⟩->0<n-min many.toNat n->ad'=some ⟨b,o+min many.toNat n*4,none⟩)/\w'=w:=by
 have hf:=ME n c ad many w hc hn
 obtain⟨k,hk⟩:∃k,min many.toNat n=k:=⟨_,rfl⟩
 rw[hk]at hf⊢
 have hkn:k<=n:=by omega
 have hki:(k:Int)<=(n:Int):=by omega
 clear hk
 go_enter Tryz.func58,Tryz.ntmps58
 go_wp2_with (first | (go_at_call 56;refine hf.mono ?_;rintro e w1 ⟨rfl,rfl⟩))
 ·go_ret
  exact⟨⟨ad,by first | rfl | simp,fun b o _ h0=>by omega⟩,rfl⟩
 ·go_ret
  refine⟨⟨_,by first | rfl | simp,fun b o e _=>?_⟩,rfl⟩
  rw[e]
  show some (Addr.add _ _)=_
  rw[H7]
theorem TB{w:World}{M:Nat->Prop}{ad:Option Addr}{c:Nat}{ks:List Nd}(h:KidsV w M (.slice ad ks.length c) ks)(hn:ks.length<=900000)(many:Int):Calls Tryz.prog 56 #[.slice ad ks.length c,.int .i64 many] w fun e w'=>(∃ad' c',e=.returned (.slice ad' (ks.take many.toNat).length c')/\KidsV w M (.slice ad' (ks.take many.toNat).length c') (ks.take many.toNat))/\w'=w:=by
 have hc:ks.length<=c:=by
  obtain⟨_,_,e,_⟩:=h
  injection e with _ _ e
  omega
 refine(ME ks.length c ad many w hc hn).mono ?_
 rintro e w' ⟨rfl,rfl⟩
 have hl:(ks.take many.toNat).length=min many.toNat ks.length:=List.length_take
 exact⟨⟨ad,c,by rw[hl],MC h _⟩,rfl⟩
theorem SB{w:World}{M:Nat->Prop}{ad:Option Addr}{c:Nat}{ks:List Nd}(h:KidsV w M (.slice ad ks.length c) ks)(hn:ks.length<=900000)(many:Int):Calls Tryz.prog 58 #[.slice ad ks.length c,.int .i64 many] w fun e w'=>(∃ad' c',e=.returned (.slice ad' (ks.drop many.toNat).length c')/\KidsV w M (.slice ad' (ks.drop many.toNat).length c') (ks.drop many.toNat))/\w'=w:=by
 have hc:ks.length<=c:=by
  obtain⟨_,_,e,_⟩:=h
  injection e with _ _ e
  omega
 refine(Pa ks.length c ad many w hc hn).mono ?_
 rintro e w' ⟨⟨ad',rfl,had⟩,rfl⟩
 have hl:(ks.drop many.toNat).length=ks.length-min many.toNat ks.length:=by rw[List.length_drop];omega
 have hd:ks.drop many.toNat=ks.drop (min many.toNat ks.length):=by
  by_cases hle:many.toNat<=ks.length
  ·rw[Nat.min_eq_left hle]
  ·rw[Nat.min_eq_right (by omega),Z9 (by omega),Z9 (Z0 _)]
 refine⟨⟨ad',c-min many.toNat ks.length,by rw[hl],?_⟩,rfl⟩
 by_cases h0:0<ks.length
 ·obtain⟨ad0,c0,e,hk⟩:=id h
  injection e with e1 e2 e3
  subst e1
  obtain⟨b,o,e,_⟩:=hk h0
  subst e
  have:=MD h (min many.toNat ks.length) (by omega) ad' (fun h1=>had b o rfl h1)
  rw[hd]
  exact this
 ·have e0:ks=[]:=Zd (by omega)
  subst e0
  exact⟨ad',c-min many.toNat 0,by rw[List.drop_nil];rfl,fun h=>by rw[List.drop_nil]at h;cases h⟩
abbrev AhR (R:Nat):Nat->Prop:=fun k=>k<R
def Cq(num:Int->ByteArray)(n:Nd):Prop:=∀(R:Nat) (u:Value) (L:List ByteArray) (w0 w:World),OutK w0 R L w->(L++tkN num n).length<=900000->NodeV w (AhR R) u n->Calls Tryz.prog 38 #[.pointer (some ⟨R,0,none⟩),u] w fun e w'=>e=.returned (.tuple #[])/\OutK w0 R (L++tkN num n) w'
theorem Qj(num:Int->ByteArray)(ks:List Nd)(i:Nat)(h:i<ks.length):((tkL num ks).take (i+1)).flatten=((tkL num ks).take i).flatten++tkN num ks[i]:=by
 rw[D6,List.take_add_one,List.getElem?_map,List.getElem?_eq_getElem h,List.flatten_append]
 simp
theorem SC(num:Int->ByteArray)(ks:List Nd)(i:Nat):((tkL num ks).take i).flatten.length<=(tkL num ks).flatten.length:=by
 conv=>rhs;rw[<-List.take_append_drop i (tkL num ks),List.flatten_append,Z1]
 omega
theorem Pb{w:World}{R:Nat}{ad:Option Addr}{c:Nat}{ks:List Nd}(h:KidsV w (AhR R) (.slice ad ks.length c) ks){i:Nat}(hi:i<ks.length):∃b o adx lx cx,ad=some ⟨b,o,none⟩/\b<R/\b<w.heap.size/\w.cell? ⟨b,o+i*4,none⟩=some (.int .i64 ks[i].kind)/\w.cell? ⟨b,o+i*4+1,none⟩=some (.string (strOfNums ks[i].text))/\w.cell? ⟨b,o+i*4+2,none⟩=some (.int .i64 ks[i].num)/\w.cell? ⟨b,o+i*4+3,none⟩=some (.slice adx lx cx)/\NodeV w (AhR R) (.agg #[.int .i64 ks[i].kind,.string (strOfNums ks[i].text),.int .i64 ks[i].num,.slice adx lx cx]) ks[i]:=by
 obtain⟨ad',c',e,hk⟩:=h
 injection e with e1 e2 e3
 subst e1
 obtain⟨b,o,e,m1,m2,hn⟩:=hk (by omega)
 have hna:=Ev hn i hi
 rw[EI]at hna
 obtain⟨x,hx,hc⟩:=hna
 obtain⟨adx,cx,rfl,hy⟩:=id hx
 have e4:o+4*i=o+i*4:=by omega
 rw[e4]at hc
 exact⟨b,o,adx,_,_,e,m1,m2,hc 0 _ rfl,hc 1 _ rfl,hc 2 _ rfl,hc 3 _ rfl,⟨_,rfl,hx⟩⟩
theorem Qk(num:Int->ByteArray)(ks:List Nd)(hks:∀i (h:i<ks.length),Cq num ks[i])(R:Nat)(ad:Option Addr)(c:Nat)(L:List ByteArray)(w0 w:World)(H:OutK w0 R L w)(hb:(L++(tkL num ks).flatten).length<=900000)(hn:ks.length<=900000)(hu:KidsV w (AhR R) (.slice ad ks.length c) ks) :
  Calls Tryz.prog 55 #[.pointer (some ⟨R,0,none⟩),.slice ad ks.length c] w fun e w'=>e=.returned (.tuple #[])/\OutK w0 R (L++(tkL num ks).flatten) w':=by
 have HH:Hid (OutK w R (L++((tkL num ks).take 0).flatten) w):=by
  show OutK _ _ _ _
  rw[List.take_zero,List.flatten_nil,List.append_nil]
  exact OutK.first H.tk
 have HU:Hid (KidsV w (AhR R) (.slice ad ks.length c) ks):=hu
 have H0:Hid (OutK w0 R L w):=H
 rw[Z1]at hb
 clear hu H
 go_enter Tryz.func55,Tryz.ntmps55
 go_wp2_with fail
 go_loopw [8] (fun s8 wr=>∃i:Nat,s8=.int .i64 i/\i<=ks.length/\Hid (OutK w R (L++((tkL num ks).take i).flatten) wr)) (fun s8 _=>900001-(intOf s8).toNat)
 case atStart=>exact⟨0,rfl,Z3 _,HH⟩
 case round=>
  obtain⟨i,rfl,hi,HO⟩:=hrel
  clear HH
  by_cases hlt:i<ks.length
  ·have hil:(i:Int)<(ks.length:Int):=by omega
   have hwi:=C4 (x:=(i:Int)+1) (by omega) (by omega)
   obtain⟨b,o,adx,lx,cx,e1,hbR,hbw,c0,c1,c2,c3,hnv⟩:=Pb HU.out hlt
   subst e1
   have hab:=HO.out.fr.ahd
   have d0:=(hab.cell (a:=⟨b,o+i*4,none⟩) hbR hbw).trans c0
   have d1:=(hab.cell (a:=⟨b,o+i*4+1,none⟩) hbR hbw).trans c1
   have d2:=(hab.cell (a:=⟨b,o+i*4+2,none⟩) hbR hbw).trans c2
   have d3:=(hab.cell (a:=⟨b,o+i*4+3,none⟩) hbR hbw).trans c3
   have d4:b<wr.heap.size:=Z5 hbw HO.out.fr.size
   have hbl:Below wr.heap.size wr (wr.alloc (.cells #[.int .i64 ks[i].kind,.string (strOfNums ks[i].text),.int .i64 ks[i].num,.slice adx lx cx] 24)):=(Zg _ _).alloc (Z0 _) _
   have hfl:=SC num ks (i+1)
   have hfx:=Qj num ks i hlt
   have hfl2:(L++((tkL num ks).take i).flatten++tkN num ks[i]).length<=900000:=by rw[List.append_assoc,<-hfx,Z1];omega
   have hcal:=hks i hlt R _ _ w _ (HO.out.below hbl) hfl2 ((hnv.above hab).above (Zk hbl))
   rw[List.append_assoc,<-hfx]at hcal
   clear hab hbl hfl hfx hfl2 hnv c0 c1 c2 c3
   go_wp2_with (first | (go_at_call 38;refine hcal.mono ?_;clear hcal;rintro e w2 ⟨rfl,H2⟩))
   exact⟨⟨i+1,by simp,by omega,H2⟩,by simp[intOf];omega⟩
  ·have hil:¬(i:Int)<(ks.length:Int):=by omega
   have HE:Hid (OutK w R (L++(tkL num ks).flatten) wr):=by
    have e:(tkL num ks).take i=tkL num ks:=List.take_of_length_le (by rw[Em];omega)
    have:=HO.out
    rw[e]at this
    exact this
   go_wp2_with fail
   exact bodyPost_end (v:=.tuple #[]) (by simp[results,Tryz.results55,go_sem]) rfl ⟨rfl,H0.out.then' HE.out⟩
end Go.Proofs.YtbglpanjpadldaaGreatDoor
