/- Texts in one. -/
import Derived.Test.YtpfdgbalchmmfaaGreatDoorOa
set_option linter.unusedSimpArgs false
set_option linter.unusedVariables false
set_option maxHeartbeats 16000000
set_option maxRecDepth 20000
namespace Go.Proofs.YtpfdgbalchmmfaaGreatDoor
open Go.RowKit
def PZ(w w':World):Prop:=∀(k:Nat) c fz,(w.heap[k]?=some (Obj.cells c 35 fz)\/w.heap[k]?=some (Obj.cells c 33 fz)\/w.heap[k]?=some (Obj.cells c 45 fz))->w'.heap[k]?=w.heap[k]?
theorem OX(l:List Nat)(i:Nat)(f:Nat->Nat)(h:i<l.length):CE (l.modify i f)=(CE l).set i (.int .i64 ((f l[i]:Nat):Int)):=by
 refine List.ext_getElem? fun j=>?_
 unfold CE
 rw[List.getElem?_map,List.getElem?_modify,List.getElem?_set]
 by_cases e:i=j
 ·subst e
  rw[List.getElem?_eq_getElem h]
  simp[h]
 ·simp[e]
theorem WrO.locK{w w7:World}{c:CnO}{R at':Nat}{vs vN vl v' vL vK:Value}{slots:List ByteArray}{s:MW}{vis:List Value}(h:WrO w c R at' vs slots s vN vl)(hg:w.grownBy w7 vl.ownBlock)(ho:MkObj w c.Q c.vC vN vL vK c.vS)(hr:RowsO w (c.Q+1) vL vis s.lists)(hc:w.ownsRow (c.Q+1) 3 1 vK s.counts.length (CE s.counts)) :
  MkObj (w7.setCell ⟨R,3,none⟩ v') c.Q c.vC vN vL vK c.vS/\RowsO (w7.setCell ⟨R,3,none⟩ v') (c.Q+1) vL vis s.lists/\(w7.setCell ⟨R,3,none⟩ v').ownsRow (c.Q+1) 3 1 vK s.counts.length (CE s.counts):=by
 have hb:∀k,k<w.heap.size->k≠R->vl.ownBlock≠some k->(w7.setCell ⟨R,3,none⟩ v').heap[k]?=w.heap[k]?:=fun k h1 h2 h3=>(Zm _ _ _ _ h2).trans (hg.block k h1 (fun e=>h3 e.symm))
 refine⟨(hb _ ho.lt (fun e=>?_) (AJ h.row ho (by decide))).trans ho,hr.same fun k cc fz e hk ht=>hb k (Array.getElem?_eq_some_iff.1 hk).1 (fun e'=>?_) (AJ h.row hk (by rcases ht with rfl | rfl<;>decide)),AF hc fun g e=>hb g (hc.lt g e).2 (fun e'=>AJ hc h.obj (by decide) (by rw[<-e'];exact e)) (BI hc h.row (by decide) e)⟩
 ·have:=h.mkr.qb;have:=h.rb;omega
 ·subst e'
  have ho':w.heap[k]?=some (.cells #[.pointer (some ⟨c.Q,0,none⟩),.int .i64 (at':Int),vs,vl] 51):=h.obj
  rw[hk]at ho'
  injection ho' with ho'
  injection ho' with _ ho' _
  rcases ht with rfl | rfl<;>cases ho'
theorem WrO.rowW{w w7:World}{c:CnO}{R at':Nat}{vs vN vl v':Value}{slots:List ByteArray}{s:MW}{l':List ByteArray}(h:WrO w c R at' vs slots s vN vl)(hg:w.grownBy w7 vl.ownBlock)(hon:Onto w vl v')(h7:w7.ownsRow c.BB 9 1 v' l'.length (B5 l')) :
  WrO (w7.setCell ⟨R,3,none⟩ v') c R at' vs slots (s.back l') vN v'/\FrO w (w7.setCell ⟨R,3,none⟩ v') c.Q R vN vl:=by
 obtain⟨vL,vK,vis,ho,hr,hc⟩:=h.mkr.obj
 obtain⟨xs,hx,hxs⟩:=h.mkr.cls.row
 have hb:∀k,k<w.heap.size->k≠R->vl.ownBlock≠some k->(w7.setCell ⟨R,3,none⟩ v').heap[k]?=w.heap[k]?:=fun k h1 h2 h3=>(Zm _ _ _ _ h2).trans (hg.block k h1 (fun e=>h3 e.symm))
 have hsz:w.heap.size<=(w7.setCell ⟨R,3,none⟩ v').heap.size:=by have:=hg.size;simp;exact this
 have hR7:WrObj w7 R c.Q at' vs vl:=(hg.block R h.obj.lt (fun e=>AJ h.row h.obj (by decide) e.symm)).trans h.obj
 have oth:∀ {B n size:Nat} {v:Value} {ys:List Value} {e:TypeId},w.ownsRow B e size v n ys->e≠51->(∀g,v.ownBlock=some g->vl.ownBlock≠some g)->(w7.setCell ⟨R,3,none⟩ v').ownsRow B e size v n ys:=fun hv he ha=>AF hv fun g e=>hb g (hv.lt g e).2 (fun e'=>AJ hv h.obj he (by rw[<-e'];exact e)) (ha g e)
 have kind:∀ {B n size:Nat} {v:Value} {ys:List Value} {e:TypeId},w.ownsRow B e size v n ys->e≠9->∀g,v.ownBlock=some g->vl.ownBlock≠some g:=fun hv he g e=>BI hv h.row he e
 refine⟨⟨⟨⟨vL,vK,vis,(hb _ ho.lt (fun e=>?_) (AJ h.row ho (by decide))).trans ho,hr.same fun k cc fz e hk ht=>hb k (Array.getElem?_eq_some_iff.1 hk).1 (fun e'=>?_) (AJ h.row hk (by rcases ht with rfl | rfl<;>decide)),oth hc (by decide) (kind hc (by decide))⟩,oth h.mkr.names (by decide) h.apart,⟨xs,oth hx (by decide) (kind hx (by decide)),hxs⟩,h.mkr.qb,Za h.mkr.size hsz⟩,hR7.setLoc v',?_,fun g e e'=>?_,oth h.slots (by decide) (fun g e e'=>?_),h.low,h.rb⟩,⟨hg.os,hg.tape,hg.output,hsz,fun k h1 _ h3 _ h5 _=>hb k h1 h3 h5⟩⟩
 ·have:=h.mkr.qb;have:=h.rb;omega
 ·subst e'
  have ho':w.heap[k]?=some (.cells #[.pointer (some ⟨c.Q,0,none⟩),.int .i64 (at':Int),vs,vl] 51):=h.obj
  rw[hk]at ho'
  injection ho' with ho'
  injection ho' with _ ho' _
  rcases ht with rfl | rfl<;>cases ho'
 ·exact ownsRow_setCell_other h7 (a:=⟨R,3,none⟩) (AJ h7 hR7 (by decide)) _
 ·rcases hon with hon | hon
  ·exact h.apart g e (by rw[<-hon];exact e')
  ·have:=hon g e';have:=(h.mkr.names.lt g e).2;omega
 ·have:=h.low g e
  have:=(h.row.lt g e').1
  omega
theorem WrO.locW{w w7:World}{c:CnO}{R at':Nat}{vs vN vl v':Value}{slots:List ByteArray}{s:MW}{x:ByteArray}(h:WrO w c R at' vs slots s vN vl)(hg:w.grownBy w7 vl.ownBlock)(hon:Onto w vl v')(h7:w7.ownsRow c.BB 9 1 v' (s.locals.length+1) (B5 s.locals++[.string x])) :
  WrO (w7.setCell ⟨R,3,none⟩ v') c R at' vs slots (s.back (s.locals++[x])) vN v'/\FrO w (w7.setCell ⟨R,3,none⟩ v') c.Q R vN vl:=
 h.rowW hg hon (by rw[GF,Z1];exact h7)
theorem WrO.cntW{w:World}{c:CnO}{R at' g n cap:Nat}{vs vN vl vL:Value}{slots:List ByteArray}{s:MW}{vis:List Value}(f:Nat->Nat)(h:WrO w c R at' vs slots s vN vl)(ho:MkObj w c.Q c.vC vN vL (.slice (some ⟨g,0,none⟩) n cap) c.vS)(hr:RowsO w (c.Q+1) vL vis s.lists)(hc:w.ownsRow (c.Q+1) 3 1 (.slice (some ⟨g,0,none⟩) n cap) s.counts.length (CE s.counts))(hn:n=s.counts.length)(hat:at'<s.counts.length) :
  WrO (w.setCell ⟨g,at',none⟩ (.int .i64 ((f s.counts[at']:Nat):Int))) c R at' vs slots { s with counts:=s.counts.modify at' f } vN vl/\FrO w (w.setCell ⟨g,at',none⟩ (.int .i64 ((f s.counts[at']:Nat):Int))) c.Q R vN vl:=by
 subst hn
 have mg:Fj w g:=ET hc (Or.inl rfl) rfl
 have hgl:=hc.lt g rfl
 have hb:∀k,k≠g->(w.setCell ⟨g,at',none⟩ (.int .i64 ((f s.counts[at']:Nat):Int))).heap[k]?=w.heap[k]?:=fun k h2=>Zm _ _ _ _ h2
 refine⟨h.mut (by simp) (fun k h1 h2=>hb k (fun e=>h2 (by rw[e];exact mg))) rfl rfl ho (hr.same fun k cc fz e hk ht=>hb k (fun e'=>?_)) ?_,FrO.of_grown (Am w g at' _) fun k e=>?_⟩
 ·subst e'
  exact AJ hc hk (by rcases ht with rfl | rfl<;>decide) rfl
 ·show(w.setCell ⟨g,at',none⟩ _).ownsRow _ _ _ _ (s.counts.modify at' f).length (CE (s.counts.modify at' f))
  rw[List.length_modify,OX _ _ _ hat]
  exact(hc.stored at' _).1
 ·injection e with e
  subst e
  exact Or.inr (Or.inr (Or.inr (Or.inr ⟨by have:=hgl.1;omega,mg⟩)))
theorem Jz(c:CnO)(R at':Nat)(vs vN vl:Value)(slots:List ByteArray)(s:MW)(x:ByteArray)(w:World)(h:WrO w c R at' vs slots s vN vl)(hat:at'<s.counts.length)(hfew:s.locals.length<=900000)(hcnt:s.counts[at']<=900000)(hlst:s.counts.length<=900000) :
  Calls Tryz.prog 34 #[.pointer (some ⟨R,0,none⟩),.string x] w fun e w'=>e=.returned (.int .i64 (s.locals.length:Int))/\OutO w c R at' vs slots (s.local at' x) vN vl w'/\PZ w w':=by
 have hqb:=h.mkr.qb
 have hrb:=h.rb
 have hsz:=h.mkr.size
 obtain⟨la,lc,rfl,_,_⟩:=BS h.row
 obtain⟨vL,vK,vis,ho,hr,hc⟩:=h.mkr.obj
 obtain⟨g,cap,rfl⟩:∃g cap,vK=.slice (some ⟨g,0,none⟩) s.counts.length cap:=by
  rcases hc.2 with⟨_,h0⟩ | ⟨g,cap,cur,e,_⟩
  ·omega
  ·exact⟨g,cap,e⟩
 obtain⟨⟨_,_,_,k3⟩,kz⟩:=h.obj.cells
 have z3:=kz 3
 have hlr:=h.obj.lt
 have hb0:Below w.heap.size w (w.alloc (.cells #[.string x] 9)):=(Zg _ _).alloc (Z0 _) _
 have hw1:=h.below hb0
 have HA:Hid (WrO (w.alloc (.cells #[.string x] 9)) c R at' vs slots s vN (.slice la s.locals.length lc)):=hw1
 have HB:Hid (Below w.heap.size w (w.alloc (.cells #[.string x] 9))):=hb0
 have hrow:=hw1.row
 have hRb:(Value.slice la s.locals.length lc).ownBlock≠some R:=AJ h.row h.obj (by decide)
 have hncel:=EA w [.string x] 9
 have hbb:c.BB<=(w.alloc (.cells #[.string x] 9)).heap.size:=by have:=hb0.size;omega
 have HO:Hid (MkObj (w.alloc (.cells #[.string x] 9)) c.Q c.vC vN vL (.slice (some ⟨g,0,none⟩) s.counts.length cap) c.vS):=(hb0.block _ ho.lt).trans ho
 have HR:Hid (RowsO (w.alloc (.cells #[.string x] 9)) (c.Q+1) vL vis s.lists):=hr.same fun k _ _ _ hc _=>hb0.block k (Array.getElem?_eq_some_iff.1 hc).1
 have HC:Hid ((w.alloc (.cells #[.string x] 9)).ownsRow (c.Q+1) 3 1 (.slice (some ⟨g,0,none⟩) s.counts.length cap) s.counts.length (CE s.counts)):=AF hc fun g e=>hb0.block g (hc.lt g e).2
 have hgr:g≠R:=fun e=>AJ hc h.obj (by decide) (by rw[e];rfl)
 have hgq:g≠c.Q:=fun e=>AJ hc ho (by decide) (by rw[e];rfl)
 have hai:(at':Int)<(s.counts.length:Int):=by omega
 have HCV0:Hid ((CE s.counts)[at']?=some (.int .i64 (s.counts[at']:Int))):=by show _=_;unfold CE;rw[List.getElem?_map,List.getElem?_eq_getElem hat];rfl
 have HWR:Hid (wrap64 (s.locals.length:Int)=(s.locals.length:Int)):=by show _=_;unfold wrap64;omega
 obtain⟨Q,EQ⟩:∃Q,Hid (Q=c.Q):=⟨_,rfl⟩
 clear h hw1 hb0 ho hr hc
 go_enter Tryz.func34,Tryz.ntmps34
 go_wp2_with (first
  | (at_builtin;refine Az Hw rfl (.tmp 9) (.tmp 11) rfl c.BB s.locals.length 1 (.slice la s.locals.length lc) (B5 s.locals) [.string x] rfl hrow ⟨w.heap.size,0,none⟩ rfl rfl hncel (Lr [x]) (by omega) hbb ?_;intro g7 cap7 w7 O7 hg7 hw7;have hl7:R<w7.heap.size:=(by have:=hg7.size;simp at this;omega);have hR7:=hg7.block R (by simp;omega) (fun e=>hRb e.symm);have zz7:=(show WrObj w7 R c.Q at' vs (.slice la s.locals.length lc) from hR7.trans HA.out.obj).cells;obtain⟨⟨_,_,_,y3⟩,yz⟩:=zz7;have yz3:=yz 3))
 have hon7:Onto (w.alloc (.cells #[.string x] 9)) (.slice la s.locals.length lc) (.slice (some ⟨g7,0,none⟩) (s.locals.length+1) cap7):=by
  rcases hw7 with h | h
  ·exact Or.inl h.symm
  ·exact Or.inr fun k e=>by injection e with e;rw[<-h];exact Nat.le_of_eq e
 have hloc:=HA.out.locW (x:=x) hg7 hon7 O7
 have hlk:=HA.out.locK (v':=.slice (some ⟨g7,0,none⟩) (s.locals.length+1) cap7) hg7 HO.out HR.out HC.out
 generalize e8:w7.setCell ⟨R,3,none⟩ (.slice (some ⟨g7,0,none⟩) (s.locals.length+1) cap7)=w8 at hloc hlk⊢
 have HOK:Hid (PZ w (w8.setCell ⟨g,at',none⟩ (.int .i64 ((max s.counts[at'] (s.locals.length+1):Nat):Int)))):=fun k cc fz hk=>by
  obtain⟨ty,hk,n1,n2,n3⟩:∃ty:TypeId,w.heap[k]?=some (Obj.cells cc ty fz)/\9≠ty/\(3:TypeId)≠ty/\51≠ty:=by
   rcases hk with hk | hk | hk
   ·exact⟨_,hk,by decide,by decide,by decide⟩
   ·exact⟨_,hk,by decide,by decide,by decide⟩
   ·exact⟨_,hk,by decide,by decide,by decide⟩
  have hkl:=(Array.getElem?_eq_some_iff.1 hk).1
  have a1:=HB.out.block k hkl
  have a2:w7.heap[k]?=(w.alloc (.cells #[.string x] 9)).heap[k]?:=hg7.block k (Z5 hkl HB.out.size) (fun e=>AJ HA.out.row (a1.trans hk) n1 e.symm)
  have a3:w8.heap[k]?=w7.heap[k]?:=by
   rw[<-e8]
   exact Zm _ _ _ _ (fun e=>by
    have ho':(w.alloc (.cells #[.string x] 9)).heap[k]?=some (.cells #[.pointer (some ⟨c.Q,0,none⟩),.int .i64 (at':Int),vs,.slice la s.locals.length lc] 51):=by rw[e];exact HA.out.obj
    rw[a1,hk]at ho'
    injection ho' with ho'
    injection ho' with _ ho' _
    exact n3 ho'.symm)
  have a4:=a3.trans (a2.trans a1)
  exact(Zm _ _ _ _ (fun e=>AJ hlk.2.2 (a4.trans hk) n2 (by rw[e];rfl))).trans a4
 have HL:Hid (WrO w8 c R at' vs slots (s.back (s.locals++[x])) vN (.slice (some ⟨g7,0,none⟩) (s.locals.length+1) cap7)):=hloc.1
 have HF8:Hid (FrO (w.alloc (.cells #[.string x] 9)) w8 c.Q R vN (.slice la s.locals.length lc)):=hloc.2
 have HON:Hid (Onto (w.alloc (.cells #[.string x] 9)) (.slice la s.locals.length lc) (.slice (some ⟨g7,0,none⟩) (s.locals.length+1) cap7)):=hon7
 have HFIN:Hid (WrO (w8.setCell ⟨g,at',none⟩ (.int .i64 ((max s.counts[at'] (s.locals.length+1):Nat):Int))) c R at' vs slots (s.local at' x) vN (.slice (some ⟨g7,0,none⟩) (s.locals.length+1) cap7)/\FrO w8 (w8.setCell ⟨g,at',none⟩ (.int .i64 ((max s.counts[at'] (s.locals.length+1):Nat):Int))) c.Q R vN (.slice (some ⟨g7,0,none⟩) (s.locals.length+1) cap7)):=WrO.cntW (s:=s.back (s.locals++[x])) (fun n=>max n (s.locals.length+1)) hloc.1 hlk.1 hlk.2.1 hlk.2.2 rfl hat
 have r0:=hloc.1.obj.cells.1.1
 have r1:=hloc.1.obj.cells.1.2.1
 have r3:=hloc.1.obj.cells.1.2.2.2
 have q3:=hlk.1.cells.1.2.2.2.1
 have hc8:=(hlk.2.2.cellAt at' (by omega)).trans HCV0.out
 have z8:=hlk.2.2.frozenAt at'
 have hg8:=(hlk.2.2.lt g rfl).2
 have hr8:=hloc.1.obj.lt
 have hq8:=hlk.1.lt
 rw[<-EQ.out]at r0 q3 hq8 hgq
 have nk:∀(k j:Nat) (u:Value),g≠k->w8.cell? ⟨k,j,none⟩=some u->(w8.setCell ⟨g,at',none⟩ (.int .i64 ((max s.counts[at'] (s.locals.length+1):Nat):Int))).cell? ⟨k,j,none⟩=some u:=fun k j u h1 h2=>(World.cell?_of_block (w:=w8) (a:=⟨k,j,none⟩) (Zm _ _ _ _ (fun e=>h1 e.symm))).trans h2
 have HNK:Hid ((w8.setCell ⟨g,at',none⟩ (.int .i64 ((max s.counts[at'] (s.locals.length+1):Nat):Int))).cell? ⟨R,0,none⟩=some (.pointer (some ⟨Q,0,none⟩))/\(w8.setCell ⟨g,at',none⟩ (.int .i64 ((max s.counts[at'] (s.locals.length+1):Nat):Int))).cell? ⟨R,1,none⟩=some (.int .i64 (at':Int))/\(w8.setCell ⟨g,at',none⟩ (.int .i64 ((max s.counts[at'] (s.locals.length+1):Nat):Int))).cell? ⟨R,3,none⟩=some (.slice (some ⟨g7,0,none⟩) (s.locals.length+1) cap7)/\(w8.setCell ⟨g,at',none⟩ (.int .i64 ((max s.counts[at'] (s.locals.length+1):Nat):Int))).cell? ⟨Q,3,none⟩=some (.slice (some ⟨g,0,none⟩) s.counts.length cap)):=⟨nk _ _ _ hgr r0,nk _ _ _ hgr r1,nk _ _ _ hgr r3,nk _ _ _ hgq q3⟩
 clear e8 hloc hlk nk hon7 hw7 O7 hg7 hl7 hR7 yz3 k3 z3 hRb hncel hbb hrow HCV0 HO HR HC
 refine wp_region_held_drew (S:=fun w'=>w'.cell? ⟨R,0,none⟩=some (.pointer (some ⟨Q,0,none⟩))/\w'.cell? ⟨R,1,none⟩=some (.int .i64 (at':Int))/\w'.cell? ⟨R,3,none⟩=some (.slice (some ⟨g7,0,none⟩) (s.locals.length+1) cap7)/\w'.cell? ⟨Q,3,none⟩=some (.slice (some ⟨g,0,none⟩) s.counts.length cap)) (by kernel_rfl) ⟨r0,r1,r3,q3⟩ (fun hHeld=>?_)
 refine wpAnyH_take (i:=0) (v:=(.pointer (some ⟨R,0,none⟩))) rfl (by kernel_rfl) (by kernel_rfl) (by kernel_rfl) (fun _ _ _ h=>h) (Or.inl ⟨by rfl,?_⟩) hHeld ?_
 ·intro w' hS'
  obtain⟨hA,hB,hC,hD⟩:=hS'
  go_simp
 (try simp only[Act.put,List.setIfInBounds_toArray,List.set_cons_zero,List.set_cons_succ])
 refine wpAnyH_take (i:=1) (v:=(.pointer (some ⟨R,0,none⟩))) rfl (by kernel_rfl) (by kernel_rfl) (by kernel_rfl) (fun _ _ _ h=>h) (Or.inl ⟨by rfl,?_⟩) hHeld ?_
 ·intro w' hS'
  obtain⟨hA,hB,hC,hD⟩:=hS'
  go_simp
 (try simp only[Act.put,List.setIfInBounds_toArray,List.set_cons_zero,List.set_cons_succ])
 refine wpAnyH_take (i:=2) (v:=(.pointer (some ⟨R,0,none⟩))) rfl (by kernel_rfl) (by kernel_rfl) (by kernel_rfl) (fun _ _ _ h=>h) (Or.inl ⟨by rfl,?_⟩) hHeld ?_
 ·intro w' hS'
  obtain⟨hA,hB,hC,hD⟩:=hS'
  go_simp
 (try simp only[Act.put,List.setIfInBounds_toArray,List.set_cons_zero,List.set_cons_succ])
 refine wpAnyH_take (i:=3) (v:=(.pointer (some ⟨Q,0,none⟩))) rfl (by kernel_rfl) (by kernel_rfl) (by kernel_rfl) (fun _ _ _ h=>h) (Or.inl ⟨by rfl,?_⟩) hHeld ?_
 ·intro w' hS'
  obtain⟨hA,hB,hC,hD⟩:=hS'
  go_simp
 (try simp only[Act.put,List.setIfInBounds_toArray,List.set_cons_zero,List.set_cons_succ])
 refine wpAnyH_take (i:=4) (v:=(.pointer (some ⟨Q,0,none⟩))) rfl (by kernel_rfl) (by kernel_rfl) (by kernel_rfl) (fun _ _ _ h=>h) (Or.inl ⟨by rfl,?_⟩) hHeld ?_
 ·intro w' hS'
  obtain⟨hA,hB,hC,hD⟩:=hS'
  go_simp
 (try simp only[Act.put,List.setIfInBounds_toArray,List.set_cons_zero,List.set_cons_succ])
 refine wpAnyH_take (i:=5) (v:=(.pointer (some ⟨Q,0,none⟩))) rfl (by kernel_rfl) (by kernel_rfl) (by kernel_rfl) (fun _ _ _ h=>h) (Or.inl ⟨by rfl,?_⟩) hHeld ?_
 ·intro w' hS'
  obtain⟨hA,hB,hC,hD⟩:=hS'
  go_simp
 (try simp only[Act.put,List.setIfInBounds_toArray,List.set_cons_zero,List.set_cons_succ])
 refine wpAnyH_take (i:=6) (v:=(.pointer (some ⟨Q,3,none⟩))) rfl (by kernel_rfl) (by kernel_rfl) (by kernel_rfl) (fun _ _ _ h=>h) (Or.inl ⟨by rfl,?_⟩) hHeld ?_
 ·intro w' hS'
  obtain⟨hA,hB,hC,hD⟩:=hS'
  go_simp
 (try simp only[Act.put,List.setIfInBounds_toArray,List.set_cons_zero,List.set_cons_succ])
 refine wpAnyH_take (i:=7) (v:=(.slice (some ⟨g,0,none⟩) s.counts.length cap)) rfl (by kernel_rfl) (by kernel_rfl) (by kernel_rfl) (fun _ _ _ h=>h) (Or.inl ⟨by rfl,?_⟩) hHeld ?_
 ·intro w' hS'
  obtain⟨hA,hB,hC,hD⟩:=hS'
  go_simp
 (try simp only[Act.put,List.setIfInBounds_toArray,List.set_cons_zero,List.set_cons_succ])
 refine wpAnyH_take (i:=8) (v:=(.pointer (some ⟨R,0,none⟩))) rfl (by kernel_rfl) (by kernel_rfl) (by kernel_rfl) (fun _ _ _ h=>h) (Or.inl ⟨by rfl,?_⟩) hHeld ?_
 ·intro w' hS'
  obtain⟨hA,hB,hC,hD⟩:=hS'
  go_simp
 (try simp only[Act.put,List.setIfInBounds_toArray,List.set_cons_zero,List.set_cons_succ])
 refine wpAnyH_take (i:=9) (v:=(.pointer (some ⟨R,0,none⟩))) rfl (by kernel_rfl) (by kernel_rfl) (by kernel_rfl) (fun _ _ _ h=>h) (Or.inl ⟨by rfl,?_⟩) hHeld ?_
 ·intro w' hS'
  obtain⟨hA,hB,hC,hD⟩:=hS'
  go_simp
 (try simp only[Act.put,List.setIfInBounds_toArray,List.set_cons_zero,List.set_cons_succ])
 refine wpAnyH_take (i:=10) (v:=(.pointer (some ⟨R,1,none⟩))) rfl (by kernel_rfl) (by kernel_rfl) (by kernel_rfl) (fun _ _ _ h=>h) (Or.inl ⟨by rfl,?_⟩) hHeld ?_
 ·intro w' hS'
  obtain⟨hA,hB,hC,hD⟩:=hS'
  go_simp
 (try simp only[Act.put,List.setIfInBounds_toArray,List.set_cons_zero,List.set_cons_succ])
 refine wpAnyH_take (i:=11) (v:=(.int .i64 (at':Int))) rfl (by kernel_rfl) (by kernel_rfl) (by kernel_rfl) (fun _ _ _ h=>h) (Or.inl ⟨by rfl,?_⟩) hHeld ?_
 ·intro w' hS'
  obtain⟨hA,hB,hC,hD⟩:=hS'
  go_simp
 (try simp only[Act.put,List.setIfInBounds_toArray,List.set_cons_zero,List.set_cons_succ])
 refine wpAnyH_take (i:=12) (v:=(.pointer (some ⟨R,0,none⟩))) rfl (by kernel_rfl) (by kernel_rfl) (by kernel_rfl) (fun _ _ _ h=>h) (Or.inl ⟨by rfl,?_⟩) hHeld ?_
 ·intro w' hS'
  obtain⟨hA,hB,hC,hD⟩:=hS'
  go_simp
 (try simp only[Act.put,List.setIfInBounds_toArray,List.set_cons_zero,List.set_cons_succ])
 refine wpAnyH_take (i:=13) (v:=(.pointer (some ⟨R,0,none⟩))) rfl (by kernel_rfl) (by kernel_rfl) (by kernel_rfl) (fun _ _ _ h=>h) (Or.inl ⟨by rfl,?_⟩) hHeld ?_
 ·intro w' hS'
  obtain⟨hA,hB,hC,hD⟩:=hS'
  go_simp
 (try simp only[Act.put,List.setIfInBounds_toArray,List.set_cons_zero,List.set_cons_succ])
 refine wpAnyH_take (i:=14) (v:=(.pointer (some ⟨R,0,none⟩))) rfl (by kernel_rfl) (by kernel_rfl) (by kernel_rfl) (fun _ _ _ h=>h) (Or.inl ⟨by rfl,?_⟩) hHeld ?_
 ·intro w' hS'
  obtain⟨hA,hB,hC,hD⟩:=hS'
  go_simp
 (try simp only[Act.put,List.setIfInBounds_toArray,List.set_cons_zero,List.set_cons_succ])
 refine wpAnyH_take (i:=15) (v:=(.pointer (some ⟨Q,0,none⟩))) rfl (by kernel_rfl) (by kernel_rfl) (by kernel_rfl) (fun _ _ _ h=>h) (Or.inl ⟨by rfl,?_⟩) hHeld ?_
 ·intro w' hS'
  obtain⟨hA,hB,hC,hD⟩:=hS'
  go_simp
 (try simp only[Act.put,List.setIfInBounds_toArray,List.set_cons_zero,List.set_cons_succ])
 refine wpAnyH_take (i:=16) (v:=(.pointer (some ⟨Q,0,none⟩))) rfl (by kernel_rfl) (by kernel_rfl) (by kernel_rfl) (fun _ _ _ h=>h) (Or.inl ⟨by rfl,?_⟩) hHeld ?_
 ·intro w' hS'
  obtain⟨hA,hB,hC,hD⟩:=hS'
  go_simp
 (try simp only[Act.put,List.setIfInBounds_toArray,List.set_cons_zero,List.set_cons_succ])
 refine wpAnyH_take (i:=17) (v:=(.pointer (some ⟨Q,0,none⟩))) rfl (by kernel_rfl) (by kernel_rfl) (by kernel_rfl) (fun _ _ _ h=>h) (Or.inl ⟨by rfl,?_⟩) hHeld ?_
 ·intro w' hS'
  obtain⟨hA,hB,hC,hD⟩:=hS'
  go_simp
 (try simp only[Act.put,List.setIfInBounds_toArray,List.set_cons_zero,List.set_cons_succ])
 refine wpAnyH_take (i:=18) (v:=(.pointer (some ⟨Q,3,none⟩))) rfl (by kernel_rfl) (by kernel_rfl) (by kernel_rfl) (fun _ _ _ h=>h) (Or.inl ⟨by rfl,?_⟩) hHeld ?_
 ·intro w' hS'
  obtain⟨hA,hB,hC,hD⟩:=hS'
  go_simp
 (try simp only[Act.put,List.setIfInBounds_toArray,List.set_cons_zero,List.set_cons_succ])
 refine wpAnyH_take (i:=19) (v:=(.slice (some ⟨g,0,none⟩) s.counts.length cap)) rfl (by kernel_rfl) (by kernel_rfl) (by kernel_rfl) (fun _ _ _ h=>h) (Or.inl ⟨by rfl,?_⟩) hHeld ?_
 ·intro w' hS'
  obtain⟨hA,hB,hC,hD⟩:=hS'
  go_simp
 (try simp only[Act.put,List.setIfInBounds_toArray,List.set_cons_zero,List.set_cons_succ])
 refine wpAnyH_take (i:=20) (v:=(.pointer (some ⟨R,0,none⟩))) rfl (by kernel_rfl) (by kernel_rfl) (by kernel_rfl) (fun _ _ _ h=>h) (Or.inl ⟨by rfl,?_⟩) hHeld ?_
 ·intro w' hS'
  obtain⟨hA,hB,hC,hD⟩:=hS'
  go_simp
 (try simp only[Act.put,List.setIfInBounds_toArray,List.set_cons_zero,List.set_cons_succ])
 refine wpAnyH_take (i:=21) (v:=(.pointer (some ⟨R,0,none⟩))) rfl (by kernel_rfl) (by kernel_rfl) (by kernel_rfl) (fun _ _ _ h=>h) (Or.inl ⟨by rfl,?_⟩) hHeld ?_
 ·intro w' hS'
  obtain⟨hA,hB,hC,hD⟩:=hS'
  go_simp
 (try simp only[Act.put,List.setIfInBounds_toArray,List.set_cons_zero,List.set_cons_succ])
 refine wpAnyH_take (i:=22) (v:=(.pointer (some ⟨R,1,none⟩))) rfl (by kernel_rfl) (by kernel_rfl) (by kernel_rfl) (fun _ _ _ h=>h) (Or.inl ⟨by rfl,?_⟩) hHeld ?_
 ·intro w' hS'
  obtain⟨hA,hB,hC,hD⟩:=hS'
  go_simp
 (try simp only[Act.put,List.setIfInBounds_toArray,List.set_cons_zero,List.set_cons_succ])
 refine wpAnyH_take (i:=23) (v:=(.int .i64 (at':Int))) rfl (by kernel_rfl) (by kernel_rfl) (by kernel_rfl) (fun _ _ _ h=>h) (Or.inl ⟨by rfl,?_⟩) hHeld ?_
 ·intro w' hS'
  obtain⟨hA,hB,hC,hD⟩:=hS'
  go_simp
 (try simp only[Act.put,List.setIfInBounds_toArray,List.set_cons_zero,List.set_cons_succ])
 refine wpAnyH_take (i:=24) (v:=(.pointer (some ⟨g,at',none⟩))) rfl (by kernel_rfl) (by kernel_rfl) (by kernel_rfl) (fun _ _ _ h=>h) (Or.inl ⟨by rfl,?_⟩) hHeld ?_
 ·intro w' hS'
  obtain⟨hA,hB,hC,hD⟩:=hS'
  go_simp
 (try simp only[Act.put,List.setIfInBounds_toArray,List.set_cons_zero,List.set_cons_succ])
 refine wpAnyH_take (i:=26) (v:=(.pointer (some ⟨R,0,none⟩))) rfl (by kernel_rfl) (by kernel_rfl) (by kernel_rfl) (fun _ _ _ h=>h) (Or.inl ⟨by rfl,?_⟩) hHeld ?_
 ·intro w' hS'
  obtain⟨hA,hB,hC,hD⟩:=hS'
  go_simp
 (try simp only[Act.put,List.setIfInBounds_toArray,List.set_cons_zero,List.set_cons_succ])
 refine wpAnyH_take (i:=27) (v:=(.pointer (some ⟨R,0,none⟩))) rfl (by kernel_rfl) (by kernel_rfl) (by kernel_rfl) (fun _ _ _ h=>h) (Or.inl ⟨by rfl,?_⟩) hHeld ?_
 ·intro w' hS'
  obtain⟨hA,hB,hC,hD⟩:=hS'
  go_simp
 (try simp only[Act.put,List.setIfInBounds_toArray,List.set_cons_zero,List.set_cons_succ])
 refine wpAnyH_take (i:=28) (v:=(.pointer (some ⟨R,3,none⟩))) rfl (by kernel_rfl) (by kernel_rfl) (by kernel_rfl) (fun _ _ _ h=>h) (Or.inl ⟨by rfl,?_⟩) hHeld ?_
 ·intro w' hS'
  obtain⟨hA,hB,hC,hD⟩:=hS'
  go_simp
 (try simp only[Act.put,List.setIfInBounds_toArray,List.set_cons_zero,List.set_cons_succ])
 refine wpAnyH_take (i:=29) (v:=(.slice (some ⟨g7,0,none⟩) (s.locals.length+1) cap7)) rfl (by kernel_rfl) (by kernel_rfl) (by kernel_rfl) (fun _ _ _ h=>h) (Or.inl ⟨by rfl,?_⟩) hHeld ?_
 ·intro w' hS'
  obtain⟨hA,hB,hC,hD⟩:=hS'
  go_simp
 (try simp only[Act.put,List.setIfInBounds_toArray,List.set_cons_zero,List.set_cons_succ])
 refine wpAnyH_take (i:=30) (v:=(.int .i64 ((s.locals.length:Int)+1))) rfl (by kernel_rfl) (by kernel_rfl) (by kernel_rfl) (fun _ _ _ h=>h) (Or.inl ⟨by rfl,?_⟩) hHeld ?_
 ·intro w' hS'
  obtain⟨hA,hB,hC,hD⟩:=hS'
  go_simp
 (try simp only[Act.put,List.setIfInBounds_toArray,List.set_cons_zero,List.set_cons_succ])
 refine wpAnyH_ready (rs:=[25]) (by kernel_rfl) (by simp) ?_
 refine AllReadyH.cons rfl (fun K hK=>?_) AllReadyH.nil
 go_simp
 refine hK.out _ _ ⟨r0,r1,r3,q3⟩ (fun hHeld=>?_)
 clear hK K
 (try simp only[Act.put,List.setIfInBounds_toArray,List.set_cons_zero,List.set_cons_succ])
 refine wpAnyH_take (i:=31) (v:=(.int .i64 ((max s.counts[at'] (s.locals.length+1):Nat):Int))) rfl (by kernel_rfl) (by kernel_rfl) (by kernel_rfl) (fun _ _ _ h=>h) (Or.inl ⟨by rfl,?_⟩) hHeld ?_
 ·intro w' hS'
  obtain⟨hA,hB,hC,hD⟩:=hS'
  go_simp
  split<;>omega
 (try simp only[Act.put,List.setIfInBounds_toArray,List.set_cons_zero,List.set_cons_succ])
 refine wpAnyH_take (i:=32) (v:=(.pointer (some ⟨g,at',none⟩))) rfl (by kernel_rfl) (by kernel_rfl) (by kernel_rfl) (fun _ _ _ h=>h) (Or.inl ⟨by rfl,?_⟩) hHeld ?_
 ·intro w' hS'
  obtain⟨hA,hB,hC,hD⟩:=hS'
  go_simp
 (try simp only[Act.put,List.setIfInBounds_toArray,List.set_cons_zero,List.set_cons_succ])
 refine wpAnyH_ready (rs:=[33]) (by kernel_rfl) (by simp) ?_
 refine AllReadyH.cons rfl (fun K hK=>?_) AllReadyH.nil
 go_simp
 refine hK.out _ _ HNK.out (fun hHeld=>?_)
 clear hK K hHeld
 refine wpAnyH_done (by kernel_rfl) ?_ _
 go_wp2_with fail
 go_ret
 exact⟨by first | rfl | simp[HWR.out],⟨vN,_,HFIN.out.1.below (Zg _ _).drew,((FrO.of_below HB.out).trans (HF8.out.trans (HFIN.out.2.trans (FrO.of_below (Zg _ _).drew) (Onto.refl _ _) (Onto.refl _ _)) (Onto.refl _ _) HON.out) (Onto.refl _ _) (Onto.refl _ _)),Onto.refl _ _,(Onto.refl _ _).trans HON.out HB.out.size⟩,HOK.out⟩
theorem MkO.restW{w w':World}{c:CnO}{s:MW}{vN:Value}(h:MkO w c s vN)(hk:∀k,k<w.heap.size->k≠c.Q->¬Fj w k->w'.heap[k]?=w.heap[k]?):w'.ownsRow c.BB 9 1 vN s.names.length (B5 s.names)/\ClsN w' c.Q c.vC c.cls:=by
 obtain⟨xs,hx,hxs⟩:=h.cls.row
 obtain⟨vL,vK,vis,ho,_⟩:=h.obj
 exact⟨AF h.names fun g e=>hk g (h.names.lt g e).2 (fun e'=>by have:=(h.names.lt g e).1;have:=h.qb;omega) (CB h.names (by decide) (by decide) (by decide) e),⟨xs,AF hx fun g e=>hk g (hx.lt g e).2 (fun e'=>by have:=(hx.lt g e).1;omega) (CB hx (by decide) (by decide) (by decide) e),hxs⟩⟩
theorem MkO.listW{w w7:World}{c:CnO}{s:MW}{vN vL vK v':Value}{vis:List Value}(h:MkO w c s vN)(ho:MkObj w c.Q c.vC vN vL vK c.vS)(hr:RowsO w (c.Q+1) vL vis s.lists)(hc:w.ownsRow (c.Q+1) 3 1 vK s.counts.length (CE s.counts))(hg:w.grownBy w7 vL.ownBlock)(h7:w7.ownsRow (c.Q+1) 33 1 v' (s.lists.length+1) (vis++[.slice none 0 0])) :
  MkO (w7.setCell ⟨c.Q,2,none⟩ v') c { s with lists:=s.lists++[[]] } vN/\MkObj (w7.setCell ⟨c.Q,2,none⟩ v') c.Q c.vC vN v' vK c.vS/\RowsO (w7.setCell ⟨c.Q,2,none⟩ v') (c.Q+1) v' (vis++[.slice none 0 0]) (s.lists++[[]])/\(w7.setCell ⟨c.Q,2,none⟩ v').ownsRow (c.Q+1) 3 1 vK s.counts.length (CE s.counts)/\FrO w (w7.setCell ⟨c.Q,2,none⟩ v') c.Q c.Q vN (.slice none 0 0):=by
 have hb:∀k,k<w.heap.size->k≠c.Q->vL.ownBlock≠some k->(w7.setCell ⟨c.Q,2,none⟩ v').heap[k]?=w.heap[k]?:=fun k h1 h2 h3=>(Zm _ _ _ _ h2).trans (hg.block k h1 (fun e=>h3 e.symm))
 have hsz:w.heap.size<=(w7.setCell ⟨c.Q,2,none⟩ v').heap.size:=by have:=hg.size;simp;exact this
 have hQ7:MkObj w7 c.Q c.vC vN vL vK c.vS:=(hg.block _ ho.lt (fun e=>AJ hr.row ho (by decide) e.symm)).trans ho
 have hR7:=hr.more hg h7
 have hR8:RowsO (w7.setCell ⟨c.Q,2,none⟩ v') (c.Q+1) v' (vis++[.slice none 0 0]) (s.lists++[[]]):=hR7.same fun k cc fz e hk ht=>Zm _ _ _ _ (fun e'=>by
  have hk':=hk
  have hQ':w7.heap[k]?=some (.cells #[c.vC,vN,vL,vK,c.vS] 45):=by rw[e'];exact hQ7
  rw[hk]at hQ'
  injection hQ' with hQ'
  injection hQ' with _ hQ' _
  rcases ht with rfl | rfl<;>cases hQ')
 have hc8:(w7.setCell ⟨c.Q,2,none⟩ v').ownsRow (c.Q+1) 3 1 vK s.counts.length (CE s.counts):=AF hc fun g e=>hb g (hc.lt g e).2 (fun e'=>by have:=(hc.lt g e).1;omega) (BI hc hr.row (by decide) e)
 obtain⟨n8,c8⟩:=h.restW (w':=w7.setCell ⟨c.Q,2,none⟩ v') fun k h1 h2 h3=>hb k h1 h2 (fun e=>h3 (ET hr.row (Or.inr (Or.inl rfl)) e))
 exact⟨⟨⟨v',vK,_,hQ7.setL v',hR8,hc8⟩,n8,c8,h.qb,Za h.size hsz⟩,hQ7.setL v',hR8,hc8,⟨hg.os,hg.tape,hg.output,hsz,fun k h1 h2 _ _ _ h6=>hb k h1 h2 (fun e=>by
  rcases h6 with h6 | h6
  ·have:=(hr.row.lt k e).1;omega
  ·exact h6 (ET hr.row (Or.inr (Or.inl rfl)) e))⟩⟩
theorem MkO.needW{w w7:World}{c:CnO}{s:MW}{vN vL vK v':Value}{vis:List Value}{k0:Nat}(h:MkO w c s vN)(ho:MkObj w c.Q c.vC vN vL vK c.vS)(hr:RowsO w (c.Q+1) vL vis s.lists)(hc:w.ownsRow (c.Q+1) 3 1 vK s.counts.length (CE s.counts))(hg:w.grownBy w7 vK.ownBlock)(h7:w7.ownsRow (c.Q+1) 3 1 v' (s.counts.length+1) (CE s.counts++[.int .i64 (k0:Int)])) :
  MkO (w7.setCell ⟨c.Q,3,none⟩ v') c { s with counts:=s.counts++[k0] } vN/\MkObj (w7.setCell ⟨c.Q,3,none⟩ v') c.Q c.vC vN vL v' c.vS/\FrO w (w7.setCell ⟨c.Q,3,none⟩ v') c.Q c.Q vN (.slice none 0 0):=by
 have hb:∀k,k<w.heap.size->k≠c.Q->vK.ownBlock≠some k->(w7.setCell ⟨c.Q,3,none⟩ v').heap[k]?=w.heap[k]?:=fun k h1 h2 h3=>(Zm _ _ _ _ h2).trans (hg.block k h1 (fun e=>h3 e.symm))
 have hsz:w.heap.size<=(w7.setCell ⟨c.Q,3,none⟩ v').heap.size:=by have:=hg.size;simp;exact this
 have hQ7:MkObj w7 c.Q c.vC vN vL vK c.vS:=(hg.block _ ho.lt (fun e=>AJ hc ho (by decide) e.symm)).trans ho
 have hR8:RowsO (w7.setCell ⟨c.Q,3,none⟩ v') (c.Q+1) vL vis s.lists:=hr.same fun k cc fz e hk ht=>hb k (Array.getElem?_eq_some_iff.1 hk).1 (fun e'=>by
  have hQ':w.heap[k]?=some (.cells #[c.vC,vN,vL,vK,c.vS] 45):=by rw[e'];exact ho
  rw[hk]at hQ'
  injection hQ' with hQ'
  injection hQ' with _ hQ' _
  rcases ht with rfl | rfl<;>cases hQ') (AJ hc hk (by rcases ht with rfl | rfl<;>decide))
 have hc8:(w7.setCell ⟨c.Q,3,none⟩ v').ownsRow (c.Q+1) 3 1 v' (s.counts++[k0]).length (CE (s.counts++[k0])):=by
  have e:CE (s.counts++[k0])=CE s.counts++[.int .i64 (k0:Int)]:=List.map_append
  rw[e,Z1]
  exact ownsRow_setCell_other h7 (a:=⟨c.Q,3,none⟩) (fun e=>by have:=(h7.lt c.Q e).1;omega) _
 obtain⟨n8,c8⟩:=h.restW (w':=w7.setCell ⟨c.Q,3,none⟩ v') fun k h1 h2 h3=>hb k h1 h2 (fun e=>h3 (ET hc (Or.inl rfl) e))
 exact⟨⟨⟨vL,v',vis,hQ7.setK v',hR8,hc8⟩,n8,c8,h.qb,Za h.size hsz⟩,hQ7.setK v',⟨hg.os,hg.tape,hg.output,hsz,fun k h1 h2 _ _ _ h6=>hb k h1 h2 (fun e=>by
  rcases h6 with h6 | h6
  ·have:=(hc.lt k e).1;omega
  ·exact h6 (ET hc (Or.inl rfl) e))⟩⟩
theorem Pa(w:World)(a:Addr)(u:Value)(xs:List Value)(e:TypeId):∀j y,xs[j]?=some y->((w.setCell a u).alloc (.cells xs.toArray e)).cell? ((⟨w.heap.size,0,none⟩:Addr).add j)=some y:=by
 have h:=EA (w.setCell a u) xs e
 rw[show(w.setCell a u).heap.size=w.heap.size by simp]at h
 exact h
theorem UQ:∀x∈[Value.slice none 0 0],x.oneCell'=true:=fun x hx=>by simp at hx;subst hx;rfl
theorem UR(k:Int):∀x∈[Value.int .i64 k],x.oneCell'=true:=fun x hx=>by simp at hx;subst hx;rfl
theorem JF(c:CnO)(vN:Value)(s:MW)(k:Nat)(w:World)(h:MkO w c s vN)(hfew:s.lists.length<=900000)(hcn:s.counts.length<=900000) :
  Calls Tryz.prog 9 #[.pointer (some ⟨c.Q,0,none⟩),.int .i64 (k:Int)] w fun e w'=>e=.returned (.int .i64 (s.lists.length:Int))/\MkO w' c (s.begin k) vN/\FrO w w' c.Q c.Q vN (.slice none 0 0):=by
 obtain⟨vL,vK,vis,ho,hr,hc⟩:=h.obj
 obtain⟨la,lc,rfl⟩:=Aq hr.row
 obtain⟨ka,kc,rfl⟩:=Aq hc
 have hb0:Below w.heap.size w (w.alloc (.cells #[.slice none 0 0] 33)):=(Zg _ _).alloc (Z0 _) _
 have HA:Hid (MkO (w.alloc (.cells #[.slice none 0 0] 33)) c s vN):=h.below hb0
 have HO:Hid (MkObj (w.alloc (.cells #[.slice none 0 0] 33)) c.Q c.vC vN (.slice la s.lists.length lc) (.slice ka s.counts.length kc) c.vS):=(hb0.block _ ho.lt).trans ho
 have HR:Hid (RowsO (w.alloc (.cells #[.slice none 0 0] 33)) (c.Q+1) (.slice la s.lists.length lc) vis s.lists):=hr.same fun k _ _ _ hc _=>hb0.block k (Array.getElem?_eq_some_iff.1 hc).1
 have HC:Hid ((w.alloc (.cells #[.slice none 0 0] 33)).ownsRow (c.Q+1) 3 1 (.slice ka s.counts.length kc) s.counts.length (CE s.counts)):=AF hc fun g e=>hb0.block g (hc.lt g e).2
 have HB:Hid (Below w.heap.size w (w.alloc (.cells #[.slice none 0 0] 33))):=hb0
 obtain⟨⟨_,_,k2,k3,_⟩,kz⟩:=ho.cells
 have z2:=kz 2
 have hlq:=ho.lt
 have hrow:=HR.out.row
 have hQL:(Value.slice la s.lists.length lc).ownBlock≠some c.Q:=AJ hr.row ho (by decide)
 have hn1:=EA w [.slice none 0 0] 33
 have hq1:c.Q+1<=(w.alloc (.cells #[.slice none 0 0] 33)).heap.size:=by have:=hb0.size;omega
 have HWR:Hid (wrap64 (s.lists.length:Int)=(s.lists.length:Int)):=by show _=_;unfold wrap64;omega
 clear h ho hr hc hb0
 go_enter Tryz.func9,Tryz.ntmps9
 go_wp2_with (first
  | (at_builtin;refine Az Uz rfl (.tmp 21) (.tmp 23) rfl (c.Q+1) s.counts.length 1 (.slice ka s.counts.length kc) (CE s.counts) [.int .i64 (k:Int)] rfl hown9 ⟨w7.heap.size,0,none⟩ rfl rfl hn9 (UR _) (by omega) hq9 ?_;intro g9 cap9 w9 O9 hg9 hw9;have H9:=(H8.1.below hb8).needW (k0:=k) ho8 (H8.2.2.1.same fun k _ _ _ hc _=>hb8.block k (Array.getElem?_eq_some_iff.1 hc).1) hown9 hg9 O9;have ho9:MkObj w9 c.Q c.vC vN (.slice (some ⟨g7,0,none⟩) (s.lists.length+1) cap7) (.slice ka s.counts.length kc) c.vS:=(hg9.block c.Q ho8.lt (fun e=>AJ hown9 ho8 (by decide) e.symm)).trans ho8;obtain⟨⟨_,_,x2,x3,_⟩,xz⟩:=ho9.cells;have x4:=xz 3;have hl9:=ho9.lt)
  | (at_builtin;refine Az Uo rfl (.tmp 10) (.tmp 11) rfl (c.Q+1) s.lists.length 1 (.slice la s.lists.length lc) vis [.slice none 0 0] rfl hrow ⟨w.heap.size,0,none⟩ rfl rfl hn1 UQ (by omega) hq1 ?_;intro g7 cap7 w7 O7 hg7 hw7;have hl7:c.Q<w7.heap.size:=(by have:=hg7.size;simp at this;omega);have hQ7:=hg7.block c.Q (by simp;omega) (fun e=>hQL e.symm);have ho7:MkObj w7 c.Q c.vC vN (.slice la s.lists.length lc) (.slice ka s.counts.length kc) c.vS:=hQ7.trans HO.out;obtain⟨⟨_,_,y2,y3,_⟩,yz⟩:=ho7.cells;have y4:=yz 2;have H8:=HA.out.listW HO.out HR.out HC.out hg7 O7;have hb8:=(Zg _ (w7.setCell ⟨c.Q,2,none⟩ (.slice (some ⟨g7,0,none⟩) (s.lists.length+1) cap7))).alloc (Z0 _) (.cells #[.int .i64 (k:Int)] 3);have hown9:=AF H8.2.2.2.1 (fun g e=>hb8.block g (H8.2.2.2.1.lt g e).2);have ho8:MkObj ((w7.setCell ⟨c.Q,2,none⟩ (.slice (some ⟨g7,0,none⟩) (s.lists.length+1) cap7)).alloc (.cells #[.int .i64 (k:Int)] 3)) c.Q c.vC vN (.slice (some ⟨g7,0,none⟩) (s.lists.length+1) cap7) (.slice ka s.counts.length kc) c.vS:=(hb8.block _ H8.2.1.lt).trans H8.2.1;have hn9:=Pa w7 ⟨c.Q,2,none⟩ (.slice (some ⟨g7,0,none⟩) (s.lists.length+1) cap7) [.int .i64 (k:Int)] 3;have hq9:c.Q+1<=((w7.setCell ⟨c.Q,2,none⟩ (.slice (some ⟨g7,0,none⟩) (s.lists.length+1) cap7)).alloc (.cells #[.int .i64 (k:Int)] 3)).heap.size:=ho8.lt))
 go_ret
 have hon9:True:=trivial
 exact⟨by first | rfl | simp[HWR.out],H9.1,(FrO.of_below HB.out).trans (H8.2.2.2.2.trans ((FrO.of_below hb8).trans H9.2.2 (Onto.refl _ _) (Onto.refl _ _)) (Onto.refl _ _) (Onto.refl _ _)) (Onto.refl _ _) (Onto.refl _ _)⟩
theorem WrO.of_mk{w w':World}{c:CnO}{R at':Nat}{vs vN vN' vl:Value}{slots:List ByteArray}{s s':MW}(h:WrO w c R at' vs slots s vN vl)(hm:MkO w' c s' vN')(hf:FrO w w' c.Q c.Q vN (.slice none 0 0))(hon:Onto w vN vN')(hl:s'.locals=s.locals):WrO w' c R at' vs slots s' vN' vl/\FrO w w' c.Q R vN vl:=by
 have hqb:=h.mkr.qb
 have hrb:=h.rb
 have nn:∀k,(Value.slice none 0 0).ownBlock≠some k:=fun k e=>by cases e
 obtain⟨vL,vK,vis,ho,_⟩:=h.mkr.obj
 refine⟨⟨hm,(hf.block R h.obj.lt (by omega) (by omega) (AJ h.mkr.names h.obj (by decide)) (nn R) (Or.inr (D4 h.obj (by decide) (by decide) (by decide)))).trans h.obj,?_,fun g e e'=>?_,?_,h.low,h.rb⟩,⟨hf.os,hf.tape,hf.output,hf.size,fun k h1 h2 _ h4 _ h6=>hf.block k h1 h2 h2 h4 (nn k) h6⟩⟩
 ·rw[hl]
  exact AF h.row fun g e=>hf.block g (h.row.lt g e).2 (by have:=(h.row.lt g e).1;omega) (by have:=(h.row.lt g e).1;omega) (fun e'=>h.apart g e' e) (nn g) (Or.inr (CB h.row (by decide) (by decide) (by decide) e))
 ·rcases hon with hon | hon
  ·exact h.apart g (by rw[<-hon];exact e) e'
  ·have:=hon g e;have:=(h.row.lt g e').2;omega
 ·exact AF h.slots fun g e=>hf.block g (h.slots.lt g e).2 (by have:=(h.slots.lt g e).1;omega) (by have:=(h.slots.lt g e).1;omega) (fun e'=>by have:=h.low g e;have:=(h.mkr.names.lt g e').1;omega) (nn g) (Or.inr (CB h.slots (by decide) (by decide) (by decide) e))
def OpsW(w:World)(Q:Nat):Prop:=0<Q/\∀k:Nat,k<30->w.cell? ⟨0,k,none⟩=some (.int .i64 (opP (k:Int)))
structure WrP(w:World)(c:CnO)(R at':Nat)(vs:Value)(slots:List ByteArray)(s:MW)(vN vl:Value):Prop where
 wr:WrO w c R at' vs slots s vN vl
 ops:OpsW w c.Q
def OutP(w:World)(c:CnO)(R at':Nat)(vs:Value)(slots:List ByteArray)(s':MW)(vN vl:Value)(w':World):Prop:=∃vN' vl',WrP w' c R at' vs slots s' vN' vl'/\FrO w w' c.Q R vN vl/\Onto w vN vN'/\Onto w vl vl'
theorem OpsW.fr{w w':World}{c:CnO}{R at':Nat}{vs vN vl:Value}{slots:List ByteArray}{s:MW}(h:OpsW w c.Q)(hw:WrO w c R at' vs slots s vN vl)(hf:FrO w w' c.Q R vN vl):OpsW w' c.Q:=by
 have hqb:=hw.mkr.qb
 have hrb:=hw.rb
 have hsz:=hw.mkr.size
 have h1:=h.1
 refine⟨h.1,fun k hk=>?_⟩
 rw[World.cell?_of_block (w:=w) (a:=⟨0,k,none⟩) (hf.block 0 (by omega) (by omega) (by omega) (fun e=>by have:=(hw.mkr.names.lt _ e).1;omega) (fun e=>by have:=(hw.row.lt _ e).1;omega) (Or.inl (by omega)))]
 exact h.2 k hk
theorem OutO.p{w w':World}{c:CnO}{R at':Nat}{vs vN vl:Value}{slots:List ByteArray}{s s':MW}(h:OutO w c R at' vs slots s' vN vl w')(hw:WrP w c R at' vs slots s vN vl):OutP w c R at' vs slots s' vN vl w':=by
 obtain⟨vN',vl',a,b,d,e⟩:=h
 exact⟨vN',vl',⟨a,hw.ops.fr hw.wr b⟩,b,d,e⟩
theorem WrP.below{w w':World}{c:CnO}{R at':Nat}{vs vN vl:Value}{slots:List ByteArray}{s:MW}(h:WrP w c R at' vs slots s vN vl)(hb:Below w.heap.size w w'):WrP w' c R at' vs slots s vN vl:=⟨h.wr.below hb,h.ops.fr h.wr (FrO.of_below hb)⟩
theorem OutP.trans{w w1 w2:World}{c:CnO}{R at':Nat}{vs:Value}{slots:List ByteArray}{s':MW}{vN vl vN1 vl1:Value}(h:FrO w w1 c.Q R vN vl)(hN:Onto w vN vN1)(hl:Onto w vl vl1)(h1:OutP w1 c R at' vs slots s' vN1 vl1 w2):OutP w c R at' vs slots s' vN vl w2:=by
 obtain⟨vN2,vl2,a,b,d,e⟩:=h1
 exact⟨vN2,vl2,a,h.trans b hN hl,hN.trans d h.size,hl.trans e h.size⟩
abbrev Ahd (Q:Nat):Nat->Prop:=fun k=>k<Q
theorem FrO.ahd{w w':World}{c:CnO}{R at':Nat}{vs vN vl:Value}{slots:List ByteArray}{s:MW}(hw:WrO w c R at' vs slots s vN vl)(hf:FrO w w' c.Q R vN vl):Above (Ahd c.Q) w w':=by
 have hqb:=hw.mkr.qb
 have hrb:=hw.rb
 exact⟨hf.size,fun k h1 h2=>hf.block k h2 (by have:k<c.Q:=h1;omega) (by have:k<c.Q:=h1;omega) (fun e=>by have:=(hw.mkr.names.lt _ e).1;have:k<c.Q:=h1;omega) (fun e=>by have:=(hw.row.lt _ e).1;have:k<c.Q:=h1;omega) (Or.inl (by have:k<c.Q:=h1;omega))⟩
def DZ(c:CnO)(n:Nd):Prop:=∀(R at':Nat) (vs vN vl u:Value) (slots:List ByteArray) (s:MW) (b:Nat) (w:World),WrP w c R at' vs slots s vN vl->at'<s.lists.length->FewO s b->b+4*A0 n<=90000->NodeV w (Ahd c.Q) u n ->
 Calls Tryz.prog 33 #[.pointer (some ⟨R,0,none⟩),u] w fun e w'=>e=.returned (.tuple #[])/\OutP w c R at' vs slots (AB c.cls slots at' n s) vN vl w'
theorem Q5(cls slots:List ByteArray)(n:Nd)(k:Nat)(s:MW):s.lists.length<=(AB cls slots k n s).lists.length:=by
 exact B3 cls slots n k s
theorem MM(c:CnO)(ks:List Nd)(hks:∀i (h:i<ks.length),DZ c ks[i])(R at':Nat)(vs vN vl u:Value)(slots:List ByteArray)(s:MW)(b:Nat)(w:World)(h:WrP w c R at' vs slots s vN vl)(hat:at'<s.lists.length)(hf:FewO s b)(hb:b+4*A2 ks<=90000)(hu:KidsV w (Ahd c.Q) u ks) :
  Calls Tryz.prog 20 #[.pointer (some ⟨R,0,none⟩),u] w fun e w'=>e=.returned (.tuple #[])/\OutP w c R at' vs slots (B0 c.cls slots at' ks s) vN vl w':=by
 obtain⟨ad,c0,hu1,hkk⟩:=hu
 obtain⟨cc,hcc⟩:∃cc,c0+ks.length=cc:=⟨_,rfl⟩
 rw[hcc]at hu1
 clear hcc
 subst hu1
 have hkl:=EL ks
 obtain⟨Z,HR⟩:∃Z,Hid (B0 c.cls slots at' ks s=Z):=⟨_,rfl⟩
 rw[HR.out]
 have HW:Hid (WrP w c R at' vs slots s vN vl):=h
 have HKK:Hid (0<ks.length->∃b o,ad=some ⟨b,o,none⟩/\Ahd c.Q b/\b<w.heap.size/\NodesAt w (Ahd c.Q) b o ks):=hkk
 have HN:Hid (b+4*A2 ks<=90000):=hb
 have HF:Hid (FewO s b):=hf
 have HT:Hid (at'<s.lists.length):=hat
 have HKS:Hid (∀i (h:i<ks.length),DZ c ks[i]):=hks
 have hlen:ks.length<=900000:=by omega
 clear h hkk hb hks hkl hf hat
 go_enter Tryz.func20,Tryz.ntmps20
 go_wp2_with fail
 go_loopw [8] (fun s8 wr=>∃(i b1:Nat) (s1:MW) (vN1 vl1:Value),s8=.int .i64 i/\i<=ks.length/\Hid (B0 c.cls slots at' (ks.drop i) s1=Z)/\Hid (b1+4*A2 (ks.drop i)<=90000)/\Hid (FewO s1 b1)/\Hid (at'<s1.lists.length)/\Hid (WrP wr c R at' vs slots s1 vN1 vl1)/\Hid (FrO w wr c.Q R vN vl)/\Hid (Onto w vN vN1)/\Hid (Onto w vl vl1)) (fun s8 _=>900001-(intOf s8).toNat)
 case atStart=>exact⟨0,b,s,vN,vl,rfl,Z3 _,HR,HN,HF,HT,HW,FrO.refl _ _ _ _ _,Onto.refl _ _,Onto.refl _ _⟩
 case round=>
  obtain⟨i,b1,s1,vN1,vl1,rfl,hi,HR1,HN1,HF1,HT1,HW1,HK1,HO1,HL1⟩:=hrel
  by_cases hlt:i<ks.length
  ·have hil:(i:Int)<(ks.length:Int):=by omega
   have hwi:=Ao (x:=(i:Int)+1) (by omega) (by omega)
   obtain⟨b,o,rfl,hMb,hbw,hnodes⟩:=HKK.out (by omega)
   have hab:=HK1.out.ahd HW.out.wr
   have hkw:NodesAt wr (Ahd c.Q) b o ks:=NodesAt.above hab ks b o hMb hbw hnodes
   obtain⟨x,hkx,c0,c1,c2,c3⟩:=CV hkw hlt
   have hkx2:=hkx
   obtain⟨adx,cx0,hxx,_⟩:=hkx2
   obtain⟨cx,hcx⟩:∃cx,cx0+ks[i].kids.length=cx:=⟨_,rfl⟩
   rw[hcx]at hxx
   clear hcx
   have hbr:b<wr.heap.size:=by have:=hab.size;omega
   have hdr:ks.drop i=ks[i]::ks.drop (i+1):=Z4 hlt
   have hsz:A2 (ks.drop i)=A0 ks[i]+A2 (ks.drop (i+1)):=by rw[hdr];conv=>lhs;unfold A2
   have hNb:b1+4*A0 ks[i]<=90000:=by have:=HN1.out;omega
   have hun:(CA ks[i] x).toArray=#[.int .i64 ks[i].kind,.string (strOfNums ks[i].text),.int .i64 ks[i].num,x]:=rfl
   have hb1:Below wr.heap.size wr (wr.alloc (.cells (CA ks[i] x).toArray 39)):=(Zg _ _).alloc (Z0 _) _
   have hcl:=HKS.out i hlt R at' vs vN1 vl1 (.agg (CA ks[i] x).toArray) slots s1 b1 (wr.alloc (.cells (CA ks[i] x).toArray 39)) (HW1.out.below hb1) HT1.out HF1.out hNb ⟨x,rfl,hkx.above (Zk hb1)⟩
   rw[hun]at hcl hb1
   have HB1:Hid (FrO wr (wr.alloc (.cells #[.int .i64 ks[i].kind,.string (strOfNums ks[i].text),.int .i64 ks[i].num,x] 39)) c.Q R vN1 vl1):=FrO.of_below hb1
   have HRE:Hid (B0 c.cls slots at' (ks.drop (i+1)) (AB c.cls slots at' ks[i] s1)=Z):=by
    show _=_
    rw[<-HR1.out,hdr]
    conv=>rhs;unfold B0
   have HF2:Hid (FewO (AB c.cls slots at' ks[i] s1) (b1+4*A0 ks[i])):=Bl _ _ _ _ _ _ HF1.out
   have HN2:Hid (b1+4*A0 ks[i]+4*A2 (ks.drop (i+1))<=90000):=by show _<=_;have:=HN1.out;omega
   have HT2:Hid (at'<(AB c.cls slots at' ks[i] s1).lists.length):=Z5 HT1.out (Q5 _ _ _ _ _)
   clear hnodes hkw hdr hsz hun hb1
   generalize AB c.cls slots at' ks[i] s1=s2 at *
   generalize b1+4*A0 ks[i]=b2 at *
   subst hxx
   generalize ks[i].kind=y0 at *
   generalize strOfNums ks[i].text=y1 at *
   generalize ks[i].num=y2 at *
   go_wp2_with (first | (go_at_call 33;refine hcl.mono ?_;rintro e w2 ⟨rfl,vN2,vl2,hw2,hf2,hn2,hl2⟩))
   exact⟨⟨i+1,b2,s2,vN2,vl2,by simp,by omega,HRE,HN2,HF2,HT2,hw2,HK1.out.trans (HB1.out.trans hf2 (Onto.refl _ _) (Onto.refl _ _)) HO1.out HL1.out,HO1.out.trans ((Onto.refl _ _).trans hn2 HB1.out.size) HK1.out.size,HL1.out.trans ((Onto.refl _ _).trans hl2 HB1.out.size) HK1.out.size⟩,by simp[intOf];omega⟩
  ·have hil:¬(i:Int)<(ks.length:Int):=by omega
   have HE:Hid (Z=s1):=by
    show _=_
    rw[<-HR1.out,Z9 (by omega),B0]
   go_wp2_with fail
   refine bodyPost_end (v:=.tuple #[]) (by simp[results,Tryz.results20,go_sem]) rfl ?_
   rw[HE.out]
   exact⟨rfl,vN1,vl1,HW1.out,HK1.out,HO1.out,HL1.out⟩
theorem Sv{w:World}{B n m cap:Nat}{ad:Option Addr}{xs ys:List Value}{e:TypeId}(h:w.ownsRow B e 1 (.slice ad n cap) n (xs++ys))(hx:xs.length=m):w.ownsRow B e 1 (.slice ad m cap) m xs:=by
 refine⟨by omega,?_⟩
 have hl:=h.1
 rw[Z1]at hl
 rcases h.2 with⟨e0,h0⟩ | ⟨g,cap',cur,e1,hb,hg,h1,h2,h3,h4⟩
 ·injection e0 with e1 e2 e3
  subst e1 e3
  have:m=0:=by omega
  subst this
  exact Or.inl ⟨rfl,rfl⟩
 ·injection e1 with e1 e2 e3
  subst e1 e3
  refine Or.inr ⟨g,cap,cur,rfl,hb,hg,by omega,h2,h3,?_⟩
  have e1:cur.toList.take m=(cur.toList.take (n*1)).take m:=by rw[List.take_take,Nat.min_eq_left (by omega)]
  rw[Nat.mul_one,e1,h4,List.take_append_of_le_length (by omega),List.take_of_length_le (by omega)]
theorem WrO.cutW{w:World}{c:CnO}{R at' n cap:Nat}{vs vN:Value}{ad:Option Addr}{slots l:List ByteArray}{s:MW}(h:WrO w c R at' vs slots s vN (.slice ad n cap))(hl:l <+: s.locals):WrO (w.setCell ⟨R,3,none⟩ (.slice ad l.length cap)) c R at' vs slots (s.back l) vN (.slice ad l.length cap)/\FrO w (w.setCell ⟨R,3,none⟩ (.slice ad l.length cap)) c.Q R vN (.slice ad n cap):=by
 obtain⟨t,ht⟩:=hl
 have hr:=h.row
 have hn:n=s.locals.length:=by
  rcases hr.2 with⟨e0,h0⟩ | ⟨g,cap',cur,e1,_⟩
  ·injection e0 with e1 e2 e3;omega
  ·injection e1
 subst hn
 rw[<-ht,show B5 (l++t)=B5 l++B5 t from List.map_append]at hr
 refine h.rowW (w7:=w) ⟨rfl,rfl,rfl,Z0 _,fun _ _ _=>rfl⟩ (Or.inl ?_) ?_
 ·cases ad<;>rfl
 ·rw[ht]at hr
  exact Sv hr (Hx l)
theorem RK(c:CnO)(k m:Int)(tx:List Int)(ks:List Nd)(hks:∀i (h:i<ks.length),DZ c ks[i])(R at':Nat)(vs vN vl u:Value)(slots:List ByteArray)(s:MW)(b:Nat)(w:World)(h:WrP w c R at' vs slots s vN vl)(hat:at'<s.lists.length)(hf:FewO s b)(hb:b+4*A2 ks<=90000)(hu:NodeV w (Ahd c.Q) u (.mk k tx m ks)) :
  Calls Tryz.prog 11 #[.pointer (some ⟨R,0,none⟩),u] w fun e w'=>e=.returned (.tuple #[])/\OutP w c R at' vs slots ((B0 c.cls slots at' ks s).back s.locals) vN vl w':=by
 obtain⟨xk,hu1,ad,c0,hx1,hkk⟩:=hu
 obtain⟨cc,hcc⟩:∃cc,c0+ks.length=cc:=⟨_,rfl⟩
 have hx2:xk=.slice ad ks.length cc:=by rw[<-hcc];exact hx1
 subst hx2
 have hu2:u=.agg #[.int .i64 k,.string (strOfNums tx),.int .i64 m,.slice ad ks.length cc]:=hu1
 subst hu2
 have hkv:KidsV w (Ahd c.Q) (.slice ad ks.length cc) ks:=⟨ad,c0,by rw[hcc],hkk⟩
 have hb0:Below w.heap.size w (w.alloc (.cells #[.int .i64 k,.string (strOfNums tx),.int .i64 m,.slice ad ks.length cc] 39)):=(Zg _ w).alloc (Z0 _) _
 have hw1:=h.below hb0
 obtain⟨la,lc,rfl,_,_⟩:=BS h.wr.row
 obtain⟨⟨_,_,_,k3⟩,_⟩:=hw1.wr.obj.cells
 have hlr:=hw1.wr.obj.lt
 obtain⟨⟨x0,x1,x2,x3⟩,_⟩:=(Box4.new w (.int .i64 k) (.string (strOfNums tx)) (.int .i64 m) (.slice ad ks.length cc)).facts
 have hcl:=MM c ks hks R at' vs vN _ _ slots s b _ hw1 hat hf hb (hkv.above (Zk hb0))
 have HF0:Hid (FrO w (w.alloc (.cells #[.int .i64 k,.string (strOfNums tx),.int .i64 m,.slice ad ks.length cc] 39)) c.Q R vN (.slice la s.locals.length lc)):=FrO.of_below hb0
 have HP:Hid (s.locals <+: (B0 c.cls slots at' ks s).locals):=KX _ _ _ _ _
 generalize B0 c.cls slots at' ks s=s2 at *
 have hpl:s.locals.length<=s2.locals.length:=HP.out.length_le
 generalize strOfNums tx=tb at *
 clear h hw1 hkv hb0 hkk hks hf hb hu1 hx1 hcc hat
 go_enter Tryz.func11,Tryz.ntmps11
 go_wp2_with (first | (go_at_call 20;refine hcl.mono ?_;rintro e w2 ⟨rfl,vN2,vl2,hw2,hf2,hn2,hl2⟩;obtain⟨la2,lc2,rfl,hlc2,hml2⟩:=BS hw2.wr.row;obtain⟨⟨_,_,_,y3⟩,yz⟩:=hw2.wr.obj.cells;have yz3:=yz 3;have hlr2:=hw2.wr.obj.lt;have hci:(s.locals.length:Int)<=(lc2:Int):=(by omega)))
 have hcut:=hw2.wr.cutW HP.out
 have hfin:=HF0.out.trans (hf2.trans hcut.2 hn2 hl2) (Onto.refl _ _) (Onto.refl _ _)
 refine bodyPost_end (v:=.tuple #[]) (by simp[results,Tryz.results11,go_sem]) rfl ⟨rfl,vN2,_,⟨hcut.1,hw2.ops.fr hw2.wr hcut.2⟩,hfin,(Onto.refl _ _).trans hn2 HF0.out.size,((Onto.refl _ _).trans hl2 HF0.out.size).trans (Or.inl ?_) (Za HF0.out.size hf2.size)⟩
 cases la2<;>rfl
structure NT(w:World)(Q:Nat)(ad:Option Addr)(i:Nat)(n:Nd)(b o:Nat)(adx:Option Addr)(lx cx:Nat):Prop where
 is:ad=some ⟨b,o,none⟩
 lt:b<w.heap.size
 low:b<Q
 kind:w.cell? ⟨b,o+i*4,none⟩=some (.int .i64 n.kind)
 text:w.cell? ⟨b,o+i*4+1,none⟩=some (.string (strOfNums n.text))
 num:w.cell? ⟨b,o+i*4+2,none⟩=some (.int .i64 n.num)
 kids:w.cell? ⟨b,o+i*4+3,none⟩=some (.slice adx lx cx)
 node:NodeV w (Ahd Q) (.agg #[.int .i64 n.kind,.string (strOfNums n.text),.int .i64 n.num,.slice adx lx cx]) n
theorem Dy{w:World}{Q:Nat}{ad:Option Addr}{ks:List Nd}(hkk:0<ks.length->∃b o,ad=some ⟨b,o,none⟩/\Ahd Q b/\b<w.heap.size/\NodesAt w (Ahd Q) b o ks){i:Nat}(hi:i<ks.length):∃b o adx lx cx,NT w Q ad i ks[i] b o adx lx cx:=by
 obtain⟨b,o,rfl,hMb,hbw,hn⟩:=hkk (by omega)
 obtain⟨x,hkx,c0,c1,c2,c3⟩:=CV hn hi
 obtain⟨adx,cx0,hxx,_⟩:=id hkx
 subst hxx
 exact⟨b,o,adx,_,_,rfl,hbw,hMb,c0,c1,c2,c3,⟨_,rfl,hkx⟩⟩
theorem DK(s:MW)(k:Nat)(o:Ord):(s.put k o).lists.length=s.lists.length:=by unfold MW.put;rw[List.length_modify]
theorem OY(s:MW)(k i:Nat)(a:Int):(s.patch k i a).lists.length=s.lists.length:=by unfold MW.patch;rw[List.length_modify]
theorem IZ(s:MW)(k:Nat)(o:Ord)(h:k<s.lists.length):(s.put k o).here k=s.here k+1:=by
 unfold MW.here
 rw[ME s k k o h,if_pos rfl,Z1]
 rfl
section
variable {w0 w:World} {c:CnO} {R at' b:Nat} {vs vN vl:Value} {slots:List ByteArray} {s:MW}
theorem EU(H:OutP w0 c R at' vs slots s vN vl w)(hat:at'<s.lists.length)(hf:FewO s b)(hb:b<=900000)(o:Ord):Calls Tryz.prog 35 #[.pointer (some ⟨R,0,none⟩),.agg #[.int .i64 o.1,.int .i64 o.2.1,.int .i64 o.2.2]] w fun e w'=>e=.returned (.int .i64 (s.here at':Int))/\OutP w0 c R at' vs slots (s.put at' o) vN vl w':=by
 obtain⟨vN1,vl1,hw,hfr,hn,hl⟩:=H
 exact(RJ c R at' vs vN1 vl1 slots s o w hw.wr hat (Za (hf.here _) hb) (Za hf.lists hb)).mono fun e w' ⟨h1,h2⟩=>⟨h1,OutP.trans hfr hn hl (h2.p hw)⟩
theorem LE(H:OutP w0 c R at' vs slots s vN vl w)(hat:at'<s.lists.length)(hf:FewO s b)(hb:b<=900000){i:Nat}(hi:i<s.here at'):Calls Tryz.prog 81 #[.pointer (some ⟨R,0,none⟩),.int .i64 (i:Int)] w fun e w'=>e=.returned (.tuple #[])/\OutP w0 c R at' vs slots (s.patch at' i (s.here at':Int)) vN vl w':=by
 obtain⟨vN1,vl1,hw,hfr,hn,hl⟩:=H
 exact(Ss c R at' vs vN1 vl1 slots s i w hw.wr hat (Za (hf.here _) hb) (Za hf.lists hb) hi).mono fun e w' ⟨h1,h2⟩=>⟨h1,OutP.trans hfr hn hl (h2.p hw)⟩
theorem OutP.ahd{s0:MW}(H:OutP w0 c R at' vs slots s vN vl w)(h0:WrO w0 c R at' vs slots s0 vN vl):Above (Ahd c.Q) w0 w:=by
 obtain⟨vN1,vl1,hw,hfr,hn,hl⟩:=H
 exact hfr.ahd h0
theorem NU{s0:MW}{n:Nd}{u:Value}(hN:DZ c n)(h0:WrO w0 c R at' vs slots s0 vN vl)(H:OutP w0 c R at' vs slots s vN vl w)(hat:at'<s.lists.length)(hf:FewO s b)(hb:b+4*A0 n<=90000)(hu:NodeV w0 (Ahd c.Q) u n):Calls Tryz.prog 33 #[.pointer (some ⟨R,0,none⟩),u] w fun e w'=>e=.returned (.tuple #[])/\OutP w0 c R at' vs slots (AB c.cls slots at' n s) vN vl w':=by
 have ha:=H.ahd h0
 obtain⟨vN1,vl1,hw,hfr,hn,hl⟩:=H
 exact(hN R at' vs vN1 vl1 u slots s b w hw hat hf hb (hu.above ha)).mono fun e w' ⟨h1,h2⟩=>⟨h1,OutP.trans hfr hn hl h2⟩
def Dp(c:CnO)(n:Nd):Prop:=n.kind=6/\∀i (h:i<n.kids.length),DZ c n.kids[i]
theorem G3{s0:MW}{n:Nd}{u:Value}(hN:Dp c n)(h0:WrO w0 c R at' vs slots s0 vN vl)(H:OutP w0 c R at' vs slots s vN vl w)(hat:at'<s.lists.length)(hf:FewO s b)(hb:b+4*A0 n<=90000)(hu:NodeV w0 (Ahd c.Q) u n):Calls Tryz.prog 11 #[.pointer (some ⟨R,0,none⟩),u] w fun e w'=>e=.returned (.tuple #[])/\OutP w0 c R at' vs slots (AB c.cls slots at' n s) vN vl w':=by
 have ha:=H.ahd h0
 obtain⟨vN1,vl1,hw,hfr,hn,hl⟩:=H
 cases n with
 | mk k x m ks=>
  obtain⟨h6,hks⟩:=hN
  have h6':k=6:=h6
  subst h6'
  have esz:A0 (.mk 6 x m ks)=1+A2 ks:=by conv=>lhs;unfold A0
  have e:AB c.cls slots at' (.mk 6 x m ks) s=(B0 c.cls slots at' ks s).back s.locals:=by
   conv=>lhs;unfold AB
   rw[if_pos rfl]
  rw[e]
  exact(RK c 6 m x ks hks R at' vs vN1 vl1 u slots s b w hw hat hf (by omega) (hu.above ha)).mono fun e w' ⟨h1,h2⟩=>⟨h1,OutP.trans hfr hn hl h2⟩
theorem Box4.outp{s0:MW}{X:Nat}{a1 a2 a3 a4:Value}(hB:Box4 w0 X a1 a2 a3 a4)(h0:WrO w0 c R at' vs slots s0 vN vl)(H:OutP w0 c R at' vs slots s vN vl w)(hQ:X≠c.Q)(hR:X≠R):Box4 w X a1 a2 a3 a4:=by
 obtain⟨vN1,vl1,hw,hfr,hn,hl⟩:=H
 exact(hfr.block X hB.lt hQ hR (AJ h0.mkr.names hB (by decide)) (AJ h0.row hB (by decide)) (Or.inr (D4 hB (by decide) (by decide) (by decide)))).trans hB
theorem OutP.low{s0:MW}(H:OutP w0 c R at' vs slots s vN vl w)(h0:WrO w0 c R at' vs slots s0 vN vl){k j:Nat}(hk:k<c.Q):w.cell? ⟨k,j,none⟩=w0.cell? ⟨k,j,none⟩/\k<w.heap.size:=by
 have ha:=H.ahd h0
 have:=h0.mkr.qb
 have:=h0.mkr.size
 exact⟨World.cell?_of_block (w:=w0) (a:=⟨k,j,none⟩) (ha.block k hk (by omega)),by have:=ha.size;omega⟩
end
theorem Hm(k m:Int)(tx:List Int)(a b:Nd):A0 (.mk k tx m [a,b])=1+(A0 a+(A0 b+0)):=by
 conv=>lhs;unfold A0
 conv=>lhs;rhs;unfold A2
 conv=>lhs;rhs;rhs;unfold A2
 conv=>lhs;rhs;rhs;rhs;unfold A2
theorem OutP.first{w:World}{c:CnO}{R at':Nat}{vs vN vl:Value}{slots:List ByteArray}{s:MW}(h:WrP w c R at' vs slots s vN vl):OutP w c R at' vs slots s vN vl w:=⟨vN,vl,h,FrO.refl _ _ _ _ _,Onto.refl _ _,Onto.refl _ _⟩
theorem OutP.into{w w1 w':World}{c:CnO}{R at':Nat}{vs vN vl:Value}{slots:List ByteArray}{s:MW}(hb:Below w.heap.size w w1)(H:OutP w1 c R at' vs slots s vN vl w'):OutP w c R at' vs slots s vN vl w':=OutP.trans (FrO.of_below hb) (Onto.refl _ _) (Onto.refl _ _) H
theorem RL(c:CnO)(k m:Int)(tx:List Int)(cn bn:Nd)(hcN:DZ c cn)(hbN:Dp c bn)(R at':Nat)(vs vN vl u:Value)(slots:List ByteArray)(s:MW)(b:Nat)(w:World)(h:WrP w c R at' vs slots s vN vl)(hat:at'<s.lists.length)(hf:FewO s b)(hb:b+4*A0 (.mk k tx m [cn,bn])<=90000)(hu:NodeV w (Ahd c.Q) u (.mk k tx m [cn,bn])) :
  Calls Tryz.prog 64 #[.pointer (some ⟨R,0,none⟩),u] w fun e w'=>e=.returned (.tuple #[])/\∀s1 s2 s3,AB c.cls slots at' cn (s.put at' (26,0,0))=s1->AB c.cls slots at' bn (s1.put at' (25,0,0))=s2->s2.put at' (24,(s.here at':Int),0)=s3->OutP w c R at' vs slots (s3.patch at' (s1.here at') (s3.here at':Int)) vN vl w':=by
 obtain⟨xk,hu1,ad,c0,hx1,hkk⟩:=hu
 obtain⟨cc,hcc⟩:∃cc,c0+2=cc:=⟨_,rfl⟩
 have hx2:xk=.slice ad 2 cc:=by rw[<-hcc];exact hx1
 subst hx2
 have hu2:u=.agg #[.int .i64 k,.string (strOfNums tx),.int .i64 m,.slice ad 2 cc]:=hu1
 subst hu2
 have esz:=Hm k m tx cn bn
 rw[esz]at hb
 have hQb:=h.wr.mkr.qb
 have hRb:=h.wr.rb
 have hsz:=h.wr.mkr.size
 have hb0:Below w.heap.size w (w.alloc (.cells #[.int .i64 k,.string (strOfNums tx),.int .i64 m,.slice ad 2 cc] 39)):=(Zg _ w).alloc (Z0 _) _
 have h0:=h.below hb0
 have hB:=Box4.new w (.int .i64 k) (.string (strOfNums tx)) (.int .i64 m) (.slice ad 2 cc)
 have hlr0:=h.wr.obj.lt
 obtain⟨kb,ko,ad1,l1,c1,hK0⟩:=Dy (ks:=[cn,bn]) hkk (i:=0) (show 0<2 by decide)
 obtain⟨kb',ko',ad2,l2,c2,hK1⟩:=Dy (ks:=[cn,bn]) hkk (i:=1) (show 1<2 by decide)
 have e1:=hK0.is
 have e2:=hK1.is
 rw[e1]at e2
 injection e2 with e2
 injection e2 with e2 e3
 subst e2 e3
 subst e1
 have hul:Above (Ahd c.Q) w (w.alloc (.cells #[.int .i64 k,.string (strOfNums tx),.int .i64 m,.slice (some ⟨kb,ko,none⟩) 2 cc] 39)):=Zk hb0
 have hn0:NodeV _ (Ahd c.Q) _ cn:=hK0.node.above hul
 have hn1:NodeV _ (Ahd c.Q) _ bn:=hK1.node.above hul
 have a0:=hK0.kind
 have a1:=hK0.text
 have a2:=hK0.num
 have a3:=hK0.kids
 have b0:=hK1.kind
 have b1:=hK1.text
 have b2:=hK1.num
 have b3:=hK1.kids
 simp only[List.getElem_cons_zero,List.getElem_cons_succ,Nat.zero_mul,Nat.add_zero,Nat.one_mul]at a0 a1 a2 a3 b0 b1 b2 b3
 have hklow:=hK0.low
 obtain⟨s1,E1⟩:∃s1,Hid (AB c.cls slots at' cn (s.put at' (26,0,0))=s1):=⟨_,rfl⟩
 obtain⟨s2,E2⟩:∃s2,Hid (AB c.cls slots at' bn (s1.put at' (25,0,0))=s2):=⟨_,rfl⟩
 obtain⟨s3,E3⟩:∃s3,Hid (s2.put at' (24,(s.here at':Int),0)=s3):=⟨_,rfl⟩
 have f1:=hf.put at' (26,0,0)
 have t1:at'<(s.put at' (26,0,0)).lists.length:=by rw[DK];exact hat
 have f2:=Bl c.cls slots cn at' _ _ f1
 have t2:=Z5 t1 (B3 c.cls slots cn at' (s.put at' (26,0,0)))
 rw[E1.out]at f2 t2
 have f3:=f2.put at' (25,0,0)
 have t3:at'<(s1.put at' (25,0,0)).lists.length:=by rw[DK];exact t2
 have f4:=Bl c.cls slots bn at' _ _ f3
 have t4:=Z5 t3 (B3 c.cls slots bn at' (s1.put at' (25,0,0)))
 rw[E2.out]at f4 t4
 have f5:=f4.put at' (24,(s.here at':Int),0)
 have t5:at'<(s2.put at' (24,(s.here at':Int),0)).lists.length:=by rw[DK];exact t4
 rw[E3.out]at f5 t5
 have hlt13:s1.here at'<s3.here at':=by
  have q1:=IZ s1 at' (25,0,0) t2
  have q2:=CU c.cls slots at' bn at' (s1.put at' (25,0,0))
  have q3:=Dx s2 at' at' (24,(s.here at':Int),0)
  rw[E2.out]at q2
  rw[E3.out]at q3
  omega
 have hw:=EU (OutP.first h0) hat hf (by omega) (26,0,0)
 have hx:=fun w' H=>NU (w:=w') hcN h0.wr H t1 f1 (by omega) hn0
 have hy:=fun w' H=>EU (w:=w') (w0:=w.alloc (.cells #[.int .i64 k,.string (strOfNums tx),.int .i64 m,.slice (some ⟨kb,ko,none⟩) 2 cc] 39)) (c:=c) (R:=R) (vs:=vs) (vN:=vN) (vl:=vl) (slots:=slots) H t2 f2 (by omega) (25,0,0)
 have hz:=fun w' H=>G3 (w:=w') hbN h0.wr H t3 f3 (by omega) hn1
 have hv:=fun w' H=>EU (w:=w') (w0:=w.alloc (.cells #[.int .i64 k,.string (strOfNums tx),.int .i64 m,.slice (some ⟨kb,ko,none⟩) 2 cc] 39)) (c:=c) (R:=R) (vs:=vs) (vN:=vN) (vl:=vl) (slots:=slots) H t4 f4 (by omega) (24,(s.here at':Int),0)
 have hld:=fun w' H=>LE (w:=w') (w0:=w.alloc (.cells #[.int .i64 k,.string (strOfNums tx),.int .i64 m,.slice (some ⟨kb,ko,none⟩) 2 cc] 39)) (c:=c) (R:=R) (vs:=vs) (vN:=vN) (vl:=vl) (slots:=slots) H t5 f5 (by omega) hlt13
 rw[E1.out]at hx
 rw[E2.out]at hz
 rw[E3.out]at hv
 have HB:Hid (∀ {s':MW} {w':World},OutP (w.alloc (.cells #[.int .i64 k,.string (strOfNums tx),.int .i64 m,.slice (some ⟨kb,ko,none⟩) 2 cc] 39)) c R at' vs slots s' vN vl w'->Box4 w' w.heap.size (.int .i64 k) (.string (strOfNums tx)) (.int .i64 m) (.slice (some ⟨kb,ko,none⟩) 2 cc)/\(∀j,w'.cell? ⟨kb,j,none⟩=w.cell? ⟨kb,j,none⟩)/\kb<w'.heap.size):=fun H=>⟨hB.outp h0.wr H (by omega) (by omega),fun j=>((H.low h0.wr hklow).1).trans (hb0.cell (p:=⟨kb,j,none⟩) (by show kb<_;omega)),(H.low (j:=0) h0.wr hklow).2⟩
 have HB0:Hid (Below w.heap.size w (w.alloc (.cells #[.int .i64 k,.string (strOfNums tx),.int .i64 m,.slice (some ⟨kb,ko,none⟩) 2 cc] 39))):=hb0
 clear h0 h hcN hbN hn0 hn1 hK0 hK1 hkk hf f1 f2 f3 f4 f5 t1 t2 t3 t4 t5 hB hul hb0 hx1 hu1 hcc esz hlt13 hat
 go_enter Tryz.func64,Tryz.ntmps64
 go_wp2_with (first
  | (go_at_call 81;refine(hld _ H5).mono ?_;rintro e w6 ⟨rfl,H6⟩)
  | (go_at_call 35;refine(hv _ H4).mono ?_;rintro e w5 ⟨rfl,H5⟩)
  | (go_at_call 11;refine(hz _ H3).mono ?_;clear hz;rintro e w4 ⟨rfl,H4⟩)
  | (go_at_call 35;refine(hy _ H2).mono ?_;rintro e w3 ⟨rfl,H3⟩;have q3:=HB.out H3;obtain⟨⟨_,_,_,z3⟩,_⟩:=q3.1.facts;have z4:=q3.1.lt;have z5:=q3.2.2;have d0:=(q3.2.1 _).trans b0;have d1:=(q3.2.1 _).trans b1;have d2:=(q3.2.1 _).trans b2;have d3:=(q3.2.1 _).trans b3;clear q3)
  | (go_at_call 33;refine(hx _ H1).mono ?_;clear hx;rintro e w2 ⟨rfl,H2⟩)
  | (go_at_call 35;refine hw.mono ?_;clear hw;rintro e w1 ⟨rfl,H1⟩;have q1:=HB.out H1;obtain⟨⟨_,_,_,y3⟩,_⟩:=q1.1.facts;have y4:=q1.1.lt;have y5:=q1.2.2;have e0:=(q1.2.1 _).trans a0;have e1:=(q1.2.1 _).trans a1;have e2:=(q1.2.1 _).trans a2;have e3:=(q1.2.1 _).trans a3;clear q1))
 refine bodyPost_end (v:=.tuple #[]) (by simp[results,Tryz.results64,go_sem]) rfl ⟨rfl,fun u1 u2 u3 p1 p2 p3=>?_⟩
 rw[E1.out]at p1
 subst p1
 rw[E2.out]at p2
 subst p2
 rw[E3.out]at p3
 subst p3
 exact OutP.into HB0.out H6
theorem K0(k m:Int)(tx:List Int)(a b d:Nd):A0 (.mk k tx m [a,b,d])=1+(A0 a+(A0 b+(A0 d+0))):=by
 conv=>lhs;unfold A0
 conv=>lhs;rhs;unfold A2
 conv=>lhs;rhs;rhs;unfold A2
 conv=>lhs;rhs;rhs;rhs;unfold A2
 conv=>lhs;rhs;rhs;rhs;rhs;unfold A2
theorem Q6(c:CnO)(k m:Int)(tx:List Int)(cn bn:Nd)(hcN:DZ c cn)(hbN:Dp c bn)(R at':Nat)(vs vN vl u:Value)(slots:List ByteArray)(s:MW)(b:Nat)(w:World)(h:WrP w c R at' vs slots s vN vl)(hat:at'<s.lists.length)(hf:FewO s b)(hb:b+4*A0 (.mk k tx m [cn,bn])<=90000)(hu:NodeV w (Ahd c.Q) u (.mk k tx m [cn,bn])) :
  Calls Tryz.prog 63 #[.pointer (some ⟨R,0,none⟩),u] w fun e w'=>e=.returned (.tuple #[])/\∀s1 s2,AB c.cls slots at' cn s=s1->AB c.cls slots at' bn (s1.put at' (25,0,0))=s2->OutP w c R at' vs slots (s2.patch at' (s1.here at') (s2.here at':Int)) vN vl w':=by
 obtain⟨xk,hu1,ad,c0,hx1,hkk⟩:=hu
 obtain⟨cc,hcc⟩:∃cc,c0+2=cc:=⟨_,rfl⟩
 have hx2:xk=.slice ad 2 cc:=by rw[<-hcc];exact hx1
 subst hx2
 have hu2:u=.agg #[.int .i64 k,.string (strOfNums tx),.int .i64 m,.slice ad 2 cc]:=hu1
 subst hu2
 have esz:=Hm k m tx cn bn
 rw[esz]at hb
 have hQb:=h.wr.mkr.qb
 have hRb:=h.wr.rb
 have hsz:=h.wr.mkr.size
 have hb0:Below w.heap.size w (w.alloc (.cells #[.int .i64 k,.string (strOfNums tx),.int .i64 m,.slice ad 2 cc] 39)):=(Zg _ w).alloc (Z0 _) _
 have h0:=h.below hb0
 have hB:=Box4.new w (.int .i64 k) (.string (strOfNums tx)) (.int .i64 m) (.slice ad 2 cc)
 have hlr0:=h.wr.obj.lt
 obtain⟨kb,ko,ad1,l1,c1,hK0⟩:=Dy (ks:=[cn,bn]) hkk (i:=0) (show 0<2 by decide)
 obtain⟨kb',ko',ad2,l2,c2,hK1⟩:=Dy (ks:=[cn,bn]) hkk (i:=1) (show 1<2 by decide)
 have e1:=hK0.is
 have e2:=hK1.is
 rw[e1]at e2
 injection e2 with e2
 injection e2 with e2 e3
 subst e2 e3
 subst e1
 have hul:Above (Ahd c.Q) w (w.alloc (.cells #[.int .i64 k,.string (strOfNums tx),.int .i64 m,.slice (some ⟨kb,ko,none⟩) 2 cc] 39)):=Zk hb0
 have hn0:NodeV _ (Ahd c.Q) _ cn:=hK0.node.above hul
 have hn1:NodeV _ (Ahd c.Q) _ bn:=hK1.node.above hul
 have a0:=hK0.kind
 have a1:=hK0.text
 have a2:=hK0.num
 have a3:=hK0.kids
 have b0:=hK1.kind
 have b1:=hK1.text
 have b2:=hK1.num
 have b3:=hK1.kids
 simp only[List.getElem_cons_zero,List.getElem_cons_succ,Nat.zero_mul,Nat.add_zero,Nat.one_mul]at a0 a1 a2 a3 b0 b1 b2 b3
 have hklow:=hK0.low
 obtain⟨s1,E1⟩:∃s1,Hid (AB c.cls slots at' cn s=s1):=⟨_,rfl⟩
 obtain⟨s2,E2⟩:∃s2,Hid (AB c.cls slots at' bn (s1.put at' (25,0,0))=s2):=⟨_,rfl⟩
 have f2:=Bl c.cls slots cn at' _ _ hf
 have t2:=Z5 hat (B3 c.cls slots cn at' s)
 rw[E1.out]at f2 t2
 have f3:=f2.put at' (25,0,0)
 have t3:at'<(s1.put at' (25,0,0)).lists.length:=by rw[DK];exact t2
 have f4:=Bl c.cls slots bn at' _ _ f3
 have t4:=Z5 t3 (B3 c.cls slots bn at' (s1.put at' (25,0,0)))
 rw[E2.out]at f4 t4
 have hlt:s1.here at'<s2.here at':=by
  have q1:=IZ s1 at' (25,0,0) t2
  have q2:=CU c.cls slots at' bn at' (s1.put at' (25,0,0))
  rw[E2.out]at q2
  omega
 have hx:=NU hcN h0.wr (OutP.first h0) hat hf (by omega) hn0
 have hy:=fun w' H=>EU (w:=w') (w0:=(w.alloc (.cells #[.int .i64 k,.string (strOfNums tx),.int .i64 m,.slice (some ⟨kb,ko,none⟩) 2 cc] 39))) (c:=c) (R:=R) (vs:=vs) (vN:=vN) (vl:=vl) (slots:=slots) H t2 f2 (by omega) (25,0,0)
 have hz:=fun w' H=>G3 (w:=w') hbN h0.wr H t3 f3 (by omega) hn1
 have hld:=fun w' H=>LE (w:=w') (w0:=(w.alloc (.cells #[.int .i64 k,.string (strOfNums tx),.int .i64 m,.slice (some ⟨kb,ko,none⟩) 2 cc] 39))) (c:=c) (R:=R) (vs:=vs) (vN:=vN) (vl:=vl) (slots:=slots) H t4 f4 (by omega) hlt
 rw[E1.out]at hx
 rw[E2.out]at hz
 have HB:Hid (∀ {s':MW} {w':World},OutP (w.alloc (.cells #[.int .i64 k,.string (strOfNums tx),.int .i64 m,.slice (some ⟨kb,ko,none⟩) 2 cc] 39)) c R at' vs slots s' vN vl w'->Box4 w' w.heap.size (.int .i64 k) (.string (strOfNums tx)) (.int .i64 m) (.slice (some ⟨kb,ko,none⟩) 2 cc)/\(∀j,w'.cell? ⟨kb,j,none⟩=w.cell? ⟨kb,j,none⟩)/\kb<w'.heap.size):=fun H=>⟨hB.outp h0.wr H (by omega) (by omega),fun j=>((H.low h0.wr hklow).1).trans (hb0.cell (p:=⟨kb,j,none⟩) (by show kb<_;omega)),(H.low (j:=0) h0.wr hklow).2⟩
 have HB0:Hid (Below w.heap.size w (w.alloc (.cells #[.int .i64 k,.string (strOfNums tx),.int .i64 m,.slice (some ⟨kb,ko,none⟩) 2 cc] 39))):=hb0
 obtain⟨⟨_,_,_,y3⟩,_⟩:=hB.facts
 have y4:=hB.lt
 have hkb:=hK0.lt
 clear h0 h hcN hbN hn0 hn1 hK0 hK1 hkk hf f2 f3 f4 t2 t3 t4 hB hul hb0 hx1 hu1 hcc esz hlt hat
 go_enter Tryz.func63,Tryz.ntmps63
 go_wp2_with (first
  | (go_at_call 81;refine(hld _ H4).mono ?_;rintro e w6 ⟨rfl,H6⟩)
  | (go_at_call 11;refine(hz _ H3).mono ?_;clear hz;rintro e w4 ⟨rfl,H4⟩;have q4:=HB.out H4;obtain⟨⟨_,_,_,v3⟩,_⟩:=q4.1.facts;have v4:=q4.1.lt;clear q4)
  | (go_at_call 35;refine(hy _ H2).mono ?_;rintro e w3 ⟨rfl,H3⟩;have q3:=HB.out H3;obtain⟨⟨_,_,_,z3⟩,_⟩:=q3.1.facts;have z4:=q3.1.lt;have z5:=q3.2.2;have d0:=(q3.2.1 _).trans b0;have d1:=(q3.2.1 _).trans b1;have d2:=(q3.2.1 _).trans b2;have d3:=(q3.2.1 _).trans b3;clear q3)
  | (go_at_call 33;refine hx.mono ?_;clear hx;rintro e w2 ⟨rfl,H2⟩))
 refine bodyPost_end (v:=.tuple #[]) (by simp[results,Tryz.results63,go_sem]) rfl ⟨rfl,fun u1 u2 p1 p2=>?_⟩
 rw[E1.out]at p1
 subst p1
 rw[E2.out]at p2
 subst p2
 exact OutP.into HB0.out H6
theorem NV(c:CnO)(k m:Int)(tx:List Int)(cn bn en:Nd)(hcN:DZ c cn)(hbN:Dp c bn)(heN:Dp c en)(R at':Nat)(vs vN vl u:Value)(slots:List ByteArray)(s:MW)(b:Nat)(w:World)(h:WrP w c R at' vs slots s vN vl)(hat:at'<s.lists.length)(hf:FewO s b)(hb:b+4*A0 (.mk k tx m [cn,bn,en])<=90000)(hu:NodeV w (Ahd c.Q) u (.mk k tx m [cn,bn,en])) :
  Calls Tryz.prog 63 #[.pointer (some ⟨R,0,none⟩),u] w fun e w'=>e=.returned (.tuple #[])/\∀s1 s2 s3 s4 s5,AB c.cls slots at' cn s=s1->AB c.cls slots at' bn (s1.put at' (25,0,0))=s2->s2.put at' (24,0,0)=s3->s3.patch at' (s1.here at') (s3.here at':Int)=s4->AB c.cls slots at' en s4=s5->OutP w c R at' vs slots (s5.patch at' (s2.here at') (s5.here at':Int)) vN vl w':=by
 obtain⟨xk,hu1,ad,c0,hx1,hkk⟩:=hu
 obtain⟨cc,hcc⟩:∃cc,c0+3=cc:=⟨_,rfl⟩
 have hx2:xk=.slice ad 3 cc:=by rw[<-hcc];exact hx1
 subst hx2
 have hu2:u=.agg #[.int .i64 k,.string (strOfNums tx),.int .i64 m,.slice ad 3 cc]:=hu1
 subst hu2
 have esz:=K0 k m tx cn bn en
 rw[esz]at hb
 have hQb:=h.wr.mkr.qb
 have hRb:=h.wr.rb
 have hsz:=h.wr.mkr.size
 have hb0:Below w.heap.size w (w.alloc (.cells #[.int .i64 k,.string (strOfNums tx),.int .i64 m,.slice ad 3 cc] 39)):=(Zg _ w).alloc (Z0 _) _
 have h0:=h.below hb0
 have hB:=Box4.new w (.int .i64 k) (.string (strOfNums tx)) (.int .i64 m) (.slice ad 3 cc)
 have hlr0:=h.wr.obj.lt
 obtain⟨kb,ko,ad1,l1,c1,hK0⟩:=Dy (ks:=[cn,bn,en]) hkk (i:=0) (show 0<3 by decide)
 obtain⟨kb',ko',ad2,l2,c2,hK1⟩:=Dy (ks:=[cn,bn,en]) hkk (i:=1) (show 1<3 by decide)
 obtain⟨kb'',ko'',ad3,l3,c3,hK2⟩:=Dy (ks:=[cn,bn,en]) hkk (i:=2) (show 2<3 by decide)
 have e1:=hK0.is
 have e2:=hK2.is
 rw[e1]at e2
 injection e2 with e2
 injection e2 with e2 e3
 subst e2 e3
 have e2:=hK1.is
 rw[e1]at e2
 injection e2 with e2
 injection e2 with e2 e3
 subst e2 e3
 subst e1
 have hul:Above (Ahd c.Q) w (w.alloc (.cells #[.int .i64 k,.string (strOfNums tx),.int .i64 m,.slice (some ⟨kb,ko,none⟩) 3 cc] 39)):=Zk hb0
 have hn0:NodeV _ (Ahd c.Q) _ cn:=hK0.node.above hul
 have hn1:NodeV _ (Ahd c.Q) _ bn:=hK1.node.above hul
 have hn2:NodeV _ (Ahd c.Q) _ en:=hK2.node.above hul
 have g0:=hK2.kind
 have g1:=hK2.text
 have g2:=hK2.num
 have g3:=hK2.kids
 have a0:=hK0.kind
 have a1:=hK0.text
 have a2:=hK0.num
 have a3:=hK0.kids
 have b0:=hK1.kind
 have b1:=hK1.text
 have b2:=hK1.num
 have b3:=hK1.kids
 simp only[List.getElem_cons_zero,List.getElem_cons_succ,Nat.zero_mul,Nat.add_zero,Nat.one_mul,Nat.reduceMul]at a0 a1 a2 a3 b0 b1 b2 b3 g0 g1 g2 g3
 have hklow:=hK0.low
 obtain⟨s1,E1⟩:∃s1,Hid (AB c.cls slots at' cn s=s1):=⟨_,rfl⟩
 obtain⟨s2,E2⟩:∃s2,Hid (AB c.cls slots at' bn (s1.put at' (25,0,0))=s2):=⟨_,rfl⟩
 obtain⟨s3,E3⟩:∃s3,Hid (s2.put at' (24,0,0)=s3):=⟨_,rfl⟩
 obtain⟨s4,E4⟩:∃s4,Hid (s3.patch at' (s1.here at') (s3.here at':Int)=s4):=⟨_,rfl⟩
 obtain⟨s5,E5⟩:∃s5,Hid (AB c.cls slots at' en s4=s5):=⟨_,rfl⟩
 have f2:=Bl c.cls slots cn at' _ _ hf
 have t2:=Z5 hat (B3 c.cls slots cn at' s)
 rw[E1.out]at f2 t2
 have f3:=f2.put at' (25,0,0)
 have t3:at'<(s1.put at' (25,0,0)).lists.length:=by rw[DK];exact t2
 have f4:=Bl c.cls slots bn at' _ _ f3
 have t4:=Z5 t3 (B3 c.cls slots bn at' (s1.put at' (25,0,0)))
 rw[E2.out]at f4 t4
 have f5:=f4.put at' (24,0,0)
 have t5:at'<(s2.put at' (24,0,0)).lists.length:=by rw[DK];exact t4
 rw[E3.out]at f5 t5
 have f6:=f5.patch at' (s1.here at') (s3.here at':Int)
 have t6:at'<(s3.patch at' (s1.here at') (s3.here at':Int)).lists.length:=by rw[OY];exact t5
 rw[E4.out]at f6 t6
 have f7:=Bl c.cls slots en at' _ _ f6
 have t7:=Z5 t6 (B3 c.cls slots en at' s4)
 rw[E5.out]at f7 t7
 have hlt:s1.here at'<s3.here at':=by
  have q1:=IZ s1 at' (25,0,0) t2
  have q2:=CU c.cls slots at' bn at' (s1.put at' (25,0,0))
  have q3:=Dx s2 at' at' (24,0,0)
  rw[E2.out]at q2
  rw[E3.out]at q3
  omega
 have hlt2:s2.here at'<s5.here at':=by
  have q1:=IZ s2 at' (24,0,0) t4
  have q2:=CU c.cls slots at' en at' s4
  have q3:=Fk s3 at' (s1.here at') at' (s3.here at':Int)
  rw[E3.out]at q1
  rw[E4.out]at q3
  rw[E5.out]at q2
  omega
 have hx:=NU hcN h0.wr (OutP.first h0) hat hf (by omega) hn0
 have hy:=fun w' H=>EU (w:=w') (w0:=(w.alloc (.cells #[.int .i64 k,.string (strOfNums tx),.int .i64 m,.slice (some ⟨kb,ko,none⟩) 3 cc] 39))) (c:=c) (R:=R) (vs:=vs) (vN:=vN) (vl:=vl) (slots:=slots) H t2 f2 (by omega) (25,0,0)
 have hz:=fun w' H=>G3 (w:=w') hbN h0.wr H t3 f3 (by omega) hn1
 have hv:=fun w' H=>EU (w:=w') (w0:=(w.alloc (.cells #[.int .i64 k,.string (strOfNums tx),.int .i64 m,.slice (some ⟨kb,ko,none⟩) 3 cc] 39))) (c:=c) (R:=R) (vs:=vs) (vN:=vN) (vl:=vl) (slots:=slots) H t4 f4 (by omega) (24,0,0)
 have hl1:=fun w' H=>LE (w:=w') (w0:=(w.alloc (.cells #[.int .i64 k,.string (strOfNums tx),.int .i64 m,.slice (some ⟨kb,ko,none⟩) 3 cc] 39))) (c:=c) (R:=R) (vs:=vs) (vN:=vN) (vl:=vl) (slots:=slots) H t5 f5 (by omega) hlt
 have hzz:=fun w' H=>G3 (w:=w') heN h0.wr H t6 f6 (by omega) hn2
 have hld:=fun w' H=>LE (w:=w') (w0:=(w.alloc (.cells #[.int .i64 k,.string (strOfNums tx),.int .i64 m,.slice (some ⟨kb,ko,none⟩) 3 cc] 39))) (c:=c) (R:=R) (vs:=vs) (vN:=vN) (vl:=vl) (slots:=slots) H t7 f7 (by omega) hlt2
 rw[E1.out]at hx
 rw[E2.out]at hz
 rw[E3.out]at hv
 rw[E4.out]at hl1
 rw[E5.out]at hzz
 have HB:Hid (∀ {s':MW} {w':World},OutP (w.alloc (.cells #[.int .i64 k,.string (strOfNums tx),.int .i64 m,.slice (some ⟨kb,ko,none⟩) 3 cc] 39)) c R at' vs slots s' vN vl w'->Box4 w' w.heap.size (.int .i64 k) (.string (strOfNums tx)) (.int .i64 m) (.slice (some ⟨kb,ko,none⟩) 3 cc)/\(∀j,w'.cell? ⟨kb,j,none⟩=w.cell? ⟨kb,j,none⟩)/\kb<w'.heap.size):=fun H=>⟨hB.outp h0.wr H (by omega) (by omega),fun j=>((H.low h0.wr hklow).1).trans (hb0.cell (p:=⟨kb,j,none⟩) (by show kb<_;omega)),(H.low (j:=0) h0.wr hklow).2⟩
 have HB0:Hid (Below w.heap.size w (w.alloc (.cells #[.int .i64 k,.string (strOfNums tx),.int .i64 m,.slice (some ⟨kb,ko,none⟩) 3 cc] 39))):=hb0
 obtain⟨⟨_,_,_,y3⟩,_⟩:=hB.facts
 have y4:=hB.lt
 have hkb:=hK0.lt
 clear h0 h hcN hbN heN hn0 hn1 hn2 hK0 hK1 hK2 hkk hf f2 f3 f4 f5 f6 f7 t2 t3 t4 t5 t6 t7 hB hul hb0 hx1 hu1 hcc esz hlt hlt2 hat
 go_enter Tryz.func63,Tryz.ntmps63
 go_wp2_with (first
  | (go_at_call 81;refine(hld _ H7).mono ?_;rintro e w8 ⟨rfl,H8⟩)
  | (go_at_call 11;refine(hzz _ H6).mono ?_;rintro e w7 ⟨rfl,H7⟩)
  | (go_at_call 81;refine(hl1 _ H5).mono ?_;rintro e w6 ⟨rfl,H6⟩;have q6:=HB.out H6;obtain⟨⟨_,_,_,i3⟩,_⟩:=q6.1.facts;have i4:=q6.1.lt;have i5:=q6.2.2;have j0:=(q6.2.1 _).trans g0;have j1:=(q6.2.1 _).trans g1;have j2:=(q6.2.1 _).trans g2;have j3:=(q6.2.1 _).trans g3;clear q6)
  | (go_at_call 35;refine(hv _ H4).mono ?_;rintro e w5 ⟨rfl,H5⟩)
  | (go_at_call 11;refine(hz _ H3).mono ?_;clear hz;rintro e w4 ⟨rfl,H4⟩;have q4:=HB.out H4;obtain⟨⟨_,_,_,v3⟩,_⟩:=q4.1.facts;have v4:=q4.1.lt;clear q4)
  | (go_at_call 35;refine(hy _ H2).mono ?_;rintro e w3 ⟨rfl,H3⟩;have q3:=HB.out H3;obtain⟨⟨_,_,_,z3⟩,_⟩:=q3.1.facts;have z4:=q3.1.lt;have z5:=q3.2.2;have d0:=(q3.2.1 _).trans b0;have d1:=(q3.2.1 _).trans b1;have d2:=(q3.2.1 _).trans b2;have d3:=(q3.2.1 _).trans b3;clear q3)
  | (go_at_call 33;refine hx.mono ?_;clear hx;rintro e w2 ⟨rfl,H2⟩))
 refine bodyPost_end (v:=.tuple #[]) (by simp[results,Tryz.results63,go_sem]) rfl ⟨rfl,fun u1 u2 u3 u4 u5 p1 p2 p3 p4 p5=>?_⟩
 rw[E1.out]at p1
 subst p1
 rw[E2.out]at p2
 subst p2
 rw[E3.out]at p3
 subst p3
 rw[E4.out]at p4
 subst p4
 rw[E5.out]at p5
 subst p5
 exact OutP.into HB0.out H8
end Go.Proofs.YtpfdgbalchmmfaaGreatDoor
