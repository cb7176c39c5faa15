/- Texts in one. -/
import Derived.Test.YtpfdgbalchmmfaaGreatDoorNc
import Derived.ChangeKeysEq
import Derived.WideKeyRuns
import Derived.WideKeyEntry
set_option maxHeartbeats 8000000
set_option maxRecDepth 20000
namespace Go.Proofs.YtpfdgbalchmmfaaGreatDoor
open Go.RowKit
def Bn(p:ByteArray×Int):Value:=.agg #[.string p.1,.int .i64 p.2]
theorem Hr(em:Bool)(p:ByteArray×Int)(w:World):(Instr.checkKey em 10000 107 (Bn p)).run Tryz.prog w=.ok () w:=by
 unfold Bn
 kernel_rfl
theorem TD:(Tryz.prog.fieldsOf 107).toList=[(Tryz.prog.fieldsOf 107)[0]!,(Tryz.prog.fieldsOf 107)[1]!]:=by kernel_rfl
theorem JP(p q:ByteArray×Int)(w:World):(Op.equal 107 (Bn p) (Bn q)).run Tryz.prog w=.ok (p.1.toList==q.1.toList&&p.2==q.2) w:=by
 unfold Bn Op.equal
 rw[show Op.maxDepth=9998+1+1 from rfl,run_equalIn_agg w (9998+1) 107 _ _ (by kernel_rfl) (by kernel_rfl),TD]
 have n0:((Tryz.prog.fieldsOf 107)[0]!).name≠ "_":=by
  rw[show((Tryz.prog.fieldsOf 107)[0]!).name= "name" by kernel_rfl];decide
 have n1:((Tryz.prog.fieldsOf 107)[1]!).name≠ "_":=by
  rw[show((Tryz.prog.fieldsOf 107)[1]!).name= "args" by kernel_rfl];decide
 have t0:((Tryz.prog.fieldsOf 107)[0]!).type=9:=by kernel_rfl
 have t1:((Tryz.prog.fieldsOf 107)[1]!).type=3:=by kernel_rfl
 have o0:((Tryz.prog.fieldsOf 107)[0]!).offset=0:=by kernel_rfl
 have o1:((Tryz.prog.fieldsOf 107)[1]!).offset=1:=by kernel_rfl
 generalize (Tryz.prog.fieldsOf 107)[0]! =f0 at *
 generalize (Tryz.prog.fieldsOf 107)[1]! =f1 at *
 have hs:=run_equalIn_string (P:=Tryz.prog) w 9998 9 p.1 q.1 Do
 have hi:=run_equalIn_int (P:=Tryz.prog) w 9998 3 .i64 .i64 p.2 q.2 (by kernel_rfl)
 have a0:∀p:ByteArray×Int,(part 9 #[Value.string p.1,.int .i64 p.2] 0).run Tryz.prog w=.ok (.string p.1) w:=fun p=>by kernel_rfl
 have a1:∀p:ByteArray×Int,(part 3 #[Value.string p.1,.int .i64 p.2] 1).run Tryz.prog w=.ok (.int .i64 p.2) w:=fun p=>by kernel_rfl
 unfold Op.eqFields
 rw[if_pos n0]
 unfold Op.eqFields
 rw[if_pos n1]
 simp only[t0,t1,o0,o1,Sem.run_bind,a0,Result.andThen_ok,hs]
 cases h1:(p.1.toList==q.1.toList)with
 | false=>simp
 | true=>
  simp only[Bool.not_true,Bool.false_eq_true,if_false,Sem.run_bind,a1,Result.andThen_ok,hi,Bool.true_and]
  cases h2:(p.2==q.2)with
  | false=>simp
  | true=>simp[Op.eqFields]
def Bt:List (ByteArray×Int)->Nat->List MapEntry
 | [],_=>[]
 | p::r,i=>{ key:=Bn p,val:=.int .i64 1,born:=i }::Bt r (i+1)
def Cy(S:List (ByteArray×Int)):Obj:=.map (Bt S 0).toArray S.length
def F6(S:List (ByteArray×Int))(p:ByteArray×Int):Bool:=S.any fun y=>decide (y.1=p.1)&&y.2==p.2
theorem Nq(p q:ByteArray×Int):(p.1.toList==q.1.toList&&p.2==q.2)=(decide (q.1=p.1)&&q.2==p.2):=by
 rw[IV]
 congr 1
 exact Bool.eq_iff_iff.2 ⟨fun h=>by simp at h⊢;exact h.symm,fun h=>by simp at h⊢;exact h.symm⟩
theorem Jn(p:ByteArray×Int)(w:World)(fs:List MapEntry):∀(S:List (ByteArray×Int)) (i j:Nat),F6 S p=false->(Instr.findAsking 107 (Bn p) (Bt S i++fs) j).run Tryz.prog w=(Instr.findAsking 107 (Bn p) fs (j+S.length)).run Tryz.prog w
 | [],i,j,_=>by simp[Bt]
 | q::r,i,j,h=>by
  have h1:(decide (q.1=p.1)&&q.2==p.2)=false/\F6 r p=false:=by
   unfold F6 at h
   rw[List.any_cons,Bool.or_eq_false_iff]at h
   exact h
  have he:=JP p q w
  rw[Nq,h1.1]at he
  have hr:=Jn p w fs r (i+1) (j+1) h1.2
  unfold Bt
  rw[List.cons_append]
  conv=>lhs;unfold Instr.findAsking
  simp only[Sem.run_bind,he,Result.andThen_ok,Bool.false_eq_true,if_false]
  rw[hr,List.length_cons,show j+1+r.length=j+(r.length+1) by omega]
theorem Pi(p:ByteArray×Int)(w:World):∀(S:List (ByteArray×Int)) (i j:Nat),F6 S p=true->∃n,(Instr.findAsking 107 (Bn p) (Bt S i) j).run Tryz.prog w=.ok (some (n,.int .i64 1)) w
 | [],i,j,h=>by cases h
 | q::r,i,j,h=>by
  have he:=JP p q w
  rw[Nq]at he
  unfold Bt Instr.findAsking
  cases h1:(decide (q.1=p.1)&&q.2==p.2)with
  | true=>
   rw[h1]at he
   exact⟨j,by simp only[Sem.run_bind,he,Result.andThen_ok,if_true];rfl⟩
  | false=>
   rw[h1]at he
   have h2:F6 r p=true:=by
    unfold F6 at h
    rw[List.any_cons,h1,Bool.false_or]at h
    exact h
   obtain⟨n,hn⟩:=Pi p w r (i+1) (j+1) h2
   exact⟨n,by simp only[Sem.run_bind,he,Result.andThen_ok,Bool.false_eq_true,if_false];exact hn⟩
theorem Jo:Tryz.prog.underlying 102=some (.map 107 3):=by kernel_rfl
theorem Ig(p:ByteArray×Int)(w:World)(es:List MapEntry):(Instr.findKey 107 (Bn p) es).run Tryz.prog w=(Instr.findAsking 107 (Bn p) es).run Tryz.prog w:=run_findKey_eq w (by kernel_rfl) _ _
theorem K8{S:List (ByteArray×Int)}{m:Nat}{w:World}(h:w.heap[m]?=some (Cy S))(p:ByteArray×Int)(hp:F6 S p=false):(Instr.lookup 102 (.map (some m)) (Bn p) false).run Tryz.prog w=.ok (.int .i64 0) w:=by
 have ha:=Jn p w [] S 0 0 hp
 rw[List.append_nil]at ha
 have hf:=Ig p w (Bt S 0)
 rw[ha]at hf
 have h3:=N1 w
 unfold Cy at h
 have hc:=fun em=>Hr em p w
 have hf':(Instr.findKey 107 (Bn p) (Bt S 0).toArray.toList).run Tryz.prog w=.ok none w:=hf
 generalize (Bt S 0).toArray=es at *
 generalize Bn p=k at *
 simp[Instr.lookup,run_underlying Jo,MapKept.run_getObj_map h,hc,hf',h3,Result.andThen]
theorem Nr{S:List (ByteArray×Int)}{m:Nat}{w:World}(h:w.heap[m]?=some (Cy S))(p:ByteArray×Int)(hp:F6 S p=true):(Instr.lookup 102 (.map (some m)) (Bn p) false).run Tryz.prog w=.ok (.int .i64 1) w:=by
 obtain⟨n,ha⟩:=Pi p w S 0 0 hp
 have hf:=Ig p w (Bt S 0)
 rw[ha]at hf
 unfold Cy at h
 have hc:=fun em=>Hr em p w
 have hf':(Instr.findKey 107 (Bn p) (Bt S 0).toArray.toList).run Tryz.prog w=.ok (some (n,.int .i64 1)) w:=hf
 generalize (Bt S 0).toArray=es at *
 generalize Bn p=k at *
 simp[Instr.lookup,run_underlying Jo,MapKept.run_getObj_map h,hc,hf',Result.andThen]
def M1(S:List (ByteArray×Int))(p:ByteArray×Int):Obj:=.map ((Bt S 0).toArray.push { key:=Bn p,val:=.int .i64 0,born:=S.length }) (S.length+1)
def E6(w:World)(m:Nat)(o:Obj):World:={ w with heap:=w.heap.setIfInBounds m o }
theorem Ke{w:World}{m:Nat}{o o':Obj}(h:w.heap[m]?=some o'):(E6 w m o).heap[m]?=some o:=(MapKept.heap_set h).1
theorem JQ{w:World}{m k:Nat}{o o':Obj}(h:w.heap[m]?=some o')(hk:k≠m):(E6 w m o).heap[k]?=w.heap[k]?:=(MapKept.heap_set h).2 k hk
theorem Ov(w:World)(m:Nat)(o o':Obj):E6 (E6 w m o) m o'=E6 w m o':=by
 unfold E6
 simp
theorem Ro{S:List (ByteArray×Int)}{m:Nat}{w:World}(h:w.heap[m]?=some (Cy S))(p:ByteArray×Int)(hp:F6 S p=false):(Instr.mapEntry 102 (.map (some m)) (Bn p)).run Tryz.prog w=.ok (.tuple #[.int .i64 0,.int .i64 (S.length:Int)]) (E6 w m (M1 S p)):=by
 have ha:=Jn p w [] S 0 0 hp
 rw[List.append_nil]at ha
 have hf:=Ig p w (Bt S 0)
 rw[ha]at hf
 have h3:=N1 w
 have h':w.heap[m]?=some (.map (Bt S 0).toArray S.length):=h
 have hc:=fun em=>Hr em p w
 have hf':(Instr.findKey 107 (Bn p) (Bt S 0).toArray.toList).run Tryz.prog w=.ok none w:=hf
 unfold M1 E6
 generalize (Bt S 0).toArray=es at *
 generalize Bn p=k at *
 simp[Instr.mapEntry,run_underlying Jo,MapKept.run_getObj_map h',hc,hf',h3,MapKept.run_setObj_map _ h',Result.andThen,goInt]
theorem Ns{S:List (ByteArray×Int)}{m:Nat}{w:World}(p:ByteArray×Int)(h:w.heap[m]?=some (M1 S p))(hp:F6 S p=false):(Instr.lookup 102 (.map (some m)) (Bn p) false).run Tryz.prog w=.ok (.int .i64 0) w:=by
 have ha:=Jn p w [{ key:=Bn p,val:=.int .i64 0,born:=S.length }] S 0 0 hp
 have he:=JP p p w
 rw[beq_self_eq_true,beq_self_eq_true]at he
 have hf:=Ig p w (Bt S 0++[{ key:=Bn p,val:=.int .i64 0,born:=S.length }])
 rw[ha]at hf
 unfold Instr.findAsking at hf
 simp only[Sem.run_bind,he,Result.andThen_ok,Bool.and_self,if_true]at hf
 unfold M1 at h
 have hc:=fun em=>Hr em p w
 have hf':(Instr.findKey 107 (Bn p) ((Bt S 0).toArray.push { key:=Bn p,val:=.int .i64 0,born:=S.length }).toList).run Tryz.prog w=.ok (some (0+S.length,.int .i64 0)) w:=by
  rw[Array.toList_push]
  exact hf
 generalize (Bt S 0).toArray.push { key:=Bn p,val:=.int .i64 0,born:=S.length }=es at *
 generalize Bn p=k at *
 simp[Instr.lookup,run_underlying Jo,MapKept.run_getObj_map h,hc,hf',Result.andThen]
theorem Nt:∀(S N:List (ByteArray×Int)) (i:Nat),Bt (S++N) i=Bt S i++Bt N (i+S.length)
 | [],N,i=>rfl
 | p::r,N,i=>by
  show _::Bt (r++N) (i+1)=_::(Bt r (i+1)++Bt N (i+(r.length+1)))
  rw[Nt r N (i+1),show i+1+r.length=i+(r.length+1) by omega]
theorem Kf:∀(S:List (ByteArray×Int)) (i:Nat),(Bt S i).length=S.length
 | [],_=>rfl
 | _::r,i=>congrArg (·+1) (Kf r (i+1))
theorem MZ:∀(S:List (ByteArray×Int)) (i:Nat),∀e∈Bt S i,i<=e.born/\e.born<i+S.length
 | [],_,e,h=>by cases h
 | p::r,i,e,h=>by
  rcases List.mem_cons.1 h with rfl | h
  ·exact⟨Z0 _,by simp⟩
  ·have:=MZ r (i+1) e h
   simp only[List.length_cons]
   omega
theorem Rp{S:List (ByteArray×Int)}{m:Nat}{w:World}(p:ByteArray×Int)(h:w.heap[m]?=some (M1 S p)):(Instr.entryStore 102 (.map (some m)) (.int .i64 (S.length:Int)) (.int .i64 1)).run Tryz.prog w=.ok () (E6 w m (Cy (S++[p]))):=by
 have hidx:((Bt S 0).toArray.push { key:=Bn p,val:=.int .i64 0,born:=S.length }).findIdx? (fun e=>((e.born:Nat):Int)==((S.length:Nat):Int))=some S.length:=by
  rw[Go.WideElems.findIdx_arr,Array.toList_push,List.findIdx?_append]
  have hn:(Bt S 0).toArray.toList.findIdx? (fun e=>((e.born:Nat):Int)==((S.length:Nat):Int))=none:=by
   rw[List.findIdx?_eq_none_iff]
   intro e he
   have:=MZ S 0 e he
   simp
   omega
  rw[hn]
  simp[Kf]
 have hmod:((Bt S 0).toArray.push { key:=Bn p,val:=.int .i64 0,born:=S.length }).modify S.length (fun e=>{ e with val:=.int .i64 1 })=(Bt S 0).toArray.push { key:=Bn p,val:=.int .i64 1,born:=S.length }:=by
  apply Array.ext'
  rw[Array.toList_modify,Array.toList_push,Array.toList_push]
  have:=Go.WideElems.modify_last (fun e:MapEntry=>{ e with val:=.int .i64 1 }) { key:=Bn p,val:=.int .i64 0,born:=S.length } (Bt S 0)
  rw[Kf]at this
  exact this
 have e:Cy (S++[p])=.map ((Bt S 0).toArray.push { key:=Bn p,val:=.int .i64 1,born:=S.length }) (S.length+1):=by
  unfold Cy
  rw[Nt,Nat.zero_add,Z1,List.push_toArray]
  rfl
 rw[e]
 have h':w.heap[m]?=some (.map ((Bt S 0).toArray.push { key:=Bn p,val:=.int .i64 0,born:=S.length }) (S.length+1)):=h
 unfold E6
 generalize (Bt S 0).toArray.push { key:=Bn p,val:=.int .i64 0,born:=S.length }=es at *
 generalize (Bt S 0).toArray.push { key:=Bn p,val:=.int .i64 1,born:=S.length }=es' at *
 simp[Instr.entryStore,MapKept.run_getObj_map h',asInt,asIntOf,hidx,hmod,MapKept.run_setObj_map _ h',Result.andThen]
theorem K9{w:World}{m:Nat}{o':Obj}(h:w.heap[m]?=some o')(o:Obj):w.grownBy (E6 w m o) (some m):=⟨rfl,rfl,rfl,by simp[E6],fun k _ e=>JQ h (fun e'=>e (by rw[e']))⟩
theorem TE(S:List (ByteArray×Int))(m:Nat)(p:ByteArray×Int)(at':Nat)(w:World)(h:w.heap[m]?=some (Cy S)) :
  Calls Tryz.prog 55 #[.map (some m),Bn p,.int .i64 (at':Int)] w fun e w'=>if F6 S p=true then e=.panicked [{ v:=F0 (5,(at':Int)),recovered:=false }]/\Below w.heap.size w w' else e=.returned (.tuple #[])/\w'.heap[m]?=some (Cy (S++[p]))/\w.grownBy w' (some m):=by
 have hml:m<w.heap.size:=(Array.getElem?_eq_some_iff.1 h).1
 have hb1:Below w.heap.size w (w.alloc (.cells #[.string p.1,.int .i64 p.2] 107)):=(Zg _ w).alloc (Z0 _) _
 have h1:(w.alloc (.cells #[.string p.1,.int .i64 p.2] 107)).heap[m]?=some (Cy S):=(hb1.block m hml).trans h
 have hth:=FW
 by_cases hp:F6 S p=true
 ·simp only[if_pos hp]
  have hlk:=Nr h1 p hp
  unfold Bn at hlk⊢
  clear hp h h1
  go_enter Tryz.func55,Tryz.ntmps55
  go_wp2_with (first | (go_at_call 52;refine(hth _ _ _).mono ?_;rintro e w2 ⟨rfl,rfl⟩))
  exact⟨rfl,rfl,hb1⟩
 ·simp only[if_neg hp]
  have hp':F6 S p=false:=by cases hh:F6 S p with | true=>exact absurd hh hp | false=>rfl
  have hlk:=K8 h1 p hp'
  have hD:(w.alloc (.cells #[.string p.1,.int .i64 p.2] 107)).drew.heap[m]?=some (Cy S):=h1
  have hlkd:=K8 hD p hp'
  have hen:=Ro hD p hp'
  have hPd:=Ke (o:=M1 S p) hD
  have hlkn:=Ns p hPd hp'
  have hst:=Rp p hPd
  rw[Ov]at hst
  have hcl:∀o,(E6 (w.alloc (.cells #[.string p.1,.int .i64 p.2] 107)).drew m o).heap[w.heap.size]?=some (.cells #[.string p.1,.int .i64 p.2] 107):=fun o=>(JQ hD (by omega)).trans (heap_alloc_new w _)
  unfold Bn at hlk hlkd hen hlkn⊢
  go_enter Tryz.func55,Tryz.ntmps55
  go_wp2_with fail
  go_region
  all_goals go_wp2_with fail
  exact bodyPost_end (v:=.tuple #[]) (by simp[results,Tryz.results55,go_sem]) rfl ⟨rfl,Ke hD,(Kp (A1 m hb1)).trans (K9 hD _)⟩
theorem Nu(a:Addr)(n c:Nat)(w:World):(binOp BinOp.eql 23 (.slice (some a) n c) (.slice none 0 0)).run Tryz.prog w=.ok (.bool false) w:=by kernel_rfl
theorem Nv(w:World):(binOp BinOp.eql 23 (.slice none 0 0) (.slice none 0 0)).run Tryz.prog w=.ok (.bool true) w:=by kernel_rfl
theorem JR(l:List ByteArray)(M:Nat->Prop)(v:Value)(w:World)(hv:StrsV w M v l)(hl:l.length<=100000) :
  Calls Tryz.prog 19 #[v] w fun e w'=>∃v',e=.returned v'/\w'.ownsRow w.heap.size 9 1 v' l.length (B5 l)/\Below w.heap.size w w':=by
 obtain⟨ad,c,rfl,h1,h2,h3,h4⟩:=hv
 cases ad with
 | none=>
  have hc:=h3 rfl
  have hl0:l=[]:=Zd (by omega)
  subst hl0
  subst hc
  simp only[List.length_nil]at *
  have hq:=Nv
  go_enter Tryz.func19,Tryz.ntmps19
  go_wp2_with fail
  go_ret
  exact⟨_,rfl,Zl _ _ _ _,Zg _ _⟩
 | some a=>
  obtain⟨b,o,rfl,hM,hb,hc⟩:=h4 a rfl
  clear h4 h3
  have hq:=Nu ⟨b,o,none⟩ l.length c
  obtain⟨i,z,hi,hz0,hz1,hz2,hz3⟩:=Hw.info
  have hcs:∀j u,(B5 l)[j]?=some u->(w.alloc (.cells #[] 9)).cell? ((⟨b,o,none⟩:Addr).add j)=some u:=fun j u hj=>by
   have hj':=List.getElem?_eq_some_iff.1 hj
   obtain⟨hjl,hje⟩:=hj'
   have hjl':j<l.length:=by rw[Hx]at hjl;exact hjl
   have h5:=hc j hjl'
   rw[Hc,World.cell?_of_block (w:=w) (a:=⟨b,o+j,none⟩) (((Zg _ w).alloc (Z0 _) _).block b hb),h5,<-hje]
   simp[B5]
  have h1c:∀u∈B5 l,u.oneCell'=true:=fun u hu=>by
   unfold B5 at hu
   obtain⟨y,_,rfl⟩:=List.mem_map.1 hu
   rfl
  have hown:(w.alloc (.cells #[] 9)).ownsRow w.heap.size 9 1 (.slice (some ⟨w.heap.size,0,none⟩) 0 0) 0 []:=World.ownsRow_made w #[] 0 (Z0 _) (by unfold maxLen;omega) rfl
  have hb1:Below w.heap.size w (w.alloc (.cells #[] 9)):=(Zg _ w).alloc (Z0 _) _
  go_enter Tryz.func19,Tryz.ntmps19
  go_wp2_with (first
   | (at_builtin;refine wpList_append_own _ rfl (.tmp 5) (.tmp 6) _ rfl w.heap.size 9 i z 1 16 Hw.under hi hz0 hz1 hz2 hz3 (by decide) (.slice (some ⟨w.heap.size,0,none⟩) 0 0) 0 [] rfl hown ⟨b,o,none⟩ l.length c (B5 l) rfl (by rw[Hx,Nat.mul_one]) hcs h1c (by unfold maxLen;omega) (by omega) (by simp) ?_;intro v' w' O' hg' _))
  go_ret
  refine⟨_,rfl,by rw[Nat.zero_add,List.nil_append]at O';exact O',?_⟩
  exact hb1.grown hg' (by simp) (fun k e=>by injection e with e;exact Nat.le_of_eq e)
theorem S1{M:List (ByteArray×Int)}{m:Nat}{w:World}(h:w.heap[m]?=some (Aw M))(x:ByteArray):(Instr.lookup 61 (.map (some m)) (.string x) false).run Tryz.prog w=.ok (.int .i64 ((BZ M x).getD 0)) w:=by
 have hf:=Fi x M 0 0
 have hc:∀em,(Instr.checkKey em 10000 9 (.string x)).run Tryz.prog w=.ok () w:=fun em=>MapKept.run_checkKey (P:=Tryz.prog) Do (by constructor) em 9999
 have h3:=N1 w
 unfold Aw at h
 have h2:(Instr.findKey 9 (.string x) (CH M 0).toArray.toList).run Tryz.prog w=.ok _ w:=MapKept.run_findKey Do hf
 generalize (CH M 0).toArray=es at *
 cases hm:BZ M x with
 | none=>
  rw[hm,Option.map_none]at h2
  simp[Instr.lookup,run_underlying Ez,MapKept.run_getObj_map h,hc,h2,h3,Result.andThen]
 | some k=>
  rw[hm,Option.map_some]at h2
  simp[Instr.lookup,run_underlying Ez,MapKept.run_getObj_map h,hc,h2,Result.andThen]
structure PastR(w:World)(Q B:Nat)(vp:Value)(past:List (List ByteArray))(vals:List Value):Prop where
 own:w.ownsRow B 23 1 vp past.length vals
 each:∀i (h:i<past.length) (h':i<vals.length),StrsV w (fun k=>k≠Q/\vp.ownBlock≠some k) vals[i] past[i]
 few:∀l∈past,l.length<=59
theorem Nz(Q mb B:Nat)(M:List (ByteArray×Int))(vp:Value)(names:List ByteArray)(past:List (List ByteArray))(vals:List Value)(nx at':Nat)(x:ByteArray)(w:World)(h:Wc w Q mb M vp names nx)(hp:PastR w Q B vp past vals) :
  Calls Tryz.prog 53 #[.pointer (some ⟨Q,0,none⟩),.string x,.int .i64 (at':Int)] w fun e w'=>match Eu names past.length x with
   | some i=>∃v',e=.returned v'/\w'.ownsRow w.heap.size 9 1 v' (past.getD i []).length (B5 (past.getD i []))/\Below w.heap.size w w'
   | none=>e=.panicked [{ v:=F0 (14,(at':Int)),recovered:=false }]/\w'=w:=by
 obtain⟨pa,pc,hvp,hpc1,hpc2⟩:=BS hp.own
 subst hvp
 have hip:=LW Q mb M pa past.length pc names nx x w h
 have hth:=FW
 obtain⟨⟨_,k1,k2⟩,_⟩:=h.obj.cells
 have hl:=h.obj.lt
 cases hz:Eu names past.length x with
 | none=>
  rw[hz]at hip
  clear hz
  go_enter Tryz.func53,Tryz.ntmps53
  go_wp2_with (first
   | (go_at_call 51;refine hip.mono ?_;rintro e w1 ⟨rfl,rfl⟩)
   | (go_at_call 52;refine(hth _ _ _).mono ?_;rintro e w2 ⟨rfl,rfl⟩))
  exact⟨rfl,rfl,rfl⟩
 | some i=>
  rw[hz]at hip
  have hfi:names.findIdx? (fun y=>decide (y=x))=some i/\i<past.length:=by
   unfold Eu at hz
   cases hf:names.findIdx? (fun y=>decide (y=x))with
   | none=>rw[hf]at hz;cases hz
   | some j=>
    rw[hf]at hz
    have hz':(if j<past.length then some j else none)=some i:=hz
    split at hz'
    ·injection hz' with e;subst e;exact⟨rfl,by assumption⟩
    ·cases hz'
  have hil:(i:Int)<(past.length:Int):=by omega
  have hlk:=S1 (w:=w.drew) (show w.drew.heap[mb]?=some (Aw M) from h.map) x
  rw[h.names x,hfi.1]at hlk
  have hlk':(Instr.lookup 61 (.map (some mb)) (.string x) false).run Tryz.prog w.drew=.ok (.int .i64 (i:Int)) w.drew:=hlk
  have hvl:vals.length=past.length:=by have:=hp.own.1;omega
  obtain⟨pb,hpa⟩:∃pb,pa=some ⟨pb,0,none⟩:=by
   rcases hp.own.2 with⟨e,h0⟩ | ⟨g,cap,cur,e,_⟩
   ·omega
   ·injection e with e _ _;exact⟨g,e⟩
  subst hpa
  have hpb:pb<w.heap.size:=(hp.own.lt pb rfl).2
  have hev:=hp.each i hfi.2 (by omega)
  have hcell:w.cell? ⟨pb,i,none⟩=some (vals[i]'(by omega)):=by
   rw[hp.own.cellAt i (by omega),List.getElem?_eq_getElem (by omega)]
  have hgd:past.getD i []=past[i]'hfi.2:=by rw[Z2,List.getElem?_eq_getElem hfi.2];rfl
  dsimp only
  rw[hgd]
  have hcl:=JR (past[i]'hfi.2) _ _ w.drew (hev.drewN 1) (by have:=hp.few _ (Z6 hfi.2);omega)
  obtain⟨ea,ec,hve,_⟩:=hev
  rw[hve]at hcl hcell
  clear hlk hz hgd hve
  generalize past[i]'hfi.2=li at *
  go_enter Tryz.func53,Tryz.ntmps53
  go_wp2_with (first
   | (go_at_call 51;refine hip.mono ?_;rintro e w1 ⟨rfl,rfl⟩))
  go_region_law (first
   | (refine FO rfl 19 (.tmp 24) _ rfl (.slice ea li.length ec) (by first | (simp[Act.eval];done) | simp[Act.eval,Act.put]) (fun w=>by kernel_rfl) hcl ?_;rintro e w2 ⟨v2,rfl,ho2,hb2⟩;refine⟨_,rfl,?_⟩))
  all_goals go_wp2_with fail
  all_goals go_ret
  all_goals exact⟨_,rfl,ho2,(Zg _ _).drew.trans hb2⟩
theorem Mw{t0 e0:TypeId}{by0:Nat}(he0:Ef t0 e0 1 by0){w:World}{ty:TypeId}{base n c:Nat}{v:Value}{xs:List Value}{ad:Addr}{u:Value}(hu1:u.oneCell'=true)(hown:w.ownsRow base e0 1 v n xs)(hx:w.cell? ad=some u)(hb:n<=1000000)(hbase:base<=w.heap.size) :
  ∃g cap w',(Builtin.append_ #[t0,t0] ty #[v,.slice (some ad) 1 c]).run Tryz.prog w=.ok (sl g (n+1) cap) w'/\w'.ownsRow base e0 1 (sl g (n+1) cap) (n+1) (xs++[u])/\(∀Q,Keeps w w' Q v n)/\Onto w v (sl g (n+1) cap):=by
 obtain⟨i,z,hi,hz0,hz1,hz2,hz3⟩:=he0.info
 have hc:∀j x,[u][j]?=some x->w.cell? (ad.add j)=some x:=fun j x h=>by
  cases j with
  | zero=>simp at h;rw[<-h];simpa [Addr.add] using hx
  | succ j=>simp at h
 have h1:∀x∈[u],x.oneCell'=true:=fun x hx=>by simp at hx;subst hx;exact hu1
 have hm:(n+1)*by0<=140737488355328:=Za (Nat.mul_le_mul (show n+1<=1000001 by omega) he0.few) (by decide)
 obtain⟨v',w',hr,r1,r2,_⟩:=run_append_own (P:=Tryz.prog) w base t0 ty e0 i z 1 by0 he0.under hi hz0 hz1 hz2 hz3 (by decide) v n xs hown ad 1 c [u] rfl hc h1 (by unfold maxLen;omega) hm hbase
 rcases hown.2 with⟨rfl,rfl⟩ | ⟨g,cap,cur,rfl,hbg,hg,hnc,hcm,hcs,htake⟩
 ·have h:=run_append_nil (P:=Tryz.prog) w t0 ty e0 i z he0.under hi hz0 ad 1 c [u] (by rw[hz1];rfl) hc (by omega) (by omega) (by rw[hz2];have:=he0.few;omega)
  rw[h]at hr
  injection hr with e1 e2
  subst e1 e2
  exact⟨_,_,_,h,r1,fun Q=>Keeps.of_none (GX _ _),Or.inr (fun g e=>by injection e with e;exact Nat.le_of_eq e)⟩
 ·by_cases hroom:n+1<=cap
  ·obtain⟨w2,h,o2,g2⟩:=run_append_fits (P:=Tryz.prog) w base t0 ty e0 i 1 he0.under hi hz1 g n cap xs hown ad 1 c [u] rfl hc h1 hroom
   refine⟨g,cap,w2,h,o2,fun Q=>⟨g2.os,g2.tape,g2.output,g2.size,fun k hk _ hv=>g2.block k hk (fun e=>hv e.symm),fun g' cur' e hg' hq hc'=>?_⟩,Or.inl rfl⟩
   injection hg' with hg'
   have hg'':g=g':=hg'
   subst hg''
   rw[hg]at hc'
   injection hc' with hc'
   injection hc' with hc1 hc2
   subst hc1 hc2
   rcases o2.2 with⟨e0,_⟩ | ⟨g3,cap3,cur3,e3,_,k1,k2,k3,k4,k5⟩
   ·cases e0
   ·injection e3 with e4 e5 e6
    injection e4 with e4
    injection e4 with e4
    subst e4 e6
    refine⟨cur3,k1,by rw[k4,hcs],?_⟩
    have hxl:xs.length=n:=by rw[hown.1,Nat.mul_one]
    rw[Nat.mul_one]at htake k5
    have e7:cur3.toList.take n=(cur3.toList.take (n+1)).take n:=by rw[List.take_take,Nat.min_eq_left (by omega)]
    rw[e7,k5,List.take_left' hxl,htake]
  ·have h:=run_append_grow (P:=Tryz.prog) w t0 ty e0 i z he0.under hi hz0 ⟨g,0,none⟩ n cap xs (by rw[hown.1,hz1]) (hown.cells (g:=g) rfl) ad 1 c [u] (by rw[hz1];rfl) hc (by omega) (by omega) (growslice_fits (by omega) (by rw[hz2];exact hm))
   rw[h]at hr
   injection hr with e1 e2
   subst e1 e2
   exact⟨_,_,_,h,r1,fun Q=>Keeps.of_none (GX _ _),Or.inr (fun g e=>by injection e with e;exact Nat.le_of_eq e)⟩
theorem Ix{t0 e0:TypeId}{by0:Nat}(he0:Ef t0 e0 1 by0){ops:Array Oper}{rest:List Oper}{o:Oper}{a:Act}{w:World}{Q:Exit->Act->World->Prop}(hgd:o.guard=none)(s x:Operand)(ho:o.op=.call { callee:=.builtin .append,args:=#[s,x],argTypes:=#[t0,t0] })(base n c:Nat)(v:Value)(xs:List Value)(u:Value)(hu1:u.oneCell'=true)(hs:a.eval s=v)(hown:w.ownsRow base e0 1 v n xs)(ad:Addr)(hx:a.eval x=.slice (some ad) 1 c)(hc:w.cell? ad=some u)(hb:n<=1000000)(hbase:base<=w.heap.size)(h:∀g cap w',w'.ownsRow base e0 1 (sl g (n+1) cap) (n+1) (xs++[u])->(∀Q,Keeps w w' Q v n)->Onto w v (sl g (n+1) cap)->wpList Tryz.prog ops Q rest (a.put o.dst (sl g (n+1) cap)) w'):wpList Tryz.prog ops Q (o::rest) a w:=by
 refine wpList_plain hgd fun K' hK'=>?_
 obtain⟨g,cap,w',hr,r1,r2,r3⟩:=Mw he0 hu1 (ty:=o.type) (c:=c) hown hc hb hbase
 unfold Oper.wp
 simp[execOp,ho,resolve,invoke,builtin,hs,hx,hr,Result.andThen]
 exact hK' _ _ (h g cap w' r1 r2 r3)
theorem TN:(Tryz.prog.info? 23).map (fun i=>(i.zero,i.size,i.bytes))=some (some (.slice none 0 0),1,24):=by kernel_rfl
theorem Uu:Ef 43 23 1 24:=by
 obtain⟨i,h1,h2⟩:=Option.map_eq_some_iff.1 TN
 simp only[Prod.mk.injEq]at h2
 exact⟨by kernel_rfl,⟨i,_,h1,h2.1,h2.2.1,h2.2.2,rfl⟩,by decide,by decide⟩
theorem Wc.grown{w w':World}{Q mb nx:Nat}{M:List (ByteArray×Int)}{vp:Value}{names:List ByteArray}(h:Wc w Q mb M vp names nx){m:Nat}(hg:w.grownBy w' (some m))(h1:m≠Q)(h2:m≠mb):Wc w' Q mb M vp names nx:=
 ⟨(hg.block Q h.obj.lt (fun e=>h1 (by injection e with e;exact e.symm))).trans h.obj,(hg.block mb (Array.getElem?_eq_some_iff.1 h.map).1 (fun e=>h2 (by injection e with e;exact e.symm))).trans h.map,h.mq,h.names⟩
theorem Wc.below{w w':World}{Q mb nx:Nat}{M:List (ByteArray×Int)}{vp:Value}{names:List ByteArray}(h:Wc w Q mb M vp names nx)(hb:Below w.heap.size w w'):Wc w' Q mb M vp names nx:=
 ⟨(hb.block Q h.obj.lt).trans h.obj,(hb.block mb (Array.getElem?_eq_some_iff.1 h.map).1).trans h.map,h.mq,h.names⟩
theorem O0(Q mb nx:Nat)(M:List (ByteArray×Int))(vp:Value)(names:List ByteArray)(w:World)(h:Wc w Q mb M vp names nx)(hn:nx<=1000000) :
  Calls Tryz.prog 28 #[.pointer (some ⟨Q,0,none⟩)] w fun e w'=>e=.returned (.int .i64 (nx:Int))/\Wc w' Q mb M vp names (nx+1)/\w.grownBy w' (some Q):=by
 obtain⟨⟨k0,_,_⟩,_⟩:=h.obj.cells
 have z0:=h.obj.frozen 0
 have hl:=h.obj.lt
 have hw1:=Ao (x:=(nx:Int)+1) (by omega) (by omega)
 have hw2:=Ao (x:=(nx:Int)+1-1) (by omega) (by omega)
 have HG:Hid (w.grownBy (w.setCell ⟨Q,0,none⟩ (.int .i64 ((nx:Int)+1))) (some Q)):=Am w Q 0 _
 have HW:Hid (Wc (w.setCell ⟨Q,0,none⟩ (.int .i64 ((nx:Int)+1))) Q mb M vp names (nx+1)):=⟨h.obj.setNext (nx+1),(HG.out.block mb (Array.getElem?_eq_some_iff.1 h.map).1 (fun e=>h.mq (by injection e))).trans h.map,h.mq,h.names⟩
 clear h
 go_enter Tryz.func28,Tryz.ntmps28
 go_wp2_with fail
 go_ret
 exact⟨by first | rfl | simp,HW.out,HG.out⟩
structure FrQ(w w':World)(N Q:Nat):Prop where
 os:w'.os=w.os
 tape:w'.tape=w.tape
 output:w'.output=w.output
 size:w.heap.size<=w'.heap.size
 block:∀k,k<N->k≠Q->w'.heap[k]?=w.heap[k]?
theorem FrQ.refl(w:World)(N Q:Nat):FrQ w w N Q:=⟨rfl,rfl,rfl,Z0 _,fun _ _ _=>rfl⟩
theorem FrQ.grown{w w1 w2:World}{N Q m:Nat}(h:FrQ w w1 N Q)(hg:w1.grownBy w2 (some m))(hm:m=Q\/N<=m)(hN:N<=w1.heap.size):FrQ w w2 N Q:=
 ⟨hg.os.trans h.os,hg.tape.trans h.tape,hg.output.trans h.output,Za h.size hg.size,fun k hk hq=>(hg.block k (by omega) (fun e=>by injection e with e;omega)).trans (h.block k hk hq)⟩
theorem FrQ.below{w w1 w2:World}{N Q:Nat}(h:FrQ w w1 N Q)(hb:Below w1.heap.size w1 w2)(hN:N<=w1.heap.size):FrQ w w2 N Q:=
 ⟨hb.os.trans h.os,hb.tape.trans h.tape,hb.output.trans h.output,Za h.size hb.size,fun k hk hq=>(hb.block k (by omega)).trans (h.block k hk hq)⟩
theorem FrQ.keeps{w w1 w2:World}{N Q m:Nat}{v:Value}(h:FrQ w w1 N Q)(hk:Keeps w1 w2 Q v m)(hv:∀g,v.ownBlock=some g->N<=g)(hN:N<=w1.heap.size):FrQ w w2 N Q:=
 ⟨hk.os.trans h.os,hk.tape.trans h.tape,hk.output.trans h.output,Za h.size hk.size,fun k h1 h2=>(hk.block k (by omega) h2 (fun e=>by have:=hv k e;omega)).trans (h.block k h1 h2)⟩
structure ClR(w:World)(Q mb:Nat)(M:List (ByteArray×Int))(vp:Value)(names:List ByteArray)(ms:Nat)(v:Value)(c:ClZ):Prop where
 wc:Wc w Q mb M vp names c.next
 row:w.ownsRow (ms+1) 9 1 v c.slots.length (B5 c.slots)
 sig:w.heap[ms]?=some (Cy c.sigs)
 few:c.slots.length<=59
 size:ms+1<=w.heap.size
theorem TO{w:World}{B B' n:Nat}{v:Value}{xs:List Value}{e:TypeId}(h:w.ownsRow B e 1 v n xs)(hB:B'<=B):w.ownsRow B' e 1 v n xs:=by
 refine⟨h.1,?_⟩
 rcases h.2 with h0 | ⟨g,cap,cur,e1,hb,r⟩
 ·exact Or.inl h0
 ·exact Or.inr ⟨g,cap,cur,e1,by omega,r⟩
theorem PastR.fr{w w':World}{Q B N:Nat}{vp:Value}{past:List (List ByteArray)}{vals:List Value}(h:PastR w Q B vp past vals)(hf:FrQ w w' N Q)(hN:w.heap.size<=N)(hq:vp.ownBlock≠some Q):PastR w' Q B vp past vals:=by
 refine⟨⟨h.own.1,?_⟩,fun i h1 h2=>?_,h.few⟩
 ·rcases h.own.2 with h0 | ⟨g,cap,cur,e,hb,hg,r⟩
  ·exact Or.inl h0
  ·subst e
   exact Or.inr ⟨g,cap,cur,rfl,hb,(hf.block g (by have:=(Array.getElem?_eq_some_iff.1 hg).1;omega) (fun e=>hq (by rw[e];rfl))).trans hg,r⟩
 ·obtain⟨ad,c,e,h3,h4,h5,h6⟩:=h.each i h1 h2
  refine⟨ad,c,e,h3,h4,h5,fun a ea=>?_⟩
  obtain⟨b,o,e2,hm,hb,hc⟩:=h6 a ea
  refine⟨b,o,e2,hm,Z5 hb hf.size,fun j hj=>?_⟩
  rw[World.cell?_of_block (w:=w) (a:=⟨b,o+j,none⟩) (hf.block b (by omega) hm.1)]
  exact hc j hj
end Go.Proofs.YtpfdgbalchmmfaaGreatDoor
