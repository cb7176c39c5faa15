/- Texts in one. -/
import Derived.Test.YtibeadcfgcfdbaaGreatDoorMm
import Derived.Test.YtibeadcfgcfdbaaGreatDoorRLex1X
set_option maxHeartbeats 8000000
set_option maxRecDepth 20000
namespace Go.Proofs.YtibeadcfgcfdbaaGreatDoor
open Go.RowKit
theorem Fk{w:World}{B g cap:Nat}{acc:List Tok}{x:Tok}(h:w.ownsRow B 99 3 (sl g (acc.length+1) cap) (acc.length+1) (C9 acc++F3 x)):w.ownsRow B 99 3 (sl g (acc.length+1) cap) (acc++[x]).length (C9 (acc++[x])):=by
 rw[Ly,Z1]
 exact h
theorem Eo{w0 w3 w4:World}{B:Nat}{o:Obj}{v:Value}{n:Nat}{xs:List Value}{e:TypeId}{size:Nat}(hB:Below B w0 w3)(hz:B<=w3.heap.size)(hg:(w3.alloc o).grownBy w4 v.ownBlock)(hO:w3.ownsRow B e size v n xs):Below B w0 w4:=
 (hB.alloc hz _).grown hg (by simp;omega) (fun j hj=>(hO.lt j hj).1)
theorem GZ{T:List Int}{i k:Nat}{n:Int}{z:Bool}(hn:n=EI T i (k-i))(hd:LT T i (k-i))(hz:z=(decide (k<T.length)&&Bm (wd T k))):FX T i k=(decide (1073741823<n)||(decide (1<k-i)&&wd T i==48)||z):=by
 unfold FX
 rw[hz,hn]
 obtain⟨c1,c2,_,_⟩:=QW (k-i) hd
 have:decide (1073741823<Be T i (k-i))=decide (1073741823<EI T i (k-i)):=by
  refine decide_eq_decide.2 ⟨c2,fun h=>?_⟩
  by_cases hx:Be T i (k-i)<=1073741823
  ·have:=c1 hx;omega
  ·omega
 rw[this]
theorem PV{n x:Int}{k i:Nat}{z:Bool}(h:1073741823<n\/(1<k-i/\x=48)\/z=true):(decide (1073741823<n)||(decide (1<k-i)&&x==48)||z)=true:=by
 simp only[Bool.or_eq_true,Bool.and_eq_true,decide_eq_true_eq,beq_iff_eq]
 rcases h with h | h | h
 ·exact Or.inl (Or.inl h)
 ·exact Or.inl (Or.inr h)
 ·exact Or.inr h
theorem Rq{n x:Int}{k i:Nat}{z:Bool}(h:¬(1073741823<n\/(1<k-i/\x=48)\/z=true)):(decide (1073741823<n)||(decide (1<k-i)&&x==48)||z)=false:=by
 rw[Bool.eq_false_iff]
 intro hh
 simp only[Bool.or_eq_true,Bool.and_eq_true,decide_eq_true_eq,beq_iff_eq]at hh
 rcases hh with(hh | hh) | hh
 ·exact h (Or.inl hh)
 ·exact h (Or.inr (Or.inl hh))
 ·exact h (Or.inr (Or.inr hh))
theorem TS(t:ByteArray)(w:World)(hm:t.size<=maxLen) :
  Calls Tryz.prog 27 #[.string t] w fun e w'=>DN (A2 t) w.heap.size e w'/\Below w.heap.size w w':=by
 unfold maxLen at hm
 by_cases hl:t.size<=4000
 ·have hsp:Cf (A2 t)=BO (A2 t) 0:=by unfold Cf;rw[Ai,if_neg (by omega)]
  have HP:Hid (Cf (A2 t)=BO (A2 t) 0):=hsp
  clear hsp
  have HL:Hid ((A2 t).length=t.size):=Ai t
  have hl':(t.size:Int)<=4000:=by omega
  go_enter Tryz.func27,Tryz.ntmps27
  go_wp2_with fail
  obtain⟨w0,e0⟩:∃w0,w0=w.alloc (.cells #[.int .i64 0,.int .i64 0] 27):=⟨_,rfl⟩
  have hz0:Hid (w0.heap.size=w.heap.size+1):=by show _=_;rw[e0];simp
  have hB0:Below w.heap.size w w0:=by rw[e0];exact(Zg _ _).alloc (Z0 _) _
  have d0:w0.cell? ⟨w.heap.size,0,none⟩=some (.int .i64 0):=by rw[e0];simp
  have d1:w0.cell? ⟨w.heap.size,1,none⟩=some (.int .i64 0):=by rw[e0];simp
  have f0:w0.frozen? ⟨w.heap.size,0,none⟩=false:=by rw[e0];simp
  have f1:w0.frozen? ⟨w.heap.size,1,none⟩=false:=by rw[e0];simp
  rw[<-e0]
  clear e0
  have hlt0:w.heap.size<w0.heap.size:=by rw[hz0.out];omega
  have HS0:Hid (Sofar (A2 t) [] 0):=L6 _
  have HO0:Hid (w0.ownsRow (w.heap.size+1) 99 3 (.slice none 0 0) ([]:List Tok).length (C9 [])):=Zl _ _ _ _
  go_loopw [4,5] (fun s4 s5 wr=>∃(i:Nat) (acc:List Tok),s5=.int .i64 i/\i<=t.size/\Hid (Sofar (A2 t) acc i)/\acc.length<=i/\Hid (wr.ownsRow (w.heap.size+1) 99 3 s4 acc.length (C9 acc))/\Below (w.heap.size+1) w0 wr) (fun _ s5 _=>t.size-(intOf s5).toNat)
  case atStart=>exact⟨0,[],rfl,Z3 _,HS0,Z3 _,HO0,Zg _ _⟩
  case round=>
   clear HS0 HO0
   obtain⟨i,acc,rfl,hi,HS,hac,HO,hB⟩:=hrel
   have hzr:=hB.size
   have hlr:w.heap.size<wr.heap.size:=by omega
   have g0:=(hB.cell (p:=⟨w.heap.size,0,none⟩) (by simp)).trans d0
   have g1:=(hB.cell (p:=⟨w.heap.size,1,none⟩) (by simp)).trans d1
   have q0:=(hB.frozen (p:=⟨w.heap.size,0,none⟩) (by simp)).trans f0
   have q1:=(hB.frozen (p:=⟨w.heap.size,1,none⟩) (by simp)).trans f1
   have hBw:Below w.heap.size w wr:=hB0.trans (hB.mono (by omega))
   by_cases hlt:i<t.size
   ·have hil:(i:Int)<(t.size:Int):=by omega
    have hiT:i<(A2 t).length:=by rw[HL.out];exact hlt
    have HIT:Hid (i<(A2 t).length):=hiT
    clear hiT
    have hcc:=EO hlt
    have hby:=Fr (Dw t) i
    have HW:Hid (∃x,wd (A2 t) i=x):=⟨_,rfl⟩
    cases hbl:Bd (wd (A2 t) i)with
    | true=>
     have HS2:Hid (Sofar (A2 t) acc (i+1)):=HS.out.skip HIT.out (Lx hbl)
     have hx:wd (A2 t) i=32\/wd (A2 t) i=10\/wd (A2 t) i=9:=by
      unfold Bd at hbl
      simp only[Bool.or_eq_true,beq_iff_eq]at hbl
      omega
     have hw1:=AN (x:=(i:Int)+1) (by omega) (by omega)
     clear hbl HS
     generalize wd (A2 t) i=x at *
     rcases hx with rfl | rfl | rfl
     all_goals
      go_wp2_with fail
      exact⟨⟨i+1,acc,by first | rfl | simp,by omega,HS2,by omega,HO,hB⟩,by simp[intOf];omega⟩
    | false=>
     have hnb:((wd (A2 t) i==32)=false/\(wd (A2 t) i==10)=false)/\(wd (A2 t) i==9)=false:=by
      have:=hbl
      unfold Bd at this
      simp only[Bool.or_eq_false_iff]at this
      exact this
     obtain⟨⟨nb1,nb2⟩,nb3⟩:=hnb
     by_cases h35:wd (A2 t) i=35
     ·have HS2:Hid (Sofar (A2 t) acc (Ac Cw (A2 t) i)):=HS.out.skip HIT.out (NJ hbl h35)
      have HM:Hid (i<Ac Cw (A2 t) i):=Nu HIT.out h35
      have HU0:Hid (Upto Cw (A2 t) i i):=IF (Nat.le_of_lt HIT.out)
      rw[h35]at hcc
      clear hbl HS nb1 nb2 nb3 h35 HW hby
      obtain⟨w3,e3⟩:∃w3,w3=wr:=⟨_,rfl⟩
      subst e3
      go_wp2_with fail
      go_loopw [5] (fun s5 wr'=>∃(k:Nat),s5=.int .i64 k/\k<=t.size/\Hid (Upto Cw (A2 t) i k)/\wr'=w3) (fun s5 _=>t.size-(intOf s5).toNat)
      case atStart=>exact⟨i,rfl,hi,HU0,rfl⟩
      case round=>
       clear HU0 hcc
       obtain⟨k,rfl,hk,HU,rfl⟩:=hrel
       by_cases hkt:k<t.size
       ·have hkl:(k:Int)<(t.size:Int):=by omega
        have hck:=EO hkt
        have hw1:=AN (x:=(k:Int)+1) (by omega) (by omega)
        by_cases h10:wd (A2 t) k=10
        ·have HE:Hid (Ac Cw (A2 t) i=k):=HU.out.stop (Or.inr (by rw[h10];rfl))
         rw[HE.out]at HS2 HM
         rw[h10]at hck
         have hM:=HM.out
         clear h10 HU HE HM
         go_wp2_with fail
         exact⟨⟨k,acc,rfl,hk,HS2,by omega,HO,hB⟩,by simp[intOf];omega⟩
        ·have HU2:Hid (Upto Cw (A2 t) i (k+1)):=HU.out.step (by rw[HL.out];exact hkt) (by unfold Cw;exact bne_iff_ne.2 h10)
         clear HU
         generalize wd (A2 t) k=y at *
         go_wp2_with fail
         exact⟨⟨k+1,by first | rfl | simp,by omega,HU2,trivial⟩,by simp[intOf];omega⟩
       ·have HE:Hid (Ac Cw (A2 t) i=k):=HU.out.stop (Or.inl (by rw[HL.out];exact hkt))
        rw[HE.out]at HS2 HM
        have hM:=HM.out
        have e:k=t.size:=by omega
        subst e
        go_wp2_with fail
        exact⟨⟨t.size,acc,rfl,hk,HS2,by omega,HO,hB⟩,by simp[intOf];omega⟩
     ·cases hle:Bm (wd (A2 t) i)with
      | true=>as_aux_lemma=>
       have HS2:Hid (Sofar (A2 t) (acc++[(if Ey (Am (A2 t) i (Ac CZ (A2 t) i))=true then 3 else 1,Am (A2 t) i (Ac CZ (A2 t) i),i)]) (Ac CZ (A2 t) i)):=HS.out.tok HIT.out (NK hbl h35 hle)
       have HM:Hid (i<Ac CZ (A2 t) i):=(Eb HIT.out (by unfold CZ;rw[hle];rfl)).1
       have HU0:Hid (Upto CZ (A2 t) i i):=IF (Nat.le_of_lt HIT.out)
       have HLE:Hid (Bm (wd (A2 t) i)=true):=hle
       have HDI:Hid (Az (wd (A2 t) i)=false):=J1 hle
       obtain⟨w3,e3⟩:∃w3,w3=wr:=⟨_,rfl⟩
       subst e3
       clear hbl HS hle HW
       generalize wd (A2 t) i=x at *
       go_wp2_with (first | (go_at_call 48;refine(C6 _ true _ HLE).mono ?_;rintro e w' ⟨rfl,hw⟩;rw[hw];clear hw w') | (go_at_call 49;refine(CY _ false _ HDI).mono ?_;rintro e w' ⟨rfl,hw⟩;rw[hw];clear hw w'))
       go_loopw [7,8,9] (fun s7 _ _ wr'=>∃(k:Nat),s7=.int .i64 k/\k<=t.size/\Hid (Upto CZ (A2 t) i k)/\wr'=w3) (fun s7 _ _ _=>t.size-(intOf s7).toNat)
       case atStart=>exact⟨i,rfl,hi,HU0,rfl⟩
       case round=>
        clear HU0 hcc HLE HDI
        obtain⟨k,rfl,hk,HU,rfl⟩:=hrel
        by_cases hkt:k<t.size
        ·have hkl:(k:Int)<(t.size:Int):=by omega
         have hck:=EO hkt
         have hw1:=AN (x:=(k:Int)+1) (by omega) (by omega)
         cases ha:CZ (wd (A2 t) k)with
         | true=>
          have HU2:Hid (Upto CZ (A2 t) i (k+1)):=HU.out.step (by rw[HL.out];exact hkt) ha
          clear HU HS2 HM
          cases hl1:Bm (wd (A2 t) k)with
          | true=>
           have HL1:Hid (Bm (wd (A2 t) k)=true):=hl1
           have HD1:Hid (Az (wd (A2 t) k)=false):=J1 hl1
           clear ha hl1
           generalize wd (A2 t) k=y at *
           go_wp2_with (first | (go_at_call 48;refine(C6 _ true _ HL1).mono ?_;rintro e w' ⟨rfl,hw⟩;rw[hw];clear hw w') | (go_at_call 49;refine(CY _ false _ HD1).mono ?_;rintro e w' ⟨rfl,hw⟩;rw[hw];clear hw w'))
           exact⟨⟨k+1,by first | rfl | simp,by omega,HU2,trivial⟩,by simp[intOf];omega⟩
          | false=>
           have HL1:Hid (Bm (wd (A2 t) k)=false):=hl1
           have HD1:Hid (Az (wd (A2 t) k)=true):=by unfold CZ at ha;rw[hl1,Bool.false_or]at ha;exact ha
           clear ha hl1
           generalize wd (A2 t) k=y at *
           go_wp2_with (first | (go_at_call 48;refine(C6 _ false _ HL1).mono ?_;rintro e w' ⟨rfl,hw⟩;rw[hw];clear hw w') | (go_at_call 49;refine(CY _ true _ HD1).mono ?_;rintro e w' ⟨rfl,hw⟩;rw[hw];clear hw w'))
           exact⟨⟨k+1,by first | rfl | simp,by omega,HU2,trivial⟩,by simp[intOf];omega⟩
         | false=>
          have HE:Hid (Ac CZ (A2 t) i=k):=HU.out.stop (Or.inr ha)
          have HL1:Hid (Bm (wd (A2 t) k)=false):=by unfold CZ at ha;rw[Bool.or_eq_false_iff]at ha;exact ha.1
          have HD1:Hid (Az (wd (A2 t) k)=false):=by unfold CZ at ha;rw[Bool.or_eq_false_iff]at ha;exact ha.2
          clear ha HU
          generalize wd (A2 t) k=y at *
          rw[HE.out]at HS2 HM
          have hM:=HM.out
          have hkk:(i:Int)<=(k:Int):=by omega
          have hkl2:(k:Int)<=(t.size:Int):=by omega
          cases hw:Ey (Am (A2 t) i k)with
          | true=>
           rw[hw,if_pos rfl]at HS2
           have hwd:∀w,Calls Tryz.prog 50 #[.string (t.extract i k)] w fun e w'=>e=.returned (.bool true)/\Below w.heap.size w w':=fun w=>Iy _ true w (by rw[C0];exact hw)
           clear hw HE HM
           go_wp2_with (first | (go_at_call 48;refine(C6 _ false _ HL1).mono ?_;rintro e w' ⟨rfl,hw⟩;rw[hw];clear hw w') | (go_at_call 49;refine(CY _ false _ HD1).mono ?_;rintro e w' ⟨rfl,hw⟩;rw[hw];clear hw w') | (go_at_call 50;refine(hwd _).mono ?_;rintro e w2 ⟨rfl,hb2⟩;have O2:Hid (w2.ownsRow (w.heap.size+1) 99 3 u4 acc.length (C9 acc)):=Fj HO.out hb2;have hB2:Below (w.heap.size+1) w0 w2:=hB.trans (hb2.mono (by omega));have hz2:w.heap.size+1<=w2.heap.size:=(by have:=hb2.size;omega)) | (at_builtin;refine AO Ju rfl (.tmp 83) (.tmp 91) rfl (w.heap.size+1) acc.length 1 u4 (C9 acc) (F3 (3,Am (A2 t) i k,i)) rfl (O2.out.alloc _) ⟨w2.heap.size,0,none⟩ rfl rfl (En _ _ _ _ _ _) (FF _) (by omega) (by simp;omega) ?_;intro g cap' w6 O6 hg6 hor6))
           exact⟨⟨k,acc++[(3,Am (A2 t) i k,i)],rfl,hk,HS2,by simp;omega,Fk O6,Eo hB2 hz2 hg6 O2.out⟩,by simp[intOf];omega⟩
          | false=>
           rw[hw,if_neg (by decide)]at HS2
           have hwd:∀w,Calls Tryz.prog 50 #[.string (t.extract i k)] w fun e w'=>e=.returned (.bool false)/\Below w.heap.size w w':=fun w=>Iy _ false w (by rw[C0];exact hw)
           clear hw HE HM
           go_wp2_with (first | (go_at_call 48;refine(C6 _ false _ HL1).mono ?_;rintro e w' ⟨rfl,hw⟩;rw[hw];clear hw w') | (go_at_call 49;refine(CY _ false _ HD1).mono ?_;rintro e w' ⟨rfl,hw⟩;rw[hw];clear hw w') | (go_at_call 50;refine(hwd _).mono ?_;rintro e w2 ⟨rfl,hb2⟩;have O2:Hid (w2.ownsRow (w.heap.size+1) 99 3 u4 acc.length (C9 acc)):=Fj HO.out hb2;have hB2:Below (w.heap.size+1) w0 w2:=hB.trans (hb2.mono (by omega));have hz2:w.heap.size+1<=w2.heap.size:=(by have:=hb2.size;omega)) | (at_builtin;refine AO Ju rfl (.tmp 83) (.tmp 91) rfl (w.heap.size+1) acc.length 1 u4 (C9 acc) (F3 (1,Am (A2 t) i k,i)) rfl (O2.out.alloc _) ⟨w2.heap.size,0,none⟩ rfl rfl (En _ _ _ _ _ _) (FF _) (by omega) (by simp;omega) ?_;intro g cap' w6 O6 hg6 hor6))
           exact⟨⟨k,acc++[(1,Am (A2 t) i k,i)],rfl,hk,HS2,by simp;omega,Fk O6,Eo hB2 hz2 hg6 O2.out⟩,by simp[intOf];omega⟩
        ·have HE:Hid (Ac CZ (A2 t) i=k):=HU.out.stop (Or.inl (by rw[HL.out];exact hkt))
         have HL1:Hid (Bm 0=false):=by show _=_;decide
         have HD1:Hid (Az 0=false):=by show _=_;decide
         have hkl:¬(k:Int)<(t.size:Int):=by omega
         clear HU
         rw[HE.out]at HS2 HM
         have hM:=HM.out
         have hkk:(i:Int)<=(k:Int):=by omega
         have hkl2:(k:Int)<=(t.size:Int):=by omega
         cases hw:Ey (Am (A2 t) i k)with
         | true=>
          rw[hw,if_pos rfl]at HS2
          have hwd:∀w,Calls Tryz.prog 50 #[.string (t.extract i k)] w fun e w'=>e=.returned (.bool true)/\Below w.heap.size w w':=fun w=>Iy _ true w (by rw[C0];exact hw)
          clear hw HE HM
          go_wp2_with (first | (go_at_call 48;refine(C6 _ false _ HL1).mono ?_;rintro e w' ⟨rfl,hw⟩;rw[hw];clear hw w') | (go_at_call 49;refine(CY _ false _ HD1).mono ?_;rintro e w' ⟨rfl,hw⟩;rw[hw];clear hw w') | (go_at_call 50;refine(hwd _).mono ?_;rintro e w2 ⟨rfl,hb2⟩;have O2:Hid (w2.ownsRow (w.heap.size+1) 99 3 u4 acc.length (C9 acc)):=Fj HO.out hb2;have hB2:Below (w.heap.size+1) w0 w2:=hB.trans (hb2.mono (by omega));have hz2:w.heap.size+1<=w2.heap.size:=(by have:=hb2.size;omega)) | (at_builtin;refine AO Ju rfl (.tmp 83) (.tmp 91) rfl (w.heap.size+1) acc.length 1 u4 (C9 acc) (F3 (3,Am (A2 t) i k,i)) rfl (O2.out.alloc _) ⟨w2.heap.size,0,none⟩ rfl rfl (En _ _ _ _ _ _) (FF _) (by omega) (by simp;omega) ?_;intro g cap' w6 O6 hg6 hor6))
          exact⟨⟨k,acc++[(3,Am (A2 t) i k,i)],rfl,hk,HS2,by simp;omega,Fk O6,Eo hB2 hz2 hg6 O2.out⟩,by simp[intOf];omega⟩
         | false=>
          rw[hw,if_neg (by decide)]at HS2
          have hwd:∀w,Calls Tryz.prog 50 #[.string (t.extract i k)] w fun e w'=>e=.returned (.bool false)/\Below w.heap.size w w':=fun w=>Iy _ false w (by rw[C0];exact hw)
          clear hw HE HM
          go_wp2_with (first | (go_at_call 48;refine(C6 _ false _ HL1).mono ?_;rintro e w' ⟨rfl,hw⟩;rw[hw];clear hw w') | (go_at_call 49;refine(CY _ false _ HD1).mono ?_;rintro e w' ⟨rfl,hw⟩;rw[hw];clear hw w') | (go_at_call 50;refine(hwd _).mono ?_;rintro e w2 ⟨rfl,hb2⟩;have O2:Hid (w2.ownsRow (w.heap.size+1) 99 3 u4 acc.length (C9 acc)):=Fj HO.out hb2;have hB2:Below (w.heap.size+1) w0 w2:=hB.trans (hb2.mono (by omega));have hz2:w.heap.size+1<=w2.heap.size:=(by have:=hb2.size;omega)) | (at_builtin;refine AO Ju rfl (.tmp 83) (.tmp 91) rfl (w.heap.size+1) acc.length 1 u4 (C9 acc) (F3 (1,Am (A2 t) i k,i)) rfl (O2.out.alloc _) ⟨w2.heap.size,0,none⟩ rfl rfl (En _ _ _ _ _ _) (FF _) (by omega) (by simp;omega) ?_;intro g cap' w6 O6 hg6 hor6))
          exact⟨⟨k,acc++[(1,Am (A2 t) i k,i)],rfl,hk,HS2,by simp;omega,Fk O6,Eo hB2 hz2 hg6 O2.out⟩,by simp[intOf];omega⟩
      | false=>
      cases hdi:Az (wd (A2 t) i)with
      | true=>as_aux_lemma=>
       have HBD:Hid (FX (A2 t) i (Ac Az (A2 t) i)=true->BO (A2 t) 0=.error (2,(i:Int))):=fun h=>HS.out.bad HIT.out (OR hbl h35 hdi h)
       have HTK:Hid (FX (A2 t) i (Ac Az (A2 t) i)=false->Sofar (A2 t) (acc++[(2,Am (A2 t) i (Ac Az (A2 t) i),i)]) (Ac Az (A2 t) i)):=fun h=>HS.out.tok HIT.out (OS hbl h35 hdi h)
       have HM:Hid (i<Ac Az (A2 t) i):=(Eb HIT.out hdi).1
       have HU0:Hid (Upto Az (A2 t) i i):=IF (Nat.le_of_lt HIT.out)
       have HN0:Hid (0=EI (A2 t) i (i-i)):=by show _=_;rw[Nat.sub_self];rfl
       have HLE:Hid (Bm (wd (A2 t) i)=false):=hle
       have HDI:Hid (Az (wd (A2 t) i)=true):=hdi
       obtain⟨x,HX⟩:∃x,Hid (wd (A2 t) i=x):=⟨_,rfl⟩
       obtain⟨w3,e3⟩:∃w3,w3=wr:=⟨_,rfl⟩
       subst e3
       clear hbl HS hle hdi HW
       rw[HX.out]at hcc hby nb1 nb2 nb3 h35 HLE HDI
       go_wp2_with (first | (go_at_call 48;refine(C6 _ false _ HLE).mono ?_;rintro e w' ⟨rfl,hw⟩;rw[hw];clear hw w') | (go_at_call 49;refine(CY _ true _ HDI).mono ?_;rintro e w' ⟨rfl,hw⟩;rw[hw];clear hw w'))
       go_loopw [7,9,12] (fun s7 _ s12 wr'=>∃(k:Nat) (n:Int),s7=.int .i64 k/\s12=.int .i64 n/\k<=t.size/\Hid (Upto Az (A2 t) i k)/\Hid (n=EI (A2 t) i (k-i))/\0<=n/\n<=10737418239/\wr'=w3) (fun s7 _ _ _=>t.size-(intOf s7).toNat)
       case atStart=>exact⟨i,0,rfl,rfl,hi,HU0,HN0,by omega,by omega,rfl⟩
       case round=>
        clear HU0 HN0 hcc HLE HDI
        obtain⟨k,n,rfl,rfl,hk,HU,HN,hn0,hn1,rfl⟩:=hrel
        by_cases hkt:k<t.size
        ·have hkl:(k:Int)<(t.size:Int):=by omega
         have hck:=EO hkt
         have hyb:=Fr (Dw t) k
         have hw1:=AN (x:=(k:Int)+1) (by omega) (by omega)
         cases ha:Az (wd (A2 t) k)with
         | true=>
          have HU2:Hid (Upto Az (A2 t) i (k+1)):=HU.out.step (by rw[HL.out];exact hkt) ha
          have hy2:48<=wd (A2 t) k/\wd (A2 t) k<=57:=by unfold Az at ha;exact of_decide_eq_true ha
          have HQ:Hid (EI (A2 t) i (k+1-i)=if n<=1073741823 then 10*n+(wd (A2 t) k-48)else n):=by
           have h1:=HU.out.1
           show _=_
           rw[show k+1-i=(k-i)+1 by omega]
           conv=>lhs;unfold EI
           rw[show i+(k-i)=k by omega,<-HN.out]
          clear HU HM HBD HTK HN
          have HD1:Hid (Az (wd (A2 t) k)=true):=ha
          have HL1:Hid (Bm (wd (A2 t) k)=false):=Hc ha
          clear ha hyb
          generalize wd (A2 t) k=y at *
          by_cases hn:n<=1073741823
          ·rw[if_pos hn]at HQ
           have HQ2:Hid (10*n+y-48=EI (A2 t) i (k+1-i)):=by show _=_;rw[HQ.out];omega
           have hw2:=AN (x:=10*n) (by omega) (by omega)
           have hw3:=AN (x:=10*n+y) (by omega) (by omega)
           have hw4:=AN (x:=10*n+y-48) (by omega) (by omega)
           have hwy:=AN (x:=y) (by omega) (by omega)
           clear HQ
           go_wp2_with (first | (go_at_call 48;refine(C6 _ false _ HL1).mono ?_;rintro e w' ⟨rfl,hw⟩;rw[hw];clear hw w') | (go_at_call 49;refine(CY _ true _ HD1).mono ?_;rintro e w' ⟨rfl,hw⟩;rw[hw];clear hw w'))
           exact⟨⟨k+1,10*n+y-48,by first | rfl | simp,by first | rfl | simp,by omega,HU2,HQ2,by omega,by omega,trivial⟩,by simp[intOf];omega⟩
          ·rw[if_neg hn]at HQ
           have HQ2:Hid (n=EI (A2 t) i (k+1-i)):=HQ.out.symm
           clear HQ
           go_wp2_with (first | (go_at_call 48;refine(C6 _ false _ HL1).mono ?_;rintro e w' ⟨rfl,hw⟩;rw[hw];clear hw w') | (go_at_call 49;refine(CY _ true _ HD1).mono ?_;rintro e w' ⟨rfl,hw⟩;rw[hw];clear hw w'))
           exact⟨⟨k+1,n,by first | rfl | simp,by first | rfl | simp,by omega,HU2,HQ2,by omega,by omega,trivial⟩,by simp[intOf];omega⟩
         | false=>
          have HE:Hid (Ac Az (A2 t) i=k):=HU.out.stop (Or.inr ha)
          have HD1:Hid (Az (wd (A2 t) k)=false):=ha
          have HZ0:Hid (Bm (wd (A2 t) k)=(decide (k<(A2 t).length)&&Bm (wd (A2 t) k))):=by show _=_;rw[decide_eq_true (show k<(A2 t).length by rw[HL.out];exact hkt),Bool.true_and]
          clear ha
          cases hz:Bm (wd (A2 t) k)with
          | true=>
           have HL1:Hid (Bm (wd (A2 t) k)=true):=hz
           have HZ:Hid (true=(decide (k<(A2 t).length)&&Bm (wd (A2 t) k))):=by rw[<-hz];exact HZ0
           clear HZ0 hz hyb
           obtain⟨y,hy⟩:∃y,wd (A2 t) k=y:=⟨_,rfl⟩
           rw[hy]at hck HL1 HD1
           clear hy
           have hik:i<=k:=HU.out.1
           rw[HE.out]at HM
           have hM:=HM.out
           have HBAD:Hid ((1073741823<n\/(1<k-i/\x=48)\/true=true)->BO (A2 t) 0=.error (2,(i:Int))):=fun h=>HBD.out (by
            rw[HE.out,GZ HN.out (fun j hj=>HU.out.2.2 _ (by omega) (by omega)) HZ.out,HX.out]
            exact PV h)
           have HTOK:Hid (¬(1073741823<n\/(1<k-i/\x=48)\/true=true)->Sofar (A2 t) (acc++[(2,Am (A2 t) i k,i)]) k):=fun h=>by
            have h1:=HTK.out (by
             rw[HE.out,GZ HN.out (fun j hj=>HU.out.2.2 _ (by omega) (by omega)) HZ.out,HX.out]
             exact Rq h)
            rw[HE.out]at h1
            exact h1
           have hkk:(i:Int)<=(k:Int):=by omega
           have hkl2:(k:Int)<=(t.size:Int):=by omega
           have hw5:=AN (x:=(k:Int)-(i:Int)) (by omega) (by omega)
           have hzr1:w.heap.size+1<=wr.heap.size:=by omega
           clear HE HM HBD HTK HU HN HZ HX
           go_wp2_with (first | (go_at_call 48;refine(C6 _ true _ HL1).mono ?_;rintro e w' ⟨rfl,hw⟩;rw[hw];clear hw w') | (go_at_call 49;refine(CY _ false _ HD1).mono ?_;rintro e w' ⟨rfl,hw⟩;rw[hw];clear hw w') | (at_builtin;refine AO Ju rfl (.tmp 144) (.tmp 151) rfl (w.heap.size+1) acc.length 1 u4 (C9 acc) (F3 (2,Am (A2 t) i k,i)) rfl (HO.out.alloc _) ⟨wr.heap.size,0,none⟩ rfl rfl (En _ _ _ _ _ _) (FF _) (by omega) (by simp;omega) ?_;intro g cap' w6 O6 hg6 hor6))
           all_goals first
            | (
              refine bodyPost_ret (v:=.tuple #[.slice none 0 0,.agg #[.int .i64 2,.int .i64 i]]) (by simp[results,Tryz.results27,go_sem,g0,g1]) rfl ⟨?_,?_⟩
              ·(try simp only[beq_iff_eq]at *)
               unfold DN
               rw[HP.out,HBAD.out (by first | exact Or.inr (Or.inr trivial) | exact Or.inl (by omega) | exact Or.inr (Or.inl ⟨by omega,by omega⟩))]
              ·repeat (first | refine Below.setCell ?_ (by dsimp only;omega) _ | exact hBw))
            | exact⟨⟨k,acc++[(2,Am (A2 t) i k,i)],rfl,hk,HTOK.out (by(try simp only[beq_eq_false_iff_ne,ne_eq]at *);rintro(h | ⟨h1,h2⟩ | h)<;>first | omega | cases h),by simp;omega,Fk O6,Eo hB hzr1 hg6 HO.out⟩,by simp[intOf];omega⟩
          | false=>
           have HL1:Hid (Bm (wd (A2 t) k)=false):=hz
           have HZ:Hid (false=(decide (k<(A2 t).length)&&Bm (wd (A2 t) k))):=by rw[<-hz];exact HZ0
           clear HZ0 hz hyb
           obtain⟨y,hy⟩:∃y,wd (A2 t) k=y:=⟨_,rfl⟩
           rw[hy]at hck HL1 HD1
           clear hy
           have hik:i<=k:=HU.out.1
           rw[HE.out]at HM
           have hM:=HM.out
           have HBAD:Hid ((1073741823<n\/(1<k-i/\x=48)\/false=true)->BO (A2 t) 0=.error (2,(i:Int))):=fun h=>HBD.out (by
            rw[HE.out,GZ HN.out (fun j hj=>HU.out.2.2 _ (by omega) (by omega)) HZ.out,HX.out]
            exact PV h)
           have HTOK:Hid (¬(1073741823<n\/(1<k-i/\x=48)\/false=true)->Sofar (A2 t) (acc++[(2,Am (A2 t) i k,i)]) k):=fun h=>by
            have h1:=HTK.out (by
             rw[HE.out,GZ HN.out (fun j hj=>HU.out.2.2 _ (by omega) (by omega)) HZ.out,HX.out]
             exact Rq h)
            rw[HE.out]at h1
            exact h1
           have hkk:(i:Int)<=(k:Int):=by omega
           have hkl2:(k:Int)<=(t.size:Int):=by omega
           have hw5:=AN (x:=(k:Int)-(i:Int)) (by omega) (by omega)
           have hzr1:w.heap.size+1<=wr.heap.size:=by omega
           clear HE HM HBD HTK HU HN HZ HX
           go_wp2_with (first | (go_at_call 48;refine(C6 _ false _ HL1).mono ?_;rintro e w' ⟨rfl,hw⟩;rw[hw];clear hw w') | (go_at_call 49;refine(CY _ false _ HD1).mono ?_;rintro e w' ⟨rfl,hw⟩;rw[hw];clear hw w') | (at_builtin;refine AO Ju rfl (.tmp 144) (.tmp 151) rfl (w.heap.size+1) acc.length 1 u4 (C9 acc) (F3 (2,Am (A2 t) i k,i)) rfl (HO.out.alloc _) ⟨wr.heap.size,0,none⟩ rfl rfl (En _ _ _ _ _ _) (FF _) (by omega) (by simp;omega) ?_;intro g cap' w6 O6 hg6 hor6))
           all_goals first
            | (
              refine bodyPost_ret (v:=.tuple #[.slice none 0 0,.agg #[.int .i64 2,.int .i64 i]]) (by simp[results,Tryz.results27,go_sem,g0,g1]) rfl ⟨?_,?_⟩
              ·(try simp only[beq_iff_eq]at *)
               unfold DN
               rw[HP.out,HBAD.out (by first | exact Or.inr (Or.inr trivial) | exact Or.inl (by omega) | exact Or.inr (Or.inl ⟨by omega,by omega⟩))]
              ·repeat (first | refine Below.setCell ?_ (by dsimp only;omega) _ | exact hBw))
            | exact⟨⟨k,acc++[(2,Am (A2 t) i k,i)],rfl,hk,HTOK.out (by(try simp only[beq_eq_false_iff_ne,ne_eq]at *);rintro(h | ⟨h1,h2⟩ | h)<;>first | omega | cases h),by simp;omega,Fk O6,Eo hB hzr1 hg6 HO.out⟩,by simp[intOf];omega⟩
        ·have HE:Hid (Ac Az (A2 t) i=k):=HU.out.stop (Or.inl (by rw[HL.out];exact hkt))
         have HL1:Hid (Bm 0=false):=by show _=_;decide
         have HD1:Hid (Az 0=false):=by show _=_;decide
         have hkl:¬(k:Int)<(t.size:Int):=by omega
         have HZ:Hid (false=(decide (k<(A2 t).length)&&Bm (wd (A2 t) k))):=by show _=_;rw[decide_eq_false (show ¬k<(A2 t).length by rw[HL.out];exact hkt)];rfl
         have hik:i<=k:=HU.out.1
         rw[HE.out]at HM
         have hM:=HM.out
         have HBAD:Hid ((1073741823<n\/(1<k-i/\x=48)\/false=true)->BO (A2 t) 0=.error (2,(i:Int))):=fun h=>HBD.out (by
          rw[HE.out,GZ HN.out (fun j hj=>HU.out.2.2 _ (by omega) (by omega)) HZ.out,HX.out]
          exact PV h)
         have HTOK:Hid (¬(1073741823<n\/(1<k-i/\x=48)\/false=true)->Sofar (A2 t) (acc++[(2,Am (A2 t) i k,i)]) k):=fun h=>by
          have h1:=HTK.out (by
           rw[HE.out,GZ HN.out (fun j hj=>HU.out.2.2 _ (by omega) (by omega)) HZ.out,HX.out]
           exact Rq h)
          rw[HE.out]at h1
          exact h1
         have hkk:(i:Int)<=(k:Int):=by omega
         have hkl2:(k:Int)<=(t.size:Int):=by omega
         have hw5:=AN (x:=(k:Int)-(i:Int)) (by omega) (by omega)
         have hzr1:w.heap.size+1<=wr.heap.size:=by omega
         clear HE HM HBD HTK HU HN HZ HX
         go_wp2_with (first | (go_at_call 48;refine(C6 _ false _ HL1).mono ?_;rintro e w' ⟨rfl,hw⟩;rw[hw];clear hw w') | (go_at_call 49;refine(CY _ false _ HD1).mono ?_;rintro e w' ⟨rfl,hw⟩;rw[hw];clear hw w') | (at_builtin;refine AO Ju rfl (.tmp 144) (.tmp 151) rfl (w.heap.size+1) acc.length 1 u4 (C9 acc) (F3 (2,Am (A2 t) i k,i)) rfl (HO.out.alloc _) ⟨wr.heap.size,0,none⟩ rfl rfl (En _ _ _ _ _ _) (FF _) (by omega) (by simp;omega) ?_;intro g cap' w6 O6 hg6 hor6))
         all_goals first
          | (
            refine bodyPost_ret (v:=.tuple #[.slice none 0 0,.agg #[.int .i64 2,.int .i64 i]]) (by simp[results,Tryz.results27,go_sem,g0,g1]) rfl ⟨?_,?_⟩
            ·(try simp only[beq_iff_eq]at *)
             unfold DN
             rw[HP.out,HBAD.out (by first | exact Or.inr (Or.inr trivial) | exact Or.inl (by omega) | exact Or.inr (Or.inl ⟨by omega,by omega⟩))]
            ·repeat (first | refine Below.setCell ?_ (by dsimp only;omega) _ | exact hBw))
          | exact⟨⟨k,acc++[(2,Am (A2 t) i k,i)],rfl,hk,HTOK.out (by(try simp only[beq_eq_false_iff_ne,ne_eq]at *);rintro(h | ⟨h1,h2⟩ | h)<;>first | omega | cases h),by simp;omega,Fk O6,Eo hB hzr1 hg6 HO.out⟩,by simp[intOf];omega⟩
      | false=>
      have HLE:Hid (Bm (wd (A2 t) i)=false):=hle
      have HDI:Hid (Az (wd (A2 t) i)=false):=hdi
      have hzx:(t.extract i t.size).size=t.size-i:=by rw[<-Ai,C0,DT (by rw[Ai];exact Z0 _)]
      have hsg0:∀n,Hid (CH (Am (A2 t) i (A2 t).length) 0=n)->∀w,Calls Tryz.prog 51 #[.string (t.extract i t.size)] w fun e w'=>e=.returned (.int .i64 (n:Int))/\Below w.heap.size w w':=fun n hn w=>TR _ (by omega) (by omega) n w (by rw[C0];have:=hn;rw[HL.out]at this;exact this)
      have hii:(i:Int)<=(t.size:Int):=by omega
      clear hzx
      by_cases hsl:CH (A2 t) i=0
      ·have HE:Hid (BO (A2 t) 0=.error (11,(i:Int))):=HS.out.bad HIT.out (NL hbl h35 hle hdi hsl)
       have hsg:=hsg0 0 (by show _=_;rw[Nr HIT.out];exact hsl)
       clear hsl hsg0 HS hbl hle hdi
       generalize wd (A2 t) i=x at *
       go_wp2_with (first | (go_at_call 48;refine(C6 _ false _ HLE).mono ?_;rintro e w' ⟨rfl,hw⟩;rw[hw];clear hw w') | (go_at_call 49;refine(CY _ false _ HDI).mono ?_;rintro e w' ⟨rfl,hw⟩;rw[hw];clear hw w') | (go_at_call 51;refine(hsg _).mono ?_;rintro e w2 ⟨rfl,hb2⟩;have r0:=(hb2.cell (p:=⟨w.heap.size,0,none⟩) hlr).trans g0;have r1:=(hb2.cell (p:=⟨w.heap.size,1,none⟩) hlr).trans g1;have s0:=(hb2.frozen (p:=⟨w.heap.size,0,none⟩) hlr).trans q0;have s1:=(hb2.frozen (p:=⟨w.heap.size,1,none⟩) hlr).trans q1))
       refine bodyPost_ret (v:=.tuple #[.slice none 0 0,.agg #[.int .i64 11,.int .i64 i]]) (by simp[results,Tryz.results27,go_sem,r0,r1]) rfl ⟨?_,?_⟩
       ·unfold DN
        rw[HP.out,HE.out]
       ·have hend:=hBw.trans (hb2.mono hBw.size)
        repeat (first | refine Below.setCell ?_ (by dsimp only;omega) _ | exact hend)
      ·obtain⟨n,hn⟩:∃n,CH (A2 t) i=n:=⟨_,rfl⟩
       have HS2:Hid (Sofar (A2 t) (acc++[(4,Am (A2 t) i (i+n),i)]) (i+n)):=by
        have:=HS.out.tok HIT.out (NM hbl h35 hle hdi hsl)
        rw[hn]at this
        exact this
       have hin:i+n<=t.size:=by have:=Vl HIT.out;rw[hn,HL.out]at this;exact this
       have hsg:=hsg0 n (by show _=_;rw[Nr HIT.out];exact hn)
       rw[hn]at hsl
       have hn1:¬(n:Int)=0:=by omega
       have hn2:(i:Int)+(n:Int)<=(t.size:Int):=by omega
       have hw1:=AN (x:=(i:Int)+(n:Int)) (by omega) (by omega)
       have hn3:(i:Int)<=(i:Int)+(n:Int):=by omega
       have hn4:((i:Int)+(n:Int)).toNat=i+n:=by omega
       clear hn hsg0 HS hbl hle hdi
       generalize wd (A2 t) i=x at *
       go_wp2_with (first | (go_at_call 48;refine(C6 _ false _ HLE).mono ?_;rintro e w' ⟨rfl,hw⟩;rw[hw];clear hw w') | (go_at_call 49;refine(CY _ false _ HDI).mono ?_;rintro e w' ⟨rfl,hw⟩;rw[hw];clear hw w') | (go_at_call 51;refine(hsg _).mono ?_;rintro e w2 ⟨rfl,hb2⟩;have O2:Hid (w2.ownsRow (w.heap.size+1) 99 3 u4 acc.length (C9 acc)):=Fj HO.out hb2;have hB2:Below (w.heap.size+1) w0 w2:=hB.trans (hb2.mono (by omega));have hz2:w.heap.size+1<=w2.heap.size:=(by have:=hb2.size;omega)) | (at_builtin;refine AO Ju rfl (.tmp 162) (.tmp 171) rfl (w.heap.size+1) acc.length 1 u4 (C9 acc) (F3 (4,Am (A2 t) i (i+n),i)) rfl (O2.out.alloc _) ⟨w2.heap.size,0,none⟩ rfl rfl (En _ _ _ _ _ _) (FF _) (by omega) (by simp;omega) ?_;intro g cap' w6 O6 hg6 hor6))
       exact⟨⟨i+n,acc++[(4,Am (A2 t) i (i+n),i)],by simp,hin,HS2,by simp;omega,Fk O6,Eo hB2 hz2 hg6 O2.out⟩,by simp[intOf];omega⟩
   ·have HE:Hid (BO (A2 t) 0=.ok acc):=HS.out.done (by rw[HL.out];exact hlt)
    have e:i=t.size:=by omega
    subst e
    go_wp2_with fail
    refine bodyPost_ret (v:=.tuple #[u4,.agg #[.int .i64 0,.int .i64 0]]) (by simp[results,Tryz.results27,go_sem,g0,g1]) rfl ⟨?_,?_⟩
    ·unfold DN
     rw[HP.out,HE.out]
     refine⟨u4,rfl,?_⟩
     have O:=O0 (Nat.le_succ _) (L0 (L0 HO.out (p:=⟨w.heap.size,0,none⟩) (by simp) (.int .i64 0)) (p:=⟨w.heap.size,1,none⟩) (by simp) (.int .i64 0))
     exact O
    ·repeat (first | refine Below.setCell ?_ (by dsimp only;omega) _ | exact hBw)
 ·have hs:Cf (A2 t)=.error (1,0):=by unfold Cf;rw[Ai,if_pos (by omega)]
  have HA:Hid (∀B e w',e=.returned (.tuple #[.slice none 0 0,.agg #[.int .i64 1,.int .i64 0]])->DN (A2 t) B e w'):=fun B e w' h=>by unfold DN;rw[hs];exact h
  have hl':(4000:Int)<(t.size:Int):=by omega
  clear hs
  go_enter Tryz.func27,Tryz.ntmps27
  go_wp2
  refine bodyPost_ret (v:=.tuple #[.slice none 0 0,.agg #[.int .i64 1,.int .i64 0]]) (by simp[results,Tryz.results27,go_sem]) rfl ⟨HA.out _ _ _ rfl,?_⟩
  repeat (first | refine Below.setCell ?_ (by dsimp only;omega) _ | exact(Zg _ _).alloc (Z0 _) _)
end Go.Proofs.YtibeadcfgcfdbaaGreatDoor
