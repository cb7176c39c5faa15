/- Texts in one. -/
import Derived.Test.YtbglpanjpadldaaGreatDoorOa
import Derived.Test.YtbglpanjpadldaaGreatDoorShel2X
import Derived.Lib.AtoiErrMem
import Derived.Lib.AppendIntMem
set_option linter.unusedVariables false
set_option maxHeartbeats 8000000
set_option maxRecDepth 20000
namespace Go.Proofs.YtbglpanjpadldaaGreatDoor
open Go.RowKit
theorem L1:∀(a:List (List ByteArray)) (t:List ByteArray),a≠[]->B9 (a++[t])=B9 a++(EL::t)
 | [],t,h=>absurd rfl h
 | [a],t,_=>rfl
 | a::b::r,t,_=>by
  have:=L1 (b::r) t (by simp)
  show a++(EL::B9 (b::r++[t]))=a++(EL::B9 (b::r))++(EL::t)
  rw[this,List.append_assoc]
  rfl
theorem Pc(num:Int->ByteArray)(ks:List Nd)(i:Nat)(h:i<ks.length)(h0:0<i):B9 ((tkL num ks).take (i+1))=B9 ((tkL num ks).take i)++(EL::tkN num ks[i]):=by
 rw[D6,List.take_add_one,List.getElem?_map,List.getElem?_eq_getElem h]
 refine L1 _ _ (fun e=>?_)
 have:=congrArg List.length e
 rw[List.length_take,List.length_map,List.length_nil]at this
 omega
theorem Ql(num:Int->ByteArray)(ks:List Nd)(h:0<ks.length):B9 ((tkL num ks).take 1)=tkN num ks[0]:=by
 match ks,h with
 | a::r,_=>rfl
theorem Qm(num:Int->ByteArray)(ks:List Nd)(i:Nat):(B9 ((tkL num ks).take i)).length<=(B9 (tkL num ks)).length:=by
 have key:∀(T:List (List ByteArray)) (i:Nat),(B9 (T.take i)).length<=(B9 T).length:=fun T=>by
  induction T with
  | nil=>intro i;rw[List.take_nil];exact Z0 _
  | cons a r ih=>
   intro i
   match i,r with
   | 0,_=>exact Z3 _
   | i+1,[]=>rw[List.take_succ_cons,List.take_nil];exact Z0 _
   | 1,b::s=>
    show a.length<=(a++(EL::B9 (b::s))).length
    rw[Z1]
    omega
   | i+2,b::s=>
    have h:=ih (i+1)
    rw[List.take_succ_cons]at h
    show(a++(EL::B9 (b::s.take i))).length<=(a++(EL::B9 (b::s))).length
    rw[Z1,Z1,List.length_cons,List.length_cons]
    omega
 exact key _ _
theorem NL(num:Int->ByteArray)(ks:List Nd)(hks:∀i (h:i<ks.length),Cq num ks[i])(R:Nat)(ad:Option Addr)(c:Nat)(L:List ByteArray)(w0 w:World)(H:OutK w0 R L w)(hb:(L++DA (tkL num ks)).length<=900000)(hn:ks.length<=900000)(hu:KidsV w (AhR R) (.slice ad ks.length c) ks) :
  Calls Tryz.prog 60 #[.pointer (some ⟨R,0,none⟩),.slice ad ks.length c] w fun e w'=>e=.returned (.tuple #[])/\OutK w0 R (L++DA (tkL num ks)) w':=by
 unfold DA at hb⊢
 have HU:Hid (KidsV w (AhR R) (.slice ad ks.length c) ks):=hu
 have H0:Hid (OutK w0 R L w):=H
 rw[Z1,List.length_cons,Z1,List.length_singleton]at hb
 have hp1:=PZ (OutK.first H.tk) [Dg] (by rw[Z1,List.length_singleton];omega)
 clear hu H
 go_enter Tryz.func60,Tryz.ntmps60
 go_wp2_with (first | (go_at_call 57;refine hp1.mono ?_;clear hp1;rintro e w1 ⟨rfl,H1⟩))
 have HH:Hid (OutK w R (L++[Dg]++B9 ((tkL num ks).take 0)) w1):=by
  show OutK _ _ _ _
  rw[List.take_zero]
  show OutK w R (L++[Dg]++[]) w1
  rw[List.append_nil]
  exact H1
 clear H1
 go_loopw [11] (fun s11 wr=>∃i:Nat,s11=.int .i64 i/\i<=ks.length/\Hid (OutK w R (L++[Dg]++B9 ((tkL num ks).take i)) wr)) (fun s11 _=>900001-(intOf s11).toNat)
 case atStart=>exact⟨0,rfl,Z3 _,HH⟩
 case round=>
  obtain⟨i,rfl,hi,HO⟩:=hrel
  clear HH
  by_cases hlt:i<ks.length
  ·have hil:(i:Int)<(ks.length:Int):=by omega
   have hwi:=C4 (x:=(i:Int)+1) (by omega) (by omega)
   obtain⟨b,o,adx,lx,cx,e1,hbR,hbw,c0,c1,c2,c3,hnv⟩:=Pb HU.out hlt
   subst e1
   have hab:=HO.out.fr.ahd
   have d0:=(hab.cell (a:=⟨b,o+i*4,none⟩) hbR hbw).trans c0
   have d1:=(hab.cell (a:=⟨b,o+i*4+1,none⟩) hbR hbw).trans c1
   have d2:=(hab.cell (a:=⟨b,o+i*4+2,none⟩) hbR hbw).trans c2
   have d3:=(hab.cell (a:=⟨b,o+i*4+3,none⟩) hbR hbw).trans c3
   have d4:b<wr.heap.size:=Z5 hbw HO.out.fr.size
   have hbl:Below wr.heap.size wr (wr.alloc (.cells #[.int .i64 ks[i].kind,.string (strOfNums ks[i].text),.int .i64 ks[i].num,.slice adx lx cx] 24)):=(Zg _ _).alloc (Z0 _) _
   have HNV:Hid (NodeV wr (AhR R) (.agg #[.int .i64 ks[i].kind,.string (strOfNums ks[i].text),.int .i64 ks[i].num,.slice adx lx cx]) ks[i]):=hnv.above hab
   have HB1:=HO.out.below hbl
   have hfl:=Qm num ks (i+1)
   by_cases h0:0<i
   ·have hi0:(0:Int)<(i:Int):=by omega
    have hfx:=Pc num ks i hlt h0
    have hfl3:=hfl
    rw[hfx,Z1,List.length_cons]at hfl3
    have hp2:=Mk (g:=wr.heap.size+1) (OutK.first HB1.tk) (by simp) [EL] (by rw[Z1,Z1,Z1,List.length_singleton,List.length_singleton];omega)
    have hcal:∀w2,OutK w R (L++[Dg]++B9 ((tkL num ks).take i)++[EL]) w2->Calls Tryz.prog 38 #[.pointer (some ⟨R,0,none⟩),.agg #[.int .i64 ks[i].kind,.string (strOfNums ks[i].text),.int .i64 ks[i].num,.slice adx lx cx]] w2 fun e w'=>e=.returned (.tuple #[])/\OutK w R (L++[Dg]++B9 ((tkL num ks).take (i+1))) w':=fun w2 h2=>by
     have hb2:(L++[Dg]++B9 ((tkL num ks).take i)++[EL]++tkN num ks[i]).length<=900000:=by
      simp only[Z1,List.length_singleton]
      omega
     have:=hks i hlt R _ _ w w2 h2 hb2 (hnv.above h2.fr.ahd)
     rw[hfx]
     simp only[List.append_assoc,List.singleton_append]at this⊢
     exact this
    have HN0:Hid ((wr.alloc (.cells #[.int .i64 ks[i].kind,.string (strOfNums ks[i].text),.int .i64 ks[i].num,.slice adx lx cx] 24)).heap[wr.heap.size]?=some (.cells #[.int .i64 ks[i].kind,.string (strOfNums ks[i].text),.int .i64 ks[i].num,.slice adx lx cx] 24)):=heap_alloc_new _ _
    have HB2:Hid (OutK w R (L++[Dg]++B9 ((tkL num ks).take i)) (wr.alloc (.cells #[.int .i64 ks[i].kind,.string (strOfNums ks[i].text),.int .i64 ks[i].num,.slice adx lx cx] 24))):=HB1
    have hRw:R<wr.heap.size:=HO.out.tk.lt
    clear hfl hfl3 hfx hnv c0 c1 c2 c3 hab hbl HB1
    go_wp2_with (first
     | (go_at_call 57;refine hp2.mono ?_;clear hp2;rintro e w2 ⟨rfl,H2⟩;obtain⟨⟨x0,x1,x2,x3⟩,hxl,_⟩:=Tw H2.fr HN0.out (by omega))
     | (go_at_call 38;refine(hcal _ (HB2.out.then' H2)).mono ?_;clear hcal;rintro e w3 ⟨rfl,H3⟩))
    exact⟨⟨i+1,by simp,by omega,H3⟩,by simp[intOf];omega⟩
   ·have hi0:¬(0:Int)<(i:Int):=by omega
    have ei:i=0:=by omega
    subst ei
    simp only[Nat.zero_mul,Nat.add_zero]at d0 d1 d2 d3
    have hfx:=Ql num ks hlt
    rw[hfx]at hfl
    have hb2:(L++[Dg]++B9 ((tkL num ks).take 0)++tkN num ks[0]).length<=900000:=by
     rw[List.take_zero]
     show(L++[Dg]++[]++tkN num ks[0]).length<=900000
     simp only[Z1,List.length_singleton,List.length_nil]
     omega
    have hcal:=hks 0 hlt R _ _ w _ HB1 hb2 (HNV.out.above (Zk hbl))
    have ecm:L++[Dg]++B9 ((tkL num ks).take 0)++tkN num ks[0]=L++[Dg]++B9 ((tkL num ks).take 1):=by
     rw[hfx,List.take_zero]
     show L++[Dg]++[]++tkN num ks[0]=_
     rw[List.append_nil]
    rw[ecm]at hcal
    clear hfl hfx hnv c0 c1 c2 c3 hab hbl HB1 hb2 ecm
    go_wp2_with (first | (go_at_call 38;refine hcal.mono ?_;clear hcal;rintro e w3 ⟨rfl,H3⟩))
    exact⟨⟨1,by simp,by omega,H3⟩,by simp[intOf]⟩
  ·have hil:¬(i:Int)<(ks.length:Int):=by omega
   have HE:Hid (OutK w R (L++[Dg]++B9 (tkL num ks)) wr):=by
    have e:(tkL num ks).take i=tkL num ks:=List.take_of_length_le (by rw[Em];omega)
    have:=HO.out
    rw[e]at this
    exact this
   have hp3:=PZ (H0.out.then' HE.out) [Mg] (by simp only[Z1,List.length_singleton];omega)
   clear HO
   go_wp2_with (first | (go_at_call 57;refine hp3.mono ?_;clear hp3;rintro e w3 ⟨rfl,H3⟩))
   refine bodyPost_end (v:=.tuple #[]) (by simp[results,Tryz.results60,go_sem]) rfl ⟨rfl,?_⟩
   have e:L++[Dg]++B9 (tkL num ks)++[Mg]=L++(Dg::(B9 (tkL num ks)++[Mg])):=by simp
   rw[<-e]
   exact H3
theorem TC{w:World}{R:Nat}{b o c:Nat}{ks:List Nd}(h:KidsV w (AhR R) (.slice (some ⟨b,o,none⟩) ks.length c) ks){i:Nat}(hi:i<ks.length):KidsV w (AhR R) (.slice (some ⟨b,o+i*4,none⟩) [ks[i]].length (c-i)) [ks[i]]:=by
 have h1:=MD h i (by omega) (some ⟨b,o+i*4,none⟩) (fun _=>rfl)
 have h2:=MC h1 1
 have e:(ks.drop i).take 1=[ks[i]]:=by rw[Z4 hi];rfl
 rw[e]at h2
 exact h2
theorem Qn(num:Int->ByteArray)(ks:List Nd)(i:Nat)(least:Int)(h:i<ks.length):E8 (ks.map Nd.kind) (tkL num ks) i least=if FJ ks[i].kind<least then DA (tkL num [ks[i]])else tkN num ks[i]:=by
 unfold E8
 rw[D6,List.getElem?_map,List.getElem?_map,List.getElem?_eq_getElem h]
 rfl
theorem SD(num:Int->ByteArray)(k m:Int)(x:List Int)(ks:List Nd)(hks:∀i (h:i<ks.length),Cq num ks[i])(R i:Nat)(least:Int)(u:Value)(L:List ByteArray)(w0 w:World)(H:OutK w0 R L w)(hb:(L++E8 (ks.map Nd.kind) (tkL num ks) i least).length<=900000)(hn:ks.length<=900000)(hi9:i<=900000)(hu:NodeV w (AhR R) u (.mk k x m ks)) :
  Calls Tryz.prog 98 #[.pointer (some ⟨R,0,none⟩),u,.int .i64 (i:Int),.int .i64 least] w fun e w'=>e=.returned (.tuple #[])/\OutK w0 R (L++E8 (ks.map Nd.kind) (tkL num ks) i least) w':=by
 obtain⟨xk,hu1,hkv⟩:=hu
 obtain⟨ad,c0,hx1,_⟩:=id hkv
 obtain⟨c,hcc⟩:∃c,c0+ks.length=c:=⟨_,rfl⟩
 have hx2:xk=.slice ad ks.length c:=by rw[<-hcc];exact hx1
 subst hx2
 have hu2:u=.agg #[.int .i64 k,.string (strOfNums x),.int .i64 m,.slice ad ks.length c]:=hu1
 subst hu2
 have hlc:ks.length<=c:=by omega
 have hbl:Below w.heap.size w (w.alloc (.cells #[.int .i64 k,.string (strOfNums x),.int .i64 m,.slice ad ks.length c] 24)):=(Zg _ _).alloc (Z0 _) _
 have H1:=H.below hbl
 have hkv1:KidsV _ (AhR R) (.slice ad ks.length c) ks:=hkv.above (Zk hbl)
 clear hx1 hu1 hcc
 by_cases hlt:i<ks.length
 ·have hnl:¬(ks.length:Int)<=(i:Int):=by omega
  have hil:(i:Int)<(ks.length:Int):=by omega
  obtain⟨b,o,adx,lx,cx,e1,hbR,hbw,d0,d1,d2,d3,hnv⟩:=Pb hkv hlt
  subst e1
  rw[Qn num ks i least hlt]at hb⊢
  have hst:=NK ks[i].kind
  by_cases hs:FJ ks[i].kind<least
  ·rw[if_pos hs]at hb⊢
   have hwi:=C4 (x:=(i:Int)+1) (by omega) (by omega)
   have hne:¬c=i:=by omega
   have hic:(i:Int)+1<=(c:Int):=by omega
   have hcal:=NL num [ks[i]] (fun j hj=>by
    have e:j=0:=by simp at hj;omega
    subst e
    exact hks i hlt) R (some ⟨b,o+i*4,none⟩) (c-i) L w0 _ H1 hb (by simp) (TC hkv1 hlt)
   clear hnv hkv hkv1 H1 H hks hb
   go_enter Tryz.func98,Tryz.ntmps98
   go_wp2_with (first
    | (go_at_call 112;refine(hst _).mono ?_;rintro e w1 ⟨rfl,rfl⟩)
    | (go_at_call 60;refine hcal.mono ?_;clear hcal;rintro e w2 ⟨rfl,H2⟩))
   exact bodyPost_ret (v:=.tuple #[]) (by simp[results,Tryz.results98,go_sem]) rfl ⟨rfl,H2⟩
  ·rw[if_neg hs]at hb⊢
   have hcal:=hks i hlt R _ L w0 _ H1 hb (hnv.above (Zk hbl))
   clear hnv hkv hkv1 H1 H hks hb
   go_enter Tryz.func98,Tryz.ntmps98
   go_wp2_with (first
    | (go_at_call 112;refine(hst _).mono ?_;rintro e w1 ⟨rfl,rfl⟩)
    | (go_at_call 38;refine hcal.mono ?_;clear hcal;rintro e w2 ⟨rfl,H2⟩))
   exact bodyPost_end (v:=.tuple #[]) (by simp[results,Tryz.results98,go_sem]) rfl ⟨rfl,H2⟩
 ·have hnl:(ks.length:Int)<=(i:Int):=by omega
  rw[Gj _ _ _ _ (by rw[Em];omega),List.append_nil]
  clear hkv hkv1 H hks hb
  go_enter Tryz.func98,Tryz.ntmps98
  go_wp2_with fail
  exact bodyPost_ret (v:=.tuple #[]) (by simp[results,Tryz.results98,go_sem]) rfl ⟨rfl,H1⟩
structure InK(w0:World)(R X:Nat)(k m:Int)(x:ByteArray)(ad:Option Addr)(c:Nat)(ks:List Nd)(L:List ByteArray)(w:World):Prop where
 out:OutK w0 R L w
 box:w.heap[X]?=some (.cells #[.int .i64 k,.string x,.int .i64 m,.slice ad ks.length c] 24)
 kids:KidsV w (AhR R) (.slice ad ks.length c) ks
 ne:X≠R
theorem InK.cells{w0:World}{R X:Nat}{k m:Int}{x:ByteArray}{ad:Option Addr}{c:Nat}{ks:List Nd}{L:List ByteArray}{w:World}(h:InK w0 R X k m x ad c ks L w):w.cell? ⟨X,0,none⟩=some (.int .i64 k)/\w.cell? ⟨X,1,none⟩=some (.string x)/\w.cell? ⟨X,2,none⟩=some (.int .i64 m)/\w.cell? ⟨X,3,none⟩=some (.slice ad ks.length c)/\X<w.heap.size:=
 ⟨cell_of_row _ _ _ _ _ _ h.box,cell_of_row _ _ _ _ _ _ h.box,cell_of_row _ _ _ _ _ _ h.box,cell_of_row _ _ _ _ _ _ h.box,(Array.getElem?_eq_some_iff.1 h.box).1⟩
theorem InK.step{w0:World}{R X:Nat}{k m:Int}{x:ByteArray}{ad:Option Addr}{c:Nat}{ks:List Nd}{L L':List ByteArray}{w w':World}(h:InK w0 R X k m x ad c ks L w)(h':OutK w R L' w'):InK w0 R X k m x ad c ks L' w':=
 ⟨h.out.then' h',h'.fr.keep h.box (by decide) h.ne,h.kids.above h'.fr.ahd,h.ne⟩
theorem InK.below{w0:World}{R X:Nat}{k m:Int}{x:ByteArray}{ad:Option Addr}{c:Nat}{ks:List Nd}{L:List ByteArray}{w w':World}(h:InK w0 R X k m x ad c ks L w)(hb:Below w.heap.size w w'):InK w0 R X k m x ad c ks L w':=h.step ((OutK.first h.out.tk).below hb)
theorem InK.start{w0 w:World}{R:Nat}{k m:Int}{x:ByteArray}{ad:Option Addr}{c:Nat}{ks:List Nd}{L:List ByteArray}(H:OutK w0 R L w)(hk:KidsV w (AhR R) (.slice ad ks.length c) ks):InK w0 R w.heap.size k m x ad c ks L (w.alloc (.cells #[.int .i64 k,.string x,.int .i64 m,.slice ad ks.length c] 24)):=by
 have hbl:Below w.heap.size w (w.alloc (.cells #[.int .i64 k,.string x,.int .i64 m,.slice ad ks.length c] 24)):=(Zg _ _).alloc (Z0 _) _
 exact⟨H.below hbl,heap_alloc_new _ _,hk.above (Zk hbl),by have:=H.tk.lt;omega⟩
theorem KidsV.len{w:World}{M:Nat->Prop}{ad:Option Addr}{n c:Nat}{ks:List Nd}(h:KidsV w M (.slice ad n c) ks):n=ks.length:=by
 obtain⟨_,_,e,_⟩:=h
 injection e
variable {w0:World} {R X:Nat} {k m:Int} {x:ByteArray} {ad:Option Addr} {c:Nat} {ks:List Nd} {L:List ByteArray} {w:World}
theorem InK.src(h:InK w0 R X k m x ad c ks L w){u:Value}(xs:List ByteArray)(hu:SrcK w u xs)(hb:(L++xs).length<=900000):Calls Tryz.prog 57 #[.pointer (some ⟨R,0,none⟩),u] w fun e w'=>e=.returned (.tuple #[])/\InK w0 R X k m x ad c ks (L++xs) w'/\FrK w w' R:=
 (NJ R L xs u w h.out.tk hb hu).mono (by rintro e w' ⟨rfl,h2⟩;exact⟨rfl,h.step h2,h2.fr⟩)
theorem InK.put1(h:InK w0 R X k m x ad c ks L w){g:Nat}{y:ByteArray}(hg:w.heap.size=g)(hb:(L++[y]).length<=900000):Calls Tryz.prog 57 #[.pointer (some ⟨R,0,none⟩),.slice (some ⟨g,0,none⟩) 1 1] (w.alloc (.cells #[.string y] 9)) fun e w'=>e=.returned (.tuple #[])/\InK w0 R X k m x ad c ks (L++[y]) w'/\FrK w w' R:=
 (Mk (OutK.first h.out.tk) hg [y] hb).mono (by rintro e w' ⟨rfl,h2⟩;exact⟨rfl,h.step h2,h2.fr⟩)
theorem InK.put2(h:InK w0 R X k m x ad c ks L w){g:Nat}{y z:ByteArray}(hg:w.heap.size=g)(hb:(L++[y,z]).length<=900000):Calls Tryz.prog 57 #[.pointer (some ⟨R,0,none⟩),.slice (some ⟨g,0,none⟩) 2 2] (w.alloc (.cells #[.string y,.string z] 9)) fun e w'=>e=.returned (.tuple #[])/\InK w0 R X k m x ad c ks (L++[y,z]) w'/\FrK w w' R:=
 (Mk (OutK.first h.out.tk) hg [y,z] hb).mono (by rintro e w' ⟨rfl,h2⟩;exact⟨rfl,h.step h2,h2.fr⟩)
theorem InK.put3(h:InK w0 R X k m x ad c ks L w){g:Nat}{y z t:ByteArray}(hg:w.heap.size=g)(hb:(L++[y,z,t]).length<=900000):Calls Tryz.prog 57 #[.pointer (some ⟨R,0,none⟩),.slice (some ⟨g,0,none⟩) 3 3] (w.alloc (.cells #[.string y,.string z,.string t] 9)) fun e w'=>e=.returned (.tuple #[])/\InK w0 R X k m x ad c ks (L++[y,z,t]) w'/\FrK w w' R:=
 (Mk (OutK.first h.out.tk) hg [y,z,t] hb).mono (by rintro e w' ⟨rfl,h2⟩;exact⟨rfl,h.step h2,h2.fr⟩)
theorem InK.each{num:Int->ByteArray}(h:InK w0 R X k m x ad c ks L w){ad':Option Addr}{n' c':Nat}{ks':List Nd}(hk:KidsV w (AhR R) (.slice ad' n' c') ks')(hks:∀i (h:i<ks'.length),Cq num ks'[i])(hn:ks'.length<=900000)(hb:(L++(tkL num ks').flatten).length<=900000):Calls Tryz.prog 55 #[.pointer (some ⟨R,0,none⟩),.slice ad' n' c'] w fun e w'=>e=.returned (.tuple #[])/\InK w0 R X k m x ad c ks (L++(tkL num ks').flatten) w'/\FrK w w' R:=by
 have e:=hk.len
 subst e
 exact(Qk num ks' hks R ad' c' L w w (OutK.first h.out.tk) hb hn hk).mono (by rintro e w' ⟨rfl,h2⟩;exact⟨rfl,h.step h2,h2.fr⟩)
theorem InK.row{num:Int->ByteArray}(h:InK w0 R X k m x ad c ks L w){ad':Option Addr}{n' c':Nat}{ks':List Nd}(hk:KidsV w (AhR R) (.slice ad' n' c') ks')(hks:∀i (h:i<ks'.length),Cq num ks'[i])(hn:ks'.length<=900000)(hb:(L++DA (tkL num ks')).length<=900000):Calls Tryz.prog 60 #[.pointer (some ⟨R,0,none⟩),.slice ad' n' c'] w fun e w'=>e=.returned (.tuple #[])/\InK w0 R X k m x ad c ks (L++DA (tkL num ks')) w'/\FrK w w' R:=by
 have e:=hk.len
 subst e
 exact(NL num ks' hks R ad' c' L w w (OutK.first h.out.tk) hb hn hk).mono (by rintro e w' ⟨rfl,h2⟩;exact⟨rfl,h.step h2,h2.fr⟩)
theorem InK.kid{t:List Int}{num:Int->ByteArray}(h:InK w0 R X k m (strOfNums t) ad c ks L w)(i:Nat)(least:Int)(hks:∀i (h:i<ks.length),Cq num ks[i])(hn:ks.length<=900000)(hi:i<=900000)(hb:(L++E8 (ks.map Nd.kind) (tkL num ks) i least).length<=900000):Calls Tryz.prog 98 #[.pointer (some ⟨R,0,none⟩),.agg #[.int .i64 k,.string (strOfNums t),.int .i64 m,.slice ad ks.length c],.int .i64 (i:Int),.int .i64 least] w fun e w'=>e=.returned (.tuple #[])/\InK w0 R X k m (strOfNums t) ad c ks (L++E8 (ks.map Nd.kind) (tkL num ks) i least) w'/\FrK w w' R:=
 (SD num k m t ks hks R i least _ L w w (OutK.first h.out.tk) hb hn hi ⟨_,rfl,h.kids⟩).mono (by rintro e w' ⟨rfl,h2⟩;exact⟨rfl,h.step h2,h2.fr⟩)
theorem Da{w:World}{M:Nat->Prop}{u:Value}{k m:Int}{t:List Int}{ks:List Nd}(h:NodeV w M u (.mk k t m ks)):∃ad c,u=.agg #[.int .i64 k,.string (strOfNums t),.int .i64 m,.slice ad ks.length c]/\KidsV w M (.slice ad ks.length c) ks/\ks.length<=c:=by
 obtain⟨xk,hu1,hkv⟩:=h
 obtain⟨ad,c0,hx1,_⟩:=id hkv
 subst hx1
 exact⟨ad,c0+ks.length,hu1,hkv,Nat.le_add_left _ _⟩
theorem SrcK.below{w w':World}{u:Value}{xs:List ByteArray}(h:SrcK w u xs)(hb:Below w.heap.size w w'):SrcK w' u xs:=by
 rcases h with h | ⟨ad,c,e,hc⟩
 ·exact Or.inl h
 ·refine Or.inr ⟨ad,c,e,fun j x hx=>?_⟩
  have:=hc j x hx
  rw[hb.cell (Lib.lt_of_cell this)]
  exact this
theorem MF(num:Int->ByteArray)(k m:Int)(t:List Int)(ks:List Nd)(hks:∀i (h:i<ks.length),Cq num ks[i])(R:Nat)(u v:Value)(xs L:List ByteArray)(w0 w:World)(H:OutK w0 R L w)(hsrc:SrcK w v xs)(hb:(L++D5 xs (tkL num ks)).length<=900000)(hn:ks.length<=900000)(hu:NodeV w (AhR R) u (.mk k t m ks)) :
  Calls Tryz.prog 81 #[.pointer (some ⟨R,0,none⟩),u,v] w fun e w'=>e=.returned (.tuple #[])/\OutK w0 R (L++D5 xs (tkL num ks)) w':=by
 obtain⟨ad,c,rfl,hkv,hlc⟩:=Da hu
 unfold D5 at hb⊢
 simp only[Z1,List.length_cons,List.length_nil]at hb
 have HS:Hid (InK w0 R w.heap.size k m (strOfNums t) ad c ks L (w.alloc (.cells #[.int .i64 k,.string (strOfNums t),.int .i64 m,.slice ad ks.length c] 24))):=InK.start H hkv
 have hsrc1:=hsrc.below (w':=w.alloc (.cells #[.int .i64 k,.string (strOfNums t),.int .i64 m,.slice ad ks.length c] 24)) ((Zg _ _).alloc (Z0 _) _)
 have hp1:=HS.out.src xs hsrc1 (by simp only[Z1];omega)
 clear HS H hsrc hsrc1 hkv hu
 go_enter Tryz.func81,Tryz.ntmps81
 go_wp2_with (first
  | (go_at_call 55;refine(H1.each H1.kids hks hn (by simp only[Z1];omega)).mono ?_;rintro e w2 ⟨rfl,H2,-⟩)
  | (go_at_call 57;refine(H2.put1 rfl (by simp only[Z1,List.length_cons,List.length_nil];omega)).mono ?_;rintro e w3 ⟨rfl,H3,-⟩)
  | (go_at_call 57;refine hp1.mono ?_;clear hp1;rintro e w1 ⟨rfl,H1,-⟩;obtain⟨x0,x1,x2,x3,xl⟩:=H1.cells))
 refine bodyPost_end (v:=.tuple #[]) (by simp[results,Tryz.results81,go_sem]) rfl ⟨rfl,?_⟩
 have:=H3.out
 simp only[List.append_assoc]at this
 exact this
theorem Ff(num:Int->ByteArray)(k m:Int)(t:List Int)(ks:List Nd)(hks:∀i (h:i<ks.length),Cq num ks[i])(R:Nat)(u:Value)(y:ByteArray)(L:List ByteArray)(w0 w:World)(H:OutK w0 R L w)(hb:(L++CJ y (tkL num ks)).length<=900000)(hn:ks.length<=900000)(hu:NodeV w (AhR R) u (.mk k t m ks)) :
  Calls Tryz.prog 83 #[.pointer (some ⟨R,0,none⟩),u,.string y] w fun e w'=>e=.returned (.tuple #[])/\OutK w0 R (L++CJ y (tkL num ks)) w':=by
 obtain⟨ad,c,rfl,hkv,hlc⟩:=Da hu
 unfold CJ at hb⊢
 simp only[Z1,List.length_cons,List.length_nil]at hb
 have HS:Hid (InK w0 R w.heap.size k m (strOfNums t) ad c ks L (w.alloc (.cells #[.int .i64 k,.string (strOfNums t),.int .i64 m,.slice ad ks.length c] 24))):=InK.start H hkv
 have hp1:=HS.out.put1 (g:=w.heap.size+1) (y:=y) (by simp) (by simp only[Z1,List.length_cons,List.length_nil];omega)
 clear HS H hkv hu
 go_enter Tryz.func83,Tryz.ntmps83
 go_wp2_with (first
  | (go_at_call 60;refine(H1.row H1.kids hks hn (by simp only[Z1,List.length_cons,List.length_nil];omega)).mono ?_;rintro e w2 ⟨rfl,H2,-⟩)
  | (go_at_call 57;refine(H2.put1 rfl (by simp only[Z1,List.length_cons,List.length_nil];omega)).mono ?_;rintro e w3 ⟨rfl,H3,-⟩)
  | (go_at_call 57;refine hp1.mono ?_;clear hp1;rintro e w1 ⟨rfl,H1,-⟩;obtain⟨x0,x1,x2,x3,xl⟩:=H1.cells))
 refine bodyPost_end (v:=.tuple #[]) (by simp[results,Tryz.results83,go_sem]) rfl ⟨rfl,?_⟩
 have:=H3.out
 simp only[List.append_assoc,List.singleton_append]at this
 exact this
theorem GG(num:Int->ByteArray)(k m:Int)(t:List Int)(ks:List Nd)(hks:∀i (h:i<ks.length),Cq num ks[i])(R:Nat)(u:Value)(one other:Int)(y:ByteArray)(L:List ByteArray)(w0 w:World)(H:OutK w0 R L w)(hb:(L++E0 (ks.map Nd.kind) (tkL num ks) one y other).length<=900000)(hn:ks.length<=900000)(hu:NodeV w (AhR R) u (.mk k t m ks)) :
  Calls Tryz.prog 97 #[.pointer (some ⟨R,0,none⟩),u,.int .i64 one,.string y,.int .i64 other] w fun e w'=>e=.returned (.tuple #[])/\OutK w0 R (L++E0 (ks.map Nd.kind) (tkL num ks) one y other) w':=by
 obtain⟨ad,c,rfl,hkv,hlc⟩:=Da hu
 unfold E0 at hb⊢
 simp only[Z1,List.length_cons]at hb
 have HS:Hid (InK w0 R w.heap.size k m (strOfNums t) ad c ks L (w.alloc (.cells #[.int .i64 k,.string (strOfNums t),.int .i64 m,.slice ad ks.length c] 24))):=InK.start H hkv
 have hp1:=HS.out.kid 0 one hks hn (by decide) (by simp only[Z1];omega)
 clear HS H hkv hu
 go_enter Tryz.func97,Tryz.ntmps97
 go_wp2_with (first
  | (go_at_call 57;refine(H1.put1 rfl (by simp only[Z1,List.length_cons,List.length_nil];omega)).mono ?_;rintro e w2 ⟨rfl,H2,-⟩;obtain⟨x0,x1,x2,x3,xl⟩:=H2.cells)
  | (go_at_call 98;refine(H2.kid 1 other hks hn (by decide) (by simp only[Z1,List.length_cons,List.length_nil];omega)).mono ?_;rintro e w3 ⟨rfl,H3,-⟩)
  | (go_at_call 98;refine hp1.mono ?_;clear hp1;rintro e w1 ⟨rfl,H1,-⟩))
 refine bodyPost_end (v:=.tuple #[]) (by simp[results,Tryz.results97,go_sem]) rfl ⟨rfl,?_⟩
 have:=H3.out
 simp only[List.append_assoc,List.singleton_append]at this
 exact this
theorem E7{num:Int->ByteArray}{ks:List Nd}(hks:∀i (h:i<ks.length),Cq num ks[i])(j:Nat):∀i (h:i<(ks.take j).length),Cq num (ks.take j)[i]:=fun i h=>by
 rw[List.getElem_take]
 exact hks i (by rw[List.length_take]at h;omega)
theorem DN{num:Int->ByteArray}{ks:List Nd}(hks:∀i (h:i<ks.length),Cq num ks[i])(j:Nat):∀i (h:i<(ks.drop j).length),Cq num (ks.drop j)[i]:=fun i h=>by
 rw[List.getElem_drop]
 exact hks (j+i) (by rw[List.length_drop]at h;omega)
theorem Ed{α:Type}(l:List α)(j n:Nat)(h:l.length<=n):(l.take j).length<=n:=by rw[List.length_take];omega
theorem EJ{α:Type}(l:List α)(j n:Nat)(h:l.length<=n):(l.drop j).length<=n:=by rw[List.length_drop];omega
variable {w0:World} {R X:Nat} {k m:Int} {x:ByteArray} {ad:Option Addr} {c:Nat} {ks:List Nd} {L:List ByteArray} {w:World}
theorem InK.front(_h:InK w0 R X k m x ad c ks L w){ad':Option Addr}{n' c':Nat}{ks':List Nd}(hk:KidsV w (AhR R) (.slice ad' n' c') ks')(hn:ks'.length<=900000){many:Int}(j:Nat)(hj:many.toNat=j):Calls Tryz.prog 56 #[.slice ad' n' c',.int .i64 many] w fun e w'=>∃ad2 n2 c2,e=.returned (.slice ad2 n2 c2)/\KidsV w' (AhR R) (.slice ad2 n2 c2) (ks'.take j)/\w'=w:=by
 have e:=hk.len
 subst e
 subst hj
 exact(TB hk hn many).mono (by rintro e w' ⟨⟨ad2,c2,rfl,h2⟩,rfl⟩;exact⟨ad2,_,c2,rfl,h2,rfl⟩)
theorem InK.behind(_h:InK w0 R X k m x ad c ks L w){ad':Option Addr}{n' c':Nat}{ks':List Nd}(hk:KidsV w (AhR R) (.slice ad' n' c') ks')(hn:ks'.length<=900000){many:Int}(j:Nat)(hj:many.toNat=j):Calls Tryz.prog 58 #[.slice ad' n' c',.int .i64 many] w fun e w'=>∃ad2 n2 c2,e=.returned (.slice ad2 n2 c2)/\KidsV w' (AhR R) (.slice ad2 n2 c2) (ks'.drop j)/\w'=w:=by
 have e:=hk.len
 subst e
 subst hj
 exact(SB hk hn many).mono (by rintro e w' ⟨⟨ad2,c2,rfl,h2⟩,rfl⟩;exact⟨ad2,_,c2,rfl,h2,rfl⟩)
theorem O7(num:Int->ByteArray)(k m:Int)(t:List Int)(ks:List Nd)(hks:∀i (h:i<ks.length),Cq num ks[i])(R:Nat)(u:Value)(L:List ByteArray)(w0 w:World)(H:OutK w0 R L w)(hb:(L++El (tkL num ks)).length<=900000)(hn:ks.length<=900000)(hu:NodeV w (AhR R) u (.mk k t m ks)) :
  Calls Tryz.prog 82 #[.pointer (some ⟨R,0,none⟩),u] w fun e w'=>e=.returned (.tuple #[])/\OutK w0 R (L++El (tkL num ks)) w':=by
 obtain⟨ad,c,rfl,hkv,hlc⟩:=Da hu
 have ef:El (tkL num ks)=kIf::(DA (tkL num (ks.take 1))++((tkL num ((ks.drop 1).take 1)).flatten++((if 1<(ks.drop 1).length then[P7]else[])++(tkL num ((ks.drop 1).drop 1)).flatten))):=by
  unfold El
  rw[EX,EX,Dr,Dr,Dr]
  have:((tkL num ks).drop 1).length=(ks.drop 1).length:=by rw[List.length_drop,List.length_drop,Em]
  rw[this]
 rw[ef]at hb⊢
 have n1:=E7 hks 1
 have n2:=E7 (DN hks 1) 1
 have n3:=DN (DN hks 1) 1
 have l1:=Ed ks 1 900000 hn
 have l2:=EJ ks 1 900000 hn
 have l3:=Ed (ks.drop 1) 1 900000 l2
 have l4:=EJ (ks.drop 1) 1 900000 l2
 have HS:Hid (InK w0 R w.heap.size k m (strOfNums t) ad c ks L (w.alloc (.cells #[.int .i64 k,.string (strOfNums t),.int .i64 m,.slice ad ks.length c] 24))):=InK.start H hkv
 have hp1:=HS.out.put1 (g:=w.heap.size+1) (y:=kIf) (by simp) (by simp only[Z1,List.length_cons,List.length_nil]at hb⊢;omega)
 clear HS H hkv hu ef
 by_cases hel:1<(ks.drop 1).length
 ·have hei:∀nb:Nat,nb=(ks.drop 1).length->(1:Int)<(nb:Int):=fun nb e=>by omega
  rw[if_pos hel]at hb⊢
  simp only[Z1,List.length_cons,List.length_nil]at hb
  go_enter Tryz.func82,Tryz.ntmps82
  go_wp2_with (first
   | (go_at_call 55;refine(H4.each K5 n3 l4 (by simp only[Z1,List.length_cons,List.length_nil];omega)).mono ?_;rintro e w5 ⟨rfl,H5,-⟩)
   | (go_at_call 58;refine(H4.behind (K3.above F4.ahd) l2 1 rfl).mono ?_;rintro e wq ⟨ad5,n5,c5,rfl,K5,rfl⟩)
   | (go_at_call 57;refine(H3.put1 rfl (by simp only[Z1,List.length_cons,List.length_nil];omega)).mono ?_;rintro e w4 ⟨rfl,H4,F4⟩)
   | (go_at_call 55;refine(H2.each K4 n2 l3 (by simp only[Z1,List.length_cons,List.length_nil];omega)).mono ?_;rintro e w3 ⟨rfl,H3,F3⟩;have K3:=KB.above F3.ahd)
   | (go_at_call 56;refine(H2.front KB l2 1 rfl).mono ?_;rintro e wq ⟨ad4,n4,c4,rfl,K4,rfl⟩)
   | (go_at_call 58;refine(H2.behind H2.kids hn 1 rfl).mono ?_;rintro e wq ⟨adb,nb,cb,rfl,KB,rfl⟩;have hnb:=hei nb KB.len)
   | (go_at_call 60;refine(H1.row K1 n1 l1 (by simp only[Z1,List.length_cons,List.length_nil];omega)).mono ?_;rintro e w2 ⟨rfl,H2,-⟩;obtain⟨y0,y1,y2,y3,yl⟩:=H2.cells)
   | (go_at_call 56;refine(H1.front H1.kids hn 1 rfl).mono ?_;rintro e wq ⟨ad1,nn1,c1,rfl,K1,rfl⟩)
   | (go_at_call 57;refine hp1.mono ?_;clear hp1;rintro e w1 ⟨rfl,H1,-⟩;obtain⟨x0,x1,x2,x3,xl⟩:=H1.cells))
  refine bodyPost_end (v:=.tuple #[]) (by simp[results,Tryz.results82,go_sem]) rfl ⟨rfl,?_⟩
  have:=H5.out
  simp only[List.append_assoc,List.singleton_append]at this⊢
  exact this
 ·have hei:∀nb:Nat,nb=(ks.drop 1).length->¬(1:Int)<(nb:Int):=fun nb e=>by omega
  rw[if_neg hel]at hb⊢
  simp only[Z1,List.length_cons,List.length_nil]at hb
  go_enter Tryz.func82,Tryz.ntmps82
  go_wp2_with (first
   | (go_at_call 55;refine(H3.each K5 n3 l4 (by simp only[Z1,List.length_cons,List.length_nil];omega)).mono ?_;rintro e w5 ⟨rfl,H5,-⟩)
   | (go_at_call 58;refine(H3.behind K3 l2 1 rfl).mono ?_;rintro e wq ⟨ad5,n5,c5,rfl,K5,rfl⟩)
   | (go_at_call 55;refine(H2.each K4 n2 l3 (by simp only[Z1,List.length_cons,List.length_nil];omega)).mono ?_;rintro e w3 ⟨rfl,H3,F3⟩;have K3:=KB.above F3.ahd)
   | (go_at_call 56;refine(H2.front KB l2 1 rfl).mono ?_;rintro e wq ⟨ad4,n4,c4,rfl,K4,rfl⟩)
   | (go_at_call 58;refine(H2.behind H2.kids hn 1 rfl).mono ?_;rintro e wq ⟨adb,nb,cb,rfl,KB,rfl⟩;have hnb:=hei nb KB.len)
   | (go_at_call 60;refine(H1.row K1 n1 l1 (by simp only[Z1,List.length_cons,List.length_nil];omega)).mono ?_;rintro e w2 ⟨rfl,H2,-⟩;obtain⟨y0,y1,y2,y3,yl⟩:=H2.cells)
   | (go_at_call 56;refine(H1.front H1.kids hn 1 rfl).mono ?_;rintro e wq ⟨ad1,nn1,c1,rfl,K1,rfl⟩)
   | (go_at_call 57;refine hp1.mono ?_;clear hp1;rintro e w1 ⟨rfl,H1,-⟩;obtain⟨x0,x1,x2,x3,xl⟩:=H1.cells))
  refine bodyPost_end (v:=.tuple #[]) (by simp[results,Tryz.results82,go_sem]) rfl ⟨rfl,?_⟩
  have:=H5.out
  simp only[List.append_assoc,List.singleton_append]at this⊢
  exact this
theorem O8(num:Int->ByteArray)(x:ByteArray)(ks:List Nd)(h:0<ks.length)(hk:ks[0].kind=31):EM x (ks.map Nd.kind) (tkL num ks)=[Gi,x]++([Q6]++((tkL num (ks.take 1)).flatten++([FY]++((tkL num (ks.drop 1)).flatten++[Ir])))):=by
 unfold EM
 have e:(ks.map Nd.kind).head?=some 31:=by
  match ks,h,hk with
  | a::r,_,hk=>rw[List.map_cons,List.head?_cons];exact congrArg some hk
 rw[if_pos e,EX,Dr]
 rfl
theorem JD(num:Int->ByteArray)(x:ByteArray)(ks:List Nd)(hk:∀h:0<ks.length,¬ks[0].kind=31):EM x (ks.map Nd.kind) (tkL num ks)=[Gi,x]++((tkL num (ks.take 0)).flatten++([FY]++((tkL num (ks.drop 0)).flatten++[Ir]))):=by
 unfold EM
 have e:¬(ks.map Nd.kind).head?=some 31:=by
  match ks,hk with
  | [],_=>intro e;cases e
  | a::r,hk=>rw[List.map_cons,List.head?_cons];intro e;injection e with e;exact hk (by simp) e
 rw[if_neg e,List.take_zero,List.drop_zero]
 rfl
theorem Pd(num:Int->ByteArray)(k m:Int)(t:List Int)(ks:List Nd)(hks:∀i (h:i<ks.length),Cq num ks[i])(R:Nat)(u:Value)(L:List ByteArray)(w0 w:World)(H:OutK w0 R L w)(hb:(L++EM (strOfNums t) (ks.map Nd.kind) (tkL num ks)).length<=900000)(hn:ks.length<=900000)(hu:NodeV w (AhR R) u (.mk k t m ks)) :
  Calls Tryz.prog 59 #[.pointer (some ⟨R,0,none⟩),u] w fun e w'=>e=.returned (.tuple #[])/\OutK w0 R (L++EM (strOfNums t) (ks.map Nd.kind) (tkL num ks)) w':=by
 obtain⟨ad,c,rfl,hkv,hlc⟩:=Da hu
 have HS:Hid (InK w0 R w.heap.size k m (strOfNums t) ad c ks L (w.alloc (.cells #[.int .i64 k,.string (strOfNums t),.int .i64 m,.slice ad ks.length c] 24))):=InK.start H hkv
 by_cases h0:0<ks.length
 ·obtain⟨b,o,adx,lx,cx,e1,hbR,hbX,dX,_,_,_,_⟩:=Pb HS.out.kids h0
  subst e1
  rw[Nat.zero_mul,Nat.add_zero]at dX
  have hl0:(0:Int)<(ks.length:Int):=by omega
  by_cases hk:ks[0].kind=31
  ·rw[O8 num (strOfNums t) ks h0 hk]at hb⊢
   rw[hk]at dX
   have n1:=E7 hks 1
   have n2:=DN hks 1
   have l1:=Ed ks 1 900000 hn
   have l2:=EJ ks 1 900000 hn
   simp only[Z1,List.length_cons,List.length_nil]at hb
   have hp1:=HS.out.put2 (g:=w.heap.size+1) (y:=Gi) (z:=strOfNums t) (by simp) (by simp only[Z1,List.length_cons,List.length_nil];omega)
   clear HS H hkv hu
   go_enter Tryz.func59,Tryz.ntmps59
   go_wp2_with (first
    | (go_at_call 57;refine(H5.put1 rfl (by simp only[Z1,List.length_cons,List.length_nil];omega)).mono ?_;rintro e w6 ⟨rfl,H6,-⟩)
    | (go_at_call 55;refine(H4.each K4 n2 l2 (by simp only[Z1,List.length_cons,List.length_nil];omega)).mono ?_;rintro e w5 ⟨rfl,H5,-⟩)
    | (go_at_call 58;refine(H4.behind H4.kids hn 1 rfl).mono ?_;rintro e wq ⟨ad4,n4,c4,rfl,K4,rfl⟩)
    | (go_at_call 57;refine(H3.put1 rfl (by simp only[Z1,List.length_cons,List.length_nil];omega)).mono ?_;rintro e w4 ⟨rfl,H4,-⟩;obtain⟨z0,z1,z2,z3,zl⟩:=H4.cells)
    | (go_at_call 55;refine(H2.each K1 n1 l1 (by simp only[Z1,List.length_cons,List.length_nil];omega)).mono ?_;rintro e w3 ⟨rfl,H3,-⟩)
    | (go_at_call 56;refine(H2.front H2.kids hn 1 rfl).mono ?_;rintro e wq ⟨ad1,nn1,c1,rfl,K1,rfl⟩)
    | (go_at_call 57;refine(H1.put1 rfl (by simp only[Z1,List.length_cons,List.length_nil];omega)).mono ?_;rintro e w2 ⟨rfl,H2,-⟩;obtain⟨y0,y1,y2,y3,yl⟩:=H2.cells)
    | (go_at_call 57;refine hp1.mono ?_;clear hp1;rintro e w1 ⟨rfl,H1,F1⟩;obtain⟨x0,x1,x2,x3,xl⟩:=H1.cells;have d0:=(F1.ahd.cell (a:=⟨b,o,none⟩) hbR hbX).trans dX;have d4:b<w1.heap.size:=Z5 hbX F1.size))
   refine bodyPost_end (v:=.tuple #[]) (by simp[results,Tryz.results59,go_sem]) rfl ⟨rfl,?_⟩
   have:=H6.out
   simp only[List.append_assoc]at this⊢
   exact this
  ·rw[JD num (strOfNums t) ks (fun _=>hk)]at hb⊢
   have n1:=E7 hks 0
   have n2:=DN hks 0
   have l1:=Ed ks 0 900000 hn
   have l2:=EJ ks 0 900000 hn
   simp only[Z1,List.length_cons,List.length_nil]at hb
   have hp1:=HS.out.put2 (g:=w.heap.size+1) (y:=Gi) (z:=strOfNums t) (by simp) (by simp only[Z1,List.length_cons,List.length_nil];omega)
   clear HS H hkv hu
   go_enter Tryz.func59,Tryz.ntmps59
   go_wp2_with (first
    | (go_at_call 57;refine(H5.put1 rfl (by simp only[Z1,List.length_cons,List.length_nil];omega)).mono ?_;rintro e w6 ⟨rfl,H6,-⟩)
    | (go_at_call 55;refine(H4.each K4 n2 l2 (by simp only[Z1,List.length_cons,List.length_nil];omega)).mono ?_;rintro e w5 ⟨rfl,H5,-⟩)
    | (go_at_call 58;refine(H4.behind H4.kids hn 0 rfl).mono ?_;rintro e wq ⟨ad4,n4,c4,rfl,K4,rfl⟩)
    | (go_at_call 57;refine(H3.put1 rfl (by simp only[Z1,List.length_cons,List.length_nil];omega)).mono ?_;rintro e w4 ⟨rfl,H4,-⟩;obtain⟨z0,z1,z2,z3,zl⟩:=H4.cells)
    | (go_at_call 55;refine(H1.each K1 n1 l1 (by simp only[Z1,List.length_cons,List.length_nil];omega)).mono ?_;rintro e w3 ⟨rfl,H3,-⟩)
    | (go_at_call 56;refine(H1.front H1.kids hn 0 rfl).mono ?_;rintro e wq ⟨ad1,nn1,c1,rfl,K1,rfl⟩)
    | (go_at_call 57;refine hp1.mono ?_;clear hp1;rintro e w1 ⟨rfl,H1,F1⟩;obtain⟨x0,x1,x2,x3,xl⟩:=H1.cells;have d0:=(F1.ahd.cell (a:=⟨b,o,none⟩) hbR hbX).trans dX;have d4:b<w1.heap.size:=Z5 hbX F1.size))
   refine bodyPost_end (v:=.tuple #[]) (by simp[results,Tryz.results59,go_sem]) rfl ⟨rfl,?_⟩
   have:=H6.out
   simp only[List.append_assoc]at this⊢
   exact this
 ·have hl0:¬(0:Int)<(ks.length:Int):=by omega
  rw[JD num (strOfNums t) ks (fun h=>absurd h h0)]at hb⊢
  have n1:=E7 hks 0
  have n2:=DN hks 0
  have l1:=Ed ks 0 900000 hn
  have l2:=EJ ks 0 900000 hn
  simp only[Z1,List.length_cons,List.length_nil]at hb
  have hp1:=HS.out.put2 (g:=w.heap.size+1) (y:=Gi) (z:=strOfNums t) (by simp) (by simp only[Z1,List.length_cons,List.length_nil];omega)
  clear HS H hkv hu
  go_enter Tryz.func59,Tryz.ntmps59
  go_wp2_with (first
   | (go_at_call 57;refine(H5.put1 rfl (by simp only[Z1,List.length_cons,List.length_nil];omega)).mono ?_;rintro e w6 ⟨rfl,H6,-⟩)
   | (go_at_call 55;refine(H4.each K4 n2 l2 (by simp only[Z1,List.length_cons,List.length_nil];omega)).mono ?_;rintro e w5 ⟨rfl,H5,-⟩)
   | (go_at_call 58;refine(H4.behind H4.kids hn 0 rfl).mono ?_;rintro e wq ⟨ad4,n4,c4,rfl,K4,rfl⟩)
   | (go_at_call 57;refine(H3.put1 rfl (by simp only[Z1,List.length_cons,List.length_nil];omega)).mono ?_;rintro e w4 ⟨rfl,H4,-⟩;obtain⟨z0,z1,z2,z3,zl⟩:=H4.cells)
   | (go_at_call 55;refine(H1.each K1 n1 l1 (by simp only[Z1,List.length_cons,List.length_nil];omega)).mono ?_;rintro e w3 ⟨rfl,H3,-⟩)
   | (go_at_call 56;refine(H1.front H1.kids hn 0 rfl).mono ?_;rintro e wq ⟨ad1,nn1,c1,rfl,K1,rfl⟩)
   | (go_at_call 57;refine hp1.mono ?_;clear hp1;rintro e w1 ⟨rfl,H1,-⟩;obtain⟨x0,x1,x2,x3,xl⟩:=H1.cells))
  refine bodyPost_end (v:=.tuple #[]) (by simp[results,Tryz.results59,go_sem]) rfl ⟨rfl,?_⟩
  have:=H6.out
  simp only[List.append_assoc]at this⊢
  exact this
abbrev AC (n:Int):ByteArray:=⟨(Lib.itoa n).toArray⟩
theorem SE(n:Int)(h0:-9223372036854775808<=n)(h1:n<=9223372036854775807)(w:World)(htab:Lib.TabIs Tryz.prog w "internal/strconv.uint64pow10" .u64 Lib.pow10Tab) :
  Calls Tryz.prog 99 #[.int .i64 n] w fun e w'=>e=.returned (.string (AC n))/\Below w.heap.size w w':=
 (Tryz.strconv_Itoa n h0 h1 w htab).mono (by
  rintro e w' ⟨rfl,k,os,rfl⟩
  exact⟨rfl,Lib.below_grow _ _ (Z0 _) _ _⟩)
variable {w0:World} {R X:Nat} {k m:Int} {ad:Option Addr} {c:Nat} {ks:List Nd} {L:List ByteArray} {w:World} {t:List Int} {num:Int->ByteArray}
theorem InK.line(h:InK w0 R X k m (strOfNums t) ad c ks L w)(hks:∀i (h:i<ks.length),Cq num ks[i])(hn:ks.length<=900000){g:Nat}(hg:w.heap.size=g)(xs:List ByteArray)(hb:(L++D5 xs (tkL num ks)).length<=900000):Calls Tryz.prog 81 #[.pointer (some ⟨R,0,none⟩),.agg #[.int .i64 k,.string (strOfNums t),.int .i64 m,.slice ad ks.length c],.slice (some ⟨g,0,none⟩) xs.length xs.length] (w.alloc (.cells (CU xs).toArray 9)) fun e w'=>e=.returned (.tuple #[])/\OutK w0 R (L++D5 xs (tkL num ks)) w':=by
 subst hg
 have hbl:Below w.heap.size w (w.alloc (.cells (CU xs).toArray 9)):=(Zg _ _).alloc (Z0 _) _
 have h1:=h.below hbl
 exact MF num k m t ks hks R _ _ xs L w0 _ h1.out (Or.inr ⟨⟨w.heap.size,0,none⟩,_,rfl,MB w (CU xs) 9⟩) hb hn ⟨_,rfl,h1.kids⟩
theorem InK.line0(h:InK w0 R X k m (strOfNums t) ad c ks L w)(hks:∀i (h:i<ks.length),Cq num ks[i])(hn:ks.length<=900000)(hb:(L++D5 [] (tkL num ks)).length<=900000):Calls Tryz.prog 81 #[.pointer (some ⟨R,0,none⟩),.agg #[.int .i64 k,.string (strOfNums t),.int .i64 m,.slice ad ks.length c],.slice none 0 0] w fun e w'=>e=.returned (.tuple #[])/\OutK w0 R (L++D5 [] (tkL num ks)) w':=
 MF num k m t ks hks R _ _ [] L w0 _ h.out (Or.inl ⟨rfl,rfl⟩) hb hn ⟨_,rfl,h.kids⟩
end Go.Proofs.YtbglpanjpadldaaGreatDoor
