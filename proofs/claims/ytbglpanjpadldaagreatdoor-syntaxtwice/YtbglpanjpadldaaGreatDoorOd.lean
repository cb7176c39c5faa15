/- Texts in one. -/
import Derived.Test.YtbglpanjpadldaaGreatDoorShel3X
import Derived.Test.YtbglpanjpadldaaGreatDoorOc
import Derived.Shelf.Strings.SlTrimAscii
set_option linter.unusedSimpArgs false
set_option linter.unusedVariables false
set_option maxHeartbeats 32000000
set_option maxRecDepth 20000
namespace Go.Proofs.YtbglpanjpadldaaGreatDoor
open Go.RowKit
abbrev KT:ByteArray:=⟨#[61,43,45,42,60,33,46,44,59,58,40,41,123,125]⟩
def CX(x:ByteArray):Bool:=!(x.data.toList.all (KT.data.toList.contains ·))
theorem FD{p:UInt8->Bool}:∀l:List UInt8,l.dropWhile p=[]↔l.all p=true
 | []=>⟨fun _=>rfl,fun _=>rfl⟩
 | a::l=>by
  rw[List.dropWhile_cons,List.all_cons]
  cases h:p a with
  | true=>rw[if_pos rfl,Bool.true_and];exact FD l
  | false=>rw[if_neg (by decide),Bool.false_and];exact⟨fun h=>(by cases h),fun h=>(by cases h)⟩
theorem I3{p:UInt8->Bool}:∀(l:List UInt8) (a:UInt8) (r:List UInt8),l.dropWhile p=a::r->p a=false
 | [],a,r,h=>by cases h
 | b::l,a,r,h=>by
  rw[List.dropWhile_cons]at h
  cases hb:p b with
  | true=>rw[hb,if_pos rfl]at h;exact I3 l a r h
  | false=>rw[hb,if_neg (by decide)]at h;injection h with h1 _;subst h1;exact hb
theorem S7(l cs:List UInt8):Lib.trimS l cs=[]↔l.all (cs.contains ·)=true:=by
 unfold Lib.trimS Lib.trimLeftS Lib.trimRightS
 rw[FD,List.all_reverse]
 constructor
 ·intro h
  rw[<-List.all_reverse,<-FD]
  cases e:l.reverse.dropWhile (cs.contains ·)with
  | nil=>rfl
  | cons a r=>
   have h1:=I3 _ _ _ e
   rw[e,List.all_cons,h1,Bool.false_and]at h
   cases h
 ·intro h
  rw[<-List.all_reverse,<-FD]at h
  rw[h]
  rfl
theorem Qg(s:ByteArray)(w:World)(hs:s.size<=9223372036854775807):Calls Tryz.prog 62 #[.string s] w fun e w'=>e=.returned (.bool (CX s))/\Below w.heap.size w w':=by
 have ht:Calls Tryz.prog 85 #[.string s,.string KT] w fun e w'=>e=.returned (.string ⟨(Lib.trimS s.data.toList KT.data.toList).toArray⟩)/\Below w.heap.size w w':=Any.strings_Trim_laid Tryz.lays160 (by kernel_rfl) s KT w hs (by decide) (ascii_of_all (by decide))
 have hw:CX s=!(Lib.trimS s.data.toList KT.data.toList).isEmpty:=by
  unfold CX
  congr 1
  rw[Bool.eq_iff_iff,<-S7,List.isEmpty_iff]
 rw[hw]
 cases hl:Lib.trimS s.data.toList KT.data.toList with
 | nil=>
  rw[hl]at ht
  clear hl hw
  go_enter Tryz.func62,Tryz.ntmps62
  go_wp2_with (first | (go_at_call 85;refine ht.mono ?_;clear ht;rintro e w2 ⟨rfl,hb2⟩))
  go_ret
  exact⟨by first | rfl | simp,hb2⟩
 | cons a r=>
  rw[hl]at ht
  clear hl hw
  go_enter Tryz.func62,Tryz.ntmps62
  go_wp2_with (first | (go_at_call 85;refine ht.mono ?_;clear ht;rintro e w2 ⟨rfl,hb2⟩))
  go_ret
  exact⟨by first | rfl | simp,hb2⟩
def BT(ap:Bool):List ByteArray->List UInt8
 | []=>[]
 | x::r=>(if(ap&&CX x)=true then[32]else[])++(x.data.toList++BT (CX x) r)
def IR:Bool->List ByteArray->Bool
 | ap,[]=>ap
 | _,x::r=>IR (CX x) r
theorem IU:∀(a b:List ByteArray) (ap:Bool),BT ap (a++b)=BT ap a++BT (IR ap a) b
 | [],_,_=>rfl
 | x::a,b,ap=>by
  show(if(ap&&CX x)=true then[32]else[])++(x.data.toList++BT (CX x) (a++b))=(if(ap&&CX x)=true then[32]else[])++(x.data.toList++BT (CX x) a)++BT (IR (CX x) a) b
  rw[IU a b (CX x),List.append_assoc,List.append_assoc]
theorem L0:∀(a:List ByteArray) (x:ByteArray) (ap:Bool),IR ap (a++[x])=CX x
 | [],_,_=>rfl
 | y::a,x,_=>L0 a x (CX y)
theorem O0(a:List ByteArray)(x:ByteArray)(ap:Bool):BT ap (a++[x])=BT ap a++((if(IR ap a&&CX x)=true then[32]else[])++x.data.toList):=by
 rw[IU]
 show _++(_++(x.data.toList++[]))=_
 rw[List.append_nil]
theorem Qi(B b:Nat)(bs:List Value)(s:ByteArray)(w:World)(h:Lib.IsBuilder 61 5 B b bs w)(hlen:bs.length+s.size<=140737488355328)(hBw:B<=w.heap.size) :
  Calls Tryz.prog 21 #[.pointer (some ⟨b,0,none⟩),.string s] w fun e w'=>e=.returned (.tuple #[.int .i64 s.size,.nilIface])/\(Lib.BuilderAt 61 5 B b (.pointer (some ⟨b,0,none⟩)) (bs++Lib.strCells s) w'/\Below B w w'):=
 Any.Builder_WriteString { Tryz.lays156 with } Tryz.Builder_Extra_156 B b bs s w h hlen hBw
theorem Jh{B b:Nat}{l:List UInt8}(s:ByteArray){w:World}(h:Lib.IsBuilder 61 5 B b (Lib.byteCells l) w)(hlen:(l++s.data.toList).length<=1000000)(hBw:B<=w.heap.size) :
  Calls Tryz.prog 21 #[.pointer (some ⟨b,0,none⟩),.string s] w fun e w'=>e=.returned (.tuple #[.int .i64 s.size,.nilIface])/\Lib.IsBuilder 61 5 B b (Lib.byteCells (l++s.data.toList)) w'/\Below B w w':=by
 have hl:l.length+s.size<=1000000:=by
  rw[Z1]at hlen
  exact hlen
 refine(Qi B b _ s w h (by rw[Lib.byteCells_length];omega) hBw).mono ?_
 rintro e w' ⟨rfl,h1,h2⟩
 refine⟨rfl,Or.inr ?_,h2⟩
 rw[Lib.byteCells_append]
 exact h1
theorem EO{T e:TypeId}{B b:Nat}{bs:List Value}{w w':World}(h:Lib.IsBuilder T e B b bs w)(hb:Below w.heap.size w w'):Lib.IsBuilder T e B b bs w':=by
 have key:∀p,Lib.BuilderAt T e B b p bs w->Lib.BuilderAt T e B b p bs w':=fun p ⟨hB,v,h1,h2,h3⟩=>⟨hB,v,(hb.block b (Array.getElem?_eq_some_iff.1 h1).1).trans h1,FS h2 fun g e=>hb.block g (h2.lt g e).2,h3⟩
 exact h.elim (fun x=>Or.inl (key _ x)) (fun x=>Or.inr (key _ x))
theorem O1(L:List ByteArray)(i:Nat):(BT false (L.take i)).length<=(BT false L).length:=by
 conv=>rhs;rw[<-List.take_append_drop i L,IU,Z1]
 omega
theorem NI(L:List ByteArray)(B0:Nat)(ad:Option Addr)(c:Nat)(w:World)(hr:w.ownsRow B0 9 1 (.slice ad L.length c) L.length (CU L))(hlen:(BT false L).length<=900000)(hn:L.length<=900000)(hs9:∀x∈L,x.size<=900000) :
  Calls Tryz.prog 39 #[.slice ad L.length c] w fun e w'=>e=.returned (.string ⟨(BT false L).toArray⟩)/\Below w.heap.size w w':=by
 have HR:Hid (w.ownsRow B0 9 1 (.slice ad L.length c) L.length (CU L)):=hr
 have HI0:Hid (Lib.IsBuilder 61 5 w.heap.size w.heap.size (Lib.byteCells (BT false (L.take 0))) (w.alloc (.cells #[.pointer none,.slice none 0 0] 61))):=Or.inl ⟨Z0 _,.slice none 0 0,heap_alloc_new _ _,Zl _ _ _ _,fun e=>by cases e⟩
 have HB0:Hid (Below w.heap.size w (w.alloc (.cells #[.pointer none,.slice none 0 0] 61))):=(Zg _ _).alloc (Z0 _) _
 clear hr
 go_enter Tryz.func39,Tryz.ntmps39
 go_wp2_with fail
 go_loopw [9,4] (fun s9 s4 wr=>∃i:Nat,s9=.int .i64 i/\s4=.bool (IR false (L.take i))/\i<=L.length/\Hid (Lib.IsBuilder 61 5 w.heap.size w.heap.size (Lib.byteCells (BT false (L.take i))) wr)/\Hid (Below w.heap.size w wr)) (fun s9 _ _=>900001-(intOf s9).toNat)
 case atStart=>exact⟨0,rfl,rfl,Z3 _,HI0,HB0⟩
 case round=>
  obtain⟨i,rfl,rfl,hi,HI,HB⟩:=hrel
  clear HI0 HB0
  by_cases hlt:i<L.length
  ·have hil:(i:Int)<(L.length:Int):=by omega
   have hwi:=C4 (x:=(i:Int)+1) (by omega) (by omega)
   obtain⟨g,rfl⟩:∃g,ad=some ⟨g,0,none⟩:=by
    rcases HR.out.2 with⟨_,h0⟩ | ⟨g,cap,cur,e,_⟩
    ·omega
    ·injection e with e;exact⟨g,e⟩
   have hgl:=(HR.out.lt g rfl).2
   have hc0:w.cell? ⟨g,i,none⟩=some (.string L[i]):=by
    rw[HR.out.cellAt i (by omega)]
    unfold CU
    rw[List.getElem?_map,List.getElem?_eq_getElem hlt]
    rfl
   have hc:=(HB.out.cell (p:=⟨g,i,none⟩) hgl).trans hc0
   have hbs:=HB.out.size
   have hgl2:g<wr.heap.size:=by omega
   have etk:L.take (i+1)=L.take i++[L[i]]:=by rw[List.take_add_one,List.getElem?_eq_getElem hlt];rfl
   have hsh:=O0 (L.take i) L[i] false
   have hla:=L0 (L.take i) L[i] false
   rw[<-etk]at hsh hla
   have hle:=O1 L (i+1)
   have hwo:=fun w=>Qg L[i] w (by have:=hs9 L[i] (Z6 hlt);omega)
   rw[hsh]at hle
   generalize L[i]=x at *
   generalize IR false (L.take i)=ap at *
   generalize CX x=ws at *
   generalize BT false (L.take i)=l0 at *
   clear hc0
   cases ap with
   | true=>
    cases ws with
    | true=>
    have eb:(if(true&&true)=true then[(32:UInt8)]else[])=[32]:=rfl
    rw[eb]at hsh hle
    simp only[Z1,List.length_cons,List.length_nil]at hle
    go_wp2_with (first
     | (go_at_call 62;refine(hwo _).mono ?_;rintro e w5 ⟨rfl,hb5⟩;have H5:=EO H4 hb5;have s5:=hb5.size)
     | (go_at_call 21;refine(Jh x H3 (by rw[List.append_assoc];simp only[Z1,List.length_cons,List.length_nil];omega) (by omega)).mono ?_;rintro e w4 ⟨rfl,H4,F4⟩;have s4:=F4.size)
     | (go_at_call 21;refine(Jh ⟨#[32]⟩ H2 (by simp only[Z1,List.length_cons,List.length_nil];omega) (by omega)).mono ?_;rintro e w3 ⟨rfl,H3,F3⟩;have s3:=F3.size)
     | (go_at_call 62;refine(hwo _).mono ?_;rintro e w2 ⟨rfl,hb2⟩;have H2:=EO HI.out hb2;have s2:=hb2.size))
    refine⟨⟨i+1,by simp,by rw[hla],by omega,?_,(((HB.out.trans (hb2.mono hbs)).trans F3).trans F4).trans (hb5.mono (by omega))⟩,by simp[intOf];omega⟩
    rw[hsh]
    have:=H5
    rw[List.append_assoc]at this
    exact this
    | false=>
    have eb:(if(true&&false)=true then[(32:UInt8)]else[])=[]:=rfl
    rw[eb,List.nil_append]at hsh hle
    simp only[Z1]at hle
    go_wp2_with (first
     | (go_at_call 62;refine(hwo _).mono ?_;rintro e w5 ⟨rfl,hb5⟩;have H5:=EO H4 hb5;have s5:=hb5.size)
     | (go_at_call 21;refine(Jh x H2 (by simp only[Z1];omega) (by omega)).mono ?_;rintro e w4 ⟨rfl,H4,F4⟩;have s4:=F4.size)
     | (go_at_call 62;refine(hwo _).mono ?_;rintro e w2 ⟨rfl,hb2⟩;have H2:=EO HI.out hb2;have s2:=hb2.size))
    refine⟨⟨i+1,by simp,by rw[hla],by omega,?_,((HB.out.trans (hb2.mono hbs)).trans F4).trans (hb5.mono (by omega))⟩,by simp[intOf];omega⟩
    rw[hsh]
    exact H5
   | false=>
    have eb:(if(false&&ws)=true then[(32:UInt8)]else[])=[]:=rfl
    rw[eb,List.nil_append]at hsh hle
    simp only[Z1]at hle
    go_wp2_with (first
     | (go_at_call 62;refine(hwo _).mono ?_;rintro e w5 ⟨rfl,hb5⟩;have H5:=EO H4 hb5;have s5:=hb5.size)
     | (go_at_call 21;refine(Jh x HI.out (by simp only[Z1];omega) (by omega)).mono ?_;rintro e w4 ⟨rfl,H4,F4⟩;have s4:=F4.size))
    refine⟨⟨i+1,by simp,by rw[hla],by omega,?_,(HB.out.trans F4).trans (hb5.mono (by omega))⟩,by simp[intOf];omega⟩
    rw[hsh]
    exact H5
  ·have hil:¬(i:Int)<(L.length:Int):=by omega
   have et:L.take i=L:=List.take_of_length_le (by omega)
   rw[et]at HI
   have hst:Calls Tryz.prog 22 #[.pointer (some ⟨w.heap.size,0,none⟩)] wr fun e w'=>e=.returned (.string ⟨(BT false L).toArray⟩)/\Below w.heap.size wr w':=Tryz.Builder_String_any w.heap.size w.heap.size _ wr HI.out HB.out.size
   clear et
   go_wp2_with (first | (go_at_call 22;refine hst.mono ?_;clear hst;rintro e w2 ⟨rfl,hb2⟩))
   go_ret
   exact⟨by first | rfl | simp,HB.out.trans hb2⟩
theorem Qp(k m:Int)(t:List Int)(ks:List Nd)(hks:∀i (h:i<ks.length),Cq AC ks[i])(R:Nat)(u:Value)(L:List ByteArray)(w0 w:World)(H:OutK w0 R L w)(hb:(L++CK AC k (strOfNums t) m (ks.map Nd.kind) (tkL AC ks)).length<=900000)(hn:ks.length<=900000)(hm:-9223372036854775808<=m/\m<=9223372036854775807)(hu:NodeV w (AhR R) u (.mk k t m ks)) :
  Calls Tryz.prog 38 #[.pointer (some ⟨R,0,none⟩),u] w fun e w'=>e=.returned (.tuple #[])/\OutK w0 R (L++CK AC k (strOfNums t) m (ks.map Nd.kind) (tkL AC ks)) w':=by
 obtain⟨ad,c,rfl,hkv,hlc⟩:=Da hu
 have HS:Hid (InK w0 R w.heap.size k m (strOfNums t) ad c ks L (w.alloc (.cells #[.int .i64 k,.string (strOfNums t),.int .i64 m,.slice ad ks.length c] 24))):=InK.start H hkv
 clear H hkv hu
 by_cases h1:k=1
 ·subst h1
  have ef:CK AC 1 (strOfNums t) m (ks.map Nd.kind) (tkL AC ks)=((tkL AC ks).take ((tkL AC ks).length-1)).flatten++(Mf::((tkL AC ks).drop ((tkL AC ks).length-1)).flatten):=rfl
  rw[ef]at hb⊢
  clear ef
  rw[Em,<-EX,<-Dr]at hb⊢
  obtain⟨j,hj⟩:∃j,ks.length-1=j:=⟨_,rfl⟩
  rw[hj]at hb⊢
  have hji:((ks.length:Int)-1).toNat=j:=by omega
  have hwj:=C4 (x:=(ks.length:Int)-1) (by omega) (by omega)
  have n1:=E7 hks j
  have n2:=DN hks j
  have l1:=Ed ks j 900000 hn
  have l2:=EJ ks j 900000 hn
  have HSI:=HS
  simp only[Z1,List.length_cons,List.length_nil]at hb
  clear hj
  clear HS
  go_enter Tryz.func38,Tryz.ntmps38
  go_wp2_with (first
   | (go_at_call 55;refine(H2.each K2 n2 l2 (by simp only[Z1,List.length_cons,List.length_nil];omega)).mono ?_;rintro e w3 ⟨rfl,H3,-⟩)
   | (go_at_call 58;refine(H2.behind H2.kids hn j hji).mono ?_;rintro e wq ⟨ad2,n2',c2,rfl,K2,rfl⟩)
   | (go_at_call 57;refine(H1.put1 rfl (by simp only[Z1,List.length_cons,List.length_nil];omega)).mono ?_;rintro e w2 ⟨rfl,H2,-⟩;obtain⟨y0,y1,y2,y3,yl⟩:=H2.cells)
   | (go_at_call 55;refine(HSI.out.each K1 n1 l1 (by simp only[Z1,List.length_cons,List.length_nil];omega)).mono ?_;rintro e w1 ⟨rfl,H1,-⟩)
   | (go_at_call 56;refine(HSI.out.front HSI.out.kids hn j hji).mono ?_;rintro e wq ⟨ad1,n1',c1,rfl,K1,rfl⟩))
  refine bodyPost_end (v:=.tuple #[]) (by simp[results,Tryz.results38,go_sem]) rfl ⟨rfl,?_⟩
  have:=H3.out
  simp only[List.append_assoc,List.singleton_append]at this⊢
  exact this
 by_cases h2:k=2
 ·subst h2
  have ef:CK AC 2 (strOfNums t) m (ks.map Nd.kind) (tkL AC ks)=EM (strOfNums t) (ks.map Nd.kind) (tkL AC ks):=rfl
  rw[ef]at hb⊢
  clear ef
  have hp1:=Pd AC 2 m t ks hks R _ L w0 _ HS.out.out hb hn ⟨_,rfl,HS.out.kids⟩
  clear HS
  go_enter Tryz.func38,Tryz.ntmps38
  go_wp2_with (first
   | (go_at_call 59;refine hp1.mono ?_;clear hp1;rintro e w1 ⟨rfl,H1⟩))
  exact bodyPost_end (v:=.tuple #[]) (by simp[results,Tryz.results38,go_sem]) rfl ⟨rfl,H1⟩
 by_cases h3:k=3
 ·subst h3
  have ef:CK AC 3 (strOfNums t) m (ks.map Nd.kind) (tkL AC ks)=[P6,strOfNums t,JR]:=rfl
  rw[ef]at hb⊢
  clear ef
  have hp1:=HS.out.put3 (g:=w.heap.size+1) (y:=P6) (z:=strOfNums t) (t:=JR) (by simp) (by simp only[Z1,List.length_cons,List.length_nil]at hb⊢;omega)
  clear HS
  go_enter Tryz.func38,Tryz.ntmps38
  go_wp2_with (first
   | (go_at_call 57;refine hp1.mono ?_;clear hp1;rintro e w1 ⟨rfl,H1,-⟩;obtain⟨x0,x1,x2,x3,xl⟩:=H1.cells))
  exact bodyPost_end (v:=.tuple #[]) (by simp[results,Tryz.results38,go_sem]) rfl ⟨rfl,H1.out⟩
 by_cases h4:k=4
 ·subst h4
  have ef:CK AC 4 (strOfNums t) m (ks.map Nd.kind) (tkL AC ks)=kTo::strOfNums t::(DA ((tkL AC ks).take m.toNat)++((tkL AC ks).drop m.toNat).flatten):=rfl
  rw[ef]at hb⊢
  clear ef
  rw[<-EX,<-Dr]at hb⊢
  obtain⟨j,hj⟩:∃j,m.toNat=j:=⟨_,rfl⟩
  rw[hj]at hb⊢
  have n1:=E7 hks j
  have n2:=DN hks j
  have l1:=Ed ks j 900000 hn
  have l2:=EJ ks j 900000 hn
  have hp1:=HS.out.put2 (g:=w.heap.size+1) (y:=kTo) (z:=strOfNums t) (by simp) (by simp only[Z1,List.length_cons,List.length_nil]at hb⊢;omega)
  simp only[Z1,List.length_cons,List.length_nil]at hb
  have HJ:Hid (m.toNat=j):=hj
  clear hj
  clear HS
  go_enter Tryz.func38,Tryz.ntmps38
  go_wp2_with (first
   | (go_at_call 55;refine(H2.each K2 n2 l2 (by simp only[Z1,List.length_cons,List.length_nil];omega)).mono ?_;rintro e w3 ⟨rfl,H3,-⟩)
   | (go_at_call 58;refine(H2.behind H2.kids hn j HJ.out).mono ?_;rintro e wq ⟨ad2,n2',c2,rfl,K2,rfl⟩)
   | (go_at_call 60;refine(H1.row K1 n1 l1 (by simp only[Z1,List.length_cons,List.length_nil];omega)).mono ?_;rintro e w2 ⟨rfl,H2,-⟩;obtain⟨y0,y1,y2,y3,yl⟩:=H2.cells)
   | (go_at_call 56;refine(H1.front H1.kids hn j HJ.out).mono ?_;rintro e wq ⟨ad1,n1',c1,rfl,K1,rfl⟩)
   | (go_at_call 57;refine hp1.mono ?_;clear hp1;rintro e w1 ⟨rfl,H1,-⟩;obtain⟨x0,x1,x2,x3,xl⟩:=H1.cells))
  refine bodyPost_end (v:=.tuple #[]) (by simp[results,Tryz.results38,go_sem]) rfl ⟨rfl,?_⟩
  have:=H3.out
  simp only[List.append_assoc,List.cons_append,List.nil_append]at this⊢
  exact this
 by_cases h5:k=5
 ·subst h5
  have ef:CK AC 5 (strOfNums t) m (ks.map Nd.kind) (tkL AC ks)=[strOfNums t]:=rfl
  rw[ef]at hb⊢
  clear ef
  have hp1:=HS.out.put1 (g:=w.heap.size+1) (y:=strOfNums t) (by simp) (by simp only[Z1,List.length_cons,List.length_nil]at hb⊢;omega)
  clear HS
  go_enter Tryz.func38,Tryz.ntmps38
  go_wp2_with (first
   | (go_at_call 57;refine hp1.mono ?_;clear hp1;rintro e w1 ⟨rfl,H1,-⟩;obtain⟨x0,x1,x2,x3,xl⟩:=H1.cells))
  exact bodyPost_end (v:=.tuple #[]) (by simp[results,Tryz.results38,go_sem]) rfl ⟨rfl,H1.out⟩
 by_cases h6:k=6
 ·subst h6
  have ef:CK AC 6 (strOfNums t) m (ks.map Nd.kind) (tkL AC ks)=FY::((tkL AC ks).flatten++[Ir]):=rfl
  rw[ef]at hb⊢
  clear ef
  have hp1:=HS.out.put1 (g:=w.heap.size+1) (y:=FY) (by simp) (by simp only[Z1,List.length_cons,List.length_nil]at hb⊢;omega)
  simp only[Z1,List.length_cons,List.length_nil]at hb
  clear HS
  go_enter Tryz.func38,Tryz.ntmps38
  go_wp2_with (first
   | (go_at_call 57;refine(H2.put1 rfl (by simp only[Z1,List.length_cons,List.length_nil];omega)).mono ?_;rintro e w3 ⟨rfl,H3,-⟩)
   | (go_at_call 55;refine(H1.each H1.kids hks hn (by simp only[Z1,List.length_cons,List.length_nil];omega)).mono ?_;rintro e w2 ⟨rfl,H2,-⟩)
   | (go_at_call 57;refine hp1.mono ?_;clear hp1;rintro e w1 ⟨rfl,H1,-⟩;obtain⟨x0,x1,x2,x3,xl⟩:=H1.cells))
  refine bodyPost_end (v:=.tuple #[]) (by simp[results,Tryz.results38,go_sem]) rfl ⟨rfl,?_⟩
  have:=H3.out
  simp only[List.append_assoc,List.singleton_append]at this⊢
  exact this
 have ef:CK AC k (strOfNums t) m (ks.map Nd.kind) (tkL AC ks)=Ad AC k (strOfNums t) m (ks.map Nd.kind) (tkL AC ks):=by unfold CK;simp only[h1,h2,h3,h4,h5,h6,if_false]
 rw[ef]at hb⊢
 clear ef
 have hp1:=Lf k m t ks hks R _ L w0 _ HS.out.out hb hn hm ⟨_,rfl,HS.out.kids⟩
 clear HS
 go_enter Tryz.func38,Tryz.ntmps38
 go_wp2_with (first
  | (go_at_call 61;refine hp1.mono ?_;clear hp1;rintro e w1 ⟨rfl,H1⟩))
 exact bodyPost_end (v:=.tuple #[]) (by simp[results,Tryz.results38,go_sem]) rfl ⟨rfl,H1⟩
mutual
def Ee:Nd->Prop
 | .mk _ _ m ks=>(-9223372036854775808<=m/\m<=9223372036854775807)/\G0 ks
def G0:List Nd->Prop
 | []=>True
 | n::ns=>Ee n/\G0 ns
end
mutual
theorem MG:∀n:Nd,Ee n->A1 n<=900000->Cq AC n
 | .mk k t m ks,hm,hsz=>by
  unfold Ee at hm
  have e:A1 (.mk k t m ks)=1+AA ks:=by conv=>lhs;unfold A1
  have hl:∀l:List Nd,l.length<=AA l:=fun l=>by
   induction l with
   | nil=>exact Z3 _
   | cons a l ih=>
    have ha:1<=A1 a:=by cases a with | mk k x m ks=>unfold A1;omega
    unfold AA
    rw[List.length_cons]
    omega
  have h1:=hl ks
  have hk:=L2 ks hm.2 (by omega)
  intro R u L w0 w H hb hu
  rw[FZ]at hb⊢
  exact Qp k m t ks hk R u L w0 w H hb (by omega) hm.1 hu
theorem L2:∀ks:List Nd,G0 ks->AA ks<=900000->∀i (h:i<ks.length),Cq AC ks[i]
 | [],_,_,i,h=>by cases h
 | n::ns,hm,hsz,i,h=>by
  unfold G0 at hm
  unfold AA at hsz
  cases i with
  | zero=>exact MG n hm.1 (by omega)
  | succ i=>exact L2 ns hm.2 (by omega) i (by simp at h;omega)
end
theorem PowW.lasts{w w':World}(h:PowW w w.heap.size)(hb:Below w.heap.size w w'):PowW w' w'.heap.size:=⟨Z5 h.1 hb.size,(h.same (hb.block _ h.1)).2⟩
theorem NM(n:Nd)(hm:Ee n)(hsz:A1 n<=90000)(M:Nat->Prop)(u:Value)(w:World)(hp:PowW w w.heap.size)(hu:NodeV w M u n) :
  Calls Tryz.prog 18 #[u] w fun e w'=>Below w.heap.size w w'/\∃ad c,e=.returned (.slice ad (tkN AC n).length c)/\w'.ownsRow w.heap.size 9 1 (.slice ad (tkN AC n).length c) (tkN AC n).length (CU (tkN AC n)):=by
 have hfew:=Is AC n
 have hN:=MG n hm (by omega)
 cases n with
 | mk k t m ks=>
 obtain⟨ad,c,rfl,hkv,hlc⟩:=Da hu
 have hbl:Below w.heap.size w ((w.alloc (.cells #[.int .i64 k,.string (strOfNums t),.int .i64 m,.slice ad ks.length c] 24)).alloc (.cells #[.slice none 0 0] 80)):=((Zg _ _).alloc (Z0 _) _).alloc (by simp) _
 have ho:WtObj ((w.alloc (.cells #[.int .i64 k,.string (strOfNums t),.int .i64 m,.slice ad ks.length c] 24)).alloc (.cells #[.slice none 0 0] 80)) (w.heap.size+1) (.slice none 0 0):=by
  have h:=heap_alloc_new (w.alloc (.cells #[.int .i64 k,.string (strOfNums t),.int .i64 m,.slice ad ks.length c] 24)) (.cells #[.slice none 0 0] 80)
  rw[show(w.alloc (.cells #[.int .i64 k,.string (strOfNums t),.int .i64 m,.slice ad ks.length c] 24)).heap.size=w.heap.size+1 by simp]at h
  exact h
 have hpw:PowW ((w.alloc (.cells #[.int .i64 k,.string (strOfNums t),.int .i64 m,.slice ad ks.length c] 24)).alloc (.cells #[.slice none 0 0] 80)) (w.heap.size+1):=⟨Nat.lt_succ_of_lt hp.1,(hp.same (hbl.block _ hp.1)).2⟩
 have HT:TkO ((w.alloc (.cells #[.int .i64 k,.string (strOfNums t),.int .i64 m,.slice ad ks.length c] 24)).alloc (.cells #[.slice none 0 0] 80)) (w.heap.size+1) []:=⟨⟨_,ho,Zl _ _ _ _⟩,hpw⟩
 have hu2:NodeV ((w.alloc (.cells #[.int .i64 k,.string (strOfNums t),.int .i64 m,.slice ad ks.length c] 24)).alloc (.cells #[.slice none 0 0] 80)) (AhR (w.heap.size+1)) (.agg #[.int .i64 k,.string (strOfNums t),.int .i64 m,.slice ad ks.length c]) (.mk k t m ks):=NodeV.above (Zi hu (fun j _ hl=>by show j<_;omega)) (Zk hbl)
 have hcal:=hN (w.heap.size+1) _ [] _ _ (OutK.first HT) (by rw[List.nil_append];omega) hu2
 rw[List.nil_append]at hcal
 have HB:Hid (Below w.heap.size w ((w.alloc (.cells #[.int .i64 k,.string (strOfNums t),.int .i64 m,.slice ad ks.length c] 24)).alloc (.cells #[.slice none 0 0] 80))):=hbl
 clear hN hu2 HT hpw ho hbl hkv hu hm hp
 go_enter Tryz.func18,Tryz.ntmps18
 go_wp2_with (first | (go_at_call 38;refine hcal.mono ?_;clear hcal;rintro e w2 ⟨rfl,H2⟩;obtain⟨v2,o2,r2⟩:=H2.tk.obj;obtain⟨ad2,c2,rfl⟩:=IQ r2;obtain⟨x0,xz⟩:=o2.facts;have xl:=o2.lt))
 go_ret
 have hfr:=H2.fr
 refine⟨⟨hfr.os.trans HB.out.os,hfr.tape.trans HB.out.tape,hfr.output.trans HB.out.output,Za HB.out.size hfr.size,fun j hj=>(hfr.block j (Z5 hj HB.out.size) (by omega) (Or.inl (by omega))).trans (HB.out.block j hj)⟩,ad2,c2,by first | rfl | simp,Qh r2 (by omega)⟩
end Go.Proofs.YtbglpanjpadldaaGreatDoor
