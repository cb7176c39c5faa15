/- Texts in one. -/
import Derived.Test.YtbglpanjpadldaaGreatDoorOb
set_option linter.unusedSimpArgs false
set_option linter.unusedVariables false
set_option maxHeartbeats 32000000
set_option maxRecDepth 20000
namespace Go.Proofs.YtbglpanjpadldaaGreatDoor
open Go.RowKit
theorem Qo(k m:Int)(t:List Int)(ks:List Nd)(hks:∀i (h:i<ks.length),Cq AC ks[i])(R:Nat)(u:Value)(L:List ByteArray)(w0 w:World)(H:OutK w0 R L w)(hb:(L++Cp AC k (strOfNums t) m (ks.map Nd.kind) (tkL AC ks)).length<=900000)(hn:ks.length<=900000)(hm:-9223372036854775808<=m/\m<=9223372036854775807)(hu:NodeV w (AhR R) u (.mk k t m ks)) :
  Calls Tryz.prog 84 #[.pointer (some ⟨R,0,none⟩),u] w fun e w'=>e=.returned (.tuple #[])/\OutK w0 R (L++Cp AC k (strOfNums t) m (ks.map Nd.kind) (tkL AC ks)) w':=by
 obtain⟨ad,c,rfl,hkv,hlc⟩:=Da hu
 have HS:Hid (InK w0 R w.heap.size k m (strOfNums t) ad c ks L (w.alloc (.cells #[.int .i64 k,.string (strOfNums t),.int .i64 m,.slice ad ks.length c] 24))):=InK.start H hkv
 clear H hkv hu
 by_cases h18:k=18
 ·subst h18
  have ef:Cp AC 18 (strOfNums t) m (ks.map Nd.kind) (tkL AC ks)=E0 (ks.map Nd.kind) (tkL AC ks) 1 PB 1:=rfl
  rw[ef]at hb⊢
  clear ef
  have hp1:=GG AC 18 m t ks hks R _ 1 1 PB L w0 _ HS.out.out hb hn ⟨_,rfl,HS.out.kids⟩
  clear HS
  go_enter Tryz.func84,Tryz.ntmps84
  go_wp2_with (first
   | (go_at_call 97;refine hp1.mono ?_;clear hp1;rintro e w1 ⟨rfl,H1⟩))
  exact bodyPost_end (v:=.tuple #[]) (by simp[results,Tryz.results84,go_sem]) rfl ⟨rfl,H1⟩
 by_cases h19:k=19
 ·subst h19
  have ef:Cp AC 19 (strOfNums t) m (ks.map Nd.kind) (tkL AC ks)=E0 (ks.map Nd.kind) (tkL AC ks) 1 PC 1:=rfl
  rw[ef]at hb⊢
  clear ef
  have hp1:=GG AC 19 m t ks hks R _ 1 1 PC L w0 _ HS.out.out hb hn ⟨_,rfl,HS.out.kids⟩
  clear HS
  go_enter Tryz.func84,Tryz.ntmps84
  go_wp2_with (first
   | (go_at_call 97;refine hp1.mono ?_;clear hp1;rintro e w1 ⟨rfl,H1⟩))
  exact bodyPost_end (v:=.tuple #[]) (by simp[results,Tryz.results84,go_sem]) rfl ⟨rfl,H1⟩
 by_cases h20:k=20
 ·subst h20
  have ef:Cp AC 20 (strOfNums t) m (ks.map Nd.kind) (tkL AC ks)=E0 (ks.map Nd.kind) (tkL AC ks) 1 PD 2:=rfl
  rw[ef]at hb⊢
  clear ef
  have hp1:=GG AC 20 m t ks hks R _ 1 2 PD L w0 _ HS.out.out hb hn ⟨_,rfl,HS.out.kids⟩
  clear HS
  go_enter Tryz.func84,Tryz.ntmps84
  go_wp2_with (first
   | (go_at_call 97;refine hp1.mono ?_;clear hp1;rintro e w1 ⟨rfl,H1⟩))
  exact bodyPost_end (v:=.tuple #[]) (by simp[results,Tryz.results84,go_sem]) rfl ⟨rfl,H1⟩
 by_cases h21:k=21
 ·subst h21
  have ef:Cp AC 21 (strOfNums t) m (ks.map Nd.kind) (tkL AC ks)=E0 (ks.map Nd.kind) (tkL AC ks) 1 Hr 2:=rfl
  rw[ef]at hb⊢
  clear ef
  have hp1:=GG AC 21 m t ks hks R _ 1 2 Hr L w0 _ HS.out.out hb hn ⟨_,rfl,HS.out.kids⟩
  clear HS
  go_enter Tryz.func84,Tryz.ntmps84
  go_wp2_with (first
   | (go_at_call 97;refine hp1.mono ?_;clear hp1;rintro e w1 ⟨rfl,H1⟩))
  exact bodyPost_end (v:=.tuple #[]) (by simp[results,Tryz.results84,go_sem]) rfl ⟨rfl,H1⟩
 by_cases h22:k=22
 ·subst h22
  have ef:Cp AC 22 (strOfNums t) m (ks.map Nd.kind) (tkL AC ks)=E0 (ks.map Nd.kind) (tkL AC ks) 2 Mo 3:=rfl
  rw[ef]at hb⊢
  clear ef
  have hp1:=GG AC 22 m t ks hks R _ 2 3 Mo L w0 _ HS.out.out hb hn ⟨_,rfl,HS.out.kids⟩
  clear HS
  go_enter Tryz.func84,Tryz.ntmps84
  go_wp2_with (first
   | (go_at_call 97;refine hp1.mono ?_;clear hp1;rintro e w1 ⟨rfl,H1⟩))
  exact bodyPost_end (v:=.tuple #[]) (by simp[results,Tryz.results84,go_sem]) rfl ⟨rfl,H1⟩
 by_cases h23:k=23
 ·subst h23
  have ef:Cp AC 23 (strOfNums t) m (ks.map Nd.kind) (tkL AC ks)=Hr::E8 (ks.map Nd.kind) (tkL AC ks) 0 3:=rfl
  rw[ef]at hb⊢
  clear ef
  have hp1:=HS.out.put1 (g:=w.heap.size+1) (y:=Hr) (by simp) (by simp only[Z1,List.length_cons,List.length_nil]at hb⊢;omega)
  simp only[Z1,List.length_cons,List.length_nil]at hb
  clear HS
  go_enter Tryz.func84,Tryz.ntmps84
  go_wp2_with (first
   | (go_at_call 98;refine(H1.kid 0 3 hks hn (by decide) (by simp only[Z1,List.length_cons,List.length_nil];omega)).mono ?_;rintro e w2 ⟨rfl,H2,-⟩)
   | (go_at_call 57;refine hp1.mono ?_;clear hp1;rintro e w1 ⟨rfl,H1,-⟩;obtain⟨x0,x1,x2,x3,xl⟩:=H1.cells))
  refine bodyPost_end (v:=.tuple #[]) (by simp[results,Tryz.results84,go_sem]) rfl ⟨rfl,?_⟩
  have:=H2.out
  simp only[List.append_assoc,List.singleton_append]at this⊢
  exact this
 by_cases h24:k=24
 ·subst h24
  have ef:Cp AC 24 (strOfNums t) m (ks.map Nd.kind) (tkL AC ks)=RU::E8 (ks.map Nd.kind) (tkL AC ks) 0 3:=rfl
  rw[ef]at hb⊢
  clear ef
  have hp1:=HS.out.put1 (g:=w.heap.size+1) (y:=RU) (by simp) (by simp only[Z1,List.length_cons,List.length_nil]at hb⊢;omega)
  simp only[Z1,List.length_cons,List.length_nil]at hb
  clear HS
  go_enter Tryz.func84,Tryz.ntmps84
  go_wp2_with (first
   | (go_at_call 98;refine(H1.kid 0 3 hks hn (by decide) (by simp only[Z1,List.length_cons,List.length_nil];omega)).mono ?_;rintro e w2 ⟨rfl,H2,-⟩)
   | (go_at_call 57;refine hp1.mono ?_;clear hp1;rintro e w1 ⟨rfl,H1,-⟩;obtain⟨x0,x1,x2,x3,xl⟩:=H1.cells))
  refine bodyPost_end (v:=.tuple #[]) (by simp[results,Tryz.results84,go_sem]) rfl ⟨rfl,?_⟩
  have:=H2.out
  simp only[List.append_assoc,List.singleton_append]at this⊢
  exact this
 by_cases h25:k=25
 ·subst h25
  have ef:Cp AC 25 (strOfNums t) m (ks.map Nd.kind) (tkL AC ks)=E8 (ks.map Nd.kind) (tkL AC ks) 0 4++(TM::strOfNums t::DA ((tkL AC ks).drop 1)):=rfl
  rw[ef]at hb⊢
  clear ef
  rw[<-Dr]at hb⊢
  have n1:=DN hks 1
  have l1:=EJ ks 1 900000 hn
  have hp1:=HS.out.kid 0 4 hks hn (by decide) (by simp only[Z1,List.length_cons,List.length_nil]at hb⊢;omega)
  simp only[Z1,List.length_cons,List.length_nil]at hb
  clear HS
  go_enter Tryz.func84,Tryz.ntmps84
  go_wp2_with (first
   | (go_at_call 60;refine(H2.row K2 n1 l1 (by simp only[Z1,List.length_cons,List.length_nil];omega)).mono ?_;rintro e w3 ⟨rfl,H3,-⟩)
   | (go_at_call 58;refine(H2.behind H2.kids hn 1 rfl).mono ?_;rintro e wq ⟨ad2,n2,c2,rfl,K2,rfl⟩)
   | (go_at_call 57;refine(H1.put2 rfl (by simp only[Z1,List.length_cons,List.length_nil];omega)).mono ?_;rintro e w2 ⟨rfl,H2,-⟩;obtain⟨y0,y1,y2,y3,yl⟩:=H2.cells)
   | (go_at_call 98;refine hp1.mono ?_;clear hp1;rintro e w1 ⟨rfl,H1,-⟩;obtain⟨x0,x1,x2,x3,xl⟩:=H1.cells))
  refine bodyPost_end (v:=.tuple #[]) (by simp[results,Tryz.results84,go_sem]) rfl ⟨rfl,?_⟩
  have:=H3.out
  simp only[List.append_assoc,List.cons_append,List.nil_append]at this⊢
  exact this
 by_cases h26:k=26
 ·subst h26
  have ef:Cp AC 26 (strOfNums t) m (ks.map Nd.kind) (tkL AC ks)=[AC m]:=rfl
  rw[ef]at hb⊢
  clear ef
  have hit:=SE m hm.1 hm.2 _ HS.out.out.tk.pow.2
  have HSI:=HS
  simp only[Z1,List.length_cons,List.length_nil]at hb
  clear HS
  go_enter Tryz.func84,Tryz.ntmps84
  go_wp2_with (first
   | (go_at_call 57;refine(H1.put1 rfl (by simp only[Z1,List.length_cons,List.length_nil];omega)).mono ?_;rintro e w2 ⟨rfl,H2,-⟩)
   | (go_at_call 99;refine hit.mono ?_;clear hit;rintro e w1 ⟨rfl,hb1⟩;have H1:=HSI.out.below hb1))
  exact bodyPost_end (v:=.tuple #[]) (by simp[results,Tryz.results84,go_sem]) rfl ⟨rfl,H2.out⟩
 by_cases h27:k=27
 ·subst h27
  have ef:Cp AC 27 (strOfNums t) m (ks.map Nd.kind) (tkL AC ks)=[RV]:=rfl
  rw[ef]at hb⊢
  clear ef
  have hp1:=HS.out.put1 (g:=w.heap.size+1) (y:=RV) (by simp) (by simp only[Z1,List.length_cons,List.length_nil]at hb⊢;omega)
  clear HS
  go_enter Tryz.func84,Tryz.ntmps84
  go_wp2_with (first
   | (go_at_call 57;refine hp1.mono ?_;clear hp1;rintro e w1 ⟨rfl,H1,-⟩;obtain⟨x0,x1,x2,x3,xl⟩:=H1.cells))
  exact bodyPost_end (v:=.tuple #[]) (by simp[results,Tryz.results84,go_sem]) rfl ⟨rfl,H1.out⟩
 by_cases h28:k=28
 ·subst h28
  have ef:Cp AC 28 (strOfNums t) m (ks.map Nd.kind) (tkL AC ks)=[PE]:=rfl
  rw[ef]at hb⊢
  clear ef
  have hp1:=HS.out.put1 (g:=w.heap.size+1) (y:=PE) (by simp) (by simp only[Z1,List.length_cons,List.length_nil]at hb⊢;omega)
  clear HS
  go_enter Tryz.func84,Tryz.ntmps84
  go_wp2_with (first
   | (go_at_call 57;refine hp1.mono ?_;clear hp1;rintro e w1 ⟨rfl,H1,-⟩;obtain⟨x0,x1,x2,x3,xl⟩:=H1.cells))
  exact bodyPost_end (v:=.tuple #[]) (by simp[results,Tryz.results84,go_sem]) rfl ⟨rfl,H1.out⟩
 by_cases h29:k=29
 ·subst h29
  have ef:Cp AC 29 (strOfNums t) m (ks.map Nd.kind) (tkL AC ks)=[PF]:=rfl
  rw[ef]at hb⊢
  clear ef
  have hp1:=HS.out.put1 (g:=w.heap.size+1) (y:=PF) (by simp) (by simp only[Z1,List.length_cons,List.length_nil]at hb⊢;omega)
  clear HS
  go_enter Tryz.func84,Tryz.ntmps84
  go_wp2_with (first
   | (go_at_call 57;refine hp1.mono ?_;clear hp1;rintro e w1 ⟨rfl,H1,-⟩;obtain⟨x0,x1,x2,x3,xl⟩:=H1.cells))
  exact bodyPost_end (v:=.tuple #[]) (by simp[results,Tryz.results84,go_sem]) rfl ⟨rfl,H1.out⟩
 by_cases h30:k=30
 ·subst h30
  have ef:Cp AC 30 (strOfNums t) m (ks.map Nd.kind) (tkL AC ks)=[RW,strOfNums t]:=rfl
  rw[ef]at hb⊢
  clear ef
  have hp1:=HS.out.put2 (g:=w.heap.size+1) (y:=RW) (z:=strOfNums t) (by simp) (by simp only[Z1,List.length_cons,List.length_nil]at hb⊢;omega)
  clear HS
  go_enter Tryz.func84,Tryz.ntmps84
  go_wp2_with (first
   | (go_at_call 57;refine hp1.mono ?_;clear hp1;rintro e w1 ⟨rfl,H1,-⟩;obtain⟨x0,x1,x2,x3,xl⟩:=H1.cells))
  exact bodyPost_end (v:=.tuple #[]) (by simp[results,Tryz.results84,go_sem]) rfl ⟨rfl,H1.out⟩
 by_cases h31:k=31
 ·subst h31
  have ef:Cp AC 31 (strOfNums t) m (ks.map Nd.kind) (tkL AC ks)=[strOfNums t]:=rfl
  rw[ef]at hb⊢
  clear ef
  have hp1:=HS.out.put1 (g:=w.heap.size+1) (y:=strOfNums t) (by simp) (by simp only[Z1,List.length_cons,List.length_nil]at hb⊢;omega)
  clear HS
  go_enter Tryz.func84,Tryz.ntmps84
  go_wp2_with (first
   | (go_at_call 57;refine hp1.mono ?_;clear hp1;rintro e w1 ⟨rfl,H1,-⟩;obtain⟨x0,x1,x2,x3,xl⟩:=H1.cells))
  exact bodyPost_end (v:=.tuple #[]) (by simp[results,Tryz.results84,go_sem]) rfl ⟨rfl,H1.out⟩
 have ef:Cp AC k (strOfNums t) m (ks.map Nd.kind) (tkL AC ks)=[]:=by unfold Cp;simp only[h18,h19,h20,h21,h22,h23,h24,h25,h26,h27,h28,h29,h30,h31,if_false]
 rw[ef]at hb⊢
 clear ef
 have H1:=HS.out.out
 rw[List.append_nil]
 clear HS
 go_enter Tryz.func84,Tryz.ntmps84
 go_wp2_with fail
 exact bodyPost_end (v:=.tuple #[]) (by simp[results,Tryz.results84,go_sem]) rfl ⟨rfl,H1⟩
theorem Lf(k m:Int)(t:List Int)(ks:List Nd)(hks:∀i (h:i<ks.length),Cq AC ks[i])(R:Nat)(u:Value)(L:List ByteArray)(w0 w:World)(H:OutK w0 R L w)(hb:(L++Ad AC k (strOfNums t) m (ks.map Nd.kind) (tkL AC ks)).length<=900000)(hn:ks.length<=900000)(hm:-9223372036854775808<=m/\m<=9223372036854775807)(hu:NodeV w (AhR R) u (.mk k t m ks)) :
  Calls Tryz.prog 61 #[.pointer (some ⟨R,0,none⟩),u] w fun e w'=>e=.returned (.tuple #[])/\OutK w0 R (L++Ad AC k (strOfNums t) m (ks.map Nd.kind) (tkL AC ks)) w':=by
 obtain⟨ad,c,rfl,hkv,hlc⟩:=Da hu
 have HS:Hid (InK w0 R w.heap.size k m (strOfNums t) ad c ks L (w.alloc (.cells #[.int .i64 k,.string (strOfNums t),.int .i64 m,.slice ad ks.length c] 24))):=InK.start H hkv
 clear H hkv hu
 by_cases h7:k=7
 ·subst h7
  have ef:Ad AC 7 (strOfNums t) m (ks.map Nd.kind) (tkL AC ks)=D5 [RT,strOfNums t,LN] (tkL AC ks):=rfl
  rw[ef]at hb⊢
  clear ef
  have hp1:=HS.out.line (g:=w.heap.size+1) hks hn (by simp) [RT,strOfNums t,LN] hb
  clear HS
  go_enter Tryz.func61,Tryz.ntmps61
  go_wp2_with (first
   | (go_at_call 81;refine hp1.mono ?_;clear hp1;rintro e w1 ⟨rfl,H1⟩))
  exact bodyPost_end (v:=.tuple #[]) (by simp[results,Tryz.results61,go_sem]) rfl ⟨rfl,H1⟩
 by_cases h8:k=8
 ·subst h8
  have ef:Ad AC 8 (strOfNums t) m (ks.map Nd.kind) (tkL AC ks)=D5 [strOfNums t,LN] (tkL AC ks):=rfl
  rw[ef]at hb⊢
  clear ef
  have hp1:=HS.out.line (g:=w.heap.size+1) hks hn (by simp) [strOfNums t,LN] hb
  clear HS
  go_enter Tryz.func61,Tryz.ntmps61
  go_wp2_with (first
   | (go_at_call 81;refine hp1.mono ?_;clear hp1;rintro e w1 ⟨rfl,H1⟩))
  exact bodyPost_end (v:=.tuple #[]) (by simp[results,Tryz.results61,go_sem]) rfl ⟨rfl,H1⟩
 by_cases h9:k=9
 ·subst h9
  have ef:Ad AC 9 (strOfNums t) m (ks.map Nd.kind) (tkL AC ks)=El (tkL AC ks):=rfl
  rw[ef]at hb⊢
  clear ef
  have hp1:=O7 AC 9 m t ks hks R _ L w0 _ HS.out.out hb hn ⟨_,rfl,HS.out.kids⟩
  clear HS
  go_enter Tryz.func61,Tryz.ntmps61
  go_wp2_with (first
   | (go_at_call 82;refine hp1.mono ?_;clear hp1;rintro e w1 ⟨rfl,H1⟩))
  exact bodyPost_end (v:=.tuple #[]) (by simp[results,Tryz.results61,go_sem]) rfl ⟨rfl,H1⟩
 by_cases h10:k=10
 ·subst h10
  have ef:Ad AC 10 (strOfNums t) m (ks.map Nd.kind) (tkL AC ks)=Mm::(DA ((tkL AC ks).take 1)++((tkL AC ks).drop 1).flatten):=rfl
  rw[ef]at hb⊢
  clear ef
  rw[<-EX,<-Dr]at hb⊢
  have n1:=E7 hks 1
  have n2:=DN hks 1
  have l1:=Ed ks 1 900000 hn
  have l2:=EJ ks 1 900000 hn
  have hp1:=HS.out.put1 (g:=w.heap.size+1) (y:=Mm) (by simp) (by simp only[Z1,List.length_cons,List.length_nil]at hb⊢;omega)
  simp only[Z1,List.length_cons,List.length_nil]at hb
  clear HS
  go_enter Tryz.func61,Tryz.ntmps61
  go_wp2_with (first
   | (go_at_call 55;refine(H2.each K2 n2 l2 (by simp only[Z1,List.length_cons,List.length_nil];omega)).mono ?_;rintro e w3 ⟨rfl,H3,-⟩)
   | (go_at_call 58;refine(H2.behind H2.kids hn 1 rfl).mono ?_;rintro e wq ⟨ad2,n2',c2,rfl,K2,rfl⟩)
   | (go_at_call 60;refine(H1.row K1 n1 l1 (by simp only[Z1,List.length_cons,List.length_nil];omega)).mono ?_;rintro e w2 ⟨rfl,H2,-⟩;obtain⟨y0,y1,y2,y3,yl⟩:=H2.cells)
   | (go_at_call 56;refine(H1.front H1.kids hn 1 rfl).mono ?_;rintro e wq ⟨ad1,n1',c1,rfl,K1,rfl⟩)
   | (go_at_call 57;refine hp1.mono ?_;clear hp1;rintro e w1 ⟨rfl,H1,-⟩;obtain⟨x0,x1,x2,x3,xl⟩:=H1.cells))
  refine bodyPost_end (v:=.tuple #[]) (by simp[results,Tryz.results61,go_sem]) rfl ⟨rfl,?_⟩
  have:=H3.out
  simp only[List.append_assoc,List.singleton_append]at this⊢
  exact this
 by_cases h11:k=11
 ·subst h11
  have ef:Ad AC 11 (strOfNums t) m (ks.map Nd.kind) (tkL AC ks)=D5 [LO] (tkL AC ks):=rfl
  rw[ef]at hb⊢
  clear ef
  have hp1:=HS.out.line (g:=w.heap.size+1) hks hn (by simp) [LO] hb
  clear HS
  go_enter Tryz.func61,Tryz.ntmps61
  go_wp2_with (first
   | (go_at_call 81;refine hp1.mono ?_;clear hp1;rintro e w1 ⟨rfl,H1⟩))
  exact bodyPost_end (v:=.tuple #[]) (by simp[results,Tryz.results61,go_sem]) rfl ⟨rfl,H1⟩
 by_cases h12:k=12
 ·subst h12
  have ef:Ad AC 12 (strOfNums t) m (ks.map Nd.kind) (tkL AC ks)=CJ Mn (tkL AC ks):=rfl
  rw[ef]at hb⊢
  clear ef
  have hp1:=Ff AC 12 m t ks hks R _ Mn L w0 _ HS.out.out hb hn ⟨_,rfl,HS.out.kids⟩
  clear HS
  go_enter Tryz.func61,Tryz.ntmps61
  go_wp2_with (first
   | (go_at_call 83;refine hp1.mono ?_;clear hp1;rintro e w1 ⟨rfl,H1⟩))
  exact bodyPost_end (v:=.tuple #[]) (by simp[results,Tryz.results61,go_sem]) rfl ⟨rfl,H1⟩
 by_cases h13:k=13
 ·subst h13
  have ef:Ad AC 13 (strOfNums t) m (ks.map Nd.kind) (tkL AC ks)=P8::(tkL AC ks).flatten:=rfl
  rw[ef]at hb⊢
  clear ef
  have hp1:=HS.out.put1 (g:=w.heap.size+1) (y:=P8) (by simp) (by simp only[Z1,List.length_cons,List.length_nil]at hb⊢;omega)
  simp only[Z1,List.length_cons,List.length_nil]at hb
  clear HS
  go_enter Tryz.func61,Tryz.ntmps61
  go_wp2_with (first
   | (go_at_call 55;refine(H1.each H1.kids hks hn (by simp only[Z1,List.length_cons,List.length_nil];omega)).mono ?_;rintro e w2 ⟨rfl,H2,-⟩)
   | (go_at_call 57;refine hp1.mono ?_;clear hp1;rintro e w1 ⟨rfl,H1,-⟩;obtain⟨x0,x1,x2,x3,xl⟩:=H1.cells))
  refine bodyPost_end (v:=.tuple #[]) (by simp[results,Tryz.results61,go_sem]) rfl ⟨rfl,?_⟩
  have:=H2.out
  simp only[List.append_assoc,List.singleton_append]at this⊢
  exact this
 by_cases h14:k=14
 ·subst h14
  have ef:Ad AC 14 (strOfNums t) m (ks.map Nd.kind) (tkL AC ks)=CJ P9 (tkL AC ks):=rfl
  rw[ef]at hb⊢
  clear ef
  have hp1:=Ff AC 14 m t ks hks R _ P9 L w0 _ HS.out.out hb hn ⟨_,rfl,HS.out.kids⟩
  clear HS
  go_enter Tryz.func61,Tryz.ntmps61
  go_wp2_with (first
   | (go_at_call 83;refine hp1.mono ?_;clear hp1;rintro e w1 ⟨rfl,H1⟩))
  exact bodyPost_end (v:=.tuple #[]) (by simp[results,Tryz.results61,go_sem]) rfl ⟨rfl,H1⟩
 by_cases h15:k=15
 ·subst h15
  have ef:Ad AC 15 (strOfNums t) m (ks.map Nd.kind) (tkL AC ks)=CJ LP (tkL AC ks):=rfl
  rw[ef]at hb⊢
  clear ef
  have hp1:=Ff AC 15 m t ks hks R _ LP L w0 _ HS.out.out hb hn ⟨_,rfl,HS.out.kids⟩
  clear HS
  go_enter Tryz.func61,Tryz.ntmps61
  go_wp2_with (first
   | (go_at_call 83;refine hp1.mono ?_;clear hp1;rintro e w1 ⟨rfl,H1⟩))
  exact bodyPost_end (v:=.tuple #[]) (by simp[results,Tryz.results61,go_sem]) rfl ⟨rfl,H1⟩
 by_cases h16:k=16
 ·subst h16
  have ef:Ad AC 16 (strOfNums t) m (ks.map Nd.kind) (tkL AC ks)=CJ PA (tkL AC ks):=rfl
  rw[ef]at hb⊢
  clear ef
  have hp1:=Ff AC 16 m t ks hks R _ PA L w0 _ HS.out.out hb hn ⟨_,rfl,HS.out.kids⟩
  clear HS
  go_enter Tryz.func61,Tryz.ntmps61
  go_wp2_with (first
   | (go_at_call 83;refine hp1.mono ?_;clear hp1;rintro e w1 ⟨rfl,H1⟩))
  exact bodyPost_end (v:=.tuple #[]) (by simp[results,Tryz.results61,go_sem]) rfl ⟨rfl,H1⟩
 by_cases h17:k=17
 ·subst h17
  have ef:Ad AC 17 (strOfNums t) m (ks.map Nd.kind) (tkL AC ks)=D5 [] (tkL AC ks):=rfl
  rw[ef]at hb⊢
  clear ef
  have hp1:=HS.out.line0 hks hn hb
  clear HS
  go_enter Tryz.func61,Tryz.ntmps61
  go_wp2_with (first
   | (go_at_call 81;refine hp1.mono ?_;clear hp1;rintro e w1 ⟨rfl,H1⟩))
  exact bodyPost_end (v:=.tuple #[]) (by simp[results,Tryz.results61,go_sem]) rfl ⟨rfl,H1⟩
 have ef:Ad AC k (strOfNums t) m (ks.map Nd.kind) (tkL AC ks)=Cp AC k (strOfNums t) m (ks.map Nd.kind) (tkL AC ks):=by unfold Ad;simp only[h7,h8,h9,h10,h11,h12,h13,h14,h15,h16,h17,if_false]
 rw[ef]at hb⊢
 clear ef
 have hp1:=Qo k m t ks hks R _ L w0 _ HS.out.out hb hn hm ⟨_,rfl,HS.out.kids⟩
 clear HS
 go_enter Tryz.func61,Tryz.ntmps61
 go_wp2_with (first
  | (go_at_call 84;refine hp1.mono ?_;clear hp1;rintro e w1 ⟨rfl,H1⟩))
 exact bodyPost_end (v:=.tuple #[]) (by simp[results,Tryz.results61,go_sem]) rfl ⟨rfl,H1⟩
end Go.Proofs.YtbglpanjpadldaaGreatDoor
