/- Texts in one. -/
import Derived.Test.YtjhiipmbbhcojaaGreatDoorOb
set_option linter.unusedSimpArgs false
set_option linter.unusedVariables false
set_option maxHeartbeats 32000000
set_option maxRecDepth 20000
namespace Go.Proofs.YtjhiipmbbhcojaaGreatDoor
open Go.RowKit
theorem Qm(k m:Int)(t:List Int)(ks:List Nd)(hks:∀i (h:i<ks.length),Cq AD ks[i])(R:Nat)(u:Value)(L:List ByteArray)(w0 w:World)(H:OutK w0 R L w)(hb:(L++Cp AD k (strOfNums t) m (ks.map Nd.kind) (tkL AD ks)).length<=900000)(hn:ks.length<=900000)(hm:-9223372036854775808<=m/\m<=9223372036854775807)(hu:NodeV w (AhR R) u (.mk k t m ks)) :
  Calls Tryz.prog 66 #[.pointer (some ⟨R,0,none⟩),u] w fun e w'=>e=.returned (.tuple #[])/\OutK w0 R (L++Cp AD k (strOfNums t) m (ks.map Nd.kind) (tkL AD ks)) w':=by
 obtain⟨ad,c,rfl,hkv,hlc⟩:=E5 hu
 have HS:Hid (InK w0 R w.heap.size k m (strOfNums t) ad c ks L (w.alloc (.cells #[.int .i64 k,.string (strOfNums t),.int .i64 m,.slice ad ks.length c] 24))):=InK.start H hkv
 clear H hkv hu
 by_cases h18:k=18
 ·subst h18
  have ef:Cp AD 18 (strOfNums t) m (ks.map Nd.kind) (tkL AD ks)=Dz (ks.map Nd.kind) (tkL AD ks) 1 P9 1:=rfl
  rw[ef]at hb⊢
  clear ef
  have hp1:=GF AD 18 m t ks hks R _ 1 1 P9 L w0 _ HS.out.out hb hn ⟨_,rfl,HS.out.kids⟩
  clear HS
  go_enter Tryz.func66,Tryz.ntmps66
  go_wp2_with (first
   | (go_at_call 85;refine hp1.mono ?_;clear hp1;rintro e w1 ⟨rfl,H1⟩))
  exact bodyPost_end (v:=.tuple #[]) (by simp[results,Tryz.results66,go_sem]) rfl ⟨rfl,H1⟩
 by_cases h19:k=19
 ·subst h19
  have ef:Cp AD 19 (strOfNums t) m (ks.map Nd.kind) (tkL AD ks)=Dz (ks.map Nd.kind) (tkL AD ks) 1 PA 1:=rfl
  rw[ef]at hb⊢
  clear ef
  have hp1:=GF AD 19 m t ks hks R _ 1 1 PA L w0 _ HS.out.out hb hn ⟨_,rfl,HS.out.kids⟩
  clear HS
  go_enter Tryz.func66,Tryz.ntmps66
  go_wp2_with (first
   | (go_at_call 85;refine hp1.mono ?_;clear hp1;rintro e w1 ⟨rfl,H1⟩))
  exact bodyPost_end (v:=.tuple #[]) (by simp[results,Tryz.results66,go_sem]) rfl ⟨rfl,H1⟩
 by_cases h20:k=20
 ·subst h20
  have ef:Cp AD 20 (strOfNums t) m (ks.map Nd.kind) (tkL AD ks)=Dz (ks.map Nd.kind) (tkL AD ks) 1 PB 2:=rfl
  rw[ef]at hb⊢
  clear ef
  have hp1:=GF AD 20 m t ks hks R _ 1 2 PB L w0 _ HS.out.out hb hn ⟨_,rfl,HS.out.kids⟩
  clear HS
  go_enter Tryz.func66,Tryz.ntmps66
  go_wp2_with (first
   | (go_at_call 85;refine hp1.mono ?_;clear hp1;rintro e w1 ⟨rfl,H1⟩))
  exact bodyPost_end (v:=.tuple #[]) (by simp[results,Tryz.results66,go_sem]) rfl ⟨rfl,H1⟩
 by_cases h21:k=21
 ·subst h21
  have ef:Cp AD 21 (strOfNums t) m (ks.map Nd.kind) (tkL AD ks)=Dz (ks.map Nd.kind) (tkL AD ks) 1 Hq 2:=rfl
  rw[ef]at hb⊢
  clear ef
  have hp1:=GF AD 21 m t ks hks R _ 1 2 Hq L w0 _ HS.out.out hb hn ⟨_,rfl,HS.out.kids⟩
  clear HS
  go_enter Tryz.func66,Tryz.ntmps66
  go_wp2_with (first
   | (go_at_call 85;refine hp1.mono ?_;clear hp1;rintro e w1 ⟨rfl,H1⟩))
  exact bodyPost_end (v:=.tuple #[]) (by simp[results,Tryz.results66,go_sem]) rfl ⟨rfl,H1⟩
 by_cases h22:k=22
 ·subst h22
  have ef:Cp AD 22 (strOfNums t) m (ks.map Nd.kind) (tkL AD ks)=Dz (ks.map Nd.kind) (tkL AD ks) 2 Mo 3:=rfl
  rw[ef]at hb⊢
  clear ef
  have hp1:=GF AD 22 m t ks hks R _ 2 3 Mo L w0 _ HS.out.out hb hn ⟨_,rfl,HS.out.kids⟩
  clear HS
  go_enter Tryz.func66,Tryz.ntmps66
  go_wp2_with (first
   | (go_at_call 85;refine hp1.mono ?_;clear hp1;rintro e w1 ⟨rfl,H1⟩))
  exact bodyPost_end (v:=.tuple #[]) (by simp[results,Tryz.results66,go_sem]) rfl ⟨rfl,H1⟩
 by_cases h23:k=23
 ·subst h23
  have ef:Cp AD 23 (strOfNums t) m (ks.map Nd.kind) (tkL AD ks)=Hq::E8 (ks.map Nd.kind) (tkL AD ks) 0 3:=rfl
  rw[ef]at hb⊢
  clear ef
  have hp1:=HS.out.put1 (g:=w.heap.size+1) (y:=Hq) (by simp) (by simp only[Z1,List.length_cons,List.length_nil]at hb⊢;omega)
  simp only[Z1,List.length_cons,List.length_nil]at hb
  clear HS
  go_enter Tryz.func66,Tryz.ntmps66
  go_wp2_with (first
   | (go_at_call 86;refine(H1.kid 0 3 hks hn (by decide) (by simp only[Z1,List.length_cons,List.length_nil];omega)).mono ?_;rintro e w2 ⟨rfl,H2,-⟩)
   | (go_at_call 42;refine hp1.mono ?_;clear hp1;rintro e w1 ⟨rfl,H1,-⟩;obtain⟨x0,x1,x2,x3,xl⟩:=H1.cells))
  refine bodyPost_end (v:=.tuple #[]) (by simp[results,Tryz.results66,go_sem]) rfl ⟨rfl,?_⟩
  have:=H2.out
  simp only[List.append_assoc,List.singleton_append]at this⊢
  exact this
 by_cases h24:k=24
 ·subst h24
  have ef:Cp AD 24 (strOfNums t) m (ks.map Nd.kind) (tkL AD ks)=RR::E8 (ks.map Nd.kind) (tkL AD ks) 0 3:=rfl
  rw[ef]at hb⊢
  clear ef
  have hp1:=HS.out.put1 (g:=w.heap.size+1) (y:=RR) (by simp) (by simp only[Z1,List.length_cons,List.length_nil]at hb⊢;omega)
  simp only[Z1,List.length_cons,List.length_nil]at hb
  clear HS
  go_enter Tryz.func66,Tryz.ntmps66
  go_wp2_with (first
   | (go_at_call 86;refine(H1.kid 0 3 hks hn (by decide) (by simp only[Z1,List.length_cons,List.length_nil];omega)).mono ?_;rintro e w2 ⟨rfl,H2,-⟩)
   | (go_at_call 42;refine hp1.mono ?_;clear hp1;rintro e w1 ⟨rfl,H1,-⟩;obtain⟨x0,x1,x2,x3,xl⟩:=H1.cells))
  refine bodyPost_end (v:=.tuple #[]) (by simp[results,Tryz.results66,go_sem]) rfl ⟨rfl,?_⟩
  have:=H2.out
  simp only[List.append_assoc,List.singleton_append]at this⊢
  exact this
 by_cases h25:k=25
 ·subst h25
  have ef:Cp AD 25 (strOfNums t) m (ks.map Nd.kind) (tkL AD ks)=E8 (ks.map Nd.kind) (tkL AD ks) 0 4++(TK::strOfNums t::DA ((tkL AD ks).drop 1)):=rfl
  rw[ef]at hb⊢
  clear ef
  rw[<-Dp]at hb⊢
  have n1:=DN hks 1
  have l1:=EJ ks 1 900000 hn
  have hp1:=HS.out.kid 0 4 hks hn (by decide) (by simp only[Z1,List.length_cons,List.length_nil]at hb⊢;omega)
  simp only[Z1,List.length_cons,List.length_nil]at hb
  clear HS
  go_enter Tryz.func66,Tryz.ntmps66
  go_wp2_with (first
   | (go_at_call 45;refine(H2.row K2 n1 l1 (by simp only[Z1,List.length_cons,List.length_nil];omega)).mono ?_;rintro e w3 ⟨rfl,H3,-⟩)
   | (go_at_call 43;refine(H2.behind H2.kids hn 1 rfl).mono ?_;rintro e wq ⟨ad2,n2,c2,rfl,K2,rfl⟩)
   | (go_at_call 42;refine(H1.put2 rfl (by simp only[Z1,List.length_cons,List.length_nil];omega)).mono ?_;rintro e w2 ⟨rfl,H2,-⟩;obtain⟨y0,y1,y2,y3,yl⟩:=H2.cells)
   | (go_at_call 86;refine hp1.mono ?_;clear hp1;rintro e w1 ⟨rfl,H1,-⟩;obtain⟨x0,x1,x2,x3,xl⟩:=H1.cells))
  refine bodyPost_end (v:=.tuple #[]) (by simp[results,Tryz.results66,go_sem]) rfl ⟨rfl,?_⟩
  have:=H3.out
  simp only[List.append_assoc,List.cons_append,List.nil_append]at this⊢
  exact this
 by_cases h26:k=26
 ·subst h26
  have ef:Cp AD 26 (strOfNums t) m (ks.map Nd.kind) (tkL AD ks)=[AD m]:=rfl
  rw[ef]at hb⊢
  clear ef
  have hit:=SB m hm.1 hm.2 _ HS.out.out.tk.pow.2
  have HSI:=HS
  simp only[Z1,List.length_cons,List.length_nil]at hb
  clear HS
  go_enter Tryz.func66,Tryz.ntmps66
  go_wp2_with (first
   | (go_at_call 42;refine(H1.put1 rfl (by simp only[Z1,List.length_cons,List.length_nil];omega)).mono ?_;rintro e w2 ⟨rfl,H2,-⟩)
   | (go_at_call 87;refine hit.mono ?_;clear hit;rintro e w1 ⟨rfl,hb1⟩;have H1:=HSI.out.below hb1))
  exact bodyPost_end (v:=.tuple #[]) (by simp[results,Tryz.results66,go_sem]) rfl ⟨rfl,H2.out⟩
 by_cases h27:k=27
 ·subst h27
  have ef:Cp AD 27 (strOfNums t) m (ks.map Nd.kind) (tkL AD ks)=[RS]:=rfl
  rw[ef]at hb⊢
  clear ef
  have hp1:=HS.out.put1 (g:=w.heap.size+1) (y:=RS) (by simp) (by simp only[Z1,List.length_cons,List.length_nil]at hb⊢;omega)
  clear HS
  go_enter Tryz.func66,Tryz.ntmps66
  go_wp2_with (first
   | (go_at_call 42;refine hp1.mono ?_;clear hp1;rintro e w1 ⟨rfl,H1,-⟩;obtain⟨x0,x1,x2,x3,xl⟩:=H1.cells))
  exact bodyPost_end (v:=.tuple #[]) (by simp[results,Tryz.results66,go_sem]) rfl ⟨rfl,H1.out⟩
 by_cases h28:k=28
 ·subst h28
  have ef:Cp AD 28 (strOfNums t) m (ks.map Nd.kind) (tkL AD ks)=[PC]:=rfl
  rw[ef]at hb⊢
  clear ef
  have hp1:=HS.out.put1 (g:=w.heap.size+1) (y:=PC) (by simp) (by simp only[Z1,List.length_cons,List.length_nil]at hb⊢;omega)
  clear HS
  go_enter Tryz.func66,Tryz.ntmps66
  go_wp2_with (first
   | (go_at_call 42;refine hp1.mono ?_;clear hp1;rintro e w1 ⟨rfl,H1,-⟩;obtain⟨x0,x1,x2,x3,xl⟩:=H1.cells))
  exact bodyPost_end (v:=.tuple #[]) (by simp[results,Tryz.results66,go_sem]) rfl ⟨rfl,H1.out⟩
 by_cases h29:k=29
 ·subst h29
  have ef:Cp AD 29 (strOfNums t) m (ks.map Nd.kind) (tkL AD ks)=[PD]:=rfl
  rw[ef]at hb⊢
  clear ef
  have hp1:=HS.out.put1 (g:=w.heap.size+1) (y:=PD) (by simp) (by simp only[Z1,List.length_cons,List.length_nil]at hb⊢;omega)
  clear HS
  go_enter Tryz.func66,Tryz.ntmps66
  go_wp2_with (first
   | (go_at_call 42;refine hp1.mono ?_;clear hp1;rintro e w1 ⟨rfl,H1,-⟩;obtain⟨x0,x1,x2,x3,xl⟩:=H1.cells))
  exact bodyPost_end (v:=.tuple #[]) (by simp[results,Tryz.results66,go_sem]) rfl ⟨rfl,H1.out⟩
 by_cases h30:k=30
 ·subst h30
  have ef:Cp AD 30 (strOfNums t) m (ks.map Nd.kind) (tkL AD ks)=[RT,strOfNums t]:=rfl
  rw[ef]at hb⊢
  clear ef
  have hp1:=HS.out.put2 (g:=w.heap.size+1) (y:=RT) (z:=strOfNums t) (by simp) (by simp only[Z1,List.length_cons,List.length_nil]at hb⊢;omega)
  clear HS
  go_enter Tryz.func66,Tryz.ntmps66
  go_wp2_with (first
   | (go_at_call 42;refine hp1.mono ?_;clear hp1;rintro e w1 ⟨rfl,H1,-⟩;obtain⟨x0,x1,x2,x3,xl⟩:=H1.cells))
  exact bodyPost_end (v:=.tuple #[]) (by simp[results,Tryz.results66,go_sem]) rfl ⟨rfl,H1.out⟩
 by_cases h31:k=31
 ·subst h31
  have ef:Cp AD 31 (strOfNums t) m (ks.map Nd.kind) (tkL AD ks)=[strOfNums t]:=rfl
  rw[ef]at hb⊢
  clear ef
  have hp1:=HS.out.put1 (g:=w.heap.size+1) (y:=strOfNums t) (by simp) (by simp only[Z1,List.length_cons,List.length_nil]at hb⊢;omega)
  clear HS
  go_enter Tryz.func66,Tryz.ntmps66
  go_wp2_with (first
   | (go_at_call 42;refine hp1.mono ?_;clear hp1;rintro e w1 ⟨rfl,H1,-⟩;obtain⟨x0,x1,x2,x3,xl⟩:=H1.cells))
  exact bodyPost_end (v:=.tuple #[]) (by simp[results,Tryz.results66,go_sem]) rfl ⟨rfl,H1.out⟩
 have ef:Cp AD k (strOfNums t) m (ks.map Nd.kind) (tkL AD ks)=[]:=by unfold Cp;simp only[h18,h19,h20,h21,h22,h23,h24,h25,h26,h27,h28,h29,h30,h31,if_false]
 rw[ef]at hb⊢
 clear ef
 have H1:=HS.out.out
 rw[List.append_nil]
 clear HS
 go_enter Tryz.func66,Tryz.ntmps66
 go_wp2_with fail
 exact bodyPost_end (v:=.tuple #[]) (by simp[results,Tryz.results66,go_sem]) rfl ⟨rfl,H1⟩
theorem Lf(k m:Int)(t:List Int)(ks:List Nd)(hks:∀i (h:i<ks.length),Cq AD ks[i])(R:Nat)(u:Value)(L:List ByteArray)(w0 w:World)(H:OutK w0 R L w)(hb:(L++Ad AD k (strOfNums t) m (ks.map Nd.kind) (tkL AD ks)).length<=900000)(hn:ks.length<=900000)(hm:-9223372036854775808<=m/\m<=9223372036854775807)(hu:NodeV w (AhR R) u (.mk k t m ks)) :
  Calls Tryz.prog 46 #[.pointer (some ⟨R,0,none⟩),u] w fun e w'=>e=.returned (.tuple #[])/\OutK w0 R (L++Ad AD k (strOfNums t) m (ks.map Nd.kind) (tkL AD ks)) w':=by
 obtain⟨ad,c,rfl,hkv,hlc⟩:=E5 hu
 have HS:Hid (InK w0 R w.heap.size k m (strOfNums t) ad c ks L (w.alloc (.cells #[.int .i64 k,.string (strOfNums t),.int .i64 m,.slice ad ks.length c] 24))):=InK.start H hkv
 clear H hkv hu
 by_cases h7:k=7
 ·subst h7
  have ef:Ad AD 7 (strOfNums t) m (ks.map Nd.kind) (tkL AD ks)=D5 [RQ,strOfNums t,LN] (tkL AD ks):=rfl
  rw[ef]at hb⊢
  clear ef
  have hp1:=HS.out.line (g:=w.heap.size+1) hks hn (by simp) [RQ,strOfNums t,LN] hb
  clear HS
  go_enter Tryz.func46,Tryz.ntmps46
  go_wp2_with (first
   | (go_at_call 63;refine hp1.mono ?_;clear hp1;rintro e w1 ⟨rfl,H1⟩))
  exact bodyPost_end (v:=.tuple #[]) (by simp[results,Tryz.results46,go_sem]) rfl ⟨rfl,H1⟩
 by_cases h8:k=8
 ·subst h8
  have ef:Ad AD 8 (strOfNums t) m (ks.map Nd.kind) (tkL AD ks)=D5 [strOfNums t,LN] (tkL AD ks):=rfl
  rw[ef]at hb⊢
  clear ef
  have hp1:=HS.out.line (g:=w.heap.size+1) hks hn (by simp) [strOfNums t,LN] hb
  clear HS
  go_enter Tryz.func46,Tryz.ntmps46
  go_wp2_with (first
   | (go_at_call 63;refine hp1.mono ?_;clear hp1;rintro e w1 ⟨rfl,H1⟩))
  exact bodyPost_end (v:=.tuple #[]) (by simp[results,Tryz.results46,go_sem]) rfl ⟨rfl,H1⟩
 by_cases h9:k=9
 ·subst h9
  have ef:Ad AD 9 (strOfNums t) m (ks.map Nd.kind) (tkL AD ks)=Ej (tkL AD ks):=rfl
  rw[ef]at hb⊢
  clear ef
  have hp1:=O0 AD 9 m t ks hks R _ L w0 _ HS.out.out hb hn ⟨_,rfl,HS.out.kids⟩
  clear HS
  go_enter Tryz.func46,Tryz.ntmps46
  go_wp2_with (first
   | (go_at_call 64;refine hp1.mono ?_;clear hp1;rintro e w1 ⟨rfl,H1⟩))
  exact bodyPost_end (v:=.tuple #[]) (by simp[results,Tryz.results46,go_sem]) rfl ⟨rfl,H1⟩
 by_cases h10:k=10
 ·subst h10
  have ef:Ad AD 10 (strOfNums t) m (ks.map Nd.kind) (tkL AD ks)=Mm::(DA ((tkL AD ks).take 1)++((tkL AD ks).drop 1).flatten):=rfl
  rw[ef]at hb⊢
  clear ef
  rw[<-EW,<-Dp]at hb⊢
  have n1:=E7 hks 1
  have n2:=DN hks 1
  have l1:=Ec ks 1 900000 hn
  have l2:=EJ ks 1 900000 hn
  have hp1:=HS.out.put1 (g:=w.heap.size+1) (y:=Mm) (by simp) (by simp only[Z1,List.length_cons,List.length_nil]at hb⊢;omega)
  simp only[Z1,List.length_cons,List.length_nil]at hb
  clear HS
  go_enter Tryz.func46,Tryz.ntmps46
  go_wp2_with (first
   | (go_at_call 40;refine(H2.each K2 n2 l2 (by simp only[Z1,List.length_cons,List.length_nil];omega)).mono ?_;rintro e w3 ⟨rfl,H3,-⟩)
   | (go_at_call 43;refine(H2.behind H2.kids hn 1 rfl).mono ?_;rintro e wq ⟨ad2,n2',c2,rfl,K2,rfl⟩)
   | (go_at_call 45;refine(H1.row K1 n1 l1 (by simp only[Z1,List.length_cons,List.length_nil];omega)).mono ?_;rintro e w2 ⟨rfl,H2,-⟩;obtain⟨y0,y1,y2,y3,yl⟩:=H2.cells)
   | (go_at_call 41;refine(H1.front H1.kids hn 1 rfl).mono ?_;rintro e wq ⟨ad1,n1',c1,rfl,K1,rfl⟩)
   | (go_at_call 42;refine hp1.mono ?_;clear hp1;rintro e w1 ⟨rfl,H1,-⟩;obtain⟨x0,x1,x2,x3,xl⟩:=H1.cells))
  refine bodyPost_end (v:=.tuple #[]) (by simp[results,Tryz.results46,go_sem]) rfl ⟨rfl,?_⟩
  have:=H3.out
  simp only[List.append_assoc,List.singleton_append]at this⊢
  exact this
 by_cases h11:k=11
 ·subst h11
  have ef:Ad AD 11 (strOfNums t) m (ks.map Nd.kind) (tkL AD ks)=D5 [LO] (tkL AD ks):=rfl
  rw[ef]at hb⊢
  clear ef
  have hp1:=HS.out.line (g:=w.heap.size+1) hks hn (by simp) [LO] hb
  clear HS
  go_enter Tryz.func46,Tryz.ntmps46
  go_wp2_with (first
   | (go_at_call 63;refine hp1.mono ?_;clear hp1;rintro e w1 ⟨rfl,H1⟩))
  exact bodyPost_end (v:=.tuple #[]) (by simp[results,Tryz.results46,go_sem]) rfl ⟨rfl,H1⟩
 by_cases h12:k=12
 ·subst h12
  have ef:Ad AD 12 (strOfNums t) m (ks.map Nd.kind) (tkL AD ks)=CJ Mn (tkL AD ks):=rfl
  rw[ef]at hb⊢
  clear ef
  have hp1:=Fd AD 12 m t ks hks R _ Mn L w0 _ HS.out.out hb hn ⟨_,rfl,HS.out.kids⟩
  clear HS
  go_enter Tryz.func46,Tryz.ntmps46
  go_wp2_with (first
   | (go_at_call 65;refine hp1.mono ?_;clear hp1;rintro e w1 ⟨rfl,H1⟩))
  exact bodyPost_end (v:=.tuple #[]) (by simp[results,Tryz.results46,go_sem]) rfl ⟨rfl,H1⟩
 by_cases h13:k=13
 ·subst h13
  have ef:Ad AD 13 (strOfNums t) m (ks.map Nd.kind) (tkL AD ks)=P6::(tkL AD ks).flatten:=rfl
  rw[ef]at hb⊢
  clear ef
  have hp1:=HS.out.put1 (g:=w.heap.size+1) (y:=P6) (by simp) (by simp only[Z1,List.length_cons,List.length_nil]at hb⊢;omega)
  simp only[Z1,List.length_cons,List.length_nil]at hb
  clear HS
  go_enter Tryz.func46,Tryz.ntmps46
  go_wp2_with (first
   | (go_at_call 40;refine(H1.each H1.kids hks hn (by simp only[Z1,List.length_cons,List.length_nil];omega)).mono ?_;rintro e w2 ⟨rfl,H2,-⟩)
   | (go_at_call 42;refine hp1.mono ?_;clear hp1;rintro e w1 ⟨rfl,H1,-⟩;obtain⟨x0,x1,x2,x3,xl⟩:=H1.cells))
  refine bodyPost_end (v:=.tuple #[]) (by simp[results,Tryz.results46,go_sem]) rfl ⟨rfl,?_⟩
  have:=H2.out
  simp only[List.append_assoc,List.singleton_append]at this⊢
  exact this
 by_cases h14:k=14
 ·subst h14
  have ef:Ad AD 14 (strOfNums t) m (ks.map Nd.kind) (tkL AD ks)=CJ P7 (tkL AD ks):=rfl
  rw[ef]at hb⊢
  clear ef
  have hp1:=Fd AD 14 m t ks hks R _ P7 L w0 _ HS.out.out hb hn ⟨_,rfl,HS.out.kids⟩
  clear HS
  go_enter Tryz.func46,Tryz.ntmps46
  go_wp2_with (first
   | (go_at_call 65;refine hp1.mono ?_;clear hp1;rintro e w1 ⟨rfl,H1⟩))
  exact bodyPost_end (v:=.tuple #[]) (by simp[results,Tryz.results46,go_sem]) rfl ⟨rfl,H1⟩
 by_cases h15:k=15
 ·subst h15
  have ef:Ad AD 15 (strOfNums t) m (ks.map Nd.kind) (tkL AD ks)=CJ LP (tkL AD ks):=rfl
  rw[ef]at hb⊢
  clear ef
  have hp1:=Fd AD 15 m t ks hks R _ LP L w0 _ HS.out.out hb hn ⟨_,rfl,HS.out.kids⟩
  clear HS
  go_enter Tryz.func46,Tryz.ntmps46
  go_wp2_with (first
   | (go_at_call 65;refine hp1.mono ?_;clear hp1;rintro e w1 ⟨rfl,H1⟩))
  exact bodyPost_end (v:=.tuple #[]) (by simp[results,Tryz.results46,go_sem]) rfl ⟨rfl,H1⟩
 by_cases h16:k=16
 ·subst h16
  have ef:Ad AD 16 (strOfNums t) m (ks.map Nd.kind) (tkL AD ks)=CJ P8 (tkL AD ks):=rfl
  rw[ef]at hb⊢
  clear ef
  have hp1:=Fd AD 16 m t ks hks R _ P8 L w0 _ HS.out.out hb hn ⟨_,rfl,HS.out.kids⟩
  clear HS
  go_enter Tryz.func46,Tryz.ntmps46
  go_wp2_with (first
   | (go_at_call 65;refine hp1.mono ?_;clear hp1;rintro e w1 ⟨rfl,H1⟩))
  exact bodyPost_end (v:=.tuple #[]) (by simp[results,Tryz.results46,go_sem]) rfl ⟨rfl,H1⟩
 by_cases h17:k=17
 ·subst h17
  have ef:Ad AD 17 (strOfNums t) m (ks.map Nd.kind) (tkL AD ks)=D5 [] (tkL AD ks):=rfl
  rw[ef]at hb⊢
  clear ef
  have hp1:=HS.out.line0 hks hn hb
  clear HS
  go_enter Tryz.func46,Tryz.ntmps46
  go_wp2_with (first
   | (go_at_call 63;refine hp1.mono ?_;clear hp1;rintro e w1 ⟨rfl,H1⟩))
  exact bodyPost_end (v:=.tuple #[]) (by simp[results,Tryz.results46,go_sem]) rfl ⟨rfl,H1⟩
 have ef:Ad AD k (strOfNums t) m (ks.map Nd.kind) (tkL AD ks)=Cp AD k (strOfNums t) m (ks.map Nd.kind) (tkL AD ks):=by unfold Ad;simp only[h7,h8,h9,h10,h11,h12,h13,h14,h15,h16,h17,if_false]
 rw[ef]at hb⊢
 clear ef
 have hp1:=Qm k m t ks hks R _ L w0 _ HS.out.out hb hn hm ⟨_,rfl,HS.out.kids⟩
 clear HS
 go_enter Tryz.func46,Tryz.ntmps46
 go_wp2_with (first
  | (go_at_call 66;refine hp1.mono ?_;clear hp1;rintro e w1 ⟨rfl,H1⟩))
 exact bodyPost_end (v:=.tuple #[]) (by simp[results,Tryz.results46,go_sem]) rfl ⟨rfl,H1⟩
end Go.Proofs.YtjhiipmbbhcojaaGreatDoor
