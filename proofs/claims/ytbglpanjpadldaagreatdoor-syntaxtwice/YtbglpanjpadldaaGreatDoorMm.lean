/- Texts in one. -/
import Derived.Test.YtbglpanjpadldaaGreatDoorMl
import Derived.Deep.RegionHeld3
import Derived.BigQuiet
set_option maxHeartbeats 4000000
namespace Go.Proofs.YtbglpanjpadldaaGreatDoor
open Go.RowKit
theorem SY{t:ByteArray}{i:Nat}(h:i<t.size):t.extract i (i+1)=⟨#[(wd (A7 t) i).toNat.toUInt8]⟩:=by
 have e:(t.extract i (i+1)).data.toList=[t[i]]:=by
  rw[Lib.extract_data,Hi h,Nat.add_sub_cancel_left]
  rfl
 rw[<-JQ h,Int.toNat_natCast]
 have e2:t[i].toNat.toUInt8=t[i]:=by simp
 rw[e2]
 cases hx:t.extract i (i+1)with
 | mk d=>
  rw[hx]at e
  have:d=#[t[i]]:=by
   apply Array.ext'
   exact e
  rw[this]
theorem OS(all t:ByteArray)(i:Nat)(h:i<t.size)(b:Bool)(hb:decide (0<=Lib.indexByte all.data.toList (wd (A7 t) i).toNat.toUInt8)=b)(w:World) :
  Calls Tryz.prog 28 #[.string all,.string (t.extract i (i+1))] w fun e w'=>e=.returned (.bool b)/\w'=w:=by
 rw[SY h,<-hb]
 exact Tryz.strings_Contains_one _ _ _
theorem LH(all t:ByteArray)(i b1 b2:Nat)(h:i<t.size)(hl:t.size<=4000)(b:Bool)(hb:decide (0<=Lib.indexByte all.data.toList (wd (A7 t) i).toNat.toUInt8)=b)(w:World)(h1:w.cell? ⟨b1,0,none⟩=some (.string t))(h2:w.cell? ⟨b2,0,none⟩=some (.int .i64 i)) :
  Calls Tryz.prog 27 #[.string all,.pointer (some ⟨b1,0,none⟩),.pointer (some ⟨b2,0,none⟩)] w fun e w'=>e=.returned (.bool b)/\w'=w:=by
 have hc:=OS all t i h b hb
 have hi:(i:Int)+1<=(t.size:Int):=by omega
 have hw1:=C4 (x:=(i:Int)+1) (by omega) (by omega)
 have ht:((i:Int)+1).toNat=i+1:=by omega
 clear hb
 go_enter Tryz.func27,Tryz.ntmps27
 go_wp2_with (go_at_call 28;refine(hc _).mono ?_;rintro e w' ⟨rfl,rfl⟩)
 go_ret
 exact⟨rfl,rfl⟩
theorem SZ(b:Nat):JH 43 #[.pointer (some ⟨b,0,none⟩)] Ba (HoldsT b ⟨#[97,98,99,100,101,102,103,104,105,106,107,108,109,110,111,112,113,114,115,116,117,118,119,120,121,122,65,66,67,68,69,70,71,72,73,74,75,76,77,78,79,80,81,82,83,84,85,86,87,88,89,90,95,48,49,50,51,52,53,54,55,56,57]⟩):=IX b fun hc=>Qx hc
theorem Sa(b:Nat):JH 43 #[.pointer (some ⟨b,0,none⟩)] Ah (HoldsT b ⟨#[48,49,50,51,52,53,54,55,56,57]⟩):=IX b fun hc=>MN hc
structure PieceW(w0:World)(B i:Nat)(t:ByteArray)(w:World):Prop where
 text:w.cell? ⟨B,0,none⟩=some (.string t)
 place:w.cell? ⟨B+1,0,none⟩=some (.int .i64 i)
 size:B+1<w.heap.size
 below:Below B w0 w
theorem PieceW.next{w0:World}{B i:Nat}{t:ByteArray}{w w':World}(h:PieceW w0 B i t w)(hb:Below w.heap.size w w'):PieceW w0 B i t w':=by
 have hs:=h.size
 exact⟨by rw[hb.cell (p:=⟨B,0,none⟩) (by dsimp only;omega)];exact h.text,by rw[hb.cell (p:=⟨B+1,0,none⟩) hs];exact h.place,by have:=hb.size;omega,h.below.trans (hb.mono (by omega))⟩
theorem PieceW.drew{w0:World}{B i:Nat}{t:ByteArray}{w:World}(h:PieceW w0 B i t w):PieceW w0 B i t w.drew:=h.next (Zg _ _).drew
theorem Px(t:ByteArray)(i:Nat)(h:i<t.size)(hl:t.size<=4000)(w:World)(hb:Bk (wd (A7 t) i)=true)(k:Nat)(HK:Hid (k=AO Ba (A7 t) i))(kd:Int)(HD:Hid (kd=if DJ (Am (A7 t) i k)=true then 3 else 1)) :
  Calls Tryz.prog 13 #[.string t,.int .i64 i] w fun e w'=>e=.returned (.tuple #[.int .i64 kd,.int .i64 k,.int .i64 0])/\Below w.heap.size w w':=by
 have hby:=JP (GB t) i
 have hik:i<=k:=by rw[HK.out];exact Ei _ _ _
 have hkl:k<=t.size:=by rw[HK.out,<-Ag];exact Fp (by rw[Ag];omega)
 have hB:∀b1 b2 w,w.cell? ⟨b1,0,none⟩=some (.string t)->w.cell? ⟨b2,0,none⟩=some (.int .i64 i)->Calls Tryz.prog 27 #[.string ⟨#[97,98,99,100,101,102,103,104,105,106,107,108,109,110,111,112,113,114,115,116,117,118,119,120,121,122,65,66,67,68,69,70,71,72,73,74,75,76,77,78,79,80,81,82,83,84,85,86,87,88,89,90,95]⟩,.pointer (some ⟨b1,0,none⟩),.pointer (some ⟨b2,0,none⟩)] w fun e w'=>e=.returned (.bool true)/\w'=w:=
  fun b1 b2 w h1 h2=>LH _ t i b1 b2 h hl true ((JG hby).trans hb) w h1 h2
 have hP:∀(b:Nat) (w:World),HoldsT b ⟨#[97,98,99,100,101,102,103,104,105,106,107,108,109,110,111,112,113,114,115,116,117,118,119,120,121,122,65,66,67,68,69,70,71,72,73,74,75,76,77,78,79,80,81,82,83,84,85,86,87,88,89,90,95,48,49,50,51,52,53,54,55,56,57]⟩ w->Calls Tryz.prog 23 #[.string t,.int .i64 i,.func (.func 43) #[] #[.pointer (some ⟨b,0,none⟩)]] w fun e w'=>e=.returned (.int .i64 k)/\Below w.heap.size w w':=
  fun b w hH=>by rw[HK.out];exact G2 _ _ Ba _ (SZ b) t i w hH (by omega) hl
 have hN:∀w,Calls Tryz.prog 29 #[.string (t.extract i k)] w fun e w'=>e=.returned (.int .i64 kd)/\w'=w:=fun w=>Nb _ kd w (by rw[D3];exact HD)
 clear hb HK HD
 go_enter Tryz.func13,Tryz.ntmps13
 go_wp2_with (first | (go_at_call 27;refine(hB _ _ _ (by simp) (by simp)).mono ?_;rintro e w' ⟨rfl,hw⟩;rw[hw];clear hw w'))
 obtain⟨w0,e0⟩:∃w0,w0=(w.alloc (.cells #[.string t] 9)).alloc (.cells #[.int .i64 i] 3):=⟨_,rfl⟩
 have hp:PieceW w w.heap.size i t w0:=by
  rw[e0]
  exact⟨by simp,by simp,by simp,((Zg _ _).alloc (Z0 _) _).alloc (by simp) _⟩
 rw[<-e0]
 clear e0
 have c1:=hp.text
 have c2:=hp.place
 go_region_held3 (fun w'=>w'.cell? ⟨w.heap.size,0,none⟩=some (.string t)/\w'.cell? ⟨w.heap.size+1,0,none⟩=some (.int .i64 i)) (go_keep)
  (first
   | (go_at_call 24;refine(FT _ _).mono ?_;rintro e w2 ⟨rfl,hH,hb2⟩;have hp2:=hp.drew.next hb2;have c3:=hp2.text;have c4:=hp2.place)
   | (go_at_call 23;refine(hP _ _ hH).mono ?_;rintro e w3 ⟨rfl,hb3⟩;have hp3:=hp2.next hb3;have c5:=hp3.text;have c6:=hp3.place))
 go_wp2_with (first | (go_at_call 29;refine(hN _).mono ?_;rintro e w' ⟨rfl,hw⟩;rw[hw];clear hw w'))
 exact bodyPost_ret (v:=.tuple #[.int .i64 kd,.int .i64 k,.int .i64 0]) (by simp[results,Tryz.results13,go_sem]) rfl ⟨rfl,hp3.below⟩
theorem LI(t:ByteArray)(i:Nat)(h:i<t.size)(hl:t.size<=4000):∃F:ByteArray->Bool,(∀all b1 b2 w,w.cell? ⟨b1,0,none⟩=some (.string t)->w.cell? ⟨b2,0,none⟩=some (.int .i64 i)->Calls Tryz.prog 27 #[.string all,.pointer (some ⟨b1,0,none⟩),.pointer (some ⟨b2,0,none⟩)] w fun e w'=>e=.returned (.bool (F all))/\w'=w) /\
  F ⟨#[97,98,99,100,101,102,103,104,105,106,107,108,109,110,111,112,113,114,115,116,117,118,119,120,121,122,65,66,67,68,69,70,71,72,73,74,75,76,77,78,79,80,81,82,83,84,85,86,87,88,89,90,95]⟩=Bk (wd (A7 t) i)/\F ⟨#[48,49,50,51,52,53,54,55,56,57]⟩=Ah (wd (A7 t) i)/\F ⟨#[43,45,42,60,61,33,46,44,59,58,40,41,123,125]⟩=CB.contains (wd (A7 t) i):=
 have hby:=JP (GB t) i
 ⟨fun all=>decide (0<=Lib.indexByte all.data.toList (wd (A7 t) i).toNat.toUInt8),fun all b1 b2 w h1 h2=>LH all t i b1 b2 h hl _ rfl w h1 h2,JG hby,MN hby,Pi hby⟩
theorem MT(t:ByteArray)(i:Nat)(h:i<t.size)(hl:t.size<=4000)(w:World)(he:Errs w)(hb:Ah (wd (A7 t) i)=true)(k:Nat)(HK:Hid (k=AO Ah (A7 t) i))(r:Int)(HR:Hid (r=if EK (A7 t) i k=true then 2 else 0)) :
  Calls Tryz.prog 13 #[.string t,.int .i64 i] w fun e w'=>e=.returned (.tuple #[.int .i64 2,.int .i64 k,.int .i64 r])/\Below w.heap.size w w':=by
 have hik:i<k/\k<=t.size:=by rw[HK.out,<-Ag];exact Db (by rw[Ag];exact h) hb
 obtain⟨F,hB,hF1,hF2,_⟩:=LI t i h hl
 rw[Hm hb]at hF1
 rw[hb]at hF2
 have hP:∀(b:Nat) (w:World),HoldsT b ⟨#[48,49,50,51,52,53,54,55,56,57]⟩ w->Calls Tryz.prog 23 #[.string t,.int .i64 i,.func (.func 43) #[] #[.pointer (some ⟨b,0,none⟩)]] w fun e w'=>e=.returned (.int .i64 k)/\Below w.heap.size w w':=
  fun b w hH=>by rw[HK.out];exact G2 _ _ Ah _ (Sa b) t i w hH (by omega) hl
 have hD:∀w,Errs w->Calls Tryz.prog 30 #[.string (t.extract i k),.string (t.extract k t.size)] w fun e w'=>e=.returned (.int .i64 r)/\Below w.heap.size w w':=fun w he=>by
  have hz:(t.extract i k).size=k-i:=by rw[<-Ag,D3,Bz (by rw[Ag];omega)]
  have hz2:(t.extract k t.size).size=t.size-k:=by rw[<-Ag,D3,Bz (by rw[Ag];omega)]
  refine OE _ _ (by omega) (by omega) (by omega) ?_ w he r ?_
  ·intro j hj
   rw[D3,DO (by omega)]
   have hu:=M4 Ah (T:=A7 t) (i:=i) (by rw[Ag];omega)
   rw[<-HK.out]at hu
   exact hu.2.2 _ (by omega) (by omega)
  ·show r=_
   rw[HR.out]
   unfold EK
   rw[hz,D3,D3,Kv _ (Z0 _),DO (by omega),Nat.add_zero,<-Ag t,QY (by rw[Ag];omega)]
 have hk1:(i:Int)<=(k:Int):=by omega
 have hk2:(k:Int)<=(t.size:Int):=by omega
 clear hb HK HR
 go_enter Tryz.func13,Tryz.ntmps13
 go_wp2_with (first | (go_at_call 27;refine(hB _ _ _ _ (by simp) (by simp)).mono ?_;rintro e w' ⟨rfl,hw⟩;rw[hw];clear hw w'))
 obtain⟨w0,e0⟩:∃w0,w0=(w.alloc (.cells #[.string t] 9)).alloc (.cells #[.int .i64 i] 3):=⟨_,rfl⟩
 have hp:PieceW w w.heap.size i t w0:=by
  rw[e0]
  exact⟨by simp,by simp,by simp,((Zg _ _).alloc (Z0 _) _).alloc (by simp) _⟩
 rw[<-e0]
 have he0:Errs w0:=by rw[e0];exact he.lasts (((Zg _ _).alloc (Z0 _) _).alloc (by simp) _)
 clear e0 he
 have c1:=hp.text
 have c2:=hp.place
 go_region_held3 (fun w'=>w'.cell? ⟨w.heap.size,0,none⟩=some (.string t)/\w'.cell? ⟨w.heap.size+1,0,none⟩=some (.int .i64 i)) (go_keep)
  (first
   | (go_at_call 24;refine(FT _ _).mono ?_;rintro e w2 ⟨rfl,hH,hb2⟩;have hp2:=hp.drew.next hb2;have c3:=hp2.text;have c4:=hp2.place;have he2:=(he0.lasts (Zg _ _).drew).lasts hb2)
   | (go_at_call 23;refine(hP _ _ hH).mono ?_;rintro e w3 ⟨rfl,hb3⟩;have hp3:=hp2.next hb3;have c5:=hp3.text;have c6:=hp3.place;have he3:=he2.lasts hb3))
 go_wp2_with fail
 clear hp hp2 hH hb2 hb3 he0 he2 c1 c2 c3 c4
 go_region_held3 (fun w'=>w'.cell? ⟨w.heap.size,0,none⟩=some (.string t)/\w'.cell? ⟨w.heap.size+1,0,none⟩=some (.int .i64 i)) (go_keep)
  (first
   | (go_at_call 30;refine(hD _ (he3.lasts (Zg _ _).drew)).mono ?_;rintro e w4 ⟨rfl,hb4⟩;have hp4:=hp3.drew.next hb4;have c7:=hp4.text;have c8:=hp4.place))
 go_wp2_with fail
 exact bodyPost_ret (v:=.tuple #[.int .i64 2,.int .i64 k,.int .i64 r]) (by simp[results,Tryz.results13,go_sem]) rfl ⟨rfl,hp4.below⟩
theorem Hp(w:World)(x y:Obj):Below w.heap.size w ((w.alloc x).alloc y):=((Zg _ _).alloc (Z0 _) _).alloc (by simp) _
theorem LJ(t:ByteArray)(i:Nat)(h:i<t.size)(hl:t.size<=4000)(w:World)(h1:Bk (wd (A7 t) i)=false)(h2:Ah (wd (A7 t) i)=false)(a k r:Int)(HR:Hid ((a,k,r)=if Br (A7 t) i=0 then(0,0,11)else(4,(i+Br (A7 t) i:Int),0))) :
  Calls Tryz.prog 13 #[.string t,.int .i64 i] w fun e w'=>e=.returned (.tuple #[.int .i64 a,.int .i64 k,.int .i64 r])/\Below w.heap.size w w':=by
 obtain⟨F,hB,hF1,hF2,hF3⟩:=LI t i h hl
 rw[h1]at hF1
 rw[h2]at hF2
 have hT:=Pw t i 61
 have hii:(i:Int)<=(t.size:Int):=by omega
 have hw1:=C4 (x:=(i:Int)+1) (by omega) (by omega)
 have hw2:=C4 (x:=(i:Int)+2) (by omega) (by omega)
 unfold Br at HR
 rw[Ag]at HR
 by_cases hs:i+1<t.size/\wd (A7 t) i=61/\wd (A7 t) (i+1)=61
 ·have hT1:=hT true (decide_eq_true hs)
  rw[if_pos hs,if_neg (by decide)]at HR
  have HR':=HR.out
  simp only[Prod.mk.injEq]at HR'
  obtain⟨rfl,rfl,rfl⟩:=HR'
  clear hT hs HR hF3 h1 h2
  go_enter Tryz.func13,Tryz.ntmps13
  go_wp2_with (first | (go_at_call 27;refine(hB _ _ _ _ (by simp) (by simp)).mono ?_;rintro e w' ⟨rfl,hw⟩;rw[hw];clear hw w') | (go_at_call 25;refine(hT1 _).mono ?_;rintro e w' ⟨rfl,hw⟩;rw[hw];clear hw w'))
  go_region
  go_wp2_with fail
  exact bodyPost_ret (v:=.tuple #[.int .i64 4,.int .i64 ((i:Int)+2),.int .i64 0]) (by simp[results,Tryz.results13,go_sem]) rfl ⟨rfl,(Hp _ _ _).drew⟩
 ·have hT1:=hT false (decide_eq_false hs)
  rw[if_neg hs]at HR
  cases hc:CB.contains (wd (A7 t) i)with
  | true=>
   rw[hc]at hF3 HR
   rw[if_pos rfl,if_neg (by decide)]at HR
   have HR':=HR.out
   simp only[Prod.mk.injEq]at HR'
   obtain⟨rfl,rfl,rfl⟩:=HR'
   clear hT hs HR hc h1 h2
   go_enter Tryz.func13,Tryz.ntmps13
   go_wp2_with (first | (go_at_call 27;refine(hB _ _ _ _ (by simp) (by simp)).mono ?_;rintro e w' ⟨rfl,hw⟩;rw[hw];clear hw w') | (go_at_call 25;refine(hT1 _).mono ?_;rintro e w' ⟨rfl,hw⟩;rw[hw];clear hw w'))
   go_region
   go_wp2_with fail
   exact bodyPost_ret (v:=.tuple #[.int .i64 4,.int .i64 ((i:Int)+1),.int .i64 0]) (by simp[results,Tryz.results13,go_sem]) rfl ⟨rfl,(Hp _ _ _).drew⟩
  | false=>
   rw[hc]at hF3 HR
   rw[if_neg (c:=false=true) (by decide),if_pos rfl]at HR
   have HR':=HR.out
   simp only[Prod.mk.injEq]at HR'
   obtain⟨rfl,rfl,rfl⟩:=HR'
   clear hT hs HR hc h1 h2
   go_enter Tryz.func13,Tryz.ntmps13
   go_wp2_with (first | (go_at_call 27;refine(hB _ _ _ _ (by simp) (by simp)).mono ?_;rintro e w' ⟨rfl,hw⟩;rw[hw];clear hw w') | (go_at_call 25;refine(hT1 _).mono ?_;rintro e w' ⟨rfl,hw⟩;rw[hw];clear hw w'))
   exact bodyPost_ret (v:=.tuple #[.int .i64 0,.int .i64 0,.int .i64 11]) (by simp[results,Tryz.results13,go_sem]) rfl ⟨rfl,Hp _ _ _⟩
def Ka(T:List Int)(i:Nat)(e:Ending):Prop:=match Av T i with
 | .skip _=>True
 | .tok x k=>e=.returned (.tuple #[.int .i64 x.1,.int .i64 (k:Int),.int .i64 0])
 | .bad c _=>∃a k,e=.returned (.tuple #[.int .i64 a,.int .i64 k,.int .i64 c])
theorem RH(t:ByteArray)(i:Nat)(h:i<t.size)(hl:t.size<=4000)(w:World)(he:Errs w)(hb:LZ (A7 t) i) :
  Calls Tryz.prog 13 #[.string t,.int .i64 i] w fun e w'=>Ka (A7 t) i e/\Below w.heap.size w w':=by
 obtain⟨h0,h35⟩:=hb (by rw[Ag];exact h)
 unfold Ka
 cases h1:Bk (wd (A7 t) i)with
 | true=>
  rw[Ip h0 h35 h1]
  exact Px t i h hl w h1 _ rfl _ rfl
 | false=>
  cases h2:Ah (wd (A7 t) i)with
  | true=>
   cases h3:EK (A7 t) i (AO Ah (A7 t) i)with
   | true=>
    rw[RS h0 h35 h2 h3]
    exact(MT t i h hl w he h2 _ rfl 2 (show _=_ by rw[h3];rfl)).mono fun e w' ⟨h4,h5⟩=>⟨⟨_,_,h4⟩,h5⟩
   | false=>
    rw[KC h0 h35 h2 h3]
    exact MT t i h hl w he h2 _ rfl 0 (show _=_ by rw[h3];rfl)
  | false=>
   by_cases h3:Br (A7 t) i=0
   ·rw[Q5 h0 h35 h1 h2 h3]
    exact(LJ t i h hl w h1 h2 0 0 11 (show _=_ by rw[if_pos h3])).mono fun e w' ⟨h4,h5⟩=>⟨⟨_,_,h4⟩,h5⟩
   ·rw[Iq h0 h35 h1 h2 h3]
    exact LJ t i h hl w h1 h2 4 _ 0 (show _=_ by rw[if_neg h3];simp)
theorem TL:(Tryz.prog.info? 48).map (fun i=>(i.zero,i.size,i.bytes))=some (some (.agg #[.int .i64 0,.string ⟨#[]⟩,.int .i64 0]),3,32):=by kernel_rfl
theorem U8:KU 34 48 3 32:=by
 obtain⟨i,hi,h0,h1,h2⟩:=info_parts TL
 exact⟨by kernel_rfl,⟨i,_,hi,h0,h1,h2,by rfl⟩,by decide,by decide⟩
theorem Sb{T:List Int}{i k:Nat}{x:Tok}(h:Av T i=.tok x k):x=(x.1,Am T i k,i):=by
 unfold Av at h
 split at h
 ·cases h
 split at h
 ·cases h
 split at h
 ·simp only[Come8.tok.injEq]at h
  obtain⟨rfl,rfl⟩:=h
  rfl
 split at h
 ·split at h
  ·cases h
  ·simp only[Come8.tok.injEq]at h
   obtain⟨rfl,rfl⟩:=h
   rfl
 split at h
 ·cases h
 ·simp only[Come8.tok.injEq]at h
  obtain⟨rfl,rfl⟩:=h
  rfl
theorem RI{T:List Int}{i a:Nat}{c:Int}(h:Av T i=.bad c a):c=2\/c=11:=by
 unfold Av at h
 split at h
 ·cases h
 split at h
 ·cases h
 split at h
 ·cases h
 split at h
 ·split at h
  ·simp only[Come8.bad.injEq]at h
   exact Or.inl h.1.symm
  ·cases h
 split at h
 ·simp only[Come8.bad.injEq]at h
  exact Or.inr h.1.symm
 ·cases h
theorem RJ{T:List Int}{i k:Nat}(h:Av T i=.skip k)(hb:LZ T i)(hi:i<T.length):False:=by
 obtain⟨h0,h35⟩:=hb hi
 unfold Av at h
 rw[if_neg (by rw[h0];decide),if_neg h35]at h
 split at h
 ·cases h
 split at h
 ·split at h<;>cases h
 split at h<;>cases h
def G3(T:List Int)(B:Nat)(e:Ending)(w':World):Prop:=match C9 T with
 | .ok l=>∃v,e=.returned (.tuple #[v,.agg #[.int .i64 0,.int .i64 0]])/\w'.ownsRow B 48 3 v l.length (Dn l)
 | .error (c,a)=>e=.returned (.tuple #[.slice none 0 0,.agg #[.int .i64 c,.int .i64 a]])
theorem Py(s:ByteArray)(hs:s.size<=4000)(w:World) :
  Calls Tryz.prog 14 #[.string s] w fun e w'=>e=.returned (.string s)/\Below w.heap.size w w':=by
 go_enter Tryz.func14,Tryz.ntmps14
 go_wp2_with (go_at_call 31;refine(Tryz.stringslite_Clone s _ (by omega)).mono ?_;rintro e w' ⟨rfl,hb⟩)
 go_ret
 exact⟨rfl,hb⟩
theorem Kb{w w':World}{B:Nat}{e:TypeId}{size n:Nat}{v:Value}{xs:List Value}(h:w.ownsRow B e size v n xs)(hb:Below w.heap.size w w'):w'.ownsRow B e size v n xs:=by
 obtain⟨h1,h2⟩:=h
 refine⟨h1,?_⟩
 rcases h2 with h2 | ⟨g,cap',cur,hv,hg,hh,r⟩
 ·exact Or.inl h2
 ·have hlt:g<w.heap.size:=by
   by_cases hx:g<w.heap.size
   ·exact hx
   ·rw[Array.getElem?_eq_none (by omega)]at hh;cases hh
  exact Or.inr ⟨g,cap',cur,hv,hg,by rw[hb.block g hlt];exact hh,r⟩
theorem P4{w:World}{B:Nat}{e:TypeId}{size n:Nat}{v:Value}{xs:List Value}(h:w.ownsRow B e size v n xs){p:Addr}(hp:p.block<B)(u:Value):(w.setCell p u).ownsRow B e size v n xs:=by
 obtain⟨h1,h2⟩:=h
 refine⟨h1,?_⟩
 rcases h2 with h2 | ⟨g,cap',cur,hv,hg,hh,r⟩
 ·exact Or.inl h2
 ·exact Or.inr ⟨g,cap',cur,hv,hg,by rw[Zm _ _ _ _ (by omega)];exact hh,r⟩
theorem RK{w:World}{B B':Nat}{e:TypeId}{size n:Nat}{v:Value}{xs:List Value}(hB:B'<=B)(h:w.ownsRow B e size v n xs):w.ownsRow B' e size v n xs:=by
 obtain⟨h1,h2⟩:=h
 refine⟨h1,?_⟩
 rcases h2 with h2 | ⟨g,cap',cur,hv,hg,r⟩
 ·exact Or.inl h2
 ·exact Or.inr ⟨g,cap',cur,hv,Za hB hg,r⟩
theorem RL(w:World)(kd:Int)(t:ByteArray)(i k:Nat)(ty:TypeId):∀j u,(Gs (kd,Am (A7 t) i k,i))[j]?=some u->(w.alloc (.cells #[.int .i64 kd,.string (t.extract i k),.int .i64 i] ty)).cell? ((⟨w.heap.size,0,none⟩:Addr).add j)=some u:=by
 intro j u h
 rw[Nx]
 rw[H7]
 match j,h with
 | 0,h=>simpa [Gs] using h
 | 1,h=>simpa [Gs] using h
 | 2,h=>simpa [Gs] using h
 | j+3,h=>simp[Gs]at h
theorem RM(t:ByteArray)(w:World)(he:Errs w)(hm:t.size<=maxLen) :
  Calls Tryz.prog 7 #[.string t] w fun e w'=>G3 (A7 t) w.heap.size e w'/\Below w.heap.size w w':=by
 unfold maxLen at hm
 by_cases hl:t.size<=4000
 ·have hsp:C9 (A7 t)=B2 (A7 t) 0:=by unfold C9;rw[Ag,if_neg (by omega)]
  have HP:Hid (C9 (A7 t)=B2 (A7 t) 0):=hsp
  clear hsp
  have HL:Hid ((A7 t).length=t.size):=Ag t
  have hl':(t.size:Int)<=4000:=by omega
  go_enter Tryz.func7,Tryz.ntmps7
  go_wp2_with (first | (go_at_call 12;refine(K9 t 0 _ (Z3 _) hl).mono ?_;rintro e w1 ⟨⟨k0,rfl,hg0,hbare0⟩,hb1⟩))
  obtain⟨w0,e0⟩:∃w0,w0=w.alloc (.cells #[.int .i64 0,.int .i64 0] 27):=⟨_,rfl⟩
  have hz0:Hid (w0.heap.size=w.heap.size+1):=by show _=_;rw[e0];simp
  have hB0:Below w.heap.size w w0:=by rw[e0];exact(Zg _ _).alloc (Z0 _) _
  have d0:w0.cell? ⟨w.heap.size,0,none⟩=some (.int .i64 0):=by rw[e0];simp
  have d1:w0.cell? ⟨w.heap.size,1,none⟩=some (.int .i64 0):=by rw[e0];simp
  have f0:w0.frozen? ⟨w.heap.size,0,none⟩=false:=by rw[e0];simp
  have f1:w0.frozen? ⟨w.heap.size,1,none⟩=false:=by rw[e0];simp
  rw[<-e0]at hb1
  clear e0
  have hb1':Below (w.heap.size+1) w0 w1:=by rw[<-hz0.out];exact hb1
  have hlt0:w.heap.size<w0.heap.size:=by rw[hz0.out];omega
  have HS0:Hid (Sofar (A7 t) [] k0):=(Nl _).gap hg0
  have HB0:Hid (LZ (A7 t) k0):=hbare0
  have hk0:k0<=t.size:=by have:=hg0.2.1;rw[HL.out]at this;exact this
  have HO0:Hid (w1.ownsRow (w.heap.size+1) 48 3 (.slice none 0 0) ([]:List Tok).length (Dn [])):=Zl _ _ _ _
  clear hb1 hg0 hbare0
  go_loopw [4,5] (fun s4 s5 wr=>∃(i:Nat) (acc:List Tok),s5=.int .i64 i/\i<=t.size/\Hid (Sofar (A7 t) acc i)/\Hid (LZ (A7 t) i)/\acc.length<=i/\Hid (wr.ownsRow (w.heap.size+1) 48 3 s4 acc.length (Dn acc))/\Below (w.heap.size+1) w0 wr) (fun _ s5 _=>t.size-(intOf s5).toNat)
  case atStart=>exact⟨k0,[],rfl,hk0,HS0,HB0,Z3 _,HO0,hb1'⟩
  case round=>
   clear HS0 HB0 hk0 HO0 hb1'
   obtain⟨i,acc,rfl,hi,HS,HBr,hac,HO,hB⟩:=hrel
   have hzr:=hB.size
   have hlr:w.heap.size<wr.heap.size:=by omega
   have heR:Errs wr:=(he.lasts hB0).lasts (by have:=hB;rw[<-hz0.out]at this;exact this)
   have g0:=(hB.cell (p:=⟨w.heap.size,0,none⟩) (by simp)).trans d0
   have g1:=(hB.cell (p:=⟨w.heap.size,1,none⟩) (by simp)).trans d1
   have q0:=(hB.frozen (p:=⟨w.heap.size,0,none⟩) (by simp)).trans f0
   have q1:=(hB.frozen (p:=⟨w.heap.size,1,none⟩) (by simp)).trans f1
   have hBw:Below w.heap.size w wr:=hB0.trans (hB.mono (by omega))
   by_cases hlt:i<t.size
   ·have hil:(i:Int)<(t.size:Int):=by omega
    have hpc:=RH t i hlt hl wr heR HBr.out
    unfold Ka at hpc
    cases hc:Av (A7 t) i with
    | skip k=>exact(RJ hc HBr.out (by rw[HL.out];exact hlt)).elim
    | bad c a=>
     rw[hc]at hpc
     simp only at hpc
     have hcn:¬c=0:=by rcases RI hc with rfl | rfl<;>decide
     have HE:Hid (B2 (A7 t) 0=.error (c,(i:Int))):=HS.out.bad (by rw[HL.out];exact hlt) hc
     clear hc HS HBr HO
     go_wp2_with (first | (go_at_call 13;refine hpc.mono ?_;rintro e w2 ⟨⟨a',k',rfl⟩,hb2⟩;have r0:=(hb2.cell (p:=⟨w.heap.size,0,none⟩) hlr).trans g0;have r1:=(hb2.cell (p:=⟨w.heap.size,1,none⟩) hlr).trans g1;have s0:=(hb2.frozen (p:=⟨w.heap.size,0,none⟩) hlr).trans q0;have s1:=(hb2.frozen (p:=⟨w.heap.size,1,none⟩) hlr).trans q1))
     refine bodyPost_ret (v:=.tuple #[.slice none 0 0,.agg #[.int .i64 c,.int .i64 i]]) (by simp[results,Tryz.results7,go_sem,r0,r1]) rfl ⟨?_,?_⟩
     ·unfold G3
      rw[HP.out,HE.out]
     ·have hend:=hBw.trans (hb2.mono hBw.size)
      repeat (first | refine Below.setCell ?_ (by dsimp only;omega) _ | exact hend)
    | tok x k=>
     rw[hc]at hpc
     simp only at hpc
     have hx:=Sb hc
     obtain⟨kd,px,ix⟩:=x
     simp only[Prod.mk.injEq,true_and]at hx
     obtain⟨rfl,rfl⟩:=hx
     have hf:=EV (T:=A7 t) (i:=ix) (by rw[HL.out];exact hlt)
     rw[hc]at hf
     have hk1:ix<k:=hf.1
     have hk2:k<=t.size:=by have:=hf.2;rw[HL.out]at this;exact this
     have hi1:(ix:Int)<=(k:Int):=by omega
     have hi2:(k:Int)<=(t.size:Int):=by omega
     have hzx:(t.extract ix k).size<=4000:=by rw[<-Ag,D3,Bz (by rw[Ag];exact hk2)];omega
     have HS2:Hid (Sofar (A7 t) (acc++[(kd,Am (A7 t) ix k,ix)]) k):=HS.out.tok (by rw[HL.out];exact hlt) hc
     clear hc HS HBr hf
     go_wp2_with (first
      | (go_at_call 13;refine hpc.mono ?_;rintro e w2 ⟨rfl,hb2⟩;have O2:Hid (w2.ownsRow (w.heap.size+1) 48 3 u4 acc.length (Dn acc)):=Kb HO.out hb2;have hB2:Below (w.heap.size+1) w0 w2:=hB.trans (hb2.mono (by omega));have hz2:w.heap.size+1<=w2.heap.size:=(by have:=hb2.size;omega))
      | (go_at_call 14;refine(Py (t.extract ix k) hzx _).mono ?_;rintro e w3 ⟨rfl,hb3⟩;have O3:Hid (w3.ownsRow (w.heap.size+1) 48 3 u4 acc.length (Dn acc)):=Kb O2.out hb3;have hB3:Below (w.heap.size+1) w0 w3:=hB2.trans (hb3.mono hz2);have hz3:w.heap.size+1<=w3.heap.size:=(by have:=hb3.size;omega))
      | (at_builtin;refine Ci U8 rfl (.tmp 31) (.tmp 40) rfl (w.heap.size+1) acc.length 1 u4 (Dn acc) (Gs (kd,Am (A7 t) ix k,ix)) rfl (O3.out.alloc _) ⟨w3.heap.size,0,none⟩ rfl rfl (RL _ _ _ _ _ _) (S8 _) (by omega) (by simp;omega) ?_;intro g cap' w4 O4 hg4 hor4)
      | (go_at_call 12;refine(K9 t k _ hk2 hl).mono ?_;rintro e w5 ⟨⟨m,rfl,hgap,hbare⟩,hb5⟩))
     have hm1:k<=m:=hgap.1
     have hm2:m<=t.size:=by have:=hgap.2.1;rw[HL.out]at this;exact this
     have hB4:Below (w.heap.size+1) w0 w4:=(hB3.alloc hz3 _).grown hg4 (by simp;omega) (fun j hj=>(O3.out.lt j hj).1)
     have hz4:w.heap.size+1<=w4.heap.size:=by have:=hg4.size;simp at this;omega
     have O5:w5.ownsRow (w.heap.size+1) 48 3 (sl g (acc.length+1) cap') (acc++[(kd,Am (A7 t) ix k,ix)]).length (Dn (acc++[(kd,Am (A7 t) ix k,ix)])):=by
      rw[PY,Z1]
      exact Kb O4 hb5
     exact⟨⟨m,acc++[(kd,Am (A7 t) ix k,ix)],rfl,hm2,HS2.out.gap hgap,hbare,by simp;omega,O5,hB4.trans (hb5.mono hz4)⟩,by simp[intOf];omega⟩
   ·have HE:Hid (B2 (A7 t) 0=.ok acc):=HS.out.done (by rw[HL.out];exact hlt)
    have e:i=t.size:=by omega
    subst e
    go_wp2_with fail
    refine bodyPost_ret (v:=.tuple #[u4,.agg #[.int .i64 0,.int .i64 0]]) (by simp[results,Tryz.results7,go_sem,g0,g1]) rfl ⟨?_,?_⟩
    ·unfold G3
     rw[HP.out,HE.out]
     refine⟨u4,rfl,?_⟩
     have O:=RK (Nat.le_succ _) (P4 (P4 HO.out (p:=⟨w.heap.size,0,none⟩) (by simp) (.int .i64 0)) (p:=⟨w.heap.size,1,none⟩) (by simp) (.int .i64 0))
     exact O
    ·repeat (first | refine Below.setCell ?_ (by dsimp only;omega) _ | exact hBw)
 ·have hs:C9 (A7 t)=.error (1,0):=by unfold C9;rw[Ag,if_pos (by omega)]
  have HA:Hid (∀B e w',e=.returned (.tuple #[.slice none 0 0,.agg #[.int .i64 1,.int .i64 0]])->G3 (A7 t) B e w'):=fun B e w' h=>by unfold G3;rw[hs];exact h
  have hl':(4000:Int)<(t.size:Int):=by omega
  clear hs
  go_enter Tryz.func7,Tryz.ntmps7
  go_wp2
  refine bodyPost_ret (v:=.tuple #[.slice none 0 0,.agg #[.int .i64 1,.int .i64 0]]) (by simp[results,Tryz.results7,go_sem]) rfl ⟨HA.out _ _ _ rfl,?_⟩
  repeat (first | refine Below.setCell ?_ (by dsimp only;omega) _ | exact(Zg _ _).alloc (Z0 _) _)
end Go.Proofs.YtbglpanjpadldaaGreatDoor
