/- Texts in one. -/
import Derived.Test.YtbglpanjpadldaaGreatDoorLexGapX
import Derived.Test.YtbglpanjpadldaaGreatDoorMz
import Derived.Lib.AtoiAllCases
import Derived.Lib.Bytealg
import Derived.Lib.Strings
import Derived.Shelf.Strings.Builder1
import Derived.Shelf.Small.Strs
import Derived.Shelf.Strconv.Atoi
import Derived.Shelf.Strconv.AtoiErrFast
import Derived.Shelf.Strconv.ParseIntEmpty
import Derived.Shelf.Strconv.AtoiFail
import Derived.Shelf.LaysM
import Derived.Shelf.Strconv.Clone
import Derived.Shelf.Strconv.SyntaxError
import Derived.Shelf.LaysC
import Derived.Shelf.Strconv.ToError
import Derived.Shelf.Strconv.Lower
import Derived.Shelf.Strconv.ParseUint10
import Derived.Shelf.Strconv.ParseUint10Empty
import Derived.Shelf.Strconv.ParseUint10Any
import Derived.Shelf.Strconv.ParseInt10
import Derived.Shelf.Strconv.AtoiLong
import Derived.Shelf.Strconv.AtoiInnerAll
import Derived.Shelf.Strconv.RangeError
import Derived.Shelf.Strconv.ToErrorRange
import Derived.Shelf.Strconv.AtoiAll
import Derived.Shelf.Strconv.ErrVarAll
import Derived.Shelf.Strings.Search1
import Derived.Shelf.Strings.Search2
import Derived.Shelf.Strings.Search3
import Derived.Shelf.Strings.Prefix
import Derived.Test.YtbglpanjpadldaaGreatDoorProg
import Derived.Lib.AtoiAllMem
import Derived.Lib.IndexBytes
set_option maxHeartbeats 4000000
set_option maxRecDepth 100000
namespace Go.Proofs.YtbglpanjpadldaaGreatDoor
def Ez(acc:Nat):List UInt8->Nat
 | []=>acc
 | c::r=>Ez (acc*10+(c.toNat-48)) r
theorem Ow:∀(l:List UInt8) (acc:Nat),acc<=Ez acc l
 | [],acc=>Z0 _
 | c::r,acc=>by
  unfold Ez
  have:=Ow r (acc*10+(c.toNat-48))
  omega
theorem MK:∀(l:List UInt8) (acc:Nat) (c:UInt8),Ez acc (l++[c])=10*Ez acc l+(c.toNat-48)
 | [],acc,c=>by show Ez (acc*10+(c.toNat-48)) []=_;unfold Ez;omega
 | d::r,acc,c=>by show Ez (acc*10+(d.toNat-48)) (r++[c])=_;rw[MK r];rfl
theorem L6:∀(l:List UInt8) (acc:Nat),acc<18446744073709551616->(∀c∈l,48<=c.toNat/\c.toNat<=57)->(Lib.parseUint10 acc l=.ok (Ez acc l)/\Ez acc l<18446744073709551616)\/(Lib.parseUint10 acc l=.range/\18446744073709551616<=Ez acc l)
 | [],acc,ha,_=>Or.inl ⟨rfl,ha⟩
 | c::r,acc,ha,h=>by
  have hc:=h c (Z7 ..)
  unfold Lib.parseUint10 Ez
  have hge:=Ow r (acc*10+(c.toNat-48))
  rw[if_pos hc]
  split
  ·exact Or.inr ⟨rfl,by omega⟩
  ·split
   ·exact Or.inr ⟨rfl,by omega⟩
   ·exact L6 r _ (by omega) fun x hx=>h x (Z8 _ hx)
theorem ML(s:List UInt8)(hd:∀c∈s,48<=c.toNat/\c.toNat<=57):∀m,m<=s.length->((Ez 0 (s.take m):Nat):Int)=CF (s.map fun x=>(x.toNat:Int)) 0 m
 | 0,_=>rfl
 | m+1,h=>by
  have ih:=ML s hd m (by omega)
  have hm:m<s.length:=by omega
  have hc:=hd _ (Z6 hm)
  rw[List.take_add_one,List.getElem?_eq_getElem hm]
  show((Ez 0 (s.take m++[s[m]]):Nat):Int)=_
  rw[MK]
  unfold CF
  have e:wd (s.map fun x=>(x.toNat:Int)) (0+m)=(s[m].toNat:Int):=by
   unfold wd
   rw[Nat.zero_add,Z2,List.getElem?_map,List.getElem?_eq_getElem hm];rfl
  rw[e,<-ih]
  omega
theorem MM{s:ByteArray}(h0:0<s.size)(hd:∀j,j<s.size->Ah (wd (A7 s) j)=true):(CF (A7 s) 0 s.size<=9223372036854775807/\Lib.atoiAll s.data.toList=.ok (CF (A7 s) 0 s.size))\/(9223372036854775807<CF (A7 s) 0 s.size/\Lib.atoiAll s.data.toList=.range):=by
 have hl:s.data.toList.length=s.size:=by rw[Array.length_toList];rfl
 have hd':∀c∈s.data.toList,48<=c.toNat/\c.toNat<=57:=fun c hc=>by
  obtain⟨j,hj,rfl⟩:=List.mem_iff_getElem.1 hc
  have:=hd j (by omega)
  unfold Ah at this
  have e:wd (A7 s) j=(s.data.toList[j].toNat:Int):=by
   unfold wd A7
   rw[Z2,List.getElem?_map,List.getElem?_eq_getElem hj];rfl
  rw[e]at this
  have:=of_decide_eq_true this
  omega
 have hv:=ML _ hd' s.data.toList.length (Z0 _)
 rw[List.take_length,hl]at hv
 have hv:((Ez 0 s.data.toList:Nat):Int)=CF (A7 s) 0 s.size:=hv
 rw[<-hv]
 cases hs:s.data.toList with
 | nil=>rw[hs]at hl;simp at hl;omega
 | cons c r=>
  have hc:=hd' c (by rw[hs];exact Z7 ..)
  rw[Lib.atoiAll_plain c r (by omega) (by omega)]
  unfold Lib.parseMag
  rw[if_neg (by simp)]
  rcases L6 (c::r) 0 (by omega) (by rw[<-hs];exact hd')with⟨h1,h2⟩ | ⟨h1,h2⟩
  ·rw[h1]
   unfold Lib.signless
   by_cases hb:9223372036854775808<=Ez 0 (c::r)
   ·right;simp only;rw[if_pos hb];exact⟨by omega,rfl⟩
   ·left;simp only;rw[if_neg hb];exact⟨by omega,rfl⟩
  ·right;rw[h1];exact⟨by omega,rfl⟩
theorem Qv(l:List UInt8)(c:UInt8):(0<=Lib.indexByte l c)↔c∈l:=by
 induction l with
 | nil=>simp[Lib.indexByte]
 | cons b l ih=>
  have hge:=Lib.indexByte_ge l c
  unfold Lib.indexByte
  by_cases hb:b=c
  ·subst hb;simp
  ·rw[if_neg (by simpa using hb)]
   by_cases h1:Lib.indexByte l c=-1
   ·rw[if_pos (by simpa using h1)]
    have:¬c∈l:=fun h=>by have:=ih.2 h;omega
    simp[this,Ne.symm hb]
   ·rw[if_neg (by simpa using h1)]
    have:c∈l:=ih.1 (by omega)
    simp[this]
    omega
end Go.Proofs.YtbglpanjpadldaaGreatDoor
namespace Go.Proofs.YtbglpanjpadldaaGreatDoor
def NR:List UInt8:=[97,98,99,100,101,102,103,104,105,106,107,108,109,110,111,112,113,114,115,116,117,118,119,120,121,122,65,66,67,68,69,70,71,72,73,74,75,76,77,78,79,80,81,82,83,84,85,86,87,88,89,90,95]
def Ox:List UInt8:=[48,49,50,51,52,53,54,55,56,57]
def Te:List UInt8:=NR++Ox
def TF:List UInt8:=[32,10,9]
def Ph:List UInt8:=[10]
def Tf:List UInt8:=[43,45,42,60,61,33,46,44,59,58,40,41,123,125]
theorem Qw{p:Nat->Bool}(h:(List.range 256).all p=true){c:Int}(hc:0<=c/\c<=255):p c.toNat=true:=
 List.all_eq_true.1 h _ (List.mem_range.2 (by omega))
theorem Gf{l:List UInt8}{p:Int->Bool}(h:((List.range 256).all fun n=>decide (n.toUInt8∈l)==p (n:Int))=true){c:Int}(hc:0<=c/\c<=255):decide (0<=Lib.indexByte l c.toNat.toUInt8)=p c:=by
 have h1:=Qw h hc
 simp only[beq_iff_eq]at h1
 rw[show((c.toNat:Nat):Int)=c by omega]at h1
 rw[<-h1]
 exact decide_eq_decide.2 (Qv _ _)
theorem JG{c:Int}(hc:0<=c/\c<=255):decide (0<=Lib.indexByte NR c.toNat.toUInt8)=Bk c:=Gf (by decide +kernel) hc
theorem MN{c:Int}(hc:0<=c/\c<=255):decide (0<=Lib.indexByte Ox c.toNat.toUInt8)=Ah c:=Gf (by decide +kernel) hc
theorem Qx{c:Int}(hc:0<=c/\c<=255):decide (0<=Lib.indexByte Te c.toNat.toUInt8)=Ba c:=Gf (by decide +kernel) hc
theorem OC{c:Int}(hc:0<=c/\c<=255):decide (0<=Lib.indexByte TF c.toNat.toUInt8)=Ay c:=Gf (by decide +kernel) hc
theorem Pi{c:Int}(hc:0<=c/\c<=255):decide (0<=Lib.indexByte Tf c.toNat.toUInt8)=CB.contains c:=Gf (p:=fun c=>CB.contains c) (by decide +kernel) hc
theorem Pj{c:Int}(hc:0<=c/\c<=255):decide (Lib.indexByte Ph c.toNat.toUInt8<0)=DI c:=by
 have h:=Gf (l:=Ph) (p:=fun c=>!DI c) (by decide +kernel) hc
 by_cases hx:0<=Lib.indexByte Ph c.toNat.toUInt8
 ·rw[decide_eq_true hx]at h
  rw[decide_eq_false (by omega)]
  cases hn:DI c with
  | false=>rfl
  | true=>rw[hn]at h;cases h
 ·rw[decide_eq_false hx]at h
  rw[decide_eq_true (by omega)]
  cases hn:DI c with
  | true=>rfl
  | false=>rw[hn]at h;cases h
end Go.Proofs.YtbglpanjpadldaaGreatDoor
namespace Go.Proofs
open Go.Shelf
def Tryz.lays137_ren:Go.Shelf.Ren:=⟨fun | 137=>44 | 217=>66 | 266=>86 | n=>n,fun | 9=>9 | 5=>5 | 3=>3 | n=>n,fun | n=>n⟩
theorem Tryz.lays137:Go.Proofs.Lays.n137 Tryz.prog Tryz.lays137_ren:={
 mixed:=by kernel_rfl
 f137:=Tryz.func44.trans (congrArg some (by kernel_rfl))
 f217:=Tryz.func66.trans (congrArg some (by kernel_rfl))
 f266:=Tryz.func86.trans (congrArg some (by kernel_rfl))
 t3:=Tryz.underlying3
 a3:=Tryz.isAgg3
 z3:=Tryz.sizeOf3
 v3:=Tryz.zeroValue3
 t5:=Tryz.underlying5
 a5:=Tryz.isAgg5
 z5:=Tryz.sizeOf5
 v5:=Tryz.zeroValue5
 t9:=Tryz.underlying9
 a9:=Tryz.isAgg9
 z9:=Tryz.sizeOf9
 v9:=Tryz.zeroValue9 }
open Go.RowKit in
theorem Tryz.strings_IndexByte(s:ByteArray)(c:Int)(w:World) :
  Calls Tryz.prog 44 #[.string s,.int .u8 c] w fun e w'=>e=.returned (.int .i64 (Lib.indexByte s.data.toList c.toNat.toUInt8))/\w'=w:=Any.strings_IndexByte Tryz.lays137 s c w
def Tryz.laysM316_ren:Go.Shelf.Ren:=⟨fun | 316=>31 | n=>n,fun | 9=>9 | 3=>3 | 4=>4 | 37=>59 | 0=>0 | 127=>83 | 5=>5 | n=>n,fun | n=>n⟩
theorem Tryz.laysM316:Go.Proofs.LaysM.n316 Tryz.prog Tryz.laysM316_ren:={
 mixed:=by kernel_rfl
 f316:=Tryz.func31.trans (congrArg some (by kernel_rfl))
 t0:=Tryz.underlying0
 a0:=Tryz.isAgg0
 z0:=Tryz.sizeOf0
 v0:=Tryz.zeroValue0
 t3:=Tryz.underlying3
 a3:=Tryz.isAgg3
 z3:=Tryz.sizeOf3
 v3:=Tryz.zeroValue3
 t4:=Tryz.underlying4
 a4:=Tryz.isAgg4
 z4:=Tryz.sizeOf4
 v4:=Tryz.zeroValue4
 t9:=Tryz.underlying9
 a9:=Tryz.isAgg9
 z9:=Tryz.sizeOf9
 v9:=Tryz.zeroValue9
 t37:=Tryz.underlying59
 a37:=Tryz.isAgg59
 z37:=Tryz.sizeOf59
 v37:=Tryz.zeroValue59
 t127:=Tryz.underlying83
 a127:=Tryz.isAgg83
 z127:=Tryz.sizeOf83
 v127:=Tryz.zeroValue83
 t5:=Tryz.underlying5
 a5:=Tryz.isAgg5
 z5:=Tryz.sizeOf5
 v5:=Tryz.zeroValue5
 i0:=by kernel_rfl
 i3:=by kernel_rfl
 i4:=by kernel_rfl
 i5:=by kernel_rfl
 i9:=by kernel_rfl
 i37:=by kernel_rfl
 i127:=by kernel_rfl }
open Go.RowKit in
theorem Tryz.stringslite_Clone(s:ByteArray)(w:World)(hlim:s.size<=281474976710656) :
  Calls Tryz.prog 31 #[.string s] w fun e w'=>e=.returned (.string s)/\Below w.heap.size w w':=Any.stringslite_Clone Tryz.laysM316 s w hlim
def Tryz.laysC172_ren:Go.Shelf.Ren:=⟨fun | 172=>48 | 244=>68 | 245=>69 | 247=>90 | 279=>91 | 280=>92 | 281=>93 | 282=>94 | 287=>108 | 316=>31 | 171=>99 | 205=>109 | 321=>118 | 322=>119 | 243=>113 | 246=>121 | 283=>126 | 284=>127 | 285=>128 | 286=>129 | 129=>133 | 317=>132 | 318=>134 | 319=>135 | 320=>136 | 337=>138 | 338=>139 | n=>n,fun | 9=>9 | 3=>3 | 75=>64 | 76=>65 | 4=>4 | 5=>5 | 167=>103 | 37=>59 | 0=>0 | 85=>104 | 2=>2 | 168=>106 | 53=>125 | 175=>126 | 46=>102 | 210=>129 | 127=>83 | 145=>139 | 143=>137 | 21=>21 | 171=>142 | 173=>145 | 212=>153 | 51=>122 | 20=>20 | 213=>154 | 232=>158 | 233=>159 | 80=>67 | n=>n,fun | 15=>1 | 16=>2 | 17=>5 | 18=>6 | 19=>7 | n=>n⟩
theorem Tryz.laysC172:Go.Proofs.LaysC.n172 Tryz.prog Tryz.laysC172_ren:={
 mixed:=by kernel_rfl
 f129:=Tryz.func133.trans (congrArg some (by kernel_rfl))
 f171:=Tryz.func99.trans (congrArg some (by kernel_rfl))
 f172:=Tryz.func48.trans (congrArg some (by kernel_rfl))
 f205:=Tryz.func109.trans (congrArg some (by kernel_rfl))
 f243:=Tryz.func113.trans (congrArg some (by kernel_rfl))
 f244:=Tryz.func68.trans (congrArg some (by kernel_rfl))
 f245:=Tryz.func69.trans (congrArg some (by kernel_rfl))
 f246:=Tryz.func121.trans (congrArg some (by kernel_rfl))
 f247:=Tryz.func90.trans (congrArg some (by kernel_rfl))
 f279:=Tryz.func91.trans (congrArg some (by kernel_rfl))
 f280:=Tryz.func92.trans (congrArg some (by kernel_rfl))
 f281:=Tryz.func93.trans (congrArg some (by kernel_rfl))
 f282:=Tryz.func94.trans (congrArg some (by kernel_rfl))
 f283:=Tryz.func126.trans (congrArg some (by kernel_rfl))
 f284:=Tryz.func127.trans (congrArg some (by kernel_rfl))
 f285:=Tryz.func128.trans (congrArg some (by kernel_rfl))
 f286:=Tryz.func129.trans (congrArg some (by kernel_rfl))
 f287:=Tryz.func108.trans (congrArg some (by kernel_rfl))
 f316:=Tryz.func31.trans (congrArg some (by kernel_rfl))
 f317:=Tryz.func132.trans (congrArg some (by kernel_rfl))
 f318:=Tryz.func134.trans (congrArg some (by kernel_rfl))
 f319:=Tryz.func135.trans (congrArg some (by kernel_rfl))
 f320:=Tryz.func136.trans (congrArg some (by kernel_rfl))
 f321:=Tryz.func118.trans (congrArg some (by kernel_rfl))
 f322:=Tryz.func119.trans (congrArg some (by kernel_rfl))
 f337:=Tryz.func138.trans (congrArg some (by kernel_rfl))
 f338:=Tryz.func139.trans (congrArg some (by kernel_rfl))
 t0:=Tryz.underlying0
 a0:=Tryz.isAgg0
 z0:=Tryz.sizeOf0
 v0:=Tryz.zeroValue0
 t2:=Tryz.underlying2
 a2:=Tryz.isAgg2
 z2:=Tryz.sizeOf2
 v2:=Tryz.zeroValue2
 t3:=Tryz.underlying3
 a3:=Tryz.isAgg3
 z3:=Tryz.sizeOf3
 v3:=Tryz.zeroValue3
 t4:=Tryz.underlying4
 a4:=Tryz.isAgg4
 z4:=Tryz.sizeOf4
 v4:=Tryz.zeroValue4
 t5:=Tryz.underlying5
 a5:=Tryz.isAgg5
 z5:=Tryz.sizeOf5
 v5:=Tryz.zeroValue5
 t9:=Tryz.underlying9
 a9:=Tryz.isAgg9
 z9:=Tryz.sizeOf9
 v9:=Tryz.zeroValue9
 t20:=Tryz.underlying20
 a20:=Tryz.isAgg20
 z20:=Tryz.sizeOf20
 v20:=Tryz.zeroValue20
 t21:=Tryz.underlying21
 a21:=Tryz.isAgg21
 z21:=Tryz.sizeOf21
 v21:=Tryz.zeroValue21
 t37:=Tryz.underlying59
 a37:=Tryz.isAgg59
 z37:=Tryz.sizeOf59
 v37:=Tryz.zeroValue59
 t46:=Tryz.underlying102
 a46:=Tryz.isAgg102
 z46:=Tryz.sizeOf102
 v46:=Tryz.zeroValue102
 t51:=Tryz.underlying122
 a51:=Tryz.isAgg122
 z51:=Tryz.sizeOf122
 v51:=Tryz.zeroValue122
 t53:=Tryz.underlying125
 a53:=Tryz.isAgg125
 z53:=Tryz.sizeOf125
 v53:=Tryz.zeroValue125
 t75:=Tryz.underlying64
 a75:=Tryz.isAgg64
 z75:=Tryz.sizeOf64
 v75:=Tryz.zeroValue64
 t76:=Tryz.underlying65
 a76:=Tryz.isAgg65
 z76:=Tryz.sizeOf65
 v76:=Tryz.zeroValue65
 t85:=Tryz.underlying104
 a85:=Tryz.isAgg104
 z85:=Tryz.sizeOf104
 v85:=Tryz.zeroValue104
 t127:=Tryz.underlying83
 a127:=Tryz.isAgg83
 z127:=Tryz.sizeOf83
 v127:=Tryz.zeroValue83
 t143:=Tryz.underlying137
 a143:=Tryz.isAgg137
 z143:=Tryz.sizeOf137
 v143:=Tryz.zeroValue137
 t145:=Tryz.underlying139
 a145:=Tryz.isAgg139
 z145:=Tryz.sizeOf139
 v145:=Tryz.zeroValue139
 t167:=Tryz.underlying103
 a167:=Tryz.isAgg103
 z167:=Tryz.sizeOf103
 v167:=Tryz.zeroValue103
 t168:=Tryz.underlying106
 a168:=Tryz.isAgg106
 z168:=Tryz.sizeOf106
 v168:=Tryz.zeroValue106
 t171:=Tryz.underlying142
 a171:=Tryz.isAgg142
 z171:=Tryz.sizeOf142
 v171:=Tryz.zeroValue142
 t173:=Tryz.underlying145
 a173:=Tryz.isAgg145
 z173:=Tryz.sizeOf145
 v173:=Tryz.zeroValue145
 t175:=Tryz.underlying126
 a175:=Tryz.isAgg126
 z175:=Tryz.sizeOf126
 v175:=Tryz.zeroValue126
 t210:=Tryz.underlying129
 a210:=Tryz.isAgg129
 z210:=Tryz.sizeOf129
 v210:=Tryz.zeroValue129
 t212:=Tryz.underlying153
 a212:=Tryz.isAgg153
 z212:=Tryz.sizeOf153
 v212:=Tryz.zeroValue153
 t213:=Tryz.underlying154
 a213:=Tryz.isAgg154
 z213:=Tryz.sizeOf154
 t232:=Tryz.underlying158
 a232:=Tryz.isAgg158
 z232:=Tryz.sizeOf158
 v232:=Tryz.zeroValue158
 t233:=Tryz.underlying159
 a233:=Tryz.isAgg159
 z233:=Tryz.sizeOf159
 v233:=Tryz.zeroValue159
 g15:=by kernel_rfl
 g16:=by kernel_rfl
 g17:=by kernel_rfl
 g18:=by kernel_rfl
 g19:=by kernel_rfl
 t80:=Tryz.underlying67
 a80:=Tryz.isAgg67
 z80:=Tryz.sizeOf67
 v80:=Tryz.zeroValue67
 i0:=by kernel_rfl
 i2:=by kernel_rfl
 i3:=by kernel_rfl
 i4:=by kernel_rfl
 i5:=by kernel_rfl
 i9:=by kernel_rfl
 i20:=by kernel_rfl
 i21:=by kernel_rfl
 i37:=by kernel_rfl
 i46:=by kernel_rfl
 i51:=by kernel_rfl
 i53:=by kernel_rfl
 i75:=by kernel_rfl
 i76:=by kernel_rfl
 i80:=by kernel_rfl
 i85:=by kernel_rfl
 i127:=by kernel_rfl
 i143:=by kernel_rfl
 i145:=by kernel_rfl
 i167:=by kernel_rfl
 i168:=by kernel_rfl
 i171:=by kernel_rfl
 i173:=by kernel_rfl
 i175:=by kernel_rfl
 i210:=by kernel_rfl
 i212:=by kernel_rfl
 i232:=by kernel_rfl
 i233:=by kernel_rfl
 m15:=by kernel_rfl
 m16:=by kernel_rfl
 m17:=by kernel_rfl
 m18:=by kernel_rfl
 m19:=by kernel_rfl
 c0:=by kernel_rfl
 c2:=by kernel_rfl
 c3:=by kernel_rfl
 c4:=by kernel_rfl
 c5:=by kernel_rfl
 c9:=by kernel_rfl
 c20:=by kernel_rfl
 c21:=by kernel_rfl
 c37:=by kernel_rfl
 c46:=by kernel_rfl
 c51:=by kernel_rfl
 c53:=by kernel_rfl
 c75:=by kernel_rfl
 c76:=by kernel_rfl
 c80:=by kernel_rfl
 c85:=by kernel_rfl
 c127:=by kernel_rfl
 c143:=by kernel_rfl
 c145:=by kernel_rfl
 c167:=by kernel_rfl
 c168:=by kernel_rfl
 c171:=by kernel_rfl
 c173:=by kernel_rfl
 c175:=by kernel_rfl
 c210:=by kernel_rfl
 c212:=by kernel_rfl
 c213:=by kernel_rfl
 c232:=by kernel_rfl
 c233:=by kernel_rfl }
open Go.RowKit in
theorem Tryz.strconv_Atoi_ok(s:ByteArray)(hmax:s.size<=9223372036854775806)(v:Int)(h:Lib.atoiAll s.data.toList=.ok v)(w:World) :
  Calls Tryz.prog 48 #[.string s] w fun e w'=>e=.returned (.tuple #[.int .i64 v,.nilIface])/\(w'=w\/∃t,w'=Lib.bytesWorld w 5 t):=Any.strconv_Atoi_ok Tryz.laysC172 s hmax v h w
open Go.RowKit in
theorem Tryz.strconv_Atoi_range(s:ByteArray)(hlim:s.size<=281474976710656)(h:Lib.atoiAll s.data.toList=.range)(ev:Value)(w:World)(hv:w.cell? ⟨2,0,none⟩=some ev)(hev:ev=.nilIface\/∃te pe,ev=.iface te pe) :
  Calls Tryz.prog 48 #[.string s] w fun e w'=>∃N,e=.returned (.tuple #[.int .i64 (Lib.atoiSat s.data.toList),.iface 106 (.pointer (some ⟨N,0,none⟩))])/\w.heap.size<=N/\w'.heap[N]?=some (.cells #[.string ⟨#[65,116,111,105]⟩,.string s,ev] 129 (0,0))/\Below w.heap.size w w':=Any.strconv_Atoi_range Tryz.laysC172 s hlim h ev w hv hev
def Tryz.lays144_ren:Go.Shelf.Ren:=⟨fun | 144=>28 | 143=>47 | 219=>67 | 217=>66 | 225=>87 | 224=>88 | 267=>89 | 266=>86 | 314=>107 | n=>n,fun | 9=>9 | 4=>4 | 3=>3 | 5=>5 | 46=>102 | 146=>123 | 51=>122 | n=>n,fun | 1=>0 | n=>n⟩
theorem Tryz.lays144:Go.Proofs.Lays.n144 Tryz.prog Tryz.lays144_ren:={
 mixed:=by kernel_rfl
 f143:=Tryz.func47.trans (congrArg some (by kernel_rfl))
 f144:=Tryz.func28.trans (congrArg some (by kernel_rfl))
 f217:=Tryz.func66.trans (congrArg some (by kernel_rfl))
 f219:=Tryz.func67.trans (congrArg some (by kernel_rfl))
 f224:=Tryz.func88.trans (congrArg some (by kernel_rfl))
 f225:=Tryz.func87.trans (congrArg some (by kernel_rfl))
 f266:=Tryz.func86.trans (congrArg some (by kernel_rfl))
 f267:=Tryz.func89.trans (congrArg some (by kernel_rfl))
 f314:=Tryz.func107.trans (congrArg some (by kernel_rfl))
 t3:=Tryz.underlying3
 a3:=Tryz.isAgg3
 z3:=Tryz.sizeOf3
 v3:=Tryz.zeroValue3
 t4:=Tryz.underlying4
 a4:=Tryz.isAgg4
 z4:=Tryz.sizeOf4
 v4:=Tryz.zeroValue4
 t5:=Tryz.underlying5
 a5:=Tryz.isAgg5
 z5:=Tryz.sizeOf5
 v5:=Tryz.zeroValue5
 t9:=Tryz.underlying9
 a9:=Tryz.isAgg9
 z9:=Tryz.sizeOf9
 v9:=Tryz.zeroValue9
 t46:=Tryz.underlying102
 a46:=Tryz.isAgg102
 z46:=Tryz.sizeOf102
 v46:=Tryz.zeroValue102
 t51:=Tryz.underlying122
 a51:=Tryz.isAgg122
 z51:=Tryz.sizeOf122
 v51:=Tryz.zeroValue122
 t146:=Tryz.underlying123
 a146:=Tryz.isAgg123
 z146:=Tryz.sizeOf123
 v146:=Tryz.zeroValue123
 g1:=by kernel_rfl }
open Go.RowKit Go.Lib in
theorem Tryz.strings_Contains_one(s:ByteArray)(c:UInt8)(w:World) :
  Calls Tryz.prog 28 #[.string s,.string ⟨#[c]⟩] w fun e w'=>e=.returned (.bool (decide (0<=Lib.indexByte s.data.toList c)))/\w'=w:=Any.strings_Contains_one Tryz.lays144 s c w
def Tryz.lays99_ren:Go.Shelf.Ren:=⟨fun | 99=>25 | 206=>45 | n=>n,fun | 9=>9 | 4=>4 | 3=>3 | n=>n,fun | n=>n⟩
theorem Tryz.lays99:Go.Proofs.Lays.n99 Tryz.prog Tryz.lays99_ren:={
 mixed:=by kernel_rfl
 f99:=Tryz.func25.trans (congrArg some (by kernel_rfl))
 f206:=Tryz.func45.trans (congrArg some (by kernel_rfl))
 t3:=Tryz.underlying3
 a3:=Tryz.isAgg3
 z3:=Tryz.sizeOf3
 v3:=Tryz.zeroValue3
 t4:=Tryz.underlying4
 a4:=Tryz.isAgg4
 z4:=Tryz.sizeOf4
 v4:=Tryz.zeroValue4
 t9:=Tryz.underlying9
 a9:=Tryz.isAgg9
 z9:=Tryz.sizeOf9
 v9:=Tryz.zeroValue9 }
open Go.RowKit Go.Lib in
theorem Tryz.strings_HasPrefix(s p:ByteArray)(w:World) :
  Calls Tryz.prog 25 #[.string s,.string p] w fun e w'=>e=.returned (.bool (Lib.hasPrefix s.data.toList p.data.toList))/\w'=w:=Any.strings_HasPrefix Tryz.lays99 s p w
end Go.Proofs
namespace Go.Proofs.YtbglpanjpadldaaGreatDoor
open Go.RowKit
structure JH(K:Nat)(cs:Array Value)(p:Int->Bool)(I:World->Prop):Prop where
 enters:∀(args:Array Value) (w:World),Sem.run Tryz.prog (callFunc K args) w=.ok (.enter K args) w
 lasts:∀w w',I w->Below w.heap.size w w'->I w'
 says:∀c w,I w->0<=c/\c<=255->Calls Tryz.prog K (#[.int .u8 c]++cs) w fun e w'=>e=.returned (.bool (p c))/\Below w.heap.size w w'
def HoldsT(b:Nat)(t:ByteArray)(w:World):Prop:=b<w.heap.size/\w.cell? ⟨b,0,none⟩=some (.string t)
theorem HoldsT.lasts{b:Nat}{t:ByteArray}(w w':World)(h:HoldsT b t w)(hb:Below w.heap.size w w'):HoldsT b t w':=
 ⟨by have:=hb.size;have:=h.1;omega,by rw[hb.cell (p:=⟨b,0,none⟩) h.1];exact h.2⟩
theorem Pk(all:ByteArray)(c:Int)(b:Nat)(w:World)(hc:w.cell? ⟨b,0,none⟩=some (.string all)) :
  Calls Tryz.prog 43 #[.int .u8 c,.pointer (some ⟨b,0,none⟩)] w fun e w'=>e=.returned (.bool (decide (0<=Lib.indexByte all.data.toList c.toNat.toUInt8)))/\w'=w:=by
 go_enter Tryz.func43,Tryz.ntmps43
 go_wp2_with (go_at_call 44;refine(Tryz.strings_IndexByte _ _ _).mono ?_;rintro e w' ⟨rfl,rfl⟩)
 go_ret
 exact⟨by simp,rfl⟩
theorem OD(all:ByteArray)(c:Int)(b:Nat)(w:World)(hc:w.cell? ⟨b,0,none⟩=some (.string all)) :
  Calls Tryz.prog 46 #[.int .u8 c,.pointer (some ⟨b,0,none⟩)] w fun e w'=>e=.returned (.bool (decide (Lib.indexByte all.data.toList c.toNat.toUInt8<0)))/\w'=w:=by
 go_enter Tryz.func46,Tryz.ntmps46
 go_wp2_with (go_at_call 44;refine(Tryz.strings_IndexByte _ _ _).mono ?_;rintro e w' ⟨rfl,rfl⟩)
 go_ret
 exact⟨by simp,rfl⟩
theorem IX{all:ByteArray}{p:Int->Bool}(b:Nat)(h:∀ {c:Int},0<=c/\c<=255->decide (0<=Lib.indexByte all.data.toList c.toNat.toUInt8)=p c):JH 43 #[.pointer (some ⟨b,0,none⟩)] p (HoldsT b all):=
 ⟨fun _ _=>by kernel_rfl,HoldsT.lasts,fun c w hI hc=>(Pk all c b w hI.2).mono fun e w' ⟨h1,h2⟩=>⟨by rw[h1,h hc],by rw[h2];exact Zg _ _⟩⟩
theorem Qy{all:ByteArray}{p:Int->Bool}(b:Nat)(h:∀ {c:Int},0<=c/\c<=255->decide (Lib.indexByte all.data.toList c.toNat.toUInt8<0)=p c):JH 46 #[.pointer (some ⟨b,0,none⟩)] p (HoldsT b all):=
 ⟨fun _ _=>by kernel_rfl,HoldsT.lasts,fun c w hI hc=>(OD all c b w hI.2).mono fun e w' ⟨h1,h2⟩=>⟨by rw[h1,h hc],by rw[h2];exact Zg _ _⟩⟩
theorem FT(all:ByteArray)(w:World) :
  Calls Tryz.prog 24 #[.string all] w fun e w'=>e=.returned (.func (.func 43) #[] #[.pointer (some ⟨w.heap.size,0,none⟩)])/\HoldsT w.heap.size all w'/\Below w.heap.size w w':=by
 go_enter Tryz.func24,Tryz.ntmps24
 go_wp2
 go_ret
 exact⟨rfl,⟨by simp,by simp⟩,(Zg _ _).alloc (Z0 _) _⟩
theorem Pl(all:ByteArray)(w:World) :
  Calls Tryz.prog 26 #[.string all] w fun e w'=>e=.returned (.func (.func 46) #[] #[.pointer (some ⟨w.heap.size,0,none⟩)])/\HoldsT w.heap.size all w'/\Below w.heap.size w w':=by
 go_enter Tryz.func26,Tryz.ntmps26
 go_wp2
 go_ret
 exact⟨rfl,⟨by simp,by simp⟩,(Zg _ _).alloc (Z0 _) _⟩
theorem G2(K:Nat)(cs:Array Value)(p:Int->Bool)(I:World->Prop)(A:JH K cs p I)(t:ByteArray)(i:Nat)(w:World)(hI:I w)(hi:i<=t.size)(hl:t.size<=4000) :
  Calls Tryz.prog 23 #[.string t,.int .i64 i,.func (.func K) #[] cs] w fun e w'=>e=.returned (.int .i64 (AO p (A7 t) i:Nat))/\Below w.heap.size w w':=by
 have HL:Hid ((A7 t).length=t.size):=Ag t
 have hent:=A.enters
 have HU:Hid (Upto p (A7 t) i i):=PT (by rw[Ag];exact hi)
 go_enter Tryz.func23,Tryz.ntmps23
 go_wp2
 go_loopw [1] (fun s1 wr=>∃(k:Nat),s1=.int .i64 k/\k<=t.size/\Hid (Upto p (A7 t) i k)/\Below w.heap.size w wr) (fun s1 _=>t.size-(intOf s1).toNat)
 case atStart=>exact⟨i,rfl,hi,HU,Zg _ _⟩
 case round=>
  clear HU
  obtain⟨k,rfl,hk,HU,hB⟩:=hrel
  have hIr:=A.lasts _ _ hI hB
  by_cases hlt:k<t.size
  ·have hil:(k:Int)<(t.size:Int):=by omega
   have hcc:=JQ hlt
   have hby:=JP (GB t) k
   have hw1:=C4 (x:=(k:Int)+1) (by omega) (by omega)
   have HX:Hid (p (wd (A7 t) k)=true->Upto p (A7 t) i (k+1)):=fun h=>HU.out.step (by rw[HL.out];exact hlt) h
   have HY:Hid (p (wd (A7 t) k)=false->AO p (A7 t) i=k):=fun h=>HU.out.stop (Or.inr h)
   generalize wd (A7 t) k=x at *
   cases hp:p x with
   | true=>
    have HZ:Hid (Upto p (A7 t) i (k+1)):=HX.out hp
    have hs:=A.says x _ hIr hby
    rw[hp]at hs
    clear HX HY hp
    go_wp2_with (first | (refine hs.mono ?_;rintro e w2 ⟨rfl,hb2⟩))
    have hBn:Below w.heap.size w w2:=hB.trans (hb2.mono hB.size)
    go_roundw
    case rel=>exact⟨k+1,by first | rfl | simp,by omega,HZ,hBn⟩
    case measure=>simp[intOf];omega
   | false=>
    have HZ:Hid (AO p (A7 t) i=k):=HY.out hp
    have hs:=A.says x _ hIr hby
    rw[hp]at hs
    clear HX HY hp
    go_wp2_with (first | (refine hs.mono ?_;rintro e w2 ⟨rfl,hb2⟩))
    go_ret
    exact⟨by rw[HZ.out];rfl,hB.trans (hb2.mono hB.size)⟩
  ·have HZ:Hid (AO p (A7 t) i=k):=HU.out.stop (Or.inl (by rw[HL.out];exact hlt))
   have e:k=t.size:=by omega
   subst e
   go_wp2_with fail
   go_ret
   exact⟨by rw[HZ.out];rfl,hB⟩
open Go.RowKit
def Errs(w:World):Prop:=2<w.heap.size/\∃te pe,w.cell? ⟨2,0,none⟩=some (.iface te pe)
theorem Errs.lasts{w w':World}(h:Errs w)(hb:Below w.heap.size w w'):Errs w':=by
 obtain⟨h1,te,pe,h2⟩:=h
 exact⟨by have:=hb.size;omega,te,pe,by rw[hb.cell (p:=⟨2,0,none⟩) h1];exact h2⟩
def TG(V:Int)(w:World)(e:Ending)(w':World):Prop:=
 Below w.heap.size w w'/\((V<=9223372036854775807/\e=.returned (.tuple #[.int .i64 V,.nilIface]))\/(9223372036854775807<V/\∃N,e=.returned (.tuple #[.int .i64 9223372036854775807,.iface 106 (.pointer (some ⟨N,0,none⟩))])))
theorem SL(s:ByteArray)(h0:0<s.size)(hs:s.size<=4000)(hd:∀j,j<s.size->Ah (wd (A7 s) j)=true)(w:World)(he:Errs w) :
  Calls Tryz.prog 48 #[.string s] w fun e w'=>TG (CF (A7 s) 0 s.size) w e w':=by
 rcases MM h0 hd with⟨h1,h2⟩ | ⟨h1,h2⟩
 ·refine(Tryz.strconv_Atoi_ok s (by omega) _ h2 w).mono ?_
  rintro e w' ⟨rfl,hw⟩
  refine⟨?_,Or.inl ⟨h1,rfl⟩⟩
  rcases hw with rfl | ⟨t,rfl⟩
  ·exact Zg _ _
  ·exact Lib.bytesWorld_below _ _ _
 ·obtain⟨_,te,pe,hc⟩:=he
  refine(Tryz.strconv_Atoi_range s (by omega) h2 _ w hc (Or.inr ⟨te,pe,rfl⟩)).mono ?_
  rintro e w' ⟨N,rfl,_,_,hb⟩
  refine⟨hb,Or.inr ⟨h1,N,?_⟩⟩
  have:Lib.atoiSat s.data.toList=9223372036854775807:=by
   cases hs':s.data.toList with
   | nil=>
    have:s.data.toList.length=s.size:=by rw[Array.length_toList];rfl
    rw[hs']at this;simp at this;omega
   | cons c r=>
    refine Lib.atoiSat_other c r ?_
    have h3:=hd 0 h0
    have e:wd (A7 s) 0=(c.toNat:Int):=by unfold A7;rw[hs'];rfl
    rw[e]at h3
    unfold Ah at h3
    have:=of_decide_eq_true h3
    omega
  rw[this]
theorem SM(b:Nat):JH 43 #[.pointer (some ⟨b,0,none⟩)] Bk (HoldsT b ⟨#[97,98,99,100,101,102,103,104,105,106,107,108,109,110,111,112,113,114,115,116,117,118,119,120,121,122,65,66,67,68,69,70,71,72,73,74,75,76,77,78,79,80,81,82,83,84,85,86,87,88,89,90,95]⟩):=IX b fun hc=>JG hc
theorem OE(s u:ByteArray)(h0:0<s.size)(hs:s.size<=4000)(hu:u.size<=4000)(hd:∀j,j<s.size->Ah (wd (A7 s) j)=true)(w:World)(he:Errs w)(r:Int)(HR:Hid (r=if(decide (1073741823<CF (A7 s) 0 s.size)||(decide (1<s.size)&&wd (A7 s) 0==48)||decide (0<AO Bk (A7 u) 0))=true then 2 else 0)) :
  Calls Tryz.prog 30 #[.string s,.string u] w fun e w'=>e=.returned (.int .i64 r)/\Below w.heap.size w w':=by
 have hA:=SL s h0 hs hd w he
 have hi0:(0:Int)<(s.size:Int):=by omega
 have hcc:=JQ h0
 have hby:=JP (GB s) 0
 have hn:AO Bk (A7 u) 0<=u.size:=by rw[<-Ag];exact Fp (Z3 _)
 generalize wd (A7 s) 0=x at *
 have hV:Hid (0<=CF (A7 s) 0 s.size):=KA _ fun j hj=>by rw[Nat.zero_add];exact hd j hj
 generalize CF (A7 s) 0 s.size=V at *
 have hP:∀(b:Nat) (w:World),HoldsT b ⟨#[97,98,99,100,101,102,103,104,105,106,107,108,109,110,111,112,113,114,115,116,117,118,119,120,121,122,65,66,67,68,69,70,71,72,73,74,75,76,77,78,79,80,81,82,83,84,85,86,87,88,89,90,95]⟩ w->Calls Tryz.prog 23 #[.string u,.int .i64 0,.func (.func 43) #[] #[.pointer (some ⟨b,0,none⟩)]] w fun e w'=>e=.returned (.int .i64 (AO Bk (A7 u) 0:Nat))/\Below w.heap.size w w':=
  fun b w hH=>G2 _ _ Bk _ (SM b) u 0 w hH (Z3 _) hu
 generalize AO Bk (A7 u) 0=n at *
 have H2:Hid ((1073741823<V\/(1<s.size/\x=48)\/0<n)->r=2):=fun h=>by
  rw[HR.out,if_pos]
  simp only[Bool.or_eq_true,Bool.and_eq_true,decide_eq_true_eq,beq_iff_eq]
  omega
 have H0:Hid (¬(1073741823<V\/(1<s.size/\x=48)\/0<n)->r=0):=fun h=>by
  rw[HR.out,if_neg]
  simp only[Bool.or_eq_true,Bool.and_eq_true,decide_eq_true_eq,beq_iff_eq]
  omega
 clear hd HR
 by_cases hV1:V<=9223372036854775807
 ·have hA1:Calls Tryz.prog 48 #[.string s] w fun e w'=>e=.returned (.tuple #[.int .i64 V,.nilIface])/\Below w.heap.size w w':=hA.mono fun e w' ⟨hb,hE⟩=>by
   rcases hE with⟨_,h⟩ | ⟨h,_⟩
   ·exact⟨h,hb⟩
   ·omega
  clear hA
  have hv0:=hV.out
  go_enter Tryz.func30,Tryz.ntmps30
  go_wp2_with (first | (go_at_call 48;refine hA1.mono ?_;rintro e w1 ⟨rfl,hb1⟩) | (go_at_call 24;refine(FT _ _).mono ?_;rintro e w2 ⟨rfl,hH,hb2⟩) | (go_at_call 23;refine(hP _ _ hH).mono ?_;rintro e w3 ⟨rfl,hb3⟩))
  all_goals
   go_ret
   refine⟨?_,hb1.trans ((hb2.trans (hb3.mono hb2.size)).mono hb1.size)⟩
   try simp only[beq_iff_eq,beq_eq_false_iff_ne,ne_eq]at *
   first
    | (rw[H2.out (by omega)];rfl)
    | (rw[H0.out (by omega)];rfl)
 ·have hA1:Calls Tryz.prog 48 #[.string s] w fun e w'=>∃N,e=.returned (.tuple #[.int .i64 9223372036854775807,.iface 106 (.pointer (some ⟨N,0,none⟩))])/\Below w.heap.size w w':=hA.mono fun e w' ⟨hb,hE⟩=>by
   rcases hE with⟨h,_⟩ | ⟨_,N,h⟩
   ·omega
   ·exact⟨N,h,hb⟩
  clear hA
  go_enter Tryz.func30,Tryz.ntmps30
  go_wp2_with (first | (go_at_call 48;refine hA1.mono ?_;rintro e w1 ⟨N,rfl,hb1⟩) | (go_at_call 24;refine(FT _ _).mono ?_;rintro e w2 ⟨rfl,hH,hb2⟩) | (go_at_call 23;refine(hP _ _ hH).mono ?_;rintro e w3 ⟨rfl,hb3⟩))
  all_goals
   go_ret
   refine⟨?_,hb1.trans ((hb2.trans (hb3.mono hb2.size)).mono hb1.size)⟩
   first
    | (rw[H2.out (by omega)];rfl)
    | (rw[H0.out (by omega)];rfl)
open Go.RowKit
theorem LF(b:Nat):JH 43 #[.pointer (some ⟨b,0,none⟩)] Ay (HoldsT b ⟨#[32,10,9]⟩):=IX b fun hc=>OC hc
theorem RF(b:Nat):JH 46 #[.pointer (some ⟨b,0,none⟩)] DI (HoldsT b ⟨#[10]⟩):=Qy b fun hc=>Pj hc
theorem Hi{t:ByteArray}{i:Nat}(h:i<t.size):t.data.toList.drop i=t[i]::t.data.toList.drop (i+1):=by
 rw[Z4 (by rw[Array.length_toList];exact h)]
 rfl
theorem Lk{t:ByteArray}{i:Nat}(h:i<t.size)(c:UInt8):(c==t[i])=(wd (A7 t) i==(c.toNat:Int)):=by
 rw[<-JQ h]
 by_cases e:c=t[i]
 ·rw[e];simp
 ·have:¬((t[i].toNat:Int)=(c.toNat:Int)):=fun x=>e (UInt8.toNat_inj.1 (by omega))
  rw[beq_eq_false_iff_ne.2 e,beq_eq_false_iff_ne.2 this]
theorem TJ(t:ByteArray)(i:Nat)(c:UInt8):Lib.hasPrefix (t.extract i t.size).data.toList [c]=(decide (i<t.size)&&(wd (A7 t) i==(c.toNat:Int))):=by
 rw[Lib.extract_to_end]
 unfold Lib.hasPrefix
 by_cases h:i<t.size
 ·rw[Hi h,decide_eq_true h,Bool.true_and,<-Lk h c]
  simp[List.isPrefixOf]
 ·rw[decide_eq_false h,List.drop_of_length_le (by rw[Array.length_toList];exact Nat.le_of_not_lt h)]
  rfl
theorem TK(t:ByteArray)(i:Nat)(c:UInt8):Lib.hasPrefix (t.extract i t.size).data.toList [c,c]=decide (i+1<t.size/\wd (A7 t) i=(c.toNat:Int)/\wd (A7 t) (i+1)=(c.toNat:Int)):=by
 rw[Lib.extract_to_end]
 unfold Lib.hasPrefix
 by_cases h:i<t.size
 ·rw[Hi h]
  by_cases h1:i+1<t.size
  ·rw[Hi h1]
   simp only[List.isPrefixOf,Lk h c,Lk h1 c,Bool.and_true]
   rw[Bool.eq_iff_iff]
   simp[h1]
  ·rw[List.drop_of_length_le (by rw[Array.length_toList];exact Nat.le_of_not_lt h1)]
   simp[List.isPrefixOf,h1]
 ·rw[List.drop_of_length_le (by rw[Array.length_toList];exact Nat.le_of_not_lt h)]
  have:¬(i+1<t.size):=by omega
  simp[List.isPrefixOf,this]
theorem LG(t:ByteArray)(i:Nat)(c:UInt8)(b:Bool)(h:(decide (i<t.size)&&(wd (A7 t) i==(c.toNat:Int)))=b)(w:World) :
  Calls Tryz.prog 25 #[.string (t.extract i t.size),.string ⟨#[c]⟩] w fun e w'=>e=.returned (.bool b)/\w'=w:=by
 subst h
 rw[<-TJ t i c]
 exact Tryz.strings_HasPrefix _ _ _
theorem Pw(t:ByteArray)(i:Nat)(c:UInt8)(b:Bool)(h:decide (i+1<t.size/\wd (A7 t) i=(c.toNat:Int)/\wd (A7 t) (i+1)=(c.toNat:Int))=b)(w:World) :
  Calls Tryz.prog 25 #[.string (t.extract i t.size),.string ⟨#[c,c]⟩] w fun e w'=>e=.returned (.bool b)/\w'=w:=by
 subst h
 rw[<-TK t i c]
 exact Tryz.strings_HasPrefix _ _ _
def Tk(T:List Int)(i:Nat)(e:Ending):Prop:=∃k:Nat,e=.returned (.int .i64 k)/\Gap T i k/\LZ T k
theorem K9(t:ByteArray)(i:Nat)(w:World)(hi:i<=t.size)(hl:t.size<=4000) :
  Calls Tryz.prog 12 #[.string t,.int .i64 i] w fun e w'=>Tk (A7 t) i e/\Below w.heap.size w w':=by
 have HL:Hid ((A7 t).length=t.size):=Ag t
 have HG:Hid (Gap (A7 t) i (AO Ay (A7 t) i)):=Ku (by rw[Ag];exact hi)
 have HN:Hid (AO Ay (A7 t) i<(A7 t).length->Ay (wd (A7 t) (AO Ay (A7 t) i))=false):=fun h=>IJ _ i (Z0 _) h
 have hk0:AO Ay (A7 t) i<=t.size:=by have:=HG.out.2.1;rw[HL.out]at this;exact this
 go_enter Tryz.func12,Tryz.ntmps12
 go_wp2_with (first | (go_at_call 24;refine(FT _ _).mono ?_;rintro e w1 ⟨rfl,hH,hb1⟩) | (go_at_call 23;refine(G2 _ _ Ay _ (LF _) t i _ hH hi hl).mono ?_;rintro e w2 ⟨rfl,hb2⟩))
 have hB2:Below w.heap.size w w2:=hb1.trans (hb2.mono hb1.size)
 clear hH hb1 hb2
 generalize AO Ay (A7 t) i=k0 at *
 go_loopw [1] (fun s1 wr=>∃(k:Nat),s1=.int .i64 k/\k<=t.size/\Hid (Gap (A7 t) i k)/\Hid (k<(A7 t).length->Ay (wd (A7 t) k)=false)/\Below w.heap.size w wr) (fun s1 _=>t.size-(intOf s1).toNat)
 case atStart=>exact⟨k0,rfl,hk0,HG,HN,hB2⟩
 case round=>
  clear HG HN hB2 hk0
  obtain⟨k,rfl,hk,HG,HN,hB⟩:=hrel
  have hik:(k:Int)<=(t.size:Int):=by omega
  by_cases h35:k<t.size/\wd (A7 t) k=35
  ·have hp:∀w,Calls Tryz.prog 25 #[.string (t.extract k t.size),.string ⟨#[35]⟩] w fun e w'=>e=.returned (.bool true)/\w'=w:=
    LG t k 35 true (by rw[h35.2,decide_eq_true h35.1];rfl)
   have HX:Hid (Gap (A7 t) i (AO Ay (A7 t) (AO DI (A7 t) k))):=(HG.out.trans (Rw (by rw[HL.out];exact h35.1) h35.2)).trans (Ku (Fp (by rw[HL.out];exact hk)))
   have hk1:AO DI (A7 t) k<=t.size:=by rw[<-HL.out];exact Fp (by rw[HL.out];exact hk)
   have hk2:AO Ay (A7 t) (AO DI (A7 t) k)<=t.size:=by have:=HX.out.2.1;rw[HL.out]at this;exact this
   have hkm:k<AO Ay (A7 t) (AO DI (A7 t) k):=Z5 (QX (by rw[HL.out];exact h35.1) h35.2) (Ei _ _ _)
   have HY:Hid (AO Ay (A7 t) (AO DI (A7 t) k)<(A7 t).length->Ay (wd (A7 t) (AO Ay (A7 t) (AO DI (A7 t) k)))=false):=fun h=>IJ _ _ (Z0 _) h
   have hlt:=h35.1
   clear h35 HG HN
   go_wp2_with (first | (go_at_call 25;refine(hp _).mono ?_;rintro e w' ⟨rfl,hw⟩;rw[hw];clear hw w') | (go_at_call 26;refine(Pl _ _).mono ?_;rintro e w1 ⟨rfl,hH,hb1⟩) | (go_at_call 23;refine(G2 _ _ DI _ (RF _) t k _ hH hk hl).mono ?_;rintro e w2 ⟨rfl,hb2⟩))
   have hB2:Below w.heap.size w w2:=hB.trans ((hb1.trans (hb2.mono hb1.size)).mono hB.size)
   clear hH hb1 hb2
   go_wp2_with (first | (go_at_call 24;refine(FT _ _).mono ?_;rintro e w3 ⟨rfl,hH,hb3⟩) | (go_at_call 23;refine(G2 _ _ Ay _ (LF _) t _ _ hH hk1 hl).mono ?_;rintro e w4 ⟨rfl,hb4⟩))
   have hB4:Below w.heap.size w w4:=hB2.trans ((hb3.trans (hb4.mono hb3.size)).mono hB2.size)
   generalize AO Ay (A7 t) (AO DI (A7 t) k)=k2 at *
   go_roundw
   case rel=>exact⟨k2,rfl,hk2,HX,HY,hB4⟩
   case measure=>simp[intOf];omega
  ·have hp:∀w,Calls Tryz.prog 25 #[.string (t.extract k t.size),.string ⟨#[35]⟩] w fun e w'=>e=.returned (.bool false)/\w'=w:=by
    refine LG t k 35 false ?_
    by_cases hx:k<t.size
    ·have:¬wd (A7 t) k=35:=fun e=>h35 ⟨hx,e⟩
     rw[decide_eq_true hx,Bool.true_and]
     exact beq_eq_false_iff_ne.2 this
    ·rw[decide_eq_false hx];rfl
   have HZ:Hid (LZ (A7 t) k):=fun h=>⟨HN.out h,fun e=>h35 ⟨by rw[<-HL.out];exact h,e⟩⟩
   clear h35 HN
   go_wp2_with (first | (go_at_call 25;refine(hp _).mono ?_;rintro e w' ⟨rfl,hw⟩;rw[hw];clear hw w'))
   go_ret
   exact⟨⟨k,rfl,HG.out,HZ.out⟩,hB⟩
open Go.RowKit
def Na:List (List UInt8):=[[99,108,97,115,115],[116,111],[115,108,111,116],[109,97,105,110],[118,97,114],[105,102],[101,108,115,101],[119,104,105,108,101],[114,101,116,117,114,110],[112,114,105,110,116],[102,111,114,107],[119,97,105,116],[115,105,103,110,97,108],[115,119,97,112],[110,101,119],[103,97,116,101],[110,105,108],[115,101,108,102]]
theorem RG:Io=Na.map fun u=>u.map fun x=>(x.toNat:Int):=by decide
theorem toNat_inj:∀ {u v:List UInt8},(u.map fun x=>(x.toNat:Int))=(v.map fun x=>(x.toNat:Int))->u=v
 | [],[],_=>rfl
 | a::u,b::v,h=>by
  simp only[List.map_cons,List.cons.injEq]at h
  rw[toNat_inj h.2,UInt8.toNat_inj.1 (show a.toNat=b.toNat by omega)]
theorem Tl(s:ByteArray):DJ (A7 s)=Na.any fun u=>s.toList==u:=by
 rw[Bool.eq_iff_iff,List.any_eq_true]
 unfold DJ
 rw[List.contains_iff_mem,RG,List.mem_map]
 constructor
 ·rintro⟨u,hu,e⟩
  refine⟨u,hu,?_⟩
  rw[ByteArray.toList_eq,beq_iff_eq]
  exact(toNat_inj e).symm
 ·rintro⟨u,hu,e⟩
  rw[ByteArray.toList_eq,beq_iff_eq]at e
  exact⟨u,hu,by rw[<-e];rfl⟩
theorem Nb(s:ByteArray)(k:Int)(w:World)(HK:Hid (k=if DJ (A7 s)=true then 3 else 1)) :
  Calls Tryz.prog 29 #[.string s] w fun e w'=>e=.returned (.int .i64 k)/\w'=w:=by
 go_enter Tryz.func29,Tryz.ntmps29
 go_wp2
 all_goals first
  | (exfalso;simp_all;done)
  | (go_ret;refine⟨?_,rfl⟩;rw[HK.out,Tl];simp[Na, *];done)
end Go.Proofs.YtbglpanjpadldaaGreatDoor
