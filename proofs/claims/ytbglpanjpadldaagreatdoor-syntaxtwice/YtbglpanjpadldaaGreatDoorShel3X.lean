/- Texts in one. -/
import Derived.Shelf.Strings.Builder1
import Derived.Shelf.Strings.Builder2
import Derived.Shelf.Strings.OnBuilder
import Derived.Shelf.Strings.Trim
import Derived.Shelf.Small.Strs
import Derived.Shelf.Strings.BuilderF
import Derived.Shelf.Strings.BuilderK
import Derived.Shelf.Strconv.Atoi
import Derived.Shelf.Strconv.Itoa0
import Derived.Shelf.Strconv.Itoa1
import Derived.Shelf.LaysM
import Derived.Shelf.Strconv.AtoiErrFast
import Derived.Shelf.Strconv.ParseIntEmpty
import Derived.Shelf.Strconv.AtoiFail
import Derived.Shelf.Strconv.Clone
import Derived.Shelf.Strconv.SyntaxError
import Derived.Shelf.LaysC
import Derived.Shelf.Strconv.ToError
import Derived.Shelf.Strconv.Lower
import Derived.Shelf.Strconv.ParseUint10
import Derived.Shelf.Strconv.ParseUint10Empty
import Derived.Shelf.Strconv.ParseUint10Any
import Derived.Shelf.Strconv.ParseInt10
import Derived.Shelf.Strconv.AtoiLong
import Derived.Shelf.Strconv.AtoiInnerAll
import Derived.Shelf.Strconv.RangeError
import Derived.Shelf.Strconv.ToErrorRange
import Derived.Shelf.Strconv.AtoiAll
import Derived.Shelf.Strconv.ErrVarAll
import Derived.Shelf.Strings.Search1
import Derived.Shelf.Strings.Search2
import Derived.Shelf.Strings.Search3
import Derived.Shelf.Strings.Prefix
import Derived.Shelf.Strings.Runes
import Derived.Shelf.Strings.AsciiSet
import Derived.Test.YtbglpanjpadldaaGreatDoorProg
namespace Go.Proofs
open Go.Shelf
def Tryz.lays160_ren:Go.Shelf.Ren:=⟨fun | 160=>85 | 232=>101 | 231=>100 | 227=>102 | 234=>104 | 233=>103 | 236=>106 | 235=>105 | 228=>114 | 271=>117 | 151=>116 | 197=>115 | 120=>124 | 152=>123 | 260=>122 | 137=>44 | 119=>130 | 224=>88 | 225=>87 | 217=>66 | 266=>86 | n=>n,fun | 9=>9 | 4=>4 | 3=>3 | 5=>5 | 117=>118 | 116=>117 | 0=>0 | 124=>121 | 21=>21 | 105=>133 | 46=>102 | 119=>147 | 139=>150 | 138=>149 | n=>n,fun | 3=>3 | 4=>4 | n=>n⟩
theorem Tryz.lays160:Go.Proofs.Lays.n160 Tryz.prog Tryz.lays160_ren:={
 mixed:=by kernel_rfl
 f119:=Tryz.func130.trans (congrArg some (by kernel_rfl))
 f120:=Tryz.func124.trans (congrArg some (by kernel_rfl))
 f137:=Tryz.func44.trans (congrArg some (by kernel_rfl))
 f151:=Tryz.func116.trans (congrArg some (by kernel_rfl))
 f152:=Tryz.func123.trans (congrArg some (by kernel_rfl))
 f160:=Tryz.func85.trans (congrArg some (by kernel_rfl))
 f197:=Tryz.func115.trans (congrArg some (by kernel_rfl))
 f217:=Tryz.func66.trans (congrArg some (by kernel_rfl))
 f224:=Tryz.func88.trans (congrArg some (by kernel_rfl))
 f225:=Tryz.func87.trans (congrArg some (by kernel_rfl))
 f227:=Tryz.func102.trans (congrArg some (by kernel_rfl))
 f228:=Tryz.func114.trans (congrArg some (by kernel_rfl))
 f231:=Tryz.func100.trans (congrArg some (by kernel_rfl))
 f232:=Tryz.func101.trans (congrArg some (by kernel_rfl))
 f233:=Tryz.func103.trans (congrArg some (by kernel_rfl))
 f234:=Tryz.func104.trans (congrArg some (by kernel_rfl))
 f235:=Tryz.func105.trans (congrArg some (by kernel_rfl))
 f236:=Tryz.func106.trans (congrArg some (by kernel_rfl))
 f260:=Tryz.func122.trans (congrArg some (by kernel_rfl))
 f266:=Tryz.func86.trans (congrArg some (by kernel_rfl))
 f271:=Tryz.func117.trans (congrArg some (by kernel_rfl))
 t0:=Tryz.underlying0
 a0:=Tryz.isAgg0
 z0:=Tryz.sizeOf0
 v0:=Tryz.zeroValue0
 t3:=Tryz.underlying3
 a3:=Tryz.isAgg3
 z3:=Tryz.sizeOf3
 v3:=Tryz.zeroValue3
 t4:=Tryz.underlying4
 a4:=Tryz.isAgg4
 z4:=Tryz.sizeOf4
 v4:=Tryz.zeroValue4
 t5:=Tryz.underlying5
 a5:=Tryz.isAgg5
 z5:=Tryz.sizeOf5
 v5:=Tryz.zeroValue5
 t9:=Tryz.underlying9
 a9:=Tryz.isAgg9
 z9:=Tryz.sizeOf9
 v9:=Tryz.zeroValue9
 t21:=Tryz.underlying21
 a21:=Tryz.isAgg21
 z21:=Tryz.sizeOf21
 v21:=Tryz.zeroValue21
 t46:=Tryz.underlying102
 a46:=Tryz.isAgg102
 z46:=Tryz.sizeOf102
 v46:=Tryz.zeroValue102
 t105:=Tryz.underlying133
 a105:=Tryz.isAgg133
 z105:=Tryz.sizeOf133
 v105:=Tryz.zeroValue133
 t116:=Tryz.underlying117
 a116:=Tryz.isAgg117
 z116:=Tryz.sizeOf117
 t117:=Tryz.underlying118
 a117:=Tryz.isAgg118
 z117:=Tryz.sizeOf118
 v117:=Tryz.zeroValue118
 t119:=Tryz.underlying147
 a119:=Tryz.isAgg147
 z119:=Tryz.sizeOf147
 t124:=Tryz.underlying121
 a124:=Tryz.isAgg121
 z124:=Tryz.sizeOf121
 v124:=Tryz.zeroValue121
 t138:=Tryz.underlying149
 a138:=Tryz.isAgg149
 z138:=Tryz.sizeOf149
 v138:=Tryz.zeroValue149
 t139:=Tryz.underlying150
 a139:=Tryz.isAgg150
 z139:=Tryz.sizeOf150
 v139:=Tryz.zeroValue150
 g3:=by kernel_rfl
 g4:=by kernel_rfl }
end Go.Proofs
