/- Own facts, put together: no statement of its own. -/
import Derived.Shelf.Strings.Cut
import Derived.Shelf.Strings.Split
import Derived.Shelf.Strings.OnBuilder
import Derived.Shelf.LaysM
import Derived.Shelf.Strconv.Itoa3
import Derived.Shelf.Bits.Mul64
import Derived.Shelf.Slices.Turned
import Derived.Test.YtipdclphpkgceaaGreatDoorChecked
import Derived.Test.YtipdclphpkgceaaGreatDoorS02
import Derived.Test.YtipdclphpkgceaaGreatDoorS03
import Derived.Shelf.SlSortCmp.WholeK
import Derived.Ground.SlsfProg
import Derived.Lib.OwnBridge
import Derived.Deep.AppendLies
import Derived.Test.YtipdclphpkgceaaGreatDoorS04
import Derived.HandedShaped
import Derived.Lib.AppendIntMem
import Derived.Shelf.Vars
import Derived.Deep.Strs
import Derived.Lay
import Derived.Test.YtipdclphpkgceaaGreatDoorS01
import Derived.Deep.DeepHandedRow
set_option maxHeartbeats 400000
set_option maxRecDepth 100000

namespace Go.Proofs
open Go.Shelf
def Tryz.lays145_ren:Go.Shelf.Ren:=⟨fun | 145=>39 | 220=>72 | 219=>97 | 217=>124 | 225=>125 | 224=>126 | 267=>127 | 266=>151 | 314=>152 | n=>n,fun | 9=>9 | 4=>4 | 59=>95 | 3=>3 | 5=>5 | 46=>200 | 146=>217 | 51=>216 | n=>n,fun | 1=>10 | n=>n⟩
theorem Tryz.lays145:Go.Proofs.Lays.n145 Tryz.prog Tryz.lays145_ren:={
 mixed:=by kernel_rfl
 f145:=Tryz.func39.trans (congrArg some (by kernel_rfl))
 f217:=Tryz.func124.trans (congrArg some (by kernel_rfl))
 f219:=Tryz.func97.trans (congrArg some (by kernel_rfl))
 f220:=Tryz.func72.trans (congrArg some (by kernel_rfl))
 f224:=Tryz.func126.trans (congrArg some (by kernel_rfl))
 f225:=Tryz.func125.trans (congrArg some (by kernel_rfl))
 f266:=Tryz.func151.trans (congrArg some (by kernel_rfl))
 f267:=Tryz.func127.trans (congrArg some (by kernel_rfl))
 f314:=Tryz.func152.trans (congrArg some (by kernel_rfl))
 t3:=Tryz.underlying3
 a3:=Tryz.isAgg3
 z3:=Tryz.sizeOf3
 v3:=Tryz.zeroValue3
 t4:=Tryz.underlying4
 a4:=Tryz.isAgg4
 z4:=Tryz.sizeOf4
 v4:=Tryz.zeroValue4
 t5:=Tryz.underlying5
 a5:=Tryz.isAgg5
 z5:=Tryz.sizeOf5
 v5:=Tryz.zeroValue5
 t9:=Tryz.underlying9
 a9:=Tryz.isAgg9
 z9:=Tryz.sizeOf9
 v9:=Tryz.zeroValue9
 t46:=Tryz.underlying200
 a46:=Tryz.isAgg200
 z46:=Tryz.sizeOf200
 v46:=Tryz.zeroValue200
 t51:=Tryz.underlying216
 a51:=Tryz.isAgg216
 z51:=Tryz.sizeOf216
 v51:=Tryz.zeroValue216
 t59:=Tryz.underlying95
 a59:=Tryz.isAgg95
 z59:=Tryz.sizeOf95
 v59:=Tryz.zeroValue95
 t146:=Tryz.underlying217
 a146:=Tryz.isAgg217
 z146:=Tryz.sizeOf217
 v146:=Tryz.zeroValue217
 g1:=by kernel_rfl }
def Tryz.lays146_ren:Go.Shelf.Ren:=⟨fun | 146=>41 | 221=>78 | 268=>107 | 138=>108 | 143=>109 | 195=>131 | 197=>132 | 218=>133 | 219=>97 | 260=>156 | 217=>124 | 225=>125 | 224=>126 | 267=>127 | 266=>151 | 314=>152 | n=>n,fun | 9=>9 | 31=>22 | 3=>3 | 4=>4 | 0=>0 | 105=>204 | 21=>21 | 5=>5 | 46=>200 | 119=>248 | 139=>251 | 138=>250 | 146=>217 | 51=>216 | n=>n,fun | 1=>10 | 3=>11 | 4=>12 | n=>n⟩
theorem Tryz.lays146:Go.Proofs.Lays.n146 Tryz.prog Tryz.lays146_ren:={
 mixed:=by kernel_rfl
 f138:=Tryz.func108.trans (congrArg some (by kernel_rfl))
 f143:=Tryz.func109.trans (congrArg some (by kernel_rfl))
 f146:=Tryz.func41.trans (congrArg some (by kernel_rfl))
 f195:=Tryz.func131.trans (congrArg some (by kernel_rfl))
 f197:=Tryz.func132.trans (congrArg some (by kernel_rfl))
 f217:=Tryz.func124.trans (congrArg some (by kernel_rfl))
 f218:=Tryz.func133.trans (congrArg some (by kernel_rfl))
 f219:=Tryz.func97.trans (congrArg some (by kernel_rfl))
 f221:=Tryz.func78.trans (congrArg some (by kernel_rfl))
 f224:=Tryz.func126.trans (congrArg some (by kernel_rfl))
 f225:=Tryz.func125.trans (congrArg some (by kernel_rfl))
 f260:=Tryz.func156.trans (congrArg some (by kernel_rfl))
 f266:=Tryz.func151.trans (congrArg some (by kernel_rfl))
 f267:=Tryz.func127.trans (congrArg some (by kernel_rfl))
 f268:=Tryz.func107.trans (congrArg some (by kernel_rfl))
 f314:=Tryz.func152.trans (congrArg some (by kernel_rfl))
 t0:=Tryz.underlying0
 a0:=Tryz.isAgg0
 z0:=Tryz.sizeOf0
 v0:=Tryz.zeroValue0
 t3:=Tryz.underlying3
 a3:=Tryz.isAgg3
 z3:=Tryz.sizeOf3
 v3:=Tryz.zeroValue3
 t4:=Tryz.underlying4
 a4:=Tryz.isAgg4
 z4:=Tryz.sizeOf4
 v4:=Tryz.zeroValue4
 t5:=Tryz.underlying5
 a5:=Tryz.isAgg5
 z5:=Tryz.sizeOf5
 v5:=Tryz.zeroValue5
 t9:=Tryz.underlying9
 a9:=Tryz.isAgg9
 z9:=Tryz.sizeOf9
 v9:=Tryz.zeroValue9
 t21:=Tryz.underlying21
 a21:=Tryz.isAgg21
 z21:=Tryz.sizeOf21
 v21:=Tryz.zeroValue21
 t31:=Tryz.underlying22
 a31:=Tryz.isAgg22
 z31:=Tryz.sizeOf22
 v31:=Tryz.zeroValue22
 t46:=Tryz.underlying200
 a46:=Tryz.isAgg200
 z46:=Tryz.sizeOf200
 v46:=Tryz.zeroValue200
 t51:=Tryz.underlying216
 a51:=Tryz.isAgg216
 z51:=Tryz.sizeOf216
 v51:=Tryz.zeroValue216
 t105:=Tryz.underlying204
 a105:=Tryz.isAgg204
 z105:=Tryz.sizeOf204
 v105:=Tryz.zeroValue204
 t119:=Tryz.underlying248
 a119:=Tryz.isAgg248
 z119:=Tryz.sizeOf248
 t138:=Tryz.underlying250
 a138:=Tryz.isAgg250
 z138:=Tryz.sizeOf250
 v138:=Tryz.zeroValue250
 t139:=Tryz.underlying251
 a139:=Tryz.isAgg251
 z139:=Tryz.sizeOf251
 v139:=Tryz.zeroValue251
 t146:=Tryz.underlying217
 a146:=Tryz.isAgg217
 z146:=Tryz.sizeOf217
 v146:=Tryz.zeroValue217
 g1:=by kernel_rfl
 g3:=by kernel_rfl
 g4:=by kernel_rfl }
def Tryz.lays156_ren:Go.Shelf.Ren:=⟨fun | 156=>80 | 165=>111 | 166=>112 | 169=>113 | 240=>135 | 241=>136 | 276=>161 | 277=>162 | n=>n,fun | 31=>22 | 9=>9 | 3=>3 | 4=>4 | 0=>0 | 20=>20 | 72=>183 | 76=>90 | 70=>181 | 37=>165 | 75=>25 | 127=>207 | 164=>106 | 5=>5 | 80=>64 | n=>n,fun | n=>n⟩
theorem Tryz.lays156:Go.Proofs.Lays.n156 Tryz.prog Tryz.lays156_ren:={
 mixed:=by kernel_rfl
 f156:=Tryz.func80.trans (congrArg some (by kernel_rfl))
 f165:=Tryz.func111.trans (congrArg some (by kernel_rfl))
 f166:=Tryz.func112.trans (congrArg some (by kernel_rfl))
 f169:=Tryz.func113.trans (congrArg some (by kernel_rfl))
 f240:=Tryz.func135.trans (congrArg some (by kernel_rfl))
 f241:=Tryz.func136.trans (congrArg some (by kernel_rfl))
 f276:=Tryz.func161.trans (congrArg some (by kernel_rfl))
 f277:=Tryz.func162.trans (congrArg some (by kernel_rfl))
 t0:=Tryz.underlying0
 a0:=Tryz.isAgg0
 z0:=Tryz.sizeOf0
 v0:=Tryz.zeroValue0
 t3:=Tryz.underlying3
 a3:=Tryz.isAgg3
 z3:=Tryz.sizeOf3
 v3:=Tryz.zeroValue3
 t4:=Tryz.underlying4
 a4:=Tryz.isAgg4
 z4:=Tryz.sizeOf4
 v4:=Tryz.zeroValue4
 t9:=Tryz.underlying9
 a9:=Tryz.isAgg9
 z9:=Tryz.sizeOf9
 v9:=Tryz.zeroValue9
 t20:=Tryz.underlying20
 a20:=Tryz.isAgg20
 z20:=Tryz.sizeOf20
 v20:=Tryz.zeroValue20
 t31:=Tryz.underlying22
 a31:=Tryz.isAgg22
 z31:=Tryz.sizeOf22
 v31:=Tryz.zeroValue22
 t37:=Tryz.underlying165
 a37:=Tryz.isAgg165
 z37:=Tryz.sizeOf165
 v37:=Tryz.zeroValue165
 t70:=Tryz.underlying181
 a70:=Tryz.isAgg181
 z70:=Tryz.sizeOf181
 v70:=Tryz.zeroValue181
 t72:=Tryz.underlying183
 a72:=Tryz.isAgg183
 z72:=Tryz.sizeOf183
 v72:=Tryz.zeroValue183
 t75:=Tryz.underlying25
 a75:=Tryz.isAgg25
 z75:=Tryz.sizeOf25
 v75:=Tryz.zeroValue25
 t76:=Tryz.underlying90
 a76:=Tryz.isAgg90
 z76:=Tryz.sizeOf90
 v76:=Tryz.zeroValue90
 t127:=Tryz.underlying207
 a127:=Tryz.isAgg207
 z127:=Tryz.sizeOf207
 v127:=Tryz.zeroValue207
 t164:=Tryz.underlying106
 a164:=Tryz.isAgg106
 z164:=Tryz.sizeOf106
 v164:=Tryz.zeroValue106 }
def Tryz.laysM171_ren:Go.Shelf.Ren:=⟨fun | 171=>79 | 243=>110 | 246=>134 | 283=>157 | 284=>158 | 285=>159 | 286=>160 | 129=>186 | 317=>185 | 318=>187 | 319=>188 | 320=>189 | 337=>215 | 338=>216 | n=>n,fun | 3=>3 | 9=>9 | 2=>2 | 4=>4 | 171=>221 | 0=>0 | 53=>222 | 37=>165 | 5=>5 | 173=>225 | 212=>253 | 51=>216 | 20=>20 | 213=>254 | 46=>200 | 232=>287 | 233=>288 | n=>n,fun | 17=>13 | 18=>14 | 19=>15 | n=>n⟩
theorem Tryz.laysM171:Go.Proofs.LaysM.n171 Tryz.prog Tryz.laysM171_ren:={
 mixed:=by kernel_rfl
 f129:=Tryz.func186.trans (congrArg some (by kernel_rfl))
 f171:=Tryz.func79.trans (congrArg some (by kernel_rfl))
 f243:=Tryz.func110.trans (congrArg some (by kernel_rfl))
 f246:=Tryz.func134.trans (congrArg some (by kernel_rfl))
 f283:=Tryz.func157.trans (congrArg some (by kernel_rfl))
 f284:=Tryz.func158.trans (congrArg some (by kernel_rfl))
 f285:=Tryz.func159.trans (congrArg some (by kernel_rfl))
 f286:=Tryz.func160.trans (congrArg some (by kernel_rfl))
 f317:=Tryz.func185.trans (congrArg some (by kernel_rfl))
 f318:=Tryz.func187.trans (congrArg some (by kernel_rfl))
 f319:=Tryz.func188.trans (congrArg some (by kernel_rfl))
 f320:=Tryz.func189.trans (congrArg some (by kernel_rfl))
 f337:=Tryz.func215.trans (congrArg some (by kernel_rfl))
 f338:=Tryz.func216.trans (congrArg some (by kernel_rfl))
 t0:=Tryz.underlying0
 a0:=Tryz.isAgg0
 z0:=Tryz.sizeOf0
 v0:=Tryz.zeroValue0
 t2:=Tryz.underlying2
 a2:=Tryz.isAgg2
 z2:=Tryz.sizeOf2
 v2:=Tryz.zeroValue2
 t3:=Tryz.underlying3
 a3:=Tryz.isAgg3
 z3:=Tryz.sizeOf3
 v3:=Tryz.zeroValue3
 t4:=Tryz.underlying4
 a4:=Tryz.isAgg4
 z4:=Tryz.sizeOf4
 v4:=Tryz.zeroValue4
 t5:=Tryz.underlying5
 a5:=Tryz.isAgg5
 z5:=Tryz.sizeOf5
 v5:=Tryz.zeroValue5
 t9:=Tryz.underlying9
 a9:=Tryz.isAgg9
 z9:=Tryz.sizeOf9
 v9:=Tryz.zeroValue9
 t20:=Tryz.underlying20
 a20:=Tryz.isAgg20
 z20:=Tryz.sizeOf20
 v20:=Tryz.zeroValue20
 t37:=Tryz.underlying165
 a37:=Tryz.isAgg165
 z37:=Tryz.sizeOf165
 v37:=Tryz.zeroValue165
 t46:=Tryz.underlying200
 a46:=Tryz.isAgg200
 z46:=Tryz.sizeOf200
 v46:=Tryz.zeroValue200
 t51:=Tryz.underlying216
 a51:=Tryz.isAgg216
 z51:=Tryz.sizeOf216
 v51:=Tryz.zeroValue216
 t53:=Tryz.underlying222
 a53:=Tryz.isAgg222
 z53:=Tryz.sizeOf222
 v53:=Tryz.zeroValue222
 t171:=Tryz.underlying221
 a171:=Tryz.isAgg221
 z171:=Tryz.sizeOf221
 v171:=Tryz.zeroValue221
 t173:=Tryz.underlying225
 a173:=Tryz.isAgg225
 z173:=Tryz.sizeOf225
 v173:=Tryz.zeroValue225
 t212:=Tryz.underlying253
 a212:=Tryz.isAgg253
 z212:=Tryz.sizeOf253
 v212:=Tryz.zeroValue253
 t213:=Tryz.underlying254
 a213:=Tryz.isAgg254
 z213:=Tryz.sizeOf254
 t232:=Tryz.underlying287
 a232:=Tryz.isAgg287
 z232:=Tryz.sizeOf287
 v232:=Tryz.zeroValue287
 t233:=Tryz.underlying288
 a233:=Tryz.isAgg288
 z233:=Tryz.sizeOf288
 v233:=Tryz.zeroValue288
 g17:=by kernel_rfl
 g18:=by kernel_rfl
 g19:=by kernel_rfl
 i0:=by kernel_rfl
 i2:=by kernel_rfl
 i3:=by kernel_rfl
 i4:=by kernel_rfl
 i5:=by kernel_rfl
 i9:=by kernel_rfl
 i20:=by kernel_rfl
 i37:=by kernel_rfl
 i46:=by kernel_rfl
 i51:=by kernel_rfl
 i53:=by kernel_rfl
 i171:=by kernel_rfl
 i173:=by kernel_rfl
 i212:=by kernel_rfl
 i232:=by kernel_rfl
 i233:=by kernel_rfl
 m17:=by kernel_rfl
 m18:=by kernel_rfl
 m19:=by kernel_rfl }
def Tryz.lays212_ren:Go.Shelf.Ren:=⟨fun | 212=>153 | 263=>183 | 264=>184 | n=>n,fun | 46=>200 | 51=>216 | 146=>217 | 53=>222 | 148=>246 | n=>n,fun | n=>n⟩
theorem Tryz.lays212:Go.Proofs.Lays.n212 Tryz.prog Tryz.lays212_ren:={
 mixed:=by kernel_rfl
 f212:=Tryz.func153.trans (congrArg some (by kernel_rfl))
 f263:=Tryz.func183.trans (congrArg some (by kernel_rfl))
 f264:=Tryz.func184.trans (congrArg some (by kernel_rfl))
 t46:=Tryz.underlying200
 a46:=Tryz.isAgg200
 z46:=Tryz.sizeOf200
 v46:=Tryz.zeroValue200
 t51:=Tryz.underlying216
 a51:=Tryz.isAgg216
 z51:=Tryz.sizeOf216
 v51:=Tryz.zeroValue216
 t53:=Tryz.underlying222
 a53:=Tryz.isAgg222
 z53:=Tryz.sizeOf222
 v53:=Tryz.zeroValue222
 t146:=Tryz.underlying217
 a146:=Tryz.isAgg217
 z146:=Tryz.sizeOf217
 v146:=Tryz.zeroValue217
 t148:=Tryz.underlying246
 a148:=Tryz.isAgg246
 z148:=Tryz.sizeOf246
 v148:=Tryz.zeroValue246 }
def Tryz.lays113_ren:Go.Shelf.Ren:=⟨fun | 113=>85 | n=>n,fun | 28=>32 | 3=>3 | 4=>4 | 9=>9 | 20=>20 | 0=>0 | n=>n,fun | n=>n⟩
theorem Tryz.lays113:Go.Proofs.Lays.n113 Tryz.prog Tryz.lays113_ren:={
 mixed:=by kernel_rfl
 f113:=Tryz.func85.trans (congrArg some (by kernel_rfl))
 t0:=Tryz.underlying0
 a0:=Tryz.isAgg0
 z0:=Tryz.sizeOf0
 v0:=Tryz.zeroValue0
 t3:=Tryz.underlying3
 a3:=Tryz.isAgg3
 z3:=Tryz.sizeOf3
 v3:=Tryz.zeroValue3
 t4:=Tryz.underlying4
 a4:=Tryz.isAgg4
 z4:=Tryz.sizeOf4
 v4:=Tryz.zeroValue4
 t9:=Tryz.underlying9
 a9:=Tryz.isAgg9
 z9:=Tryz.sizeOf9
 v9:=Tryz.zeroValue9
 t20:=Tryz.underlying20
 a20:=Tryz.isAgg20
 z20:=Tryz.sizeOf20
 v20:=Tryz.zeroValue20
 t28:=Tryz.underlying32
 a28:=Tryz.isAgg32
 z28:=Tryz.sizeOf32
 v28:=Tryz.zeroValue32 }
theorem Tryz.Builder_Extra_156:Builder.Extra Tryz.prog Tryz.lays156_ren:={
 sizeBuilder:=by kernel_rfl
 liesBuilder:=by kernel_rfl
 t5:=Tryz.underlying5
 a5:=Tryz.isAgg5
 z5:=Tryz.sizeOf5
 v5:=Tryz.zeroValue5
 infoByte:=by kernel_rfl
 cellsByte:=by kernel_rfl
 sizeByte:=by kernel_rfl
 neB5:=by decide }
end Go.Proofs

namespace Go.Proofs.YtipdclphpkgceaaGreatDoor
open Go.RowKit Go.Shelf
def ItoaOk (w0:World):Prop:=∀ W,Below w0.heap.size w0 W → ∀ n:Int,-9223372036854775808 ≤ n → n ≤ 9223372036854775807 →
 Calls Tryz.prog 79 #[.int .i64 n] W fun e w'=>e=.returned (.string ⟨(Go.Lib.itoa n).toArray⟩) ∧ Below W.heap.size W w'
structure Env (w:World) (ad:Nat → Addr):Prop where
 errs:Errs9 w ad
 maxl:∃ m,w.cell? ⟨10,0,none⟩=some (.int .i64 m)
 itoa:ItoaOk w
theorem Env.below {w W:World} {ad:Nat → Addr} (h:Env w ad) (hb:Below w.heap.size w W):Env W ad:=
 ⟨h.errs.below hb,by obtain ⟨m,hm⟩:=h.maxl;exact ⟨m,cell_later hb hm⟩,fun V hV=>h.itoa V (hb.trans (hV.mono hb.size))⟩
abbrev strW (x:List UInt8):Value:=.string ⟨x.toArray⟩
theorem cut_is (x:List UInt8) (w:World) (ad:Nat → Addr) (he:Env w ad) (hs:x.length ≤ 1000) :
  Calls Tryz.prog 39 #[strW x,.string ⟨#[32]⟩] w fun e w'=>e=.returned (.tuple #[strW (Go.Lib.cut x [32]).1,strW (Go.Lib.cut x [32]).2.1,.bool (Go.Lib.cut x [32]).2.2]) ∧ ∃ n,w'=w.drewN n:=by
 obtain ⟨m,hm⟩:=he.maxl
 exact Any.strings_Cut Tryz.lays145 ⟨x.toArray⟩ ⟨#[32]⟩ m w (by show x.toArray.size < _;simp;omega) hm
theorem split_is (x:List UInt8) (w:World) (ad:Nat → Addr) (he:Env w ad) (hs:x.length ≤ 1000) :
  Calls Tryz.prog 41 #[strW x,.string ⟨#[32]⟩] w fun e w'=>e=.returned (.slice (some ⟨w.heap.size,0,none⟩) (Go.Lib.split x [32]).length (Go.Lib.split x [32]).length) ∧ LiesW w' (some ⟨w.heap.size,0,none⟩) (Go.Lib.split x [32]) ∧ Below w.heap.size w w':=by
 obtain ⟨m,hm⟩:=he.maxl
 refine (Any.strings_Split Tryz.lays146 (by kernel_rfl) ⟨x.toArray⟩ ⟨#[32]⟩ m w (by show x.toArray.size < _;simp;omega) hm (by decide)).mono ?_
 rintro e w' ⟨rfl,rfl⟩
 have hd:=Go.Lib.splitB_data ⟨#[32]⟩ 0 (Go.Lib.countB ⟨x.toArray⟩ ⟨#[32]⟩) ⟨x.toArray⟩
 have hl:=Go.Lib.splitB_all ⟨#[32]⟩ (by decide) 0 _ ⟨x.toArray⟩ rfl
 have e1:(Go.Lib.splitB ⟨#[32]⟩ 0 (Go.Lib.countB ⟨x.toArray⟩ ⟨#[32]⟩) ⟨x.toArray⟩).map (·.data.toList)=Go.Lib.split x [32]:=hd
 have e2:(Go.Lib.split x [32]).length=Go.Lib.countB ⟨x.toArray⟩ ⟨#[32]⟩ + 1:=by rw [← e1,List.length_map,hl]
 refine ⟨by rw [e2],.inr ⟨w.heap.size,0,rfl,by simp,fun i y hi=>?_⟩,(Below.refl _ _).alloc (Nat.le_refl _) _⟩
 rw [World.cell?_alloc_at _ _ _ _ rfl,Nat.zero_add]
 rw [← e1,List.getElem?_map] at hi
 obtain ⟨s,h1,h2⟩:=Option.map_eq_some_iff.1 hi
 rw [List.getElem?_toArray,List.getElem?_map,h1,← h2]
 rfl
theorem join_is (b o c:Nat) (xs:List (List UInt8)) (w:World) (hc:∀ (i:Nat) x,xs[i]? = some x → w.cell? ⟨b,o+i,none⟩=some (strW x)) (hb:b < w.heap.size) (hn:xs.length ≤ 1000) (hcap:xs.length ≤ c) (hlen:(Go.Lib.join xs [32]).length ≤ 140737488355328) :
  Calls Tryz.prog 80 #[.slice (some ⟨b,o,none⟩) xs.length c,.string ⟨#[32]⟩] w fun e w'=>e=.returned (strW (Go.Lib.join xs [32])) ∧ Below w.heap.size w w':=by
 have e:(xs.map fun x=>(⟨x.toArray⟩:ByteArray)).map (·.data.toList)=xs:=by rw [List.map_map];exact List.map_id xs
 have:=Any.strings_Join Tryz.lays156 Tryz.Builder_Extra_156 b o c (xs.map fun x=>⟨x.toArray⟩) ⟨#[32]⟩ w (fun j x hx=>by
  rw [List.getElem?_map] at hx
  obtain ⟨y,h1,h2⟩:=Option.map_eq_some_iff.1 hx
  rw [hc j y h1,← h2]) hb (by simp;omega) (by simpa using hcap) (by rw [e];exact hlen)
 rw [e,List.length_map] at this
 exact this
theorem max_is (b:Nat) (zs:List Int) (w:World) (h1:0 < zs.length) (hn:zs.length ≤ 1000) (hc:∀ (i:Nat) z,zs[i]? = some z → w.cell? ⟨b,i,none⟩=some (.int .i64 z)) :
  Calls Tryz.prog 85 #[.slice (some ⟨b,0,none⟩) zs.length zs.length] w fun e w'=>e=.returned (.int .i64 (Go.Lib.maxOf zs)) ∧ w'=w:=by
 have:=Any.slices_Max_int Tryz.lays113 b 0 zs.length zs.length zs w h1 (Nat.le_refl _) (by omega) (fun j hj=>by
  rw [Nat.zero_add,hc j zs[j] (List.getElem?_eq_getElem hj)]
  simp [hj])
 rw [List.take_length] at this
 exact this
end Go.Proofs.YtipdclphpkgceaaGreatDoor

namespace Go.Proofs
open Go.Shelf
def Tryz.sortL_ren:Go.Shelf.Ren:=⟨fun | 6=>212 | 15=>227 | 14=>226 | 28=>240 | 29=>186 | 20=>232 | 21=>233 | 22=>234 | 23=>235 | 24=>236 | 25=>237 | 26=>238 | 27=>239 | 46=>243 | 47=>244 | 48=>245 | 49=>246 | 50=>247 | 57=>248 | n=>n,fun | 22=>62 | 24=>83 | 25=>279 | 3=>3 | 39=>200 | 0=>0 | 53=>216 | 55=>222 | 4=>4 | 46=>298 | 45=>297 | 50=>294 | 5=>5 | 9=>9 | 66=>304 | 70=>308 | 76=>310 | 77=>46 | n=>n,fun | n=>n⟩
theorem Tryz.sortL:Go.Proofs.SlLaysF0.n6 Tryz.prog Tryz.sortL_ren:={
 mixed:=by kernel_rfl
 f6:=⟨Tryz.f212.name,by decide,Tryz.func212.trans (congrArg some (by kernel_rfl))⟩
 f14:=⟨Tryz.f226.name,by decide,Tryz.func226.trans (congrArg some (by kernel_rfl))⟩
 f15:=Tryz.func227.trans (congrArg some (by kernel_rfl))
 f20:=⟨Tryz.f232.name,by decide,Tryz.func232.trans (congrArg some (by kernel_rfl))⟩
 f21:=⟨Tryz.f233.name,by decide,Tryz.func233.trans (congrArg some (by kernel_rfl))⟩
 f22:=⟨Tryz.f234.name,by decide,Tryz.func234.trans (congrArg some (by kernel_rfl))⟩
 f23:=⟨Tryz.f235.name,by decide,Tryz.func235.trans (congrArg some (by kernel_rfl))⟩
 f24:=⟨Tryz.f236.name,by decide,Tryz.func236.trans (congrArg some (by kernel_rfl))⟩
 f25:=⟨Tryz.f237.name,by decide,Tryz.func237.trans (congrArg some (by kernel_rfl))⟩
 f26:=⟨Tryz.f238.name,by decide,Tryz.func238.trans (congrArg some (by kernel_rfl))⟩
 f27:=⟨Tryz.f239.name,by decide,Tryz.func239.trans (congrArg some (by kernel_rfl))⟩
 f28:=Tryz.func240.trans (congrArg some (by kernel_rfl))
 f29:=Tryz.func186.trans (congrArg some (by kernel_rfl))
 f46:=⟨Tryz.f243.name,by decide,Tryz.func243.trans (congrArg some (by kernel_rfl))⟩
 f47:=Tryz.func244.trans (congrArg some (by kernel_rfl))
 f48:=Tryz.func245.trans (congrArg some (by kernel_rfl))
 f49:=⟨Tryz.f246.name,by decide,Tryz.func246.trans (congrArg some (by kernel_rfl))⟩
 f50:=⟨Tryz.f247.name,by decide,Tryz.func247.trans (congrArg some (by kernel_rfl))⟩
 f57:=⟨Tryz.f248.name,by decide,Tryz.func248.trans (congrArg some (by kernel_rfl))⟩
 t0:=Tryz.underlying0
 a0:=Tryz.isAgg0
 z0:=Tryz.sizeOf0
 v0:=Tryz.zeroValue0
 t3:=Tryz.underlying3
 a3:=Tryz.isAgg3
 z3:=Tryz.sizeOf3
 v3:=Tryz.zeroValue3
 t4:=Tryz.underlying4
 a4:=Tryz.isAgg4
 z4:=Tryz.sizeOf4
 v4:=Tryz.zeroValue4
 t5:=Tryz.underlying5
 a5:=Tryz.isAgg5
 z5:=Tryz.sizeOf5
 v5:=Tryz.zeroValue5
 t9:=Tryz.underlying9
 a9:=Tryz.isAgg9
 z9:=Tryz.sizeOf9
 v9:=Tryz.zeroValue9
 t22:=Tryz.underlying62
 a22:=Tryz.isAgg62
 z22:=Tryz.sizeOf62
 v22:=Tryz.zeroValue62
 t25:=Tryz.underlying279
 a25:=Tryz.isAgg279
 z25:=Tryz.sizeOf279
 v25:=Tryz.zeroValue279
 t39:=Tryz.underlying200
 a39:=Tryz.isAgg200
 z39:=Tryz.sizeOf200
 v39:=Tryz.zeroValue200
 t45:=Tryz.underlying297
 a45:=Tryz.isAgg297
 z45:=Tryz.sizeOf297
 v45:=Tryz.zeroValue297
 t46:=Tryz.underlying298
 a46:=Tryz.isAgg298
 z46:=Tryz.sizeOf298
 v46:=Tryz.zeroValue298
 t50:=Tryz.underlying294
 a50:=Tryz.isAgg294
 z50:=Tryz.sizeOf294
 v50:=Tryz.zeroValue294
 t53:=Tryz.underlying216
 a53:=Tryz.isAgg216
 z53:=Tryz.sizeOf216
 v53:=Tryz.zeroValue216
 t55:=Tryz.underlying222
 a55:=Tryz.isAgg222
 z55:=Tryz.sizeOf222
 v55:=Tryz.zeroValue222
 t66:=Tryz.underlying304
 a66:=Tryz.isAgg304
 z66:=Tryz.sizeOf304
 v66:=Tryz.zeroValue304
 t70:=Tryz.underlying308
 a70:=Tryz.isAgg308
 z70:=Tryz.sizeOf308
 v70:=Tryz.zeroValue308
 t76:=Tryz.underlying310
 a76:=Tryz.isAgg310
 z76:=Tryz.sizeOf310
 v76:=Tryz.zeroValue310
 t77:=Tryz.underlying46
 a77:=Tryz.isAgg46
 z77:=Tryz.sizeOf46
 v77:=Tryz.zeroValue46 }
end Go.Proofs

namespace Go.Proofs.YtipdclphpkgceaaGreatDoor
open Go.RowKit Go.Shelf
open Go.Sort hiding Below
theorem clone_ok (ad:Addr) (cap:Nat) (ls:List (Int × Int)) (w:World) (hl:Lies w (some ad) ls) (hn:ls.length ≤ 1000) :
  Calls Tryz.prog 211 #[.slice (some ad) ls.length cap] w fun e w'=>∃ v,e=.returned v ∧ OwnL w' w.heap.size v ls ∧ Below w.heap.size w w':=by
 obtain ⟨i0,hi,hz0,hz1,hz2⟩:=info_parts Tryz.infoLine
 have hb0:Below w.heap.size w (w.alloc (.cells #[] 83)):=(Below.refl _ _).alloc (Nat.le_refl _) _
 have H1:Hid (∀ j u,(cellsL ls)[j]? = some u → (w.alloc (.cells #[] 83)).cell? (ad.add j)=some u):=lies_news (hl.below hb0)
 have H2:Hid ((cellsL ls).length=ls.length * 2):=cellsL_length ls
 have H3:Hid (∀ u ∈ cellsL ls,u.oneCell'=true):=cellsL_one ls
 have H4:Hid ((w.alloc (.cells #[] 83)).ownsRow w.heap.size 83 2 (.slice (some ⟨w.heap.size,0,none⟩) 0 0) 0 []):=World.ownsRow_lit w #[] 0 (Nat.le_refl _) (by simp [maxLen]) (by simp)
 have HB0:Hid (Below w.heap.size w (w.alloc (.cells #[] 83))):=hb0
 clear hl hb0
 have hnil:=fun wx=>Go.Lib.run_eql_slice_nil (P:=Tryz.prog) wx 62 83 (some ad) ls.length cap 0 0 Tryz.underlying62
 go_enter Tryz.func211,Tryz.ntmps211
 go_wp2_with (at_builtin;refine wpList_append_own _ rfl _ _ 62 rfl w.heap.size 83 i0 (.agg #[.int .i64 0,.int .i64 0]) 2 16 Tryz.underlying62 hi hz0 hz1 hz2 rfl (by decide) (.slice (some ⟨w.heap.size,0,none⟩) 0 0) 0 [] rfl H4.out ad ls.length cap (cellsL ls) rfl H2.out H1.out H3.out (by unfold maxLen;omega) (by omega) (by simp) ?_;intro v' w3 hown' hgrow3 hnil3)
 go_ret
 refine ⟨_,rfl,by simpa [OwnL] using hown',?_⟩
 exact HB0.out.grown hgrow3 (by simp) (fun k hk=>by injection hk with hk;subst hk;exact Nat.le_refl _)
def encL (x:Int × Int):List Value:=[.int .i64 x.1,.int .i64 x.2]
theorem ltL (x y:Int × Int):ltOf cmpL x y=decide (y.2 < x.2 ∨ (y.2=x.2 ∧ y.1 < x.1)):=by
 unfold ltOf cmpL
 by_cases h:y.2=x.2
 ·
  rw [if_pos (cmpI_zero.2 h)]
  rw [decide_eq_decide,cmpI_lt]
  omega
 ·
  rw [if_neg (fun e=>h (cmpI_zero.1 e))]
  rw [decide_eq_decide,cmpI_lt]
  omega
theorem swoL:SWO (ltOf cmpL) where
 irrefl x:=by rw [ltL];simp
 trans x y z h1 h2:=by rw [ltL] at *;simp at *;omega
 ntrans x y z h1 h2:=by rw [ltL] at *;simp at *;omega
theorem Tryz.isAggLine (w:World):(isAgg 83).run Tryz.prog w=.ok true w:=by kernel_rfl
theorem Tryz.sizeOfLine (w:World):(Go.sizeOf 83).run Tryz.prog w=.ok 2 w:=by kernel_rfl
theorem holdsK_of_own {w:World} {B g cap:Nat} {ls:List (Int × Int)} (h:OwnL w B (.slice (some ⟨g,0,none⟩) ls.length cap) ls):HoldsK encL 2 w g 0 ls.toArray:=by
 intro j hj
 rw [size_flatK] at hj
 have hj':j < ls.length * 2:=by simpa using hj
 rw [get_flatK _ _ _ _ hj]
 have hc:=World.ownsRow.cellAt h j hj'
 have hf:=World.ownsRow.frozenAt h j
 rw [Nat.zero_add]
 refine ⟨?_,hf⟩
 rw [hc]
 have hi:j / 2 < ls.length:=by omega
 have hg:=cellsL_get ls (j / 2) (ls[j / 2]).1 (ls[j / 2]).2 (by simp [hi])
 have he:(ls.toArray)[j / 2]! = ls[j / 2]:=by simp [hi]
 rw [he]
 rcases (show j % 2=0 ∨ j % 2=1 by omega) with h0 | h1
 ·
  rw [h0]
  have e:j / 2 * 2=j:=by omega
  rw [e] at hg
  exact hg.1
 ·
  rw [h1]
  have e:j / 2 * 2+1=j:=by omega
  rw [e] at hg
  exact hg.2
theorem lies_of_holdsK {w:World} {g:Nat} {ls:List (Int × Int)} (h:HoldsK encL 2 w g 0 ls.toArray) (hg:g < w.heap.size):Lies w (some ⟨g,0,none⟩) ls:=by
 refine .inr ⟨g,0,rfl,hg,fun i x y hi=>?_⟩
 have hil:i < ls.length:=by
  rcases Nat.lt_or_ge i ls.length with h | h
  · exact h
  · simp [List.getElem?_eq_none h] at hi
 have h0:=(h.cell (i:=i) (c:=0) (by simpa using hil) (by decide)).1
 have h1:=(h.cell (i:=i) (c:=1) (by simpa using hil) (by decide)).1
 have he:(ls.toArray)[i]! = (x,y):=by
  simp [hil] at hi
  simp [hil,hi]
 rw [he] at h0 h1
 exact ⟨h0,h1⟩
theorem below_grow {B:Nat} {w0 w:World} (h:Go.RowKit.Below B w0 w) (os:Array Obj) (hB:B ≤ w.heap.size):Go.RowKit.Below B w0 (grow w os):=
 h.trans ⟨rfl,rfl,rfl,by simp,fun k hk=>by show (w.heap ++ os)[k]? = _;rw [Array.getElem?_append_left (by omega)]⟩
def SortedL (ls:List (Int × Int)):Prop:=∀ (i j:Nat) (x y:Int × Int),i < j → ls[i]? = some x → ls[j]? = some y → y.2 < x.2 ∨ (y.2=x.2 ∧ y.1 ≤ x.1)
theorem steepest_ok (ad:Addr) (cap:Nat) (ls:List (Int × Int)) (w:World) (hl:Lies w (some ad) ls) (h1:1 ≤ ls.length) (hn:ls.length ≤ 1000) :
  Calls Tryz.prog 181 #[.slice (some ad) ls.length cap] w fun e w'=>∃ g cap' ls',e=.returned (.slice (some ⟨g,0,none⟩) ls'.length cap') ∧ ls'.Perm ls ∧ SortedL ls' ∧ Lies w' (some ⟨g,0,none⟩) ls' ∧ Below w.heap.size w w':=by
 have HC:=(show Hid (Calls Tryz.prog 211 #[.slice (some ad) ls.length cap] w fun e w'=>∃ v,e=.returned v ∧ OwnL w' w.heap.size v ls ∧ Below w.heap.size w w') from clone_ok ad cap ls w hl hn)
 clear hl
 go_enter Tryz.func181,Tryz.ntmps181
 go_wp2_with fail
 refine HC.out.mono ?_
 rintro e w1 ⟨v,rfl,ho,hb⟩
 obtain ⟨g,cap1,rfl,hg⟩:∃ g cap1,v=.slice (some ⟨g,0,none⟩) ls.length cap1 ∧ w.heap.size ≤ g ∧ g < w1.heap.size:=by
  obtain ⟨g,cap1,hv,hb1,hb2⟩:=World.ownsRow.form ho h1
  exact ⟨g,cap1,hv,hb1,hb2⟩
 have hH:=holdsK_of_own ho
 have eg:∀ args w,(callFunc 213 args).run Tryz.prog w=.ok (.enter 213 args) w:=enters_of Tryz.func213 (by kernel_rfl) rfl
 have hcon:=AnyQ.slices_SortFunc Tryz.sortL 2 Tryz.isAggLine Tryz.sizeOfLine encL (fun _=>rfl) (fun x v hv=>by simp [encL] at hv;rcases hv with rfl | rfl <;> rfl) cmpL swoL 213 #[] g 0 cap1 ls.toArray w1 eg (fun _ _ _ _ x y=>order_call x y _) hH hg.2 (by simp;omega)
 change Calls Tryz.prog 212 _ _ _ at hcon
 rw [List.size_toArray] at hcon
 have HS:=(show Hid (Calls Tryz.prog 212 #[.slice (some ⟨g,0,none⟩) ls.length cap1,.func (.func 213) #[] #[]] w1 fun e w'=>e=.returned (.tuple #[]) ∧ ∃ d' n os,PermIn 0 ls.length ls.toArray d' ∧ SortedIn (ltOf cmpL) 0 ls.length d' ∧ w'=sortWorldK encL 2 w1 g 0 n d' os) from hcon)
 have HH:Hid (HoldsK encL 2 w1 g 0 ls.toArray):=hH
 have HB:Hid (Below w.heap.size w w1):=hb
 clear hcon hH ho hb eg
 go_wp2_with fail
 refine HS.out.mono ?_
 rintro e w2 ⟨rfl,d',n,os,hp,hs,hw2⟩
 have hsz:d'.size=ls.length:=by have:=hp.1;simpa using this
 have hH2:HoldsK encL 2 w2 g 0 d':=by
  rw [hw2]
  exact holdsK_grow _ _ _ _ _ _ _ (by simp [putRowK,putRow,mapBlock];exact hg.2) (holdsK_putRowK _ _ _ _ _ ls.toArray d' HH.out (by simpa using hsz))
 have hb2:Below w.heap.size w w2:=by
  rw [hw2]
  have h1:Below w.heap.size w (putRowK encL 2 (Sort.ahead w1 n) g 0 d'):=Go.Lib.below_putRow HB.out hg.1
  exact below_grow h1 os (by have:=HB.out.size;have:=h1.size;exact this)
 have hg2:g < w2.heap.size:=by
  rw [hw2]
  simp [sortWorldK,putRowK,putRow,mapBlock]
  omega
 have hd:d'.toList.toArray=d':=by simp
 have hlen:d'.toList.length=ls.length:=by simpa using hsz
 have hperm:d'.toList.Perm ls:=by
  have:=hp.2.2
  rw [Array.extract_eq_self_of_le (by omega),Array.extract_eq_self_of_le (by simp)] at this
  simpa using this
 have hsort:SortedL d'.toList:=by
  intro i j x y hij hx hy
  have hjl:j < d'.toList.length:=by
   rcases Nat.lt_or_ge j d'.toList.length with h | h
   · exact h
   · simp [List.getElem?_eq_none h] at hy
  have:=hs i j (Nat.zero_le _) hij (by omega)
  rw [ltL] at this
  have hx':d'[i]! = x:=by rw [Array.getElem?_toList] at hx;rw [getElem!_def,hx]
  have hy':d'[j]! = y:=by rw [Array.getElem?_toList] at hy;rw [getElem!_def,hy]
  rw [hx',hy'] at this
  have:=of_decide_eq_false this
  omega
 have HR:Hid (d'.toList.Perm ls ∧ SortedL d'.toList ∧ Lies w2 (some ⟨g,0,none⟩) d'.toList ∧ Below w.heap.size w w2):=⟨hperm,hsort,lies_of_holdsK (by rw [hd];exact hH2) hg2,hb2⟩
 have HN:Hid (d'.toList.length=ls.length):=hlen
 clear hw2 hH2 hb2 hg2 hd hlen hperm hsort hp hs hsz
 go_wp2_with fail
 go_ret
 exact ⟨g,cap1,d'.toList,by rw [HN.out];rfl,HR.out.1,HR.out.2.1,HR.out.2.2.1,HR.out.2.2.2⟩
end Go.Proofs.YtipdclphpkgceaaGreatDoor

namespace Go.Proofs.YtipdclphpkgceaaGreatDoor
open Go.ChangeShapes Go.WideShapes Go.ChangeAt Go.RowKit Go.Shelf
theorem Tryz.oneRow:((List.range 342).filter fun t=>Tryz.prog.rowNamed t [101,114,114,111,114])=[25]:=by kernel_rfl
theorem Tryz.sizeTypes:Tryz.prog.types.size=342:=by kernel_rfl
theorem Tryz.handleErr:typeHandle Tryz.prog 25=.pointer (some ⟨16,25,none⟩):=by kernel_rfl
theorem Tryz.gType:Tryz.prog.globalNamed "errors.errorType" = some 9:=by kernel_rfl
def nth9 (a0 a1 a2 a3 a4 a5 a6 a7 a8:Addr):Nat → Addr
 | 0=>a0 | 1=>a1 | 2=>a2 | 3=>a3 | 4=>a4 | 5=>a5 | 6=>a6 | 7=>a7 | _=>a8
theorem ne_of_text {W:World} {a b:Addr} {s u:ByteArray} {x y:List UInt8} (ha:W.cell? a=some (.string s)) (hb:W.cell? b=some (.string u)) (hs:s.data.toList=x) (hu:u.data.toList=y) (h:x ≠ y):a ≠ b:=by
 rintro rfl
 rw [ha] at hb
 injection hb with hb
 injection hb with hb
 subst hb
 exact h (hs.symm.trans hu)
theorem errTexts_ne (i j:Nat) (hi:six i) (hj:six j) (h:i ≠ j):errText ((i:Int)+1) ≠ errText ((j:Int)+1):=by
 have hi':i=0 ∨ i=1 ∨ i=2 ∨ i=3 ∨ i=4 ∨ i=8:=by unfold six at hi;omega
 have hj':j=0 ∨ j=1 ∨ j=2 ∨ j=3 ∨ j=4 ∨ j=8:=by unfold six at hj;omega
 rcases hi' with rfl | rfl | rfl | rfl | rfl | rfl <;> rcases hj' with rfl | rfl | rfl | rfl | rfl | rfl <;> first | exact absurd rfl h | decide
theorem handle_of {W:World} (h2:handlesMet Tryz.prog [("errors.errorType",Rows.laid_errors_errorType)] W):W.cell? ⟨9,0,none⟩=some (.iface 151 (.agg #[.pointer (some ⟨16,25,none⟩)])):=by
 obtain ⟨name,u,ty,e1,e2,e3,e4,e5⟩:=h2 _ (List.mem_singleton.2 rfl)
 have en:name=[101,114,114,111,114]:=(Option.some.inj e1).symm
 subst en
 obtain rfl:u=151:=Option.some.inj (e2.symm.trans (by kernel_rfl))
 have hm:ty ∈ (List.range 342).filter fun t=>Tryz.prog.rowNamed t [101,114,114,111,114]:=List.mem_filter.2 ⟨List.mem_range.2 (by rw [← Tryz.sizeTypes];exact e3),e4⟩
 rw [Tryz.oneRow] at hm
 obtain rfl:=List.mem_singleton.1 hm
 rw [Tryz.handleErr] at e5
 simpa using World.var?_cell Tryz.gType e5 0
theorem maxLen_of {W:World} (h:W.ShapedOpen Tryz.prog):∃ m,W.cell? ⟨10,0,none⟩=some (.int .i64 m):=
 cell_of_shapedOpen_int (t:=3) (zero:=#[.int .i64 0]) h (of_decide_eq_true (by kernel_rfl)) (by kernel_rfl) rfl (by kernel_rfl) (by kernel_rfl) Tryz.underlying3
def nameTab:String:=(Rows.scriptReadsRow.laid[2]'(by decide)).1
theorem itoa_of {W:World} (h:∀ V,Below W.heap.size W V → Go.Lib.TabIs Tryz.prog V nameTab .u64 Go.Lib.pow10Tab):ItoaOk W:=fun V hV n h0 h1=>
 (Any.strconv_Itoa Tryz.laysM171 n h0 h1 V (h V hV)).mono fun e w' ⟨he,k,os,hw⟩=>⟨he,by rw [hw];exact below_grow (below_drewN (Below.refl _ _) k) os (by simp)⟩
theorem envR_of_laid {W:World} (h:laidMetH Tryz.prog Rows.scriptReadsRow.laid W) (hs:W.ShapedOpen Tryz.prog):∃ ad a5 a6 a7,Env W ad ∧ Errs3x W a5 a6 a7:=by
 have h':laidMet Tryz.prog (Rows.scriptReadsRow.laid.take 4 ++ Rows.scriptReadsRow.laid.drop 5) W ∧ handlesMet Tryz.prog [("errors.errorType",Rows.laid_errors_errorType)] W:=h
 obtain ⟨h0,h2⟩:=h'
 have hty:=handle_of h2
 have htab:=Go.Lib.tabIs_of_head (k:=.u64) (zs:=Go.Lib.pow10Tab) (g:=13) (t:=253) (e:=222) (n:=20) (by kernel_rfl) (by kernel_rfl) Tryz.underlying253 Tryz.underlying222 (by kernel_rfl) (by kernel_rfl) h0.tail.tail
 have h1:=h0.tail.tail.tail.tail
 obtain ⟨a0,s0,v0,c0,t0,b0⟩:=sentinel_of_laid (g:=1) h1 rfl (by kernel_rfl) (by kernel_rfl)
 obtain ⟨a1,s1,v1,c1,t1,b1⟩:=sentinel_of_laid (g:=0) h1.tail rfl (by kernel_rfl) (by kernel_rfl)
 obtain ⟨a2,s2,v2,c2,t2,b2⟩:=sentinel_of_laid (g:=2) h1.tail.tail rfl (by kernel_rfl) (by kernel_rfl)
 obtain ⟨a3,s3,v3,c3,t3,b3⟩:=sentinel_of_laid (g:=3) h1.tail.tail.tail rfl (by kernel_rfl) (by kernel_rfl)
 obtain ⟨a4,s4,v4,c4,t4,b4⟩:=sentinel_of_laid (g:=4) h1.tail.tail.tail.tail rfl (by kernel_rfl) (by kernel_rfl)
 obtain ⟨a5,s5,v5,c5,t5,b5⟩:=sentinel_of_laid (g:=5) h1.tail.tail.tail.tail.tail rfl (by kernel_rfl) (by kernel_rfl)
 obtain ⟨a6,s6,v6,c6,t6,b6⟩:=sentinel_of_laid (g:=6) h1.tail.tail.tail.tail.tail.tail rfl (by kernel_rfl) (by kernel_rfl)
 obtain ⟨a7,s7,v7,c7,t7,b7⟩:=sentinel_of_laid (g:=7) h1.tail.tail.tail.tail.tail.tail.tail rfl (by kernel_rfl) (by kernel_rfl)
 obtain ⟨a8,s8,v8,c8,t8,b8⟩:=sentinel_of_laid (g:=8) h1.tail.tail.tail.tail.tail.tail.tail.tail rfl (by kernel_rfl) (by kernel_rfl)
 have htx:∀ i,six i → ∃ s:ByteArray,W.cell? (nth9 a0 a1 a2 a3 a4 a5 a6 a7 a8 i)=some (.string s) ∧ s.data.toList=errText ((i:Int)+1):=fun i hi=>by
  have hi':i=0 ∨ i=1 ∨ i=2 ∨ i=3 ∨ i=4 ∨ i=8:=by unfold six at hi;omega
  rcases hi' with rfl | rfl | rfl | rfl | rfl | rfl
  · exact ⟨s0,c0,t0⟩
  · exact ⟨s1,c1,t1⟩
  · exact ⟨s2,c2,t2⟩
  · exact ⟨s3,c3,t3⟩
  · exact ⟨s4,c4,t4⟩
  · exact ⟨s8,c8,t8⟩
 refine ⟨nth9 a0 a1 a2 a3 a4 a5 a6 a7 a8,a5,a6,a7,⟨⟨hty,v0,v1,v2,v3,v4,v8,?_,?_,htx⟩,maxLen_of hs,itoa_of fun V hV=>Go.Lib.tabBelow_of_tabIs htab V hV⟩,⟨v5,v6,v7⟩⟩
 ·
  intro i j hi hj hij
  obtain ⟨s,e1,e2⟩:=htx i hi
  obtain ⟨u,e3,e4⟩:=htx j hj
  exact ne_of_text e1 e3 e2 e4 (errTexts_ne i j hi hj hij)
 ·
  intro i hi
  have hi':i=0 ∨ i=1 ∨ i=2 ∨ i=3 ∨ i=4 ∨ i=8:=by unfold six at hi;omega
  rcases hi' with rfl | rfl | rfl | rfl | rfl | rfl
  · exact b0
  · exact b1
  · exact b2
  · exact b3
  · exact b4
  · exact b8
def baseT (P:Program) (os:Os):World:=
 { World.holding P os ⟨#[],#[],[]⟩ with heap:=⟨Lay.setRows (World.holding P os ⟨#[],#[],[]⟩).heap.toList [(9,[.iface 151 (.agg #[.pointer (some ⟨16,25,none⟩)])])]⟩ }
def startT (P:Program) (os:Os) (laid:List (String × DataW Unit)):World:=(baseT P os).layVars P (laid.filter fun x=>x.2.handleName?.isNone)
theorem startT_os (os:Os) (laid:List (String × DataW Unit)):(startT Tryz.prog os laid).os=os:=World.layVars_os _ _ _
theorem startT_met {os:Os} {laid:List (String × DataW Unit)} (args:Array Value)
  (hf:(baseT Tryz.prog os).layFits Tryz.prog (laid.filter fun x=>x.2.handleName?.isNone) []=true)
  (hi:(baseT Tryz.prog os).layIfaces Tryz.prog (laid.filter fun x=>x.2.handleName?.isNone) (startT Tryz.prog os laid)=true) :
  laidMet Tryz.prog (laid.filter fun x=>x.2.handleName?.isNone) ((startT Tryz.prog os laid).forCall (fun _ _=>0) ⟨#[],args,[]⟩).memory:=by
 obtain ⟨L,hL⟩:∃ L,(laid.filter fun x=>x.2.handleName?.isNone)=L:=⟨_,rfl⟩
 have hall:∀ x ∈ L,(L.map (·.1)).contains x.1=true:=fun x hx=>List.contains_iff_mem.2 (List.mem_map_of_mem hx)
 have e1:(L.filter fun x=>(L.map (·.1)).contains x.1)=L:=List.filter_eq_self.2 hall
 have e2:(L.filter fun x=>!(L.map (·.1)).contains x.1)=[]:=List.filter_eq_nil_iff.2 fun x hx=>by rw [hall x hx];decide
 have hs:startT Tryz.prog os laid=(baseT Tryz.prog os).layVars Tryz.prog L:=by unfold startT;rw [hL]
 rw [hL] at hf hi ⊢
 have h:laidMet Tryz.prog L (startT Tryz.prog os laid):=laidMet_layVars (w0:=baseT Tryz.prog os) (L.map (·.1)) [] (by rw [e1,hs]) (by rw [e1];exact hf) (by rw [e1];exact hi) (by rw [e2];exact LaidIn.none)
 exact h.of_heap (by simp [World.memory,World.forCall,Input.heap])
theorem startR_met (os:Os) (args:Array Value):laidMetH Tryz.prog Rows.scriptReadsRow.laid ((startT Tryz.prog os Rows.scriptReadsRow.laid).forCall (fun _ _=>0) ⟨#[],args,[]⟩).memory:=
 laidMetH_of_parts3 (fuel:=8) (startT_met args (by kernel_rfl) (by kernel_rfl)) (by kernel_rfl) (by kernel_rfl)
theorem open_texts {H:Type} {enc:TypeId × Value → H} {W:World} {base:Nat} {v:Value} {d:DataW H} {p:List MemPlace} (hv:Value.okWide Tryz.prog W .any base 22 v)
  (h:DataW.Trod enc Tryz.prog W 0 (fun _=>true) true 22 v d p) :
  ∃ a cap ls,v=.slice a ls.length cap ∧ LiesW W a ls ∧ ls.length ≤ cap ∧ cap ≤ maxLen ∧ (a=none → ls=[] ∧ cap=0) ∧ ∀ x ∈ ls,x.length ≤ maxLen:=by
 obtain ⟨a0,len0,cap0,rfl⟩:=okWide_slice Tryz.underlying22 hv
 obtain ⟨fuel,hf⟩:=h
 rcases Go.Deep.open_strs Tryz.underlying22 Tryz.underlying9 Tryz.cellsStr hf with ⟨hcs,_⟩ | ⟨x,l,c,m,Sx,hcs,_,hl,hm,hmm,_,hcell⟩
 ·
  simp [Value.cells] at hcs
  obtain ⟨rfl,rfl,rfl⟩:=hcs
  exact ⟨none,0,[],rfl,.inl rfl,by simp,by simp [maxLen],fun _=>⟨rfl,rfl⟩,fun x hx=>by simp at hx⟩
 ·
  simp [Value.cells] at hcs
  obtain ⟨rfl,rfl,rfl⟩:=hcs
  have hmc:m=cap0:=by simpa using hmm
  subst hmc
  refine ⟨some x,m,(List.range len0).map fun i=>(Sx i).data.toList,by simp,?_,by simpa using hl,hm,(fun e=>by cases e),fun y hy=>?_⟩
  ·
   by_cases h0:len0=0
   · subst h0;exact .inl (by simp)
   ·
    obtain ⟨b,off,spot⟩:=x
    have hc0:=(hcell 0 (by omega)).1
    have hspot:spot=none:=by simpa [Addr.add] using World.cell?_spot hc0
    subst hspot
    refine .inr ⟨b,off,rfl,by simpa [Addr.add] using cell_lt hc0,fun i y hi=>?_⟩
    rw [List.getElem?_map] at hi
    obtain ⟨j,h1,h2⟩:=Option.map_eq_some_iff.1 hi
    have hlt:=lt_of_get h1
    rw [List.length_range] at hlt
    rw [List.getElem?_range hlt] at h1
    obtain rfl:=Option.some.inj h1
    have:=(hcell i (by omega)).1
    rw [Addr.add_lit] at this
    rw [this,← h2]
  ·
   obtain ⟨i,h1,h2⟩:=List.mem_map.1 hy
   have:=(hcell i (by have:=List.mem_range.1 h1;omega)).2
   rw [← h2]
   exact this
end Go.Proofs.YtipdclphpkgceaaGreatDoor
