/- A part of the proof. -/
import Derived.Shelf.Small.Bits
import Derived.Shelf.Small.Strs
import Derived.Shelf.Strconv.Itoa0
import Derived.Shelf.Strings.Search1
import Derived.Shelf.Strings.Search2
import Derived.Shelf.Strings.Search3
import Derived.Shelf.Strings.Cut
import Derived.Shelf.Strings.Count
import Derived.Shelf.LaysM
import Derived.Shelf.Strings.Shaped
import Derived.Shelf.Strings.Split
import Derived.Shelf.Bits.Mul64
import Derived.Shelf.Unicode.DecodeSlow
import Derived.Test.YtmjjefnmabbgdaaGreatDoorChecked
import Derived.Test.YtmjjefnmabbgdaaGreatDoorSRgW
namespace Go.Proofs.YtmjjefnmabbgdaaGreatDoor
set_option linter.unusedVariables false
set_option linter.unusedSimpArgs false
set_option maxRecDepth 100000
set_option maxHeartbeats 16000000
open Go.Shelf
def z33:Go.Shelf.Ren:=⟨fun|137=>334|217=>344|266=>353|n=>n,fun|9=>9|5=>5|3=>3|n=>n,fun|n=>n⟩
theorem z34:Go.Proofs.Lays.n137 Tryz.prog z33:={
 mixed:=by kernel_rfl
 f137:=Tryz.func334.trans (congrArg some (by kernel_rfl))
 f217:=Tryz.func344.trans (congrArg some (by kernel_rfl))
 f266:=Tryz.func353.trans (congrArg some (by kernel_rfl))
 t3:=Tryz.underlying3
 a3:=Tryz.isAgg3
 z3:=Tryz.sizeOf3
 v3:=Tryz.zeroValue3
 t5:=Tryz.underlying5
 a5:=Tryz.isAgg5
 z5:=Tryz.sizeOf5
 v5:=Tryz.zeroValue5
 t9:=Tryz.underlying9
 a9:=Tryz.isAgg9
 z9:=Tryz.sizeOf9
 v9:=Tryz.zeroValue9 }
def z35:Go.Shelf.Ren:=⟨fun|219=>336|217=>344|225=>348|224=>349|267=>350|266=>353|314=>357|n=>n,fun|9=>9|3=>3|4=>4|5=>5|46=>94|146=>331|51=>87|n=>n,fun|1=>3|n=>n⟩
theorem z36:Go.Proofs.Lays.n219 Tryz.prog z35:={
 mixed:=by kernel_rfl
 f217:=Tryz.func344.trans (congrArg some (by kernel_rfl))
 f219:=Tryz.func336.trans (congrArg some (by kernel_rfl))
 f224:=Tryz.func349.trans (congrArg some (by kernel_rfl))
 f225:=Tryz.func348.trans (congrArg some (by kernel_rfl))
 f266:=Tryz.func353.trans (congrArg some (by kernel_rfl))
 f267:=Tryz.func350.trans (congrArg some (by kernel_rfl))
 f314:=Tryz.func357.trans (congrArg some (by kernel_rfl))
 t3:=Tryz.underlying3
 a3:=Tryz.isAgg3
 z3:=Tryz.sizeOf3
 v3:=Tryz.zeroValue3
 t4:=Tryz.underlying4
 a4:=Tryz.isAgg4
 z4:=Tryz.sizeOf4
 v4:=Tryz.zeroValue4
 t5:=Tryz.underlying5
 a5:=Tryz.isAgg5
 z5:=Tryz.sizeOf5
 v5:=Tryz.zeroValue5
 t9:=Tryz.underlying9
 a9:=Tryz.isAgg9
 z9:=Tryz.sizeOf9
 v9:=Tryz.zeroValue9
 t46:=Tryz.underlying94
 a46:=Tryz.isAgg94
 z46:=Tryz.sizeOf94
 v46:=Tryz.zeroValue94
 t51:=Tryz.underlying87
 a51:=Tryz.isAgg87
 z51:=Tryz.sizeOf87
 v51:=Tryz.zeroValue87
 t146:=Tryz.underlying331
 a146:=Tryz.isAgg331
 z146:=Tryz.sizeOf331
 v146:=Tryz.zeroValue331
 g1:=by kernel_rfl }
def z37:Go.Shelf.Ren:=⟨fun|143=>347|219=>336|217=>344|225=>348|224=>349|267=>350|266=>353|314=>357|n=>n,fun|9=>9|3=>3|4=>4|5=>5|46=>94|146=>331|51=>87|n=>n,fun|1=>3|n=>n⟩
theorem z38:Go.Proofs.Lays.n143 Tryz.prog z37:={
 mixed:=by kernel_rfl
 f143:=Tryz.func347.trans (congrArg some (by kernel_rfl))
 f217:=Tryz.func344.trans (congrArg some (by kernel_rfl))
 f219:=Tryz.func336.trans (congrArg some (by kernel_rfl))
 f224:=Tryz.func349.trans (congrArg some (by kernel_rfl))
 f225:=Tryz.func348.trans (congrArg some (by kernel_rfl))
 f266:=Tryz.func353.trans (congrArg some (by kernel_rfl))
 f267:=Tryz.func350.trans (congrArg some (by kernel_rfl))
 f314:=Tryz.func357.trans (congrArg some (by kernel_rfl))
 t3:=Tryz.underlying3
 a3:=Tryz.isAgg3
 z3:=Tryz.sizeOf3
 v3:=Tryz.zeroValue3
 t4:=Tryz.underlying4
 a4:=Tryz.isAgg4
 z4:=Tryz.sizeOf4
 v4:=Tryz.zeroValue4
 t5:=Tryz.underlying5
 a5:=Tryz.isAgg5
 z5:=Tryz.sizeOf5
 v5:=Tryz.zeroValue5
 t9:=Tryz.underlying9
 a9:=Tryz.isAgg9
 z9:=Tryz.sizeOf9
 v9:=Tryz.zeroValue9
 t46:=Tryz.underlying94
 a46:=Tryz.isAgg94
 z46:=Tryz.sizeOf94
 v46:=Tryz.zeroValue94
 t51:=Tryz.underlying87
 a51:=Tryz.isAgg87
 z51:=Tryz.sizeOf87
 v51:=Tryz.zeroValue87
 t146:=Tryz.underlying331
 a146:=Tryz.isAgg331
 z146:=Tryz.sizeOf331
 v146:=Tryz.zeroValue331
 g1:=by kernel_rfl }
def z4a:Go.Shelf.Ren:=⟨fun|138=>346|195=>354|218=>356|143=>347|219=>336|217=>344|225=>348|224=>349|267=>350|266=>353|314=>357|n=>n,fun|9=>9|3=>3|4=>4|5=>5|0=>0|46=>94|146=>331|51=>87|n=>n,fun|1=>3|n=>n⟩
theorem z4b:Go.Proofs.Lays.n138 Tryz.prog z4a:={
 mixed:=by kernel_rfl
 f138:=Tryz.func346.trans (congrArg some (by kernel_rfl))
 f143:=Tryz.func347.trans (congrArg some (by kernel_rfl))
 f195:=Tryz.func354.trans (congrArg some (by kernel_rfl))
 f217:=Tryz.func344.trans (congrArg some (by kernel_rfl))
 f218:=Tryz.func356.trans (congrArg some (by kernel_rfl))
 f219:=Tryz.func336.trans (congrArg some (by kernel_rfl))
 f224:=Tryz.func349.trans (congrArg some (by kernel_rfl))
 f225:=Tryz.func348.trans (congrArg some (by kernel_rfl))
 f266:=Tryz.func353.trans (congrArg some (by kernel_rfl))
 f267:=Tryz.func350.trans (congrArg some (by kernel_rfl))
 f314:=Tryz.func357.trans (congrArg some (by kernel_rfl))
 t0:=Tryz.underlying0
 a0:=Tryz.isAgg0
 z0:=Tryz.sizeOf0
 v0:=Tryz.zeroValue0
 t3:=Tryz.underlying3
 a3:=Tryz.isAgg3
 z3:=Tryz.sizeOf3
 v3:=Tryz.zeroValue3
 t4:=Tryz.underlying4
 a4:=Tryz.isAgg4
 z4:=Tryz.sizeOf4
 v4:=Tryz.zeroValue4
 t5:=Tryz.underlying5
 a5:=Tryz.isAgg5
 z5:=Tryz.sizeOf5
 v5:=Tryz.zeroValue5
 t9:=Tryz.underlying9
 a9:=Tryz.isAgg9
 z9:=Tryz.sizeOf9
 v9:=Tryz.zeroValue9
 t46:=Tryz.underlying94
 a46:=Tryz.isAgg94
 z46:=Tryz.sizeOf94
 v46:=Tryz.zeroValue94
 t51:=Tryz.underlying87
 a51:=Tryz.isAgg87
 z51:=Tryz.sizeOf87
 v51:=Tryz.zeroValue87
 t146:=Tryz.underlying331
 a146:=Tryz.isAgg331
 z146:=Tryz.sizeOf331
 v146:=Tryz.zeroValue331
 g1:=by kernel_rfl }
def z4c:Go.Shelf.Ren:=⟨fun|221=>335|268=>345|138=>346|143=>347|195=>354|197=>355|218=>356|219=>336|260=>362|217=>344|225=>348|224=>349|267=>350|266=>353|314=>357|n=>n,fun|9=>9|3=>3|31=>35|4=>4|0=>0|105=>329|21=>21|5=>5|46=>94|119=>336|139=>339|138=>338|146=>331|51=>87|n=>n,fun|1=>3|3=>4|4=>5|n=>n⟩
theorem z4d:Go.Proofs.Lays.n221 Tryz.prog z4c:={
 mixed:=by kernel_rfl
 f138:=Tryz.func346.trans (congrArg some (by kernel_rfl))
 f143:=Tryz.func347.trans (congrArg some (by kernel_rfl))
 f195:=Tryz.func354.trans (congrArg some (by kernel_rfl))
 f197:=Tryz.func355.trans (congrArg some (by kernel_rfl))
 f217:=Tryz.func344.trans (congrArg some (by kernel_rfl))
 f218:=Tryz.func356.trans (congrArg some (by kernel_rfl))
 f219:=Tryz.func336.trans (congrArg some (by kernel_rfl))
 f221:=Tryz.func335.trans (congrArg some (by kernel_rfl))
 f224:=Tryz.func349.trans (congrArg some (by kernel_rfl))
 f225:=Tryz.func348.trans (congrArg some (by kernel_rfl))
 f260:=Tryz.func362.trans (congrArg some (by kernel_rfl))
 f266:=Tryz.func353.trans (congrArg some (by kernel_rfl))
 f267:=Tryz.func350.trans (congrArg some (by kernel_rfl))
 f268:=Tryz.func345.trans (congrArg some (by kernel_rfl))
 f314:=Tryz.func357.trans (congrArg some (by kernel_rfl))
 t0:=Tryz.underlying0
 a0:=Tryz.isAgg0
 z0:=Tryz.sizeOf0
 v0:=Tryz.zeroValue0
 t3:=Tryz.underlying3
 a3:=Tryz.isAgg3
 z3:=Tryz.sizeOf3
 v3:=Tryz.zeroValue3
 t4:=Tryz.underlying4
 a4:=Tryz.isAgg4
 z4:=Tryz.sizeOf4
 v4:=Tryz.zeroValue4
 t5:=Tryz.underlying5
 a5:=Tryz.isAgg5
 z5:=Tryz.sizeOf5
 v5:=Tryz.zeroValue5
 t9:=Tryz.underlying9
 a9:=Tryz.isAgg9
 z9:=Tryz.sizeOf9
 v9:=Tryz.zeroValue9
 t21:=Tryz.underlying21
 a21:=Tryz.isAgg21
 z21:=Tryz.sizeOf21
 v21:=Tryz.zeroValue21
 t31:=Tryz.underlying35
 a31:=Tryz.isAgg35
 z31:=Tryz.sizeOf35
 v31:=Tryz.zeroValue35
 t46:=Tryz.underlying94
 a46:=Tryz.isAgg94
 z46:=Tryz.sizeOf94
 v46:=Tryz.zeroValue94
 t51:=Tryz.underlying87
 a51:=Tryz.isAgg87
 z51:=Tryz.sizeOf87
 v51:=Tryz.zeroValue87
 t105:=Tryz.underlying329
 a105:=Tryz.isAgg329
 z105:=Tryz.sizeOf329
 v105:=Tryz.zeroValue329
 t119:=Tryz.underlying336
 a119:=Tryz.isAgg336
 z119:=Tryz.sizeOf336
 t138:=Tryz.underlying338
 a138:=Tryz.isAgg338
 z138:=Tryz.sizeOf338
 v138:=Tryz.zeroValue338
 t139:=Tryz.underlying339
 a139:=Tryz.isAgg339
 z139:=Tryz.sizeOf339
 v139:=Tryz.zeroValue339
 t146:=Tryz.underlying331
 a146:=Tryz.isAgg331
 z146:=Tryz.sizeOf331
 v146:=Tryz.zeroValue331
 g1:=by kernel_rfl
 g3:=by kernel_rfl
 g4:=by kernel_rfl }
def z4e:Go.Shelf.Ren:=⟨fun|106=>260|213=>297|265=>327|n=>n,fun|9=>9|3=>3|n=>n,fun|n=>n⟩
theorem z4f:Go.Proofs.Lays.n106 Tryz.prog z4e:={
 mixed:=by kernel_rfl
 f106:=Tryz.func260.trans (congrArg some (by kernel_rfl))
 f213:=Tryz.func297.trans (congrArg some (by kernel_rfl))
 f265:=Tryz.func327.trans (congrArg some (by kernel_rfl))
 t3:=Tryz.underlying3
 a3:=Tryz.isAgg3
 z3:=Tryz.sizeOf3
 v3:=Tryz.zeroValue3
 t9:=Tryz.underlying9
 a9:=Tryz.isAgg9
 z9:=Tryz.sizeOf9
 v9:=Tryz.zeroValue9 }
end Go.Proofs.YtmjjefnmabbgdaaGreatDoor
