/-
  The library's functions that package rule calls, as this program holds them: the numbers of the functions and types that the contracts of the library's texts speak of.
-/
import Derived.Shelf.Small.Strs
import Derived.Test.YtkalnaidccgbiaaChecked
namespace Go.Proofs.Ytkalnaidccgbiaa
open Go.Shelf
def rS106_ren : Go.Shelf.Ren := ⟨fun | 106 => 34 | 213 => 39 | 265 => 43 | n => n, fun | 9 => 9 | 3 => 3 | n => n, fun | n => n⟩
theorem rS106 : Go.Proofs.Lays.n106 Try.prog rS106_ren := {
  mixed := by kernel_rfl
  f106 := Try.func34.trans (congrArg some (by kernel_rfl))
  f213 := Try.func39.trans (congrArg some (by kernel_rfl))
  f265 := Try.func43.trans (congrArg some (by kernel_rfl))
  t3 := Try.underlying3
  a3 := Try.isAgg3
  z3 := Try.sizeOf3
  v3 := Try.zeroValue3
  t9 := Try.underlying9
  a9 := Try.isAgg9
  z9 := Try.sizeOf9
  v9 := Try.zeroValue9 }
end Go.Proofs.Ytkalnaidccgbiaa
