/- A part of the proof. -/
import Derived.Test.YtmjjefnmabbgdaaGreatDoorSBoxC
namespace Go.Proofs.YtmjjefnmabbgdaaGreatDoor
set_option linter.unusedVariables false
set_option linter.unusedSimpArgs false
set_option maxRecDepth 100000
set_option maxHeartbeats 16000000
open Go.RowKit
end Go.Proofs.YtmjjefnmabbgdaaGreatDoor
