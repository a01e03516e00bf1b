/- For every script the call of SpaceOnce returns true and leaves what came in as it was; no condition. -/
import Derived.Test.YtdeoankmmolebaaGreatRows
import Derived.Test.YtdeoankmmolebaaGreatPsZ
import Derived.Test.YtdeoankmmolebaaGreatSpP
import Derived.Test.YtdeoankmmolebaaGreatB45
import Derived.ProofKit
import Derived.OpenShut
import Derived.SizedLaws
import Derived.ChangeOld
namespace Go.Proofs.YtdeoankmmolebaaGreat.spaceOnce
open Go.ChangeShapes Go.WideShapes Go.ChangeAt Go.RowKit

theorem own : ownKnob Tryz.prog.godebug = none := by kernel_rfl
theorem laidOut : laidOutB Tryz.prog = true := by kernel_rfl
end Go.Proofs.YtdeoankmmolebaaGreat.spaceOnce
