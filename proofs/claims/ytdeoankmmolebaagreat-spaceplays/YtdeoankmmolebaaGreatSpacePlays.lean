/- For every number and every script the call of SpacePlays returns true and leaves what came in as it was; no condition. -/
import Derived.Test.YtdeoankmmolebaaGreatRows
import Derived.Test.YtdeoankmmolebaaGreatB45
import Derived.Test.YtdeoankmmolebaaGreatSpK
import Derived.ProofKit
import Derived.OpenShut
import Derived.SizedLaws
import Derived.ChangeOld
namespace Go.Proofs.YtdeoankmmolebaaGreat.spacePlays
open Go.ChangeShapes Go.WideShapes Go.ChangeAt Go.RowKit

theorem own : ownKnob Tryz.prog.godebug = none := by kernel_rfl
theorem laidOut : laidOutB Tryz.prog = true := by kernel_rfl
end Go.Proofs.YtdeoankmmolebaaGreat.spacePlays
