/- One call of both: Commit. -/
import Derived.Test.YthjdmfbengpepaaGreatSpD
namespace Go.Proofs.YthjdmfbengpepaaGreat
open Go.RowKit

end Go.Proofs.YthjdmfbengpepaaGreat
