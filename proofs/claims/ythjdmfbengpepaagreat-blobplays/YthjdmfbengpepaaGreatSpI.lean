/- One call of both: Write. -/
import Derived.Test.YthjdmfbengpepaaGreatSpD
namespace Go.Proofs.YthjdmfbengpepaaGreat
open Go.RowKit

end Go.Proofs.YthjdmfbengpepaaGreat
