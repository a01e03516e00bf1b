/- One call of both: Read. -/
import Derived.Test.YthjdmfbengpepaaGreatSpD
namespace Go.Proofs.YthjdmfbengpepaaGreat
open Go.RowKit

end Go.Proofs.YthjdmfbengpepaaGreat
