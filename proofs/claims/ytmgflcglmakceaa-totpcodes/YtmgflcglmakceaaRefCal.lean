/- What the document's leap, days, ahead answer, of years that are no longer than 9999. -/
import Derived.Test.YtmgflcglmakceaaPlain3
namespace Go.Proofs.Ytmgflcglmakceaa
open Go.RowKit

end Go.Proofs.Ytmgflcglmakceaa
