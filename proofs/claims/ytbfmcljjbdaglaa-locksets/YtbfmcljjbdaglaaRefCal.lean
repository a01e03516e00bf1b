/- What the document's leap, days, ahead answer, of years that are no longer than 9999. -/
import Derived.Test.YtbfmcljjbdaglaaPlain3
namespace Go.Proofs.Ytbfmcljjbdaglaa
open Go.RowKit

end Go.Proofs.Ytbfmcljjbdaglaa
