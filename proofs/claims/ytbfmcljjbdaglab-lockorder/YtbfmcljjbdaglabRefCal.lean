/- What the document's leap, days, ahead answer, of years that are no longer than 9999. -/
import Derived.Test.YtbfmcljjbdaglabPlain3
namespace Go.Proofs.Ytbfmcljjbdaglab
open Go.RowKit

end Go.Proofs.Ytbfmcljjbdaglab
