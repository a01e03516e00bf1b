/- What the document's Later and Near answer. -/
import Derived.Test.YtbfmcljjbdaglabRefCal
namespace Go.Proofs.Ytbfmcljjbdaglab
open Go.RowKit

end Go.Proofs.Ytbfmcljjbdaglab
