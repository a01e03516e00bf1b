/- What clock's Later and Near answer. -/
import Derived.Test.YtbfmcljjbdaglabPlain3
namespace Go.Proofs.Ytbfmcljjbdaglab
open Go.RowKit

end Go.Proofs.Ytbfmcljjbdaglab
