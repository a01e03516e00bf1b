/- What the document's leap, days, ahead answer, of years that are no longer than 9999. -/
import Derived.Test.YtjmkfkkkjcjplaaPlain3
namespace Go.Proofs.Ytjmkfkkkjcjplaa
open Go.RowKit

end Go.Proofs.Ytjmkfkkkjcjplaa
