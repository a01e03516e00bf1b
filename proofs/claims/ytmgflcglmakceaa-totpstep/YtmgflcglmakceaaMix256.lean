/- What mix256 answers. -/
import Derived.Test.YtmgflcglmakceaaSpec256
namespace Go.Proofs.Ytmgflcglmakceaa
open Go.RowKit
attribute [local go_sem] w_add w_addw w_xor w_and w_not w_notm w_shr3 w_shr10

theorem infoA8w : (Try.prog.info? 50).map (·.size) = some 8 := by kernel_rfl

end Go.Proofs.Ytmgflcglmakceaa
