/- What the statements ask of the program's refs as bytes. -/
import Derived.Test.YthjdmfbengpepaaGreatBl3
import Derived.Test.YthjdmfbengpepaaGreatBl4
namespace Go.Proofs.YthjdmfbengpepaaGreat
open Go.RowKit

/-- what is asked of the program's Show and Read -/
structure BlrOK : Prop where
  show_ : ∀ (r : Rf) (q : RfA) (w : World), IsRf w r q → r.sum.length ≤ 100000 → r.secs.length ≤ 100000 → (∀ s ∈ r.secs, -9223372036854775808 ≤ s ∧ s ≤ 9223372036854775807) →
    Calls Tryz.prog 27 #[.agg (rfc r q).toArray] w fun e w' => ∃ v, e = .returned v ∧ OwnB w' w.heap.size v (showR r) ∧ Below w.heap.size w w'
  read : ∀ (a : Option Addr) (len cap : Nat) (b : List UInt8) (w : World), IsB w a len cap b → len ≤ 100000 →
    Calls Tryz.prog 25 #[.slice a len cap] w fun e w' => RdPost b e w' ∧ Below w.heap.size w w'
end Go.Proofs.YthjdmfbengpepaaGreat
