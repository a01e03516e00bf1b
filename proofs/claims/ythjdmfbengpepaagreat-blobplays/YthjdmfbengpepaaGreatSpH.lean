/- A script of stage 11 in a world. -/
import Derived.Test.YthjdmfbengpepaaGreatSpD
namespace Go.Proofs.YthjdmfbengpepaaGreat
open Go.RowKit

def sq0 : Sq := ⟨0, 0, 0⟩
structure OkS (o : Sq) : Prop where
  kind0 : -9223372036854775808 ≤ o.kind
  kind1 : o.kind ≤ 9223372036854775807
  at0 : -9223372036854775808 ≤ o.at_
  at1 : o.at_ ≤ 9223372036854775807
structure IsSs (w : World) (a : Option Addr) (len cap : Nat) (os : List Sq) : Prop where
  len_eq : os.length = len
  max : len ≤ 140737488351232
  cells : 0 < len → ∃ b off, a = some ⟨b, off, none⟩ ∧ b < w.heap.size ∧ ∀ i, i < len → ∀ j, j < 3 → w.cell? ⟨b, off + i * 3 + j, none⟩ = (sqc (os.getD i sq0))[j]?
  ok : ∀ i, i < len → OkS (os.getD i sq0)
end Go.Proofs.YthjdmfbengpepaaGreat
