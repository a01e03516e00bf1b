/- A constant text as bytes. -/
import Derived.Test.YtgcmojldegplaaaOwnS
import Derived.Lib.SlBytesConst
namespace Go.Proofs.Ytgcmojldegplaaa
open Go.RowKit

theorem isB_marked (w : World) (l : List UInt8) (fr : Nat × Nat) (hm : l.length ≤ maxLen) : IsB (w.alloc (.cells (bv l).toArray 5 fr)) (some ⟨w.heap.size, 0, none⟩) l.length l.length l :=
  ⟨rfl, Nat.le_refl _, hm, (fun e => by cases e), fun _ => ⟨w.heap.size, 0, rfl, fun i hi => by
    have h := bv_at l i hi
    have hh : (w.alloc (.cells (bv l).toArray 5 fr)).heap[w.heap.size]? = some (.cells (bv l).toArray 5 fr) := by
      show (w.heap.push _)[w.heap.size]? = _
      simp
    rw [Nat.zero_add]
    unfold World.cell?
    dsimp only
    rw [hh]
    simpa using h⟩⟩
end Go.Proofs.Ytgcmojldegplaaa
