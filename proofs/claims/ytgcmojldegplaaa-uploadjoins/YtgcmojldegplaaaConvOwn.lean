/- A text of bytes that the call owns. -/
import Derived.Test.YtgcmojldegplaaaOwnS
import Derived.Laws.IdiomStrings
namespace Go.Proofs.Ytgcmojldegplaaa
open Go.RowKit

theorem conv_own (w : World) (base : Nat) (v : Value) (l : List UInt8) (h : OwnB w base v l) : (convert 26 9 v).run Try.prog w = .ok (.string ⟨l.toArray⟩) w := by
  obtain ⟨a, cap, rfl, hb⟩ := h.isB
  by_cases hl : 0 < l.length
  · obtain ⟨b, off, rfl, hc⟩ := hb.cells hl
    refine run_convert_bytes_back w 26 9 5 ⟨b, off, none⟩ cap l Try.underlying26 Try.underlying5 Try.underlying9 fun j hj => ?_
    rw [Addr.add_lit, hc j hj, nth_eq l j hj]
  · have : l = [] := List.eq_nil_of_length_eq_zero (by omega)
    subst this
    cases a with
    | none => exact run_convert_bytes_nil w 26 5 Try.underlying26 Try.underlying5 _ _ _ Try.underlying9
    | some x => exact run_convert_bytes_back w 26 9 5 x cap [] Try.underlying26 Try.underlying5 Try.underlying9 fun j hj => absurd hj (Nat.not_lt_zero _)

theorem ret_str {a b : List UInt8} (h : a = b) : Ending.returned (.string ⟨a.toArray⟩) = .returned (.string ⟨b.toArray⟩) := by rw [h]
end Go.Proofs.Ytgcmojldegplaaa
