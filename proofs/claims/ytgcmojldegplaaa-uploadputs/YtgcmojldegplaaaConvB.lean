/- A text of any bytes. -/
import Derived.Test.YtgcmojldegplaaaConvOwn
import Derived.Test.YtgcmojldegplaaaUri1
namespace Go.Proofs.Ytgcmojldegplaaa
open Go.RowKit

theorem conv_isB (w : World) (a : Option Addr) (len cap : Nat) (l : List UInt8) (hb : IsB w a len cap l) : (convert 26 9 (.slice a len cap)).run Try.prog w = .ok (.string (str l)) w := by
  have hlen := hb.len_eq
  subst hlen
  by_cases hl : 0 < l.length
  · obtain ⟨b, off, rfl, hc⟩ := hb.cells hl
    refine run_convert_bytes_back w 26 9 5 ⟨b, off, none⟩ cap l Try.underlying26 Try.underlying5 Try.underlying9 fun j hj => ?_
    rw [Addr.add_lit, hc j hj, nth_eq l j hj]
  · have : l = [] := List.eq_nil_of_length_eq_zero (by omega)
    subst this
    cases a with
    | none => exact run_convert_bytes_nil w 26 5 Try.underlying26 Try.underlying5 _ _ _ Try.underlying9
    | some x => exact run_convert_bytes_back w 26 9 5 x cap [] Try.underlying26 Try.underlying5 Try.underlying9 fun j hj => absurd hj (Nat.not_lt_zero _)
theorem sL_str (l : List UInt8) : sL (str l) = l := by unfold sL str; simp
end Go.Proofs.Ytgcmojldegplaaa
