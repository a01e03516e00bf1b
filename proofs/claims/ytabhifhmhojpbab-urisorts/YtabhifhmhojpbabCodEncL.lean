/- What uri.Encode answers, at a list of bytes. -/
import Derived.Test.YtabhifhmhojpbabCodEnc
import Derived.Test.YtabhifhmhojpbabUri1
namespace Go.Proofs.Ytabhifhmhojpbab
open Go.RowKit

theorem codEncodeL (l : List UInt8) (sl : Bool) (w : World) (hs : l.length ≤ 40000000000000) :
    Calls Try.prog 10 #[.string (str l), .bool sl] w fun e w' => e = .returned (.string (str (encL sl l))) ∧ Below w.heap.size w w' := by
  have h := codEncode (str l) sl w (by rw [str_size]; exact hs)
  rw [str_list] at h
  exact h
end Go.Proofs.Ytabhifhmhojpbab
