/- Small facts on what a path's answer is. -/
import Derived.Test.YtbknabmcelknmaaGreatDoorUri4
namespace Go.Proofs.YtbknabmcelknmaaGreatDoor
open Go.RowKit

theorem ret_ssc {a b c d : ByteArray} {e f : Int} (h : a = b) (h2 : c = d) (h3 : e = f) : Ending.returned (.tuple #[.string a, .string c, .int .i64 e]) = .returned (.tuple #[.string b, .string d, .int .i64 f]) := by rw [h, h2, h3]
theorem ret_no {l : List UInt8} (h : pathL l = none) : Ending.returned (.tuple #[.string ⟨#[]⟩, .string ⟨#[]⟩, .int .i64 13]) = .returned (.tuple #[.string (str (pathB l)), .string (str (pathK l)), .int .i64 (pathC l)]) := by
  obtain ⟨h1, h2, h3⟩ := path_none h
  rw [h1, h2, h3]; rfl
end Go.Proofs.YtbknabmcelknmaaGreatDoor
