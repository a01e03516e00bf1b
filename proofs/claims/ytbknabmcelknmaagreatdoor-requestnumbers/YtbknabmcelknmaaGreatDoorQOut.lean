/- What Query hands out. -/
import Derived.Test.YtbknabmcelknmaaGreatDoorOwnP
import Derived.Test.YtbknabmcelknmaaGreatDoorUri4
namespace Go.Proofs.YtbknabmcelknmaaGreatDoor
open Go.RowKit

/-- what Query hands out -/
def QOut (l : List UInt8) (e : Ending) (w' : World) : Prop := ∃ a n cap, e = .returned (.tuple #[.slice a n cap, .int .i64 (queryC l)]) ∧ IsP w' a n cap (queryP l)
theorem QOut.none {l : List UInt8} {w' : World} (h : queryL l = none) : QOut l (.returned (.tuple #[.slice none 0 0, .int .i64 13])) w' := by
  obtain ⟨h1, h2⟩ := query_none h
  exact ⟨Option.none, 0, 0, by rw [h2], by rw [h1]; exact isP_nil w'⟩
theorem QOut.some {l : List UInt8} {w' : World} {out : List Pr} {a : Option Addr} {n cap : Nat} (h : queryL l = Option.some out) (hp : IsP w' a n cap out) : QOut l (.returned (.tuple #[.slice a n cap, .int .i64 0])) w' := by
  obtain ⟨h1, h2⟩ := query_some h
  exact ⟨a, n, cap, by rw [h2], by rw [h1]; exact hp⟩
end Go.Proofs.YtbknabmcelknmaaGreatDoor
