/- Civil and Day of the code and of the document: one answer. -/
import Derived.Test.YthinnmfhjikobaaCodDay
import Derived.Test.YthinnmfhjikobaaRefDay
namespace Go.Proofs.Ythinnmfhjikobaa
open Go.RowKit

theorem calls_bel {P : Program} {f : Nat} {args : Array Value} {w : World} {R : Ending → Prop} (h : Calls P f args w fun e w' => R e ∧ ∃ q, w' = w.drewN q) : Calls P f args w fun e w' => R e ∧ Below w.heap.size w w' := by
  refine h.mono ?_
  rintro e w' ⟨h1, q, rfl⟩
  exact ⟨h1, bel_drewN (Below.refl _ _) q⟩

theorem civ_or (day : Int) : (day < -719162 ∨ 2932896 < day) ∨ ∃ n y m d : Nat, day = (n : Int) - 719162 ∧ IsDate n y m d := by
  by_cases h : day < -719162 ∨ 2932896 < day
  · exact .inl h
  · obtain ⟨y, m, d, hd⟩ := exists_date (day + 719162).toNat (by omega)
    exact .inr ⟨_, y, m, d, by omega, hd⟩

theorem civ_both (day : Int) : ∃ Y M D : Int,
    (∀ w, Calls Try.prog 9 #[.int .i64 day] w fun e w' => e = .returned (.tuple #[.int .i64 Y, .int .i64 M, .int .i64 D]) ∧ Below w.heap.size w w') ∧
    (∀ w, Calls Try.prog 10 #[.int .i64 day] w fun e w' => e = .returned (.tuple #[.int .i64 Y, .int .i64 M, .int .i64 D]) ∧ Below w.heap.size w w') := by
  rcases civ_or day with h | ⟨n, y, m, d, rfl, hd⟩
  · exact ⟨0, 0, 0, fun w => codCivil_out day w h, fun w => calls_bel (refCivil_out day w h)⟩
  · exact ⟨y, m, d, fun w => codCivil_in n y m d w hd, fun w => calls_bel (refCivil_in n y m d w hd)⟩

theorem day_both (y m d : Int) : ∃ N E : Int,
    (∀ w, Calls Try.prog 11 #[.int .i64 y, .int .i64 m, .int .i64 d] w fun e w' => e = .returned (.tuple #[.int .i64 N, .int .i64 E]) ∧ Below w.heap.size w w') ∧
    (∀ w, Calls Try.prog 12 #[.int .i64 y, .int .i64 m, .int .i64 d] w fun e w' => e = .returned (.tuple #[.int .i64 N, .int .i64 E]) ∧ Below w.heap.size w w') := by
  rcases date_or y m d with h | ⟨n, Y, M, D, rfl, rfl, rfl, hd⟩
  · exact ⟨0, 6, fun w => codDay_out y m d w h, fun w => calls_bel (refDay_out y m d w h)⟩
  · exact ⟨(n : Int) - 719162, 0, fun w => codDay_in n Y M D w hd, fun w => calls_bel (refDay_in n Y M D w hd)⟩

theorem date0 : IsDate 719162 1970 1 1 := ⟨by decide, by decide, by decide, by decide, by decide, by decide, by decide⟩
theorem dateLast : IsDate 3652058 9999 12 31 := ⟨by decide, by decide, by decide, by decide, by decide, by decide, by decide⟩
theorem civ0 (w : World) : Calls Try.prog 9 #[.int .i64 0] w fun e w' => e = .returned (.tuple #[.int .i64 1970, .int .i64 1, .int .i64 1]) ∧ Below w.heap.size w w' :=
  codCivil_in 719162 1970 1 1 w date0
end Go.Proofs.Ythinnmfhjikobaa
