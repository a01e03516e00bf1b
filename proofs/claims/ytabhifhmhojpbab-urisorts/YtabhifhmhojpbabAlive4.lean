/- What must come at any rate: the chapter's examples. -/
import Derived.Test.YtabhifhmhojpbabCodPath
import Derived.Test.YtabhifhmhojpbabCodEncL
namespace Go.Proofs.Ytabhifhmhojpbab
open Go.RowKit

theorem ex_path : PathR [47, 98, 47, 107, 47, 108] = .returned (.tuple #[.string ⟨#[98]⟩, .string ⟨#[107, 47, 108]⟩, .int .i64 0]) := by rfl
theorem ex_enc : str (encL true [97, 32, 98, 47, 195, 169]) = ⟨#[97, 37, 50, 48, 98, 47, 37, 67, 51, 37, 65, 57]⟩ := by rfl

set_option maxHeartbeats 1000000 in
theorem lawAlive (w : World) : Calls Try.prog 5 #[] w fun e w' => e = .returned (.bool true) ∧ Below w.heap.size w w' := by
  have HP : ∀ w, Calls Try.prog 9 #[.string ⟨#[47, 98, 47, 107, 47, 108]⟩] w fun e w' => e = .returned (.tuple #[.string ⟨#[98]⟩, .string ⟨#[107, 47, 108]⟩, .int .i64 0]) ∧ Below w.heap.size w w' := fun w => by
    have := codPath [47, 98, 47, 107, 47, 108] w (by decide)
    rw [ex_path] at this
    exact this
  have HE : ∀ w, Calls Try.prog 10 #[.string ⟨#[97, 32, 98, 47, 195, 169]⟩, .bool true] w fun e w' => e = .returned (.string ⟨#[97, 37, 50, 48, 98, 47, 37, 67, 51, 37, 65, 57]⟩) ∧ Below w.heap.size w w' := fun w => by
    have := codEncodeL [97, 32, 98, 47, 195, 169] true w (by decide)
    rw [ex_enc] at this
    exact this
  go_enter Try.func5, Try.ntmps5
  go_wp2_with (first | (go_at_call 9; refine (HP _).mono ?_; rintro e x1 ⟨rfl, b1⟩) | (go_at_call 10; refine (HE _).mono ?_; rintro e x2 ⟨rfl, c2⟩))
  go_ret
  exact ⟨rfl, b1.trans (c2.mono b1.size)⟩
end Go.Proofs.Ytabhifhmhojpbab
