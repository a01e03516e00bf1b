/- What the document's leap, days, ahead answer, of years that are no longer than 9999. -/
import Derived.Test.YthinnmfhjikobaaPlain3
namespace Go.Proofs.Ythinnmfhjikobaa
open Go.RowKit

set_option maxHeartbeats 400000 in
theorem refLeap (y : Nat) (w : World) (hy : y ≤ 10000) :
    Calls Try.prog 33 #[.int .i64 (y : Int)] w fun e w' => e = .returned (.bool (leapY y)) ∧ w' = w := by
  by_cases h4 : y % 4 = 0
  · by_cases h100 : y % 100 = 0
    · by_cases h400 : y % 400 = 0
      · have H : Hid (leapY y = true) := leap_yes y ⟨h4, .inr h400⟩
        have e4 : (y : Int) % 4 = 0 := by omega
        have e100 : (y : Int) % 100 = 0 := by omega
        have e400 : (y : Int) % 400 = 0 := by omega
        clear h4 h100 h400
        go_enter Try.func33, Try.ntmps33
        go_wp2
        go_ret
        exact ⟨ret_b H.out.symm, rfl⟩
      · have H : Hid (leapY y = false) := leap_no y (by omega)
        have e4 : (y : Int) % 4 = 0 := by omega
        have e100 : (y : Int) % 100 = 0 := by omega
        have e400 : ¬ (y : Int) % 400 = 0 := by omega
        clear h4 h100 h400
        go_enter Try.func33, Try.ntmps33
        go_wp2
        go_ret
        exact ⟨ret_b (by rw [H.out]; simpa using e400), rfl⟩
    · have H : Hid (leapY y = true) := leap_yes y ⟨h4, .inl h100⟩
      have e4 : (y : Int) % 4 = 0 := by omega
      have e100 : ¬ (y : Int) % 100 = 0 := by omega
      clear h4 h100
      go_enter Try.func33, Try.ntmps33
      go_wp2
      go_ret
      exact ⟨ret_b H.out.symm, rfl⟩
  · have H : Hid (leapY y = false) := leap_no y (by omega)
    have e4 : ¬ (y : Int) % 4 = 0 := by omega
    clear h4
    go_enter Try.func33, Try.ntmps33
    go_wp2
    go_ret
    exact ⟨ret_b H.out.symm, rfl⟩

set_option maxHeartbeats 400000 in
theorem refAhead (y : Nat) (w : World) (h1 : 1 ≤ y) (hy : y ≤ 10000) :
    Calls Try.prog 25 #[.int .i64 (y : Int)] w fun e w' => e = .returned (.int .i64 (aheadY y : Int)) ∧ w' = w := by
  obtain ⟨n, hn⟩ : ∃ n, y = n + 1 := ⟨y - 1, by omega⟩
  subst hn
  have H : Hid (aheadY (n + 1) = 365 * n + n / 4 - n / 100 + n / 400) := by unfold Hid aheadY; rw [Nat.add_sub_cancel]
  have hle : n / 100 ≤ n / 4 := by omega
  go_enter Try.func25, Try.ntmps25
  go_wp2
  go_ret
  refine ⟨ret_i ?_, rfl⟩
  rw [H.out]; omega
end Go.Proofs.Ythinnmfhjikobaa
