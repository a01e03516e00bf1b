/- What the statements' light answers. -/
import Derived.Test.YtabblgompnmmeaaWords
namespace Go.Proofs.Ytabblgompnmmeaa
open Go.RowKit

def sumTo (f : Nat → Nat) : Nat → Nat
  | 0 => 0
  | k + 1 => sumTo f k + f k
theorem sumTo_le (f : Nat → Nat) (k n : Nat) (h : k ≤ n) : sumTo f k ≤ sumTo f n := by
  induction n with
  | zero => have : k = 0 := by omega
            subst this; exact Nat.le_refl _
  | succ n ih =>
    by_cases e : k = n + 1
    · subst e; exact Nat.le_refl _
    · have := ih (by omega)
      simp only [sumTo]; omega

theorem ret_boolL {a b : Bool} (h : a = b) : Ending.returned (.bool a) = .returned (.bool b) := by rw [h]

set_option maxHeartbeats 1000000 in
theorem lLight (B n : Nat) (f : Nat → Nat) (w : World) (hn : n ≤ 100) (hc : ∀ i, i < n → ∃ a c, w.cell? ⟨B, i, none⟩ = some (.slice a (f i) c)) (hs : sumTo f n ≤ 9223372036854775807) :
    Calls Try.prog 9 #[.slice (some ⟨B, 0, none⟩) n n] w fun e w' => e = .returned (.bool (decide (sumTo f n ≤ 200000))) ∧ w' = w := by
  have HC : Hid (∀ i, i < n → ∃ a c, w.cell? ⟨B, i, none⟩ = some (.slice a (f i) c)) := hc
  clear hc
  go_enter Try.func9, Try.ntmps9
  go_wp2
  go_loopw [3, 4] (fun v i wr => ∃ k : Nat, k ≤ n ∧ i = .int .i64 (k : Int) ∧ v = .int .i64 (sumTo f k : Int) ∧ wr = w) (fun _ i _ => n - (intOf i).toNat)
  case atStart => exact ⟨0, by omega, rfl, rfl, rfl⟩
  case round =>
    obtain ⟨k, hk, rfl, rfl, hww⟩ := hrel
    rw [hww]; clear hww wr
    by_cases hlt : k < n
    · obtain ⟨a, c, g⟩ := HC.out k hlt
      have hlt' : (k : Int) < (n : Int) := by omega
      have HV : Hid (sumTo f (k + 1) = sumTo f k + f k) := rfl
      have hle := sumTo_le f (k + 1) n (by omega)
      rw [HV.out] at hle
      generalize sumTo f k = N at *
      generalize f k = L at *
      go_wp2
      go_roundw
      case rel => exact ⟨k + 1, by omega, by go_num, by rw [HV.out]; go_num, by first | rfl | trivial⟩
      case measure => simp [intOf]; omega
    · have HE : Hid (k = n) := by unfold Hid; omega
      have hge : ¬ (k : Int) < (n : Int) := by omega
      go_wp2
      go_ret
      refine ⟨?_, rfl⟩
      rw [← HE.out]
      exact ret_boolL (by rw [decide_eq_decide]; omega)
end Go.Proofs.Ytabblgompnmmeaa
