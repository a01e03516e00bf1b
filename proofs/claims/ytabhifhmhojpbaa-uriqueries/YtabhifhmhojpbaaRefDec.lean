/- What the document's digit and Decode answer. -/
import Derived.Test.YtabhifhmhojpbaaRefUri1
namespace Go.Proofs.Ytabhifhmhojpbaa
open Go.RowKit
attribute [local go_sem ↓] ixs

set_option maxHeartbeats 1000000 in
theorem refDigit (c : UInt8) (w : World) :
    Calls Try.prog 28 #[.int .u8 (c.toNat : Int)] w fun e w' => e = .returned (.int .i64 (digB c : Int)) ∧ w' = w := by
  obtain ⟨n, hn⟩ : ∃ n, n = c.toNat := ⟨_, rfl⟩
  have H : Hid (digB c = digN n) := by unfold Hid digB; rw [hn]
  have h256 : n < 256 := by rw [hn]; exact c.toNat_lt
  rw [← hn]
  clear hn
  by_cases c1 : n < 48
  · have i1 : (n : Int) < 48 := by omega
    go_enter Try.func28, Try.ntmps28
    go_wp2
    go_ret
    exact ⟨ret_i (by rw [H.out]; unfold digN; rw [if_neg (by omega), if_neg (by omega), if_neg (by omega)]; rfl), rfl⟩
  by_cases c2 : n ≤ 57
  · have i1 : (48 : Int) ≤ (n : Int) := by omega
    have i2 : (n : Int) ≤ 57 := by omega
    go_enter Try.func28, Try.ntmps28
    go_wp2
    go_ret
    exact ⟨ret_i (by rw [H.out]; unfold digN; rw [if_pos (by omega)]; omega), rfl⟩
  by_cases c3 : n < 65
  · have i1 : (57 : Int) < (n : Int) := by omega
    have i2 : (n : Int) < 65 := by omega
    go_enter Try.func28, Try.ntmps28
    go_wp2
    go_ret
    exact ⟨ret_i (by rw [H.out]; unfold digN; rw [if_neg (by omega), if_neg (by omega), if_neg (by omega)]; rfl), rfl⟩
  by_cases c4 : n ≤ 70
  · have i1 : (65 : Int) ≤ (n : Int) := by omega
    have i2 : (n : Int) ≤ 70 := by omega
    go_enter Try.func28, Try.ntmps28
    go_wp2
    go_ret
    exact ⟨ret_i (by rw [H.out]; unfold digN; rw [if_neg (by omega), if_neg (by omega), if_pos (by omega)]; omega), rfl⟩
  by_cases c5 : n < 97
  · have i1 : (70 : Int) < (n : Int) := by omega
    have i2 : (n : Int) < 97 := by omega
    go_enter Try.func28, Try.ntmps28
    go_wp2
    go_ret
    exact ⟨ret_i (by rw [H.out]; unfold digN; rw [if_neg (by omega), if_neg (by omega), if_neg (by omega)]; rfl), rfl⟩
  by_cases c6 : n ≤ 102
  · have i1 : (97 : Int) ≤ (n : Int) := by omega
    have i2 : (n : Int) ≤ 102 := by omega
    go_enter Try.func28, Try.ntmps28
    go_wp2
    go_ret
    exact ⟨ret_i (by rw [H.out]; unfold digN; rw [if_neg (by omega), if_pos (by omega)]; omega), rfl⟩
  have i1 : (102 : Int) < (n : Int) := by omega
  go_enter Try.func28, Try.ntmps28
  go_wp2
  go_ret
  exact ⟨ret_i (by rw [H.out]; unfold digN; rw [if_neg (by omega), if_neg (by omega), if_neg (by omega)]; rfl), rfl⟩
end Go.Proofs.Ytabhifhmhojpbaa
