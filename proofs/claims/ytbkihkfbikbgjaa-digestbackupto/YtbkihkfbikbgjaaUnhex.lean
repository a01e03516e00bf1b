/- What a hex digit stands for, by digest.hexValue and by the document's digit. -/
import Derived.Test.YtbkihkfbikbgjaaOwn
namespace Go.Proofs.Ytbkihkfbikbgjaa
open Go.RowKit

/-- what a digit stands for; 16: it is none -/
def hvN (c : UInt8) : Nat := if 48 ≤ c.toNat ∧ c.toNat ≤ 57 then c.toNat - 48 else if 97 ≤ c.toNat ∧ c.toNat ≤ 102 then c.toNat - 87 else 16
theorem hvN_le (c : UInt8) : hvN c ≤ 16 := by unfold hvN; split <;> (try split) <;> omega
theorem hvN_dig (c : UInt8) (h : 48 ≤ c.toNat) (h' : c.toNat ≤ 57) : hvN c = c.toNat - 48 := by unfold hvN; rw [if_pos ⟨h, h'⟩]
theorem hvN_let (c : UInt8) (h : 97 ≤ c.toNat) (h' : c.toNat ≤ 102) : hvN c = c.toNat - 87 := by unfold hvN; rw [if_neg (by omega), if_pos ⟨h, h'⟩]
theorem hvN_no (c : UInt8) (h : ¬ (48 ≤ c.toNat ∧ c.toNat ≤ 57)) (h' : ¬ (97 ≤ c.toNat ∧ c.toNat ≤ 102)) : hvN c = 16 := by unfold hvN; rw [if_neg h, if_neg h']

theorem ret_int {k : IntKind} {a b : Int} (h : a = b) : Ending.returned (.int k a) = .returned (.int k b) := by rw [h]
theorem ret_int_bool {k : IntKind} {a b : Int} {p q : Bool} (h : a = b) (g : p = q) : Ending.returned (.tuple #[.int k a, .bool p]) = .returned (.tuple #[.int k b, .bool q]) := by rw [h, g]

/-- a digit, or none -/
def isHv (c : UInt8) : Bool := decide (hvN c < 16)
def hvZ (c : UInt8) : Nat := if hvN c < 16 then hvN c else 0

theorem ways5 (n : Nat) : n < 48 ∨ (48 ≤ n ∧ n ≤ 57) ∨ (57 < n ∧ n < 97) ∨ (97 ≤ n ∧ n ≤ 102) ∨ 102 < n := by omega

set_option maxHeartbeats 400000 in
theorem refDigit (c : UInt8) (w : World) :
    Calls Try.prog 35 #[.int .u8 (c.toNat : Int)] w fun e w' => e = .returned (.int .i64 (hvN c : Int)) ∧ w' = w := by
  have hlt := c.toNat_lt
  obtain ⟨n, hn⟩ : ∃ n, n = c.toNat := ⟨_, rfl⟩
  have H : Hid (n = c.toNat) := hn
  rw [← hn] at hlt ⊢
  clear hn
  rcases ways5 n with h | ⟨h, h'⟩ | ⟨h, h'⟩ | ⟨h, h'⟩ | h
  all_goals
    go_enter Try.func35, Try.ntmps35
    go_wp2
    go_ret
    refine ⟨ret_int ?_, rfl⟩
  · rw [hvN_no c (by rw [← H.out]; omega) (by rw [← H.out]; omega)]; rfl
  · rw [hvN_dig c (by rw [← H.out]; omega) (by rw [← H.out]; omega), ← H.out]; omega
  · rw [hvN_no c (by rw [← H.out]; omega) (by rw [← H.out]; omega)]; rfl
  · rw [hvN_let c (by rw [← H.out]; omega) (by rw [← H.out]; omega), ← H.out]; omega
  · rw [hvN_no c (by rw [← H.out]; omega) (by rw [← H.out]; omega)]; rfl

set_option maxHeartbeats 400000 in
theorem hexValue (c : UInt8) (w : World) :
    Calls Try.prog 34 #[.int .u8 (c.toNat : Int)] w fun e w' => e = .returned (.tuple #[.int .u8 (hvZ c : Int), .bool (isHv c)]) ∧ w' = w := by
  have hlt := c.toNat_lt
  obtain ⟨n, hn⟩ : ∃ n, n = c.toNat := ⟨_, rfl⟩
  have H : Hid (n = c.toNat) := hn
  rw [← hn] at hlt ⊢
  clear hn
  rcases ways5 n with h | ⟨h, h'⟩ | ⟨h, h'⟩ | ⟨h, h'⟩ | h
  all_goals
    go_enter Try.func34, Try.ntmps34
    go_wp2
    go_ret2
    refine ⟨ret_int_bool ?_ ?_, rfl⟩
  · have := hvN_no c (by rw [← H.out]; omega) (by rw [← H.out]; omega); simp [hvZ, this]
  · have := hvN_no c (by rw [← H.out]; omega) (by rw [← H.out]; omega); simp [isHv, this]
  · have := hvN_dig c (by rw [← H.out]; omega) (by rw [← H.out]; omega); rw [← H.out] at this; unfold hvZ; rw [if_pos (by omega)]; omega
  · have := hvN_dig c (by rw [← H.out]; omega) (by rw [← H.out]; omega); rw [← H.out] at this; unfold isHv; symm; rw [decide_eq_true_eq]; omega
  · have := hvN_no c (by rw [← H.out]; omega) (by rw [← H.out]; omega); simp [hvZ, this]
  · have := hvN_no c (by rw [← H.out]; omega) (by rw [← H.out]; omega); simp [isHv, this]
  · have := hvN_let c (by rw [← H.out]; omega) (by rw [← H.out]; omega); rw [← H.out] at this; unfold hvZ; rw [if_pos (by omega)]; omega
  · have := hvN_let c (by rw [← H.out]; omega) (by rw [← H.out]; omega); rw [← H.out] at this; unfold isHv; symm; rw [decide_eq_true_eq]; omega
  · have := hvN_no c (by rw [← H.out]; omega) (by rw [← H.out]; omega); simp [hvZ, this]
  · have := hvN_no c (by rw [← H.out]; omega) (by rw [← H.out]; omega); simp [isHv, this]
end Go.Proofs.Ytbkihkfbikbgjaa
