/- Plain facts that the walks of clock and of the document share. -/
import Derived.Test.YtjmkfkkkjcjplaaRet
import Derived.Test.YtjmkfkkkjcjplaaDigits
import Derived.Test.YtjmkfkkkjcjplaaBits
namespace Go.Proofs.Ytjmkfkkkjcjplaa
open Go.RowKit

theorem leap_yes (y : Nat) (h : y % 4 = 0 ∧ (y % 100 ≠ 0 ∨ y % 400 = 0)) : leapY y = true := (leap_true y).2 h
theorem leap_no (y : Nat) (h : ¬ (y % 4 = 0 ∧ (y % 100 ≠ 0 ∨ y % 400 = 0))) : leapY y = false := by
  cases e : leapY y with
  | false => rfl
  | true => exact absurd ((leap_true y).1 e) h

theorem dim_feb (y : Nat) : dim y 2 = 28 + lday y := by unfold dim; rw [if_pos rfl]
theorem dim_30 (y m : Nat) (h : m = 4 ∨ m = 6 ∨ m = 9 ∨ m = 11) : dim y m = 30 := by unfold dim; rw [if_neg (by omega), if_pos h]
theorem dim_31 (y m : Nat) (h : ¬ (m = 2 ∨ m = 4 ∨ m = 6 ∨ m = 9 ∨ m = 11)) : dim y m = 31 := by unfold dim; rw [if_neg (by omega), if_neg (by omega)]

theorem ret3 {a b c a' b' c' : Int} (h1 : a = a') (h2 : b = b') (h3 : c = c') :
    Ending.returned (.tuple #[.int .i64 a, .int .i64 b, .int .i64 c]) = .returned (.tuple #[.int .i64 a', .int .i64 b', .int .i64 c']) := by rw [h1, h2, h3]

theorem year_le {n y m d k : Nat} (h : IsDate n y m d) (hk : 1 ≤ k) : aheadY k ≤ n ↔ k ≤ y := by
  have i := h.inYear
  constructor
  · intro hh
    rcases Nat.lt_or_ge y k with hlt | hge
    · have := aheadY_lt y k h.y1 hlt; omega
    · exact hge
  · intro hh; have := aheadY_mono k y hk hh; omega

/-- there is no such date -/
def NoDate (y m d : Int) : Prop := y < 1 ∨ 9999 < y ∨ m < 1 ∨ 12 < m ∨ d < 1 ∨ (dim y.toNat m.toNat : Int) < d
theorem date_or (y m d : Int) : NoDate y m d ∨ ∃ n Y M D : Nat, y = Y ∧ m = M ∧ d = D ∧ IsDate n Y M D := by
  by_cases h : NoDate y m d
  · exact .inl h
  · refine .inr ?_
    unfold NoDate at h
    have hp := dim_pos y.toNat m.toNat
    refine ⟨aheadY y.toNat + cumM y.toNat m.toNat + d.toNat - 1, y.toNat, m.toNat, d.toNat, by omega, by omega, by omega, by omega, by omega, by omega, by omega, by omega, by omega, by omega⟩

theorem ret2 {a b a' b' : Int} (h1 : a = a') (h2 : b = b') :
    Ending.returned (.tuple #[.int .i64 a, .int .i64 b]) = .returned (.tuple #[.int .i64 a', .int .i64 b']) := by rw [h1, h2]

def laterN (t : Nat) (n : Int) : Nat := if n ≤ 0 ∨ 253402300799 ≤ t then t else if (253402300799 - t) / 86400 < n.toNat then 253402300799 else t + n.toNat * 86400
def nearN (a b c : Nat) : Bool := if a < b then decide (b - a ≤ c) else decide (a - b ≤ c)
theorem nearN_self (a : Nat) : nearN a a 0 = true := by unfold nearN; rw [if_neg (by omega)]; simp

theorem ret_u {a b : Int} (h : a = b) : Ending.returned (.int .u64 a) = .returned (.int .u64 b) := by rw [h]

theorem dgs_cons (j n : Nat) : dgs (j + 1) n = dgt (n / 10 ^ j) :: dgs j n := by
  induction j generalizing n with
  | zero => simp [dgs]
  | succ j ih =>
    rw [dgs, ih (n / 10), dgs, Nat.div_div_eq_div_mul, Nat.pow_succ, Nat.mul_comm 10]
    rfl

theorem ret_se {a b : List UInt8} {e : Int} (h : a = b) : Ending.returned (.tuple #[.string ⟨a.toArray⟩, .int .i64 e]) = .returned (.tuple #[.string ⟨b.toArray⟩, .int .i64 e]) := by rw [h]

theorem ret_ue3 {a a' : Int} {e : Int} (h1 : a = a') : Ending.returned (.tuple #[.int .u64 a, .int .i64 e]) = .returned (.tuple #[.int .u64 a', .int .i64 e]) := by rw [h1]

/-- no time of the day -/
def NoHour (h i c : Int) : Prop := h < 0 ∨ 23 < h ∨ i < 0 ∨ 59 < i ∨ c < 0 ∨ 59 < c
/-- what the document's Read answers, by the six numbers of a text -/
def RdRaw (y m d h i c : Int) (e : Ending) : Prop :=
  ((NoDate y m d ∨ NoHour h i c ∨ ∃ n Y M D : Nat, y = Y ∧ m = M ∧ d = D ∧ IsDate n Y M D ∧ n < 719162) ∧ e = .returned (.tuple #[.int .u64 0, .int .i64 6])) ∨
  (∃ n Y M D : Nat, y = Y ∧ m = M ∧ d = D ∧ IsDate n Y M D ∧ 719162 ≤ n ∧ ¬ NoHour h i c ∧ e = .returned (.tuple #[.int .u64 (((n : Int) - 719162) * 86400 + (h * 3600 + i * 60 + c)), .int .i64 0]))

/-- the number that a text is by its digits; or -1 -/
def numI (l : List UInt8) : Int := if allDg l then (numD l : Int) else -1

theorem numI_two (l : List UInt8) (h : l.length ≤ 2) : -1 ≤ numI l ∧ numI l < 100 := by
  unfold numI
  by_cases e : allDg l = true
  · rw [if_pos e]
    have h1 := numL_lt l.length l rfl e
    have h2 : 10 ^ l.length ≤ 10 ^ 2 := Nat.pow_le_pow_right (by decide) h
    omega
  · rw [if_neg e]; omega

end Go.Proofs.Ytjmkfkkkjcjplaa
