/- What clock's leap, daysAhead and yearOf answer. -/
import Derived.Test.YthinnmfhjikobaaPlain3
import Derived.OwnWalk
namespace Go.Proofs.Ythinnmfhjikobaa
open Go.RowKit

set_option maxHeartbeats 400000 in
theorem codLeap (y : Nat) (w : World) (hy : y ≤ 10000) :
    Calls Try.prog 32 #[.int .i64 (y : Int)] w fun e w' => e = .returned (.bool (leapY y)) ∧ w' = w := by
  by_cases h4 : y % 4 = 0
  · by_cases h100 : y % 100 = 0
    · by_cases h400 : y % 400 = 0
      · have H : Hid (leapY y = true) := leap_yes y ⟨h4, .inr h400⟩
        have e4 : (y : Int) % 4 = 0 := by omega
        have e100 : (y : Int) % 100 = 0 := by omega
        have e400 : (y : Int) % 400 = 0 := by omega
        clear h4 h100 h400
        go_enter Try.func32, Try.ntmps32
        go_wp2
        go_ret
        exact ⟨ret_b H.out.symm, rfl⟩
      · have H : Hid (leapY y = false) := leap_no y (by omega)
        have e4 : (y : Int) % 4 = 0 := by omega
        have e100 : (y : Int) % 100 = 0 := by omega
        have e400 : ¬ (y : Int) % 400 = 0 := by omega
        clear h4 h100 h400
        go_enter Try.func32, Try.ntmps32
        go_wp2
        go_ret
        exact ⟨ret_b (by rw [H.out]; simpa using e400), rfl⟩
    · have H : Hid (leapY y = true) := leap_yes y ⟨h4, .inl h100⟩
      have e4 : (y : Int) % 4 = 0 := by omega
      have e100 : ¬ (y : Int) % 100 = 0 := by omega
      clear h4 h100
      go_enter Try.func32, Try.ntmps32
      go_wp2
      go_ret
      exact ⟨ret_b H.out.symm, rfl⟩
  · have H : Hid (leapY y = false) := leap_no y (by omega)
    have e4 : ¬ (y : Int) % 4 = 0 := by omega
    clear h4
    go_enter Try.func32, Try.ntmps32
    go_wp2
    go_ret
    exact ⟨ret_b H.out.symm, rfl⟩

/-- the year that a day falls into, by four centuries, centuries, four years, years -/
theorem year_parts (a c q k r : Nat) (hc : c ≤ 3) (hq : q ≤ 24) (hk : k ≤ 3) (hr : r < 365 ∨ (k = 3 ∧ r = 365 ∧ (q < 24 ∨ c = 3))) :
    aheadY (1 + a * 400 + c * 100 + q * 4 + k) = a * 146097 + c * 36524 + q * 1461 + k * 365 ∧ r < 365 + lday (1 + a * 400 + c * 100 + q * 4 + k) := by
  constructor
  · unfold aheadY
    have e : 1 + a * 400 + c * 100 + q * 4 + k - 1 = a * 400 + c * 100 + q * 4 + k := by omega
    have e4 : (a * 400 + c * 100 + q * 4 + k) / 4 = a * 100 + c * 25 + q := by omega
    have e100 : (a * 400 + c * 100 + q * 4 + k) / 100 = a * 4 + c := by omega
    have e400 : (a * 400 + c * 100 + q * 4 + k) / 400 = a := by omega
    rw [e, e4, e100, e400]; omega
  · rcases hr with hr | ⟨rfl, rfl, h⟩
    · omega
    · have hl : leapY (1 + a * 400 + c * 100 + q * 4 + 3) = true := leap_yes _ (by omega)
      unfold lday; rw [hl]; decide
/-- a day is in one year alone -/
theorem year_one (n y z : Nat) (hy : 1 ≤ y) (hz : 1 ≤ z) (h1 : aheadY y ≤ n) (h2 : n < aheadY y + 365 + lday y) (h3 : aheadY z ≤ n) (h4 : n < aheadY z + 365 + lday z) : y = z := by
  rcases Nat.lt_trichotomy y z with h | h | h
  · have := aheadY_lt y z hy h; omega
  · exact h
  · have := aheadY_lt z y hz h; omega

theorem ret2i {a b a' b' : Int} (h1 : a = a') (h2 : b = b') :
    Ending.returned (.tuple #[.int .i64 a, .int .i64 b]) = .returned (.tuple #[.int .i64 a', .int .i64 b']) := by rw [h1, h2]

set_option maxHeartbeats 1000000 in
theorem codYear (n y : Nat) (w : World) (hn : n ≤ 3652058) (y1 : 1 ≤ y) (h1 : aheadY y ≤ n) (h2 : n < aheadY y + 365 + lday y) :
    Calls Try.prog 23 #[.int .i64 (n : Int)] w fun e w' => e = .returned (.tuple #[.int .i64 (y : Int), .int .i64 ((n - aheadY y : Nat) : Int)]) ∧ w' = w := by
  obtain ⟨a, ha⟩ : ∃ a : Nat, a = n / 146097 := ⟨_, rfl⟩
  obtain ⟨s, hs⟩ : ∃ s : Nat, s = n % 146097 := ⟨_, rfl⟩
  obtain ⟨c0, hc0⟩ : ∃ c : Nat, c = s / 36524 := ⟨_, rfl⟩
  obtain ⟨c, hc⟩ : ∃ c : Nat, c = min c0 3 := ⟨_, rfl⟩
  obtain ⟨u, hu⟩ : ∃ u : Nat, u = s - c * 36524 := ⟨_, rfl⟩
  obtain ⟨q, hq⟩ : ∃ q : Nat, q = u / 1461 := ⟨_, rfl⟩
  obtain ⟨v, hv⟩ : ∃ v : Nat, v = u % 1461 := ⟨_, rfl⟩
  obtain ⟨k0, hk0⟩ : ∃ k : Nat, k = v / 365 := ⟨_, rfl⟩
  obtain ⟨k, hk⟩ : ∃ k : Nat, k = min k0 3 := ⟨_, rfl⟩
  obtain ⟨r, hr⟩ : ∃ r : Nat, r = v - k * 365 := ⟨_, rfl⟩
  have P := year_parts a c q k r (by omega) (by omega) (by omega) (by omega)
  have E := year_one n y (1 + a * 400 + c * 100 + q * 4 + k) y1 (by omega) h1 h2 (by omega) (by omega)
  have HY : Hid ((y : Int) = 1 + a * 400 + c * 100 + q * 4 + k) := by unfold Hid; omega
  have HR : Hid (((n - aheadY y : Nat) : Int) = v - k * 365) := by unfold Hid; rw [E, P.1]; omega
  clear P E h1 h2
  have i1 : (n : Int) / 146097 = (a : Int) := by omega
  have i2 : (n : Int) % 146097 = (s : Int) := by omega
  have i3 : (s : Int) / 36524 = (c0 : Int) := by omega
  have i4 : (s : Int) - (c : Int) * 36524 = (u : Int) := by omega
  have i5 : (u : Int) / 1461 = (q : Int) := by omega
  have i6 : (u : Int) % 1461 = (v : Int) := by omega
  have i7 : (v : Int) / 365 = (k0 : Int) := by omega
  have b1 : a ≤ 100 := by omega
  have b2 : s < 146097 := by omega
  have b3 : c0 ≤ 4 := by omega
  have b4 : u < 146097 := by omega
  have b5 : q ≤ 100 := by omega
  have b6 : v < 1461 := by omega
  have b7 : k0 ≤ 4 := by omega
  have b8 : c ≤ 3 := by omega
  have b9 : k ≤ 3 := by omega
  clear ha hs hc0 hu hq hv hk0 hr
  by_cases c1 : (3 : Int) < (c0 : Int)
  · have hc' : c = 3 := by omega
    subst hc'
    clear hc
    by_cases c2 : (3 : Int) < (k0 : Int)
    · have hk' : k = 3 := by omega
      subst hk'
      clear hk
      go_enter Try.func23, Try.ntmps23
      go_wp2
      go_ret2
      exact ⟨ret2i (by have := HY.out; omega) (by have := HR.out; omega), rfl⟩
    · have hk' : k = k0 := by omega
      subst hk'
      clear hk
      go_enter Try.func23, Try.ntmps23
      go_wp2
      go_ret2
      exact ⟨ret2i (by have := HY.out; omega) (by have := HR.out; omega), rfl⟩
  · have hc' : c = c0 := by omega
    subst hc'
    clear hc
    by_cases c2 : (3 : Int) < (k0 : Int)
    · have hk' : k = 3 := by omega
      subst hk'
      clear hk
      go_enter Try.func23, Try.ntmps23
      go_wp2
      go_ret2
      exact ⟨ret2i (by have := HY.out; omega) (by have := HR.out; omega), rfl⟩
    · have hk' : k = k0 := by omega
      subst hk'
      clear hk
      go_enter Try.func23, Try.ntmps23
      go_wp2
      go_ret2
      exact ⟨ret2i (by have := HY.out; omega) (by have := HR.out; omega), rfl⟩
end Go.Proofs.Ythinnmfhjikobaa
