/- Plain facts of the calendar: dates as numbers of days. -/
import Derived.Test.YtjmkfkkkjcjplaaBase
namespace Go.Proofs.Ytjmkfkkkjcjplaa

/-- has the year a leap day? -/
def leapY (y : Nat) : Bool := y % 4 == 0 && (y % 100 != 0 || y % 400 == 0)
def lday (y : Nat) : Nat := if leapY y then 1 else 0
/-- how many days a month has -/
def dim (y m : Nat) : Nat := if m = 2 then 28 + lday y else if m = 4 ∨ m = 6 ∨ m = 9 ∨ m = 11 then 30 else 31
/-- how many days lie ahead of a year, counted from year 1 -/
def aheadY (y : Nat) : Nat := 365 * (y - 1) + (y - 1) / 4 - (y - 1) / 100 + (y - 1) / 400
/-- how many days of the year lie ahead of a month -/
def cumM (y : Nat) : Nat → Nat
  | 0 => 0
  | m + 1 => if m = 0 then 0 else cumM y m + dim y m

theorem lday_le (y : Nat) : lday y ≤ 1 := by unfold lday; split <;> omega
theorem dim_pos (y m : Nat) : 28 ≤ dim y m := by unfold dim; split; omega; split <;> omega
theorem dim_le (y m : Nat) : dim y m ≤ 31 := by have := lday_le y; unfold dim; split; omega; split <;> omega

theorem leap_true (y : Nat) : leapY y = true ↔ (y % 4 = 0 ∧ (y % 100 ≠ 0 ∨ y % 400 = 0)) := by
  unfold leapY; simp
theorem div_step (y k : Nat) (h : 1 ≤ y) : y / k = (y - 1) / k + (if y % k = 0 then 1 else 0) := by
  obtain ⟨z, rfl⟩ : ∃ z, y = z + 1 := ⟨y - 1, by omega⟩
  rw [Nat.add_sub_cancel, Nat.succ_div]
  congr 1
  by_cases h0 : k ∣ z + 1
  · rw [if_pos h0, if_pos (Nat.mod_eq_zero_of_dvd h0)]
  · rw [if_neg h0, if_neg (fun e => h0 (Nat.dvd_of_mod_eq_zero e))]
theorem aheadY_succ (y : Nat) (h : 1 ≤ y) : aheadY (y + 1) = aheadY y + 365 + lday y := by
  have a4 := div_step y 4 h
  have a100 := div_step y 100 h
  have a400 := div_step y 400 h
  have hle : (y - 1) / 100 ≤ (y - 1) / 4 := by omega
  have p1 : y % 100 = 0 → y % 4 = 0 := by omega
  have p2 : y % 400 = 0 → y % 100 = 0 := by omega
  have el : lday y = if y % 4 = 0 ∧ (y % 100 ≠ 0 ∨ y % 400 = 0) then 1 else 0 := by
    unfold lday
    by_cases hl : leapY y = true
    · rw [if_pos hl, if_pos ((leap_true y).1 hl)]
    · rw [if_neg hl, if_neg (fun h => hl ((leap_true y).2 h))]
  unfold aheadY
  rw [Nat.add_sub_cancel, a4, a100, a400, el]
  generalize (y - 1) / 4 = q4 at *
  generalize (y - 1) / 100 = q100 at *
  generalize (y - 1) / 400 = q400 at *
  clear a4 a100 a400 el
  by_cases h4 : y % 4 = 0
  · by_cases h100 : y % 100 = 0
    · by_cases h400 : y % 400 = 0
      · simp only [h4, h100, h400]; simp; omega
      · simp only [h4, h100]; simp [h400]; omega
    · have h400 : ¬ y % 400 = 0 := fun e => h100 (p2 e)
      simp only [h4]; simp [h100, h400]; omega
  · have h100 : ¬ y % 100 = 0 := fun e => h4 (p1 e)
    have h400 : ¬ y % 400 = 0 := fun e => h100 (p2 e)
    simp [h4, h100, h400]; omega
theorem aheadY_mono (y z : Nat) (hy : 1 ≤ y) (h : y ≤ z) : aheadY y ≤ aheadY z := by
  induction z with
  | zero => omega
  | succ z ih =>
    by_cases e : y = z + 1
    · rw [e]; exact Nat.le_refl _
    · have := ih (by omega)
      have h2 := aheadY_succ z (by omega)
      omega
theorem aheadY_lt (y z : Nat) (hy : 1 ≤ y) (h : y < z) : aheadY y + 365 + lday y ≤ aheadY z := by
  have := aheadY_mono (y + 1) z (by omega) h
  have h2 := aheadY_succ y hy
  omega
theorem aheadY_one : aheadY 1 = 0 := by decide
theorem aheadY_last : aheadY 10000 = 3652059 := by decide

theorem cumM_succ (y m : Nat) (h : 1 ≤ m) : cumM y (m + 1) = cumM y m + dim y m := by
  rw [cumM, if_neg (by omega)]
theorem cumM_one (y : Nat) : cumM y 1 = 0 := rfl
theorem cumM_mono (y m k : Nat) (hm : 1 ≤ m) (h : m ≤ k) : cumM y m ≤ cumM y k := by
  induction k with
  | zero => omega
  | succ k ih =>
    by_cases e : m = k + 1
    · rw [e]; exact Nat.le_refl _
    · have := ih (by omega)
      have h2 := cumM_succ y k (by omega)
      omega
theorem cumM_lt (y m k : Nat) (hm : 1 ≤ m) (h : m < k) : cumM y m + dim y m ≤ cumM y k := by
  have := cumM_mono y (m + 1) k (by omega) h
  have h2 := cumM_succ y m hm
  omega
theorem cumM_13 (y : Nat) : cumM y 13 = 365 + lday y := by
  simp [cumM, dim]; omega

/-- n is the number (from year 1 on) of the date y, m, d -/
structure IsDate (n y m d : Nat) : Prop where
  y1 : 1 ≤ y
  y2 : y ≤ 9999
  m1 : 1 ≤ m
  m2 : m ≤ 12
  d1 : 1 ≤ d
  d2 : d ≤ dim y m
  eq : n + 1 = aheadY y + cumM y m + d

theorem IsDate.inYear {n y m d : Nat} (h : IsDate n y m d) : aheadY y ≤ n ∧ n < aheadY y + 365 + lday y := by
  have h1 := cumM_lt y m 13 h.m1 (by have := h.m2; omega)
  rw [cumM_13] at h1
  have h2 := h.d1
  have h3 := h.d2
  have h4 := h.eq
  omega
theorem IsDate.le {n y m d : Nat} (h : IsDate n y m d) : n ≤ 3652058 := by
  have h1 := h.inYear.2
  have h2 := aheadY_lt y 10000 h.y1 (by have := h.y2; omega)
  rw [aheadY_last] at h2
  omega

/-- of two dates the later one in the order of years, months, days is the later day -/
theorem IsDate.lt {n y m d n' y' m' d' : Nat} (h : IsDate n y m d) (h' : IsDate n' y' m' d') (hl : y < y' ∨ (y = y' ∧ (m < m' ∨ (m = m' ∧ d < d')))) : n < n' := by
  have e1 := h.eq
  have e2 := h'.eq
  have i1 := h.inYear
  have i2 := h'.inYear
  rcases hl with hy | ⟨rfl, hm | ⟨rfl, hd⟩⟩
  · have := aheadY_lt y y' h.y1 hy
    omega
  · have := cumM_lt y m m' h.m1 hm
    have := h.d2
    have := h'.d1
    omega
  · omega
theorem IsDate.uniq {n y m d y' m' d' : Nat} (h : IsDate n y m d) (h' : IsDate n y' m' d') : y = y' ∧ m = m' ∧ d = d' := by
  by_cases c1 : y < y' ∨ (y = y' ∧ (m < m' ∨ (m = m' ∧ d < d')))
  · exact absurd (h.lt h' c1) (Nat.lt_irrefl _)
  · by_cases c2 : y' < y ∨ (y' = y ∧ (m' < m ∨ (m' = m ∧ d' < d)))
    · exact absurd (h'.lt h c2) (Nat.lt_irrefl _)
    · omega

theorem exists_year (n : Nat) (h : n ≤ 3652058) : ∃ y, 1 ≤ y ∧ y ≤ 9999 ∧ aheadY y ≤ n ∧ n < aheadY (y + 1) := by
  have key : ∀ k, k ≤ 9999 → n < aheadY (k + 1) → ∃ y, 1 ≤ y ∧ y ≤ k ∧ aheadY y ≤ n ∧ n < aheadY (y + 1) := by
    intro k
    induction k with
    | zero => intro _ h0; rw [Nat.zero_add, aheadY_one] at h0; omega
    | succ k ih =>
      intro hk h0
      by_cases hl : aheadY (k + 1) ≤ n
      · exact ⟨k + 1, by omega, by omega, hl, h0⟩
      · obtain ⟨y, h1, h2, h3, h4⟩ := ih (by omega) (by omega)
        exact ⟨y, h1, by omega, h3, h4⟩
  exact key 9999 (Nat.le_refl _) (by rw [aheadY_last]; omega)
theorem exists_month (y n : Nat) (h : n < 365 + lday y) : ∃ m, 1 ≤ m ∧ m ≤ 12 ∧ cumM y m ≤ n ∧ n < cumM y m + dim y m := by
  have key : ∀ k, k ≤ 12 → n < cumM y (k + 1) → ∃ m, 1 ≤ m ∧ m ≤ k ∧ cumM y m ≤ n ∧ n < cumM y m + dim y m := by
    intro k
    induction k with
    | zero => intro _ h0; rw [Nat.zero_add, cumM_one] at h0; omega
    | succ k ih =>
      intro hk h0
      by_cases hl : cumM y (k + 1) ≤ n
      · exact ⟨k + 1, by omega, by omega, hl, by rw [cumM_succ y (k + 1) (by omega)] at h0; exact h0⟩
      · obtain ⟨m, h1, h2, h3, h4⟩ := ih (by omega) (by omega)
        exact ⟨m, h1, by omega, h3, h4⟩
  exact key 12 (Nat.le_refl _) (by rw [cumM_13]; exact h)
theorem exists_date (n : Nat) (h : n ≤ 3652058) : ∃ y m d, IsDate n y m d := by
  obtain ⟨y, y1, y2, h1, h2⟩ := exists_year n h
  rw [aheadY_succ y y1] at h2
  obtain ⟨m, m1, m2, h3, h4⟩ := exists_month y (n - aheadY y) (by omega)
  exact ⟨y, m, n - aheadY y - cumM y m + 1, y1, y2, m1, m2, by omega, by omega, by omega⟩

/-- the day behind a date -/
theorem IsDate.next {n y m d : Nat} (h : IsDate n y m d) (hn : n < 3652058) :
    (d < dim y m ∧ IsDate (n + 1) y m (d + 1)) ∨ (d = dim y m ∧ m < 12 ∧ IsDate (n + 1) y (m + 1) 1) ∨ (m = 12 ∧ d = 31 ∧ IsDate (n + 1) (y + 1) 1 1) := by
  have e := h.eq
  have d2 := h.d2
  have m2 := h.m2
  have y2 := h.y2
  by_cases hd : d < dim y m
  · exact .inl ⟨hd, h.y1, h.y2, h.m1, h.m2, by omega, by omega, by omega⟩
  · refine .inr ?_
    by_cases hm : m < 12
    · refine .inl ⟨by omega, hm, h.y1, h.y2, by omega, by omega, Nat.le_refl _, by have := dim_pos y (m + 1); omega, ?_⟩
      rw [cumM_succ y m h.m1]; omega
    · have em : m = 12 := by omega
      subst em
      have e12 : dim y 12 = 31 := by unfold dim; rw [if_neg (by decide), if_neg (by decide)]
      have c13 := cumM_13 y
      rw [cumM_succ y 12 (by decide)] at c13
      have hy : y < 9999 := by
        rcases Nat.lt_or_ge y 9999 with hlt | hge
        · exact hlt
        · have ey : y = 9999 := by omega
          subst ey
          have := aheadY_succ 9999 (by decide)
          rw [aheadY_last] at this
          omega
      refine .inr ⟨rfl, by omega, by omega, by omega, Nat.le_refl _, by decide, Nat.le_refl _, by have := dim_pos (y + 1) 1; omega, ?_⟩
      rw [aheadY_succ y h.y1, cumM_one]; omega
end Go.Proofs.Ytjmkfkkkjcjplaa
