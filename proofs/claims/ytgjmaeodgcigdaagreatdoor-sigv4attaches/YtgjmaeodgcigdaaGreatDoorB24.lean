/- Plain facts of the calendar: dates as numbers of days. · Plain facts of digits and of the text of a time. · Plain facts that the walks of clock and of the document share. · What the document's leap, days, ahead answer, of years that are no longer than 9999. · What the document's Near answers. -/
import Derived.Test.YtgjmaeodgcigdaaGreatDoorB0
namespace Go.Proofs.YtgjmaeodgcigdaaGreatDoor

/-- has the year a leap day? -/
def leapY (y : Nat) : Bool := y % 4 == 0 && (y % 100 != 0 || y % 400 == 0)
def lday (y : Nat) : Nat := if leapY y then 1 else 0
/-- how many days a month has -/
def dim (y m : Nat) : Nat := if m = 2 then 28 + lday y else if m = 4 ∨ m = 6 ∨ m = 9 ∨ m = 11 then 30 else 31
/-- how many days lie ahead of a year, counted from year 1 -/
def aheadY (y : Nat) : Nat := 365 * (y - 1) + (y - 1) / 4 - (y - 1) / 100 + (y - 1) / 400
/-- how many days of the year lie ahead of a month -/
def cumM (y : Nat) : Nat → Nat
  | 0 => 0
  | m + 1 => if m = 0 then 0 else cumM y m + dim y m

theorem lday_le (y : Nat) : lday y ≤ 1 := by unfold lday; split <;> omega
theorem dim_pos (y m : Nat) : 28 ≤ dim y m := by unfold dim; split; omega; split <;> omega
theorem dim_le (y m : Nat) : dim y m ≤ 31 := by have := lday_le y; unfold dim; split; omega; split <;> omega

theorem leap_true (y : Nat) : leapY y = true ↔ (y % 4 = 0 ∧ (y % 100 ≠ 0 ∨ y % 400 = 0)) := by
  unfold leapY; simp
theorem div_step (y k : Nat) (h : 1 ≤ y) : y / k = (y - 1) / k + (if y % k = 0 then 1 else 0) := by
  obtain ⟨z, rfl⟩ : ∃ z, y = z + 1 := ⟨y - 1, by omega⟩
  rw [Nat.add_sub_cancel, Nat.succ_div]
  congr 1
  by_cases h0 : k ∣ z + 1
  · rw [if_pos h0, if_pos (Nat.mod_eq_zero_of_dvd h0)]
  · rw [if_neg h0, if_neg (fun e => h0 (Nat.dvd_of_mod_eq_zero e))]
theorem aheadY_succ (y : Nat) (h : 1 ≤ y) : aheadY (y + 1) = aheadY y + 365 + lday y := by
  have a4 := div_step y 4 h
  have a100 := div_step y 100 h
  have a400 := div_step y 400 h
  have hle : (y - 1) / 100 ≤ (y - 1) / 4 := by omega
  have p1 : y % 100 = 0 → y % 4 = 0 := by omega
  have p2 : y % 400 = 0 → y % 100 = 0 := by omega
  have el : lday y = if y % 4 = 0 ∧ (y % 100 ≠ 0 ∨ y % 400 = 0) then 1 else 0 := by
    unfold lday
    by_cases hl : leapY y = true
    · rw [if_pos hl, if_pos ((leap_true y).1 hl)]
    · rw [if_neg hl, if_neg (fun h => hl ((leap_true y).2 h))]
  unfold aheadY
  rw [Nat.add_sub_cancel, a4, a100, a400, el]
  generalize (y - 1) / 4 = q4 at *
  generalize (y - 1) / 100 = q100 at *
  generalize (y - 1) / 400 = q400 at *
  clear a4 a100 a400 el
  by_cases h4 : y % 4 = 0
  · by_cases h100 : y % 100 = 0
    · by_cases h400 : y % 400 = 0
      · simp only [h4, h100, h400]; simp; omega
      · simp only [h4, h100]; simp [h400]; omega
    · have h400 : ¬ y % 400 = 0 := fun e => h100 (p2 e)
      simp only [h4]; simp [h100, h400]; omega
  · have h100 : ¬ y % 100 = 0 := fun e => h4 (p1 e)
    have h400 : ¬ y % 400 = 0 := fun e => h100 (p2 e)
    simp [h4, h100, h400]; omega
theorem aheadY_mono (y z : Nat) (hy : 1 ≤ y) (h : y ≤ z) : aheadY y ≤ aheadY z := by
  induction z with
  | zero => omega
  | succ z ih =>
    by_cases e : y = z + 1
    · rw [e]; exact Nat.le_refl _
    · have := ih (by omega)
      have h2 := aheadY_succ z (by omega)
      omega
theorem aheadY_lt (y z : Nat) (hy : 1 ≤ y) (h : y < z) : aheadY y + 365 + lday y ≤ aheadY z := by
  have := aheadY_mono (y + 1) z (by omega) h
  have h2 := aheadY_succ y hy
  omega
theorem aheadY_one : aheadY 1 = 0 := by decide
theorem aheadY_last : aheadY 10000 = 3652059 := by decide

theorem cumM_succ (y m : Nat) (h : 1 ≤ m) : cumM y (m + 1) = cumM y m + dim y m := by
  rw [cumM, if_neg (by omega)]
theorem cumM_one (y : Nat) : cumM y 1 = 0 := rfl
theorem cumM_mono (y m k : Nat) (hm : 1 ≤ m) (h : m ≤ k) : cumM y m ≤ cumM y k := by
  induction k with
  | zero => omega
  | succ k ih =>
    by_cases e : m = k + 1
    · rw [e]; exact Nat.le_refl _
    · have := ih (by omega)
      have h2 := cumM_succ y k (by omega)
      omega
theorem cumM_lt (y m k : Nat) (hm : 1 ≤ m) (h : m < k) : cumM y m + dim y m ≤ cumM y k := by
  have := cumM_mono y (m + 1) k (by omega) h
  have h2 := cumM_succ y m hm
  omega
theorem cumM_13 (y : Nat) : cumM y 13 = 365 + lday y := by
  simp [cumM, dim]; omega

/-- n is the number (from year 1 on) of the date y, m, d -/
structure IsDate (n y m d : Nat) : Prop where
  y1 : 1 ≤ y
  y2 : y ≤ 9999
  m1 : 1 ≤ m
  m2 : m ≤ 12
  d1 : 1 ≤ d
  d2 : d ≤ dim y m
  eq : n + 1 = aheadY y + cumM y m + d

theorem IsDate.inYear {n y m d : Nat} (h : IsDate n y m d) : aheadY y ≤ n ∧ n < aheadY y + 365 + lday y := by
  have h1 := cumM_lt y m 13 h.m1 (by have := h.m2; omega)
  rw [cumM_13] at h1
  have h2 := h.d1
  have h3 := h.d2
  have h4 := h.eq
  omega
theorem IsDate.le {n y m d : Nat} (h : IsDate n y m d) : n ≤ 3652058 := by
  have h1 := h.inYear.2
  have h2 := aheadY_lt y 10000 h.y1 (by have := h.y2; omega)
  rw [aheadY_last] at h2
  omega

/-- of two dates the later one in the order of years, months, days is the later day -/
theorem IsDate.lt {n y m d n' y' m' d' : Nat} (h : IsDate n y m d) (h' : IsDate n' y' m' d') (hl : y < y' ∨ (y = y' ∧ (m < m' ∨ (m = m' ∧ d < d')))) : n < n' := by
  have e1 := h.eq
  have e2 := h'.eq
  have i1 := h.inYear
  have i2 := h'.inYear
  rcases hl with hy | ⟨rfl, hm | ⟨rfl, hd⟩⟩
  · have := aheadY_lt y y' h.y1 hy
    omega
  · have := cumM_lt y m m' h.m1 hm
    have := h.d2
    have := h'.d1
    omega
  · omega
theorem IsDate.uniq {n y m d y' m' d' : Nat} (h : IsDate n y m d) (h' : IsDate n y' m' d') : y = y' ∧ m = m' ∧ d = d' := by
  by_cases c1 : y < y' ∨ (y = y' ∧ (m < m' ∨ (m = m' ∧ d < d')))
  · exact absurd (h.lt h' c1) (Nat.lt_irrefl _)
  · by_cases c2 : y' < y ∨ (y' = y ∧ (m' < m ∨ (m' = m ∧ d' < d)))
    · exact absurd (h'.lt h c2) (Nat.lt_irrefl _)
    · omega

theorem exists_year (n : Nat) (h : n ≤ 3652058) : ∃ y, 1 ≤ y ∧ y ≤ 9999 ∧ aheadY y ≤ n ∧ n < aheadY (y + 1) := by
  have key : ∀ k, k ≤ 9999 → n < aheadY (k + 1) → ∃ y, 1 ≤ y ∧ y ≤ k ∧ aheadY y ≤ n ∧ n < aheadY (y + 1) := by
    intro k
    induction k with
    | zero => intro _ h0; rw [Nat.zero_add, aheadY_one] at h0; omega
    | succ k ih =>
      intro hk h0
      by_cases hl : aheadY (k + 1) ≤ n
      · exact ⟨k + 1, by omega, by omega, hl, h0⟩
      · obtain ⟨y, h1, h2, h3, h4⟩ := ih (by omega) (by omega)
        exact ⟨y, h1, by omega, h3, h4⟩
  exact key 9999 (Nat.le_refl _) (by rw [aheadY_last]; omega)
theorem exists_month (y n : Nat) (h : n < 365 + lday y) : ∃ m, 1 ≤ m ∧ m ≤ 12 ∧ cumM y m ≤ n ∧ n < cumM y m + dim y m := by
  have key : ∀ k, k ≤ 12 → n < cumM y (k + 1) → ∃ m, 1 ≤ m ∧ m ≤ k ∧ cumM y m ≤ n ∧ n < cumM y m + dim y m := by
    intro k
    induction k with
    | zero => intro _ h0; rw [Nat.zero_add, cumM_one] at h0; omega
    | succ k ih =>
      intro hk h0
      by_cases hl : cumM y (k + 1) ≤ n
      · exact ⟨k + 1, by omega, by omega, hl, by rw [cumM_succ y (k + 1) (by omega)] at h0; exact h0⟩
      · obtain ⟨m, h1, h2, h3, h4⟩ := ih (by omega) (by omega)
        exact ⟨m, h1, by omega, h3, h4⟩
  exact key 12 (Nat.le_refl _) (by rw [cumM_13]; exact h)
theorem exists_date (n : Nat) (h : n ≤ 3652058) : ∃ y m d, IsDate n y m d := by
  obtain ⟨y, y1, y2, h1, h2⟩ := exists_year n h
  rw [aheadY_succ y y1] at h2
  obtain ⟨m, m1, m2, h3, h4⟩ := exists_month y (n - aheadY y) (by omega)
  exact ⟨y, m, n - aheadY y - cumM y m + 1, y1, y2, m1, m2, by omega, by omega, by omega⟩

/-- the day behind a date -/
theorem IsDate.next {n y m d : Nat} (h : IsDate n y m d) (hn : n < 3652058) :
    (d < dim y m ∧ IsDate (n + 1) y m (d + 1)) ∨ (d = dim y m ∧ m < 12 ∧ IsDate (n + 1) y (m + 1) 1) ∨ (m = 12 ∧ d = 31 ∧ IsDate (n + 1) (y + 1) 1 1) := by
  have e := h.eq
  have d2 := h.d2
  have m2 := h.m2
  have y2 := h.y2
  by_cases hd : d < dim y m
  · exact .inl ⟨hd, h.y1, h.y2, h.m1, h.m2, by omega, by omega, by omega⟩
  · refine .inr ?_
    by_cases hm : m < 12
    · refine .inl ⟨by omega, hm, h.y1, h.y2, by omega, by omega, Nat.le_refl _, by have := dim_pos y (m + 1); omega, ?_⟩
      rw [cumM_succ y m h.m1]; omega
    · have em : m = 12 := by omega
      subst em
      have e12 : dim y 12 = 31 := by unfold dim; rw [if_neg (by decide), if_neg (by decide)]
      have c13 := cumM_13 y
      rw [cumM_succ y 12 (by decide)] at c13
      have hy : y < 9999 := by
        rcases Nat.lt_or_ge y 9999 with hlt | hge
        · exact hlt
        · have ey : y = 9999 := by omega
          subst ey
          have := aheadY_succ 9999 (by decide)
          rw [aheadY_last] at this
          omega
      refine .inr ⟨rfl, by omega, by omega, by omega, Nat.le_refl _, by decide, Nat.le_refl _, by have := dim_pos (y + 1) 1; omega, ?_⟩
      rw [aheadY_succ y h.y1, cumM_one]; omega
end Go.Proofs.YtgjmaeodgcigdaaGreatDoor
namespace Go.Proofs.YtgjmaeodgcigdaaGreatDoor

def dgt (n : Nat) : UInt8 := UInt8.ofNat (48 + n % 10)
/-- a number by so many digits -/
def dgs : Nat → Nat → List UInt8
  | 0, _ => []
  | k + 1, n => dgs k (n / 10) ++ [dgt n]
def isDg (c : UInt8) : Bool := decide (48 ≤ c.toNat ∧ c.toNat ≤ 57)
def allDg (l : List UInt8) : Bool := l.all isDg
/-- the number of digits -/
def numD (l : List UInt8) : Nat := l.foldl (fun a c => a * 10 + (c.toNat - 48)) 0

theorem dgt_toNat (n : Nat) : (dgt n).toNat = 48 + n % 10 := by
  unfold dgt; rw [UInt8.toNat_ofNat']; omega
theorem dgt_is (n : Nat) : isDg (dgt n) = true := by
  unfold isDg; rw [dgt_toNat]; simp; omega
theorem dgs_length (k n : Nat) : (dgs k n).length = k := by
  induction k generalizing n with
  | zero => rfl
  | succ k ih => simp [dgs, ih]
theorem dgs_all (k n : Nat) : allDg (dgs k n) = true := by
  induction k generalizing n with
  | zero => rfl
  | succ k ih =>
    have h := ih (n / 10)
    unfold allDg at h ⊢
    rw [dgs, List.all_append, h]
    simp [dgt_is]
theorem numL_snoc (l : List UInt8) (c : UInt8) : numD (l ++ [c]) = numD l * 10 + (c.toNat - 48) := by
  simp [numD, List.foldl_append]
theorem numL_dgs (k n : Nat) (h : n < 10 ^ k) : numD (dgs k n) = n := by
  induction k generalizing n with
  | zero => simp at h; subst h; rfl
  | succ k ih =>
    rw [Nat.pow_succ] at h
    rw [dgs, numL_snoc, ih (n / 10) (by omega), dgt_toNat]; omega
theorem snoc_cases (l : List UInt8) (k : Nat) (h : l.length = k + 1) : ∃ m c, l = m ++ [c] ∧ m.length = k := by
  have hn : l ≠ [] := by rintro rfl; simp at h
  refine ⟨l.dropLast, l.getLast hn, (List.dropLast_concat_getLast hn).symm, ?_⟩
  rw [List.length_dropLast, h]; rfl
theorem dgs_numL (k : Nat) (l : List UInt8) (hk : l.length = k) (h : allDg l = true) : dgs k (numD l) = l := by
  induction k generalizing l with
  | zero => rw [List.length_eq_zero_iff.1 hk]; rfl
  | succ k ih =>
    obtain ⟨m, c, rfl, hm⟩ := snoc_cases l k hk
    unfold allDg at h
    rw [List.all_append, Bool.and_eq_true] at h
    have hc : isDg c = true := by simpa using h.2
    have hc' := of_decide_eq_true hc
    rw [numL_snoc, dgs]
    have e1 : (numD m * 10 + (c.toNat - 48)) / 10 = numD m := by omega
    rw [e1, ih m hm h.1]
    congr 2
    apply UInt8.toNat_inj.1
    rw [dgt_toNat]; omega
theorem numL_lt (k : Nat) (l : List UInt8) (hk : l.length = k) (h : allDg l = true) : numD l < 10 ^ k := by
  induction k generalizing l with
  | zero => rw [List.length_eq_zero_iff.1 hk]; decide
  | succ k ih =>
    obtain ⟨m, c, rfl, hm⟩ := snoc_cases l k hk
    unfold allDg at h
    rw [List.all_append, Bool.and_eq_true] at h
    have hc : isDg c = true := by simpa using h.2
    have hc' := of_decide_eq_true hc
    have := ih m hm h.1
    rw [numL_snoc, Nat.pow_succ]; omega
theorem dgs_inj (k a b : Nat) (ha : a < 10 ^ k) (hb : b < 10 ^ k) (h : dgs k a = dgs k b) : a = b := by
  rw [← numL_dgs k a ha, ← numL_dgs k b hb, h]

theorem less_irrefl (x : List UInt8) : Op.bytesLess x x = false := by
  induction x with
  | nil => rfl
  | cons a x ih => rw [Op.bytesLess, ih]; simp
theorem less_app (x y a b : List UInt8) (h : x.length = y.length) :
    Op.bytesLess (x ++ a) (y ++ b) = (Op.bytesLess x y || (x == y && Op.bytesLess a b)) := by
  induction x generalizing y with
  | nil =>
    have : y = [] := List.length_eq_zero_iff.1 h.symm
    subst this
    simp [Op.bytesLess]
  | cons c x ih =>
    cases y with
    | nil => simp at h
    | cons d y =>
      have h' : x.length = y.length := by simpa using h
      rw [List.cons_append, List.cons_append, Op.bytesLess, ih y h', Op.bytesLess]
      by_cases e : c = d
      · subst e; simp
      · have e' : (c == d) = false := by simpa using e
        have e2 : (c :: x == d :: y) = false := by simp [e]
        rw [e', e2]; simp
theorem less_dgt (a b : Nat) : Op.bytesLess [dgt a] [dgt b] = decide (a % 10 < b % 10) := by
  simp only [Op.bytesLess, Bool.and_false, Bool.or_false]
  rw [decide_eq_decide, UInt8.lt_iff_toNat_lt, dgt_toNat, dgt_toNat]; omega
theorem less_dgs (k a b : Nat) (ha : a < 10 ^ k) (hb : b < 10 ^ k) : Op.bytesLess (dgs k a) (dgs k b) = decide (a < b) := by
  induction k generalizing a b with
  | zero => simp at ha hb; subst ha; subst hb; rfl
  | succ k ih =>
    rw [Nat.pow_succ] at ha hb
    rw [dgs, dgs, less_app _ _ _ _ (by rw [dgs_length, dgs_length]), ih (a / 10) (b / 10) (by omega) (by omega), less_dgt]
    by_cases e : a / 10 = b / 10
    · rw [e]; simp; omega
    · have e2 : (dgs k (a / 10) == dgs k (b / 10)) = false := by
        rw [beq_eq_false_iff_ne]; intro h; exact e (dgs_inj k _ _ (by omega) (by omega) h)
      rw [e2]; simp; omega

/-- number, then the rest: the order -/
theorem less_step (k a b : Nat) (x y : List UInt8) (ha : a < 10 ^ k) (hb : b < 10 ^ k) :
    (Op.bytesLess (dgs k a ++ x) (dgs k b ++ y) = true) ↔ (a < b ∨ (a = b ∧ Op.bytesLess x y = true)) := by
  rw [less_app _ _ _ _ (by rw [dgs_length, dgs_length]), less_dgs k a b ha hb, Bool.or_eq_true, Bool.and_eq_true, decide_eq_true_eq, beq_iff_eq]
  constructor
  · rintro (h | ⟨h1, h2⟩)
    · exact .inl h
    · exact .inr ⟨dgs_inj k a b ha hb h1, h2⟩
  · rintro (h | ⟨rfl, h2⟩)
    · exact .inl h
    · exact .inr ⟨rfl, h2⟩
theorem less_sign (c : UInt8) (x y : List UInt8) : Op.bytesLess (c :: x) (c :: y) = Op.bytesLess x y := by
  rw [Op.bytesLess]; simp

/-- the text of a date and a time of the day -/
def txt (y m d h i c : Nat) : List UInt8 := dgs 4 y ++ (dgs 2 m ++ (dgs 2 d ++ (84 :: (dgs 2 h ++ (dgs 2 i ++ (dgs 2 c ++ [90]))))))
theorem txt_length (y m d h i c : Nat) : (txt y m d h i c).length = 16 := by simp [txt, dgs_length]

/-- l is the text of the time t, in seconds from 1970 on -/
def IsTime (l : List UInt8) (t : Nat) : Prop :=
  ∃ n y m d h i c : Nat, IsDate n y m d ∧ 719162 ≤ n ∧ h < 24 ∧ i < 60 ∧ c < 60 ∧ l = txt y m d h i c ∧ t = (n - 719162) * 86400 + (h * 3600 + i * 60 + c)

theorem IsDate.y4 {n y m d : Nat} (h : IsDate n y m d) : y < 10 ^ 4 := by have := h.y2; omega
theorem IsDate.m4 {n y m d : Nat} (h : IsDate n y m d) : m < 10 ^ 2 := by have := h.m2; omega
theorem IsDate.d4 {n y m d : Nat} (h : IsDate n y m d) : d < 10 ^ 2 := by have := h.d2; have := dim_le y m; omega

theorem IsTime.le {l : List UInt8} {t : Nat} (h : IsTime l t) : t ≤ 253402300799 := by
  obtain ⟨n, y, m, d, hh, i, c, hd, h1, h2, h3, h4, -, rfl⟩ := h
  have := hd.le
  omega
theorem IsTime.length {l : List UInt8} {t : Nat} (h : IsTime l t) : l.length = 16 := by
  obtain ⟨n, y, m, d, hh, i, c, hd, h1, h2, h3, h4, rfl, -⟩ := h
  exact txt_length _ _ _ _ _ _
/-- the text of a time, made of the date of its day -/
theorem IsTime.of {t y m d : Nat} (h : IsDate (t / 86400 + 719162) y m d) :
    IsTime (txt y m d (t % 86400 / 3600) (t % 86400 / 60 % 60) (t % 86400 % 60)) t :=
  ⟨_, _, _, _, _, _, _, h, by omega, by omega, by omega, by omega, rfl, by omega⟩
theorem exists_time (t : Nat) (h : t ≤ 253402300799) : ∃ l, IsTime l t := by
  obtain ⟨y, m, d, hd⟩ := exists_date (t / 86400 + 719162) (by omega)
  exact ⟨_, IsTime.of hd⟩
theorem IsTime.uniq {l l' : List UInt8} {t : Nat} (h : IsTime l t) (h' : IsTime l' t) : l = l' := by
  obtain ⟨n, y, m, d, hh, i, c, hd, h1, h2, h3, h4, rfl, e⟩ := h
  obtain ⟨n', y', m', d', hh', i', c', hd', h1', h2', h3', h4', rfl, e'⟩ := h'
  have en : n = n' := by omega
  subst en
  obtain ⟨rfl, rfl, rfl⟩ := hd.uniq hd'
  have a1 : hh = hh' := by omega
  have a2 : i = i' := by omega
  have a3 : c = c' := by omega
  subst a1; subst a2; subst a3; rfl
/-- of two times the earlier one has the earlier text -/
theorem IsTime.less {l l' : List UInt8} {t t' : Nat} (h : IsTime l t) (h' : IsTime l' t') : Op.bytesLess l l' = decide (t < t') := by
  by_cases ht : t = t'
  · subst ht
    rw [h.uniq h', less_irrefl]; simp
  obtain ⟨n, y, m, d, hh, i, c, hd, h1, h2, h3, h4, rfl, e⟩ := h
  obtain ⟨n', y', m', d', hh', i', c', hd', h1', h2', h3', h4', rfl, e'⟩ := h'
  rw [Bool.eq_iff_iff, decide_eq_true_eq]
  unfold txt
  rw [less_step _ _ _ _ _ hd.y4 hd'.y4, less_step _ _ _ _ _ hd.m4 hd'.m4, less_step _ _ _ _ _ hd.d4 hd'.d4, less_sign, less_step _ _ _ _ _ (by omega) (by omega), less_step _ _ _ _ _ (by omega) (by omega), less_step _ _ _ _ _ (by omega) (by omega), less_irrefl]
  by_cases c1 : y < y' ∨ (y = y' ∧ (m < m' ∨ (m = m' ∧ d < d')))
  · have := hd.lt hd' c1
    constructor
    · intro _; omega
    · intro _; omega
  · by_cases c2 : y' < y ∨ (y' = y ∧ (m' < m ∨ (m' = m ∧ d' < d)))
    · have := hd'.lt hd c2
      constructor
      · intro _; omega
      · intro _; omega
    · have a1 : y = y' := by omega
      have a2 : m = m' := by omega
      have a3 : d = d' := by omega
      subst a1; subst a2; subst a3
      have en : n = n' := by have := hd.eq; have := hd'.eq; omega
      subst en
      simp only [Nat.lt_irrefl, false_or, true_and, Bool.false_eq_true, and_false, or_false]
      omega
theorem IsTime.uniqT {l : List UInt8} {t t' : Nat} (h : IsTime l t) (h' : IsTime l t') : t = t' := by
  have a := h.less h'
  have b := h'.less h
  rw [less_irrefl] at a b
  have a' := of_decide_eq_false a.symm
  have b' := of_decide_eq_false b.symm
  omega
theorem IsTime.eq_iff {l l' : List UInt8} {t t' : Nat} (h : IsTime l t) (h' : IsTime l' t') : (l == l') = decide (t = t') := by
  rw [Bool.eq_iff_iff, beq_iff_eq, decide_eq_true_eq]
  constructor
  · rintro rfl; exact h.uniqT h'
  · rintro rfl; exact h.uniq h'

/-- how a text of sixteen signs falls apart -/
theorem txt_of (l : List UInt8) (hl : l.length = 16) (h8 : nth l 8 = 84) (h15 : nth l 15 = 90)
    (a1 : allDg (l.take 4) = true) (a2 : allDg ((l.drop 4).take 2) = true) (a3 : allDg ((l.drop 6).take 2) = true)
    (a4 : allDg ((l.drop 9).take 2) = true) (a5 : allDg ((l.drop 11).take 2) = true) (a6 : allDg ((l.drop 13).take 2) = true) :
    l = txt (numD (l.take 4)) (numD ((l.drop 4).take 2)) (numD ((l.drop 6).take 2)) (numD ((l.drop 9).take 2)) (numD ((l.drop 11).take 2)) (numD ((l.drop 13).take 2)) := by
  unfold txt
  rw [dgs_numL 4 _ (by simp; omega) a1, dgs_numL 2 _ (by simp; omega) a2, dgs_numL 2 _ (by simp; omega) a3, dgs_numL 2 _ (by simp; omega) a4, dgs_numL 2 _ (by simp; omega) a5, dgs_numL 2 _ (by simp; omega) a6]
  clear a1 a2 a3 a4 a5 a6
  match l, hl with
  | [x0, x1, x2, x3, x4, x5, x6, x7, x8, x9, x10, x11, x12, x13, x14, x15], _ =>
    have e8 : x8 = 84 := h8
    have e15 : x15 = 90 := h15
    subst e8; subst e15
    rfl
end Go.Proofs.YtgjmaeodgcigdaaGreatDoor
namespace Go.Proofs.YtgjmaeodgcigdaaGreatDoor
open Go.RowKit

theorem leap_yes (y : Nat) (h : y % 4 = 0 ∧ (y % 100 ≠ 0 ∨ y % 400 = 0)) : leapY y = true := (leap_true y).2 h
theorem leap_no (y : Nat) (h : ¬ (y % 4 = 0 ∧ (y % 100 ≠ 0 ∨ y % 400 = 0))) : leapY y = false := by
  cases e : leapY y with
  | false => rfl
  | true => exact absurd ((leap_true y).1 e) h

theorem dim_feb (y : Nat) : dim y 2 = 28 + lday y := by unfold dim; rw [if_pos rfl]
theorem dim_30 (y m : Nat) (h : m = 4 ∨ m = 6 ∨ m = 9 ∨ m = 11) : dim y m = 30 := by unfold dim; rw [if_neg (by omega), if_pos h]
theorem dim_31 (y m : Nat) (h : ¬ (m = 2 ∨ m = 4 ∨ m = 6 ∨ m = 9 ∨ m = 11)) : dim y m = 31 := by unfold dim; rw [if_neg (by omega), if_neg (by omega)]

theorem ret3 {a b c a' b' c' : Int} (h1 : a = a') (h2 : b = b') (h3 : c = c') :
    Ending.returned (.tuple #[.int .i64 a, .int .i64 b, .int .i64 c]) = .returned (.tuple #[.int .i64 a', .int .i64 b', .int .i64 c']) := by rw [h1, h2, h3]

theorem year_le {n y m d k : Nat} (h : IsDate n y m d) (hk : 1 ≤ k) : aheadY k ≤ n ↔ k ≤ y := by
  have i := h.inYear
  constructor
  · intro hh
    rcases Nat.lt_or_ge y k with hlt | hge
    · have := aheadY_lt y k h.y1 hlt; omega
    · exact hge
  · intro hh; have := aheadY_mono k y hk hh; omega

/-- there is no such date -/
def NoDate (y m d : Int) : Prop := y < 1 ∨ 9999 < y ∨ m < 1 ∨ 12 < m ∨ d < 1 ∨ (dim y.toNat m.toNat : Int) < d
theorem date_or (y m d : Int) : NoDate y m d ∨ ∃ n Y M D : Nat, y = Y ∧ m = M ∧ d = D ∧ IsDate n Y M D := by
  by_cases h : NoDate y m d
  · exact .inl h
  · refine .inr ?_
    unfold NoDate at h
    have hp := dim_pos y.toNat m.toNat
    refine ⟨aheadY y.toNat + cumM y.toNat m.toNat + d.toNat - 1, y.toNat, m.toNat, d.toNat, by omega, by omega, by omega, by omega, by omega, by omega, by omega, by omega, by omega, by omega⟩

theorem ret2 {a b a' b' : Int} (h1 : a = a') (h2 : b = b') :
    Ending.returned (.tuple #[.int .i64 a, .int .i64 b]) = .returned (.tuple #[.int .i64 a', .int .i64 b']) := by rw [h1, h2]

def laterN (t : Nat) (n : Int) : Nat := if n ≤ 0 ∨ 253402300799 ≤ t then t else if (253402300799 - t) / 86400 < n.toNat then 253402300799 else t + n.toNat * 86400
def nearN (a b c : Nat) : Bool := if a < b then decide (b - a ≤ c) else decide (a - b ≤ c)
theorem nearN_self (a : Nat) : nearN a a 0 = true := by unfold nearN; rw [if_neg (by omega)]; simp

theorem ret_u {a b : Int} (h : a = b) : Ending.returned (.int .u64 a) = .returned (.int .u64 b) := by rw [h]

theorem dgs_cons (j n : Nat) : dgs (j + 1) n = dgt (n / 10 ^ j) :: dgs j n := by
  induction j generalizing n with
  | zero => simp [dgs]
  | succ j ih =>
    rw [dgs, ih (n / 10), dgs, Nat.div_div_eq_div_mul, Nat.pow_succ, Nat.mul_comm 10]
    rfl

theorem ret_se {a b : List UInt8} {e : Int} (h : a = b) : Ending.returned (.tuple #[.string ⟨a.toArray⟩, .int .i64 e]) = .returned (.tuple #[.string ⟨b.toArray⟩, .int .i64 e]) := by rw [h]

theorem ret_ue3 {a a' : Int} {e : Int} (h1 : a = a') : Ending.returned (.tuple #[.int .u64 a, .int .i64 e]) = .returned (.tuple #[.int .u64 a', .int .i64 e]) := by rw [h1]

/-- no time of the day -/
def NoHour (h i c : Int) : Prop := h < 0 ∨ 23 < h ∨ i < 0 ∨ 59 < i ∨ c < 0 ∨ 59 < c
/-- what the document's Read answers, by the six numbers of a text -/
def RdRaw (y m d h i c : Int) (e : Ending) : Prop :=
  ((NoDate y m d ∨ NoHour h i c ∨ ∃ n Y M D : Nat, y = Y ∧ m = M ∧ d = D ∧ IsDate n Y M D ∧ n < 719162) ∧ e = .returned (.tuple #[.int .u64 0, .int .i64 6])) ∨
  (∃ n Y M D : Nat, y = Y ∧ m = M ∧ d = D ∧ IsDate n Y M D ∧ 719162 ≤ n ∧ ¬ NoHour h i c ∧ e = .returned (.tuple #[.int .u64 (((n : Int) - 719162) * 86400 + (h * 3600 + i * 60 + c)), .int .i64 0]))

/-- the number that a text is by its digits; or -1 -/
def numI (l : List UInt8) : Int := if allDg l then (numD l : Int) else -1

theorem numI_two (l : List UInt8) (h : l.length ≤ 2) : -1 ≤ numI l ∧ numI l < 100 := by
  unfold numI
  by_cases e : allDg l = true
  · rw [if_pos e]
    have h1 := numL_lt l.length l rfl e
    have h2 : 10 ^ l.length ≤ 10 ^ 2 := Nat.pow_le_pow_right (by decide) h
    omega
  · rw [if_neg e]; omega

end Go.Proofs.YtgjmaeodgcigdaaGreatDoor
namespace Go.Proofs.YtgjmaeodgcigdaaGreatDoor
open Go.RowKit

set_option maxHeartbeats 400000 in
theorem refLeap (y : Nat) (w : World) (hy : y ≤ 10000) :
    Calls Tryz.prog 166 #[.int .i64 (y : Int)] w fun e w' => e = .returned (.bool (leapY y)) ∧ w' = w := by
  by_cases h4 : y % 4 = 0
  · by_cases h100 : y % 100 = 0
    · by_cases h400 : y % 400 = 0
      · have H : Hid (leapY y = true) := leap_yes y ⟨h4, .inr h400⟩
        have e4 : (y : Int) % 4 = 0 := by omega
        have e100 : (y : Int) % 100 = 0 := by omega
        have e400 : (y : Int) % 400 = 0 := by omega
        clear h4 h100 h400
        go_enter Tryz.func166, Tryz.ntmps166
        go_wp2
        go_ret
        exact ⟨ret_b H.out.symm, rfl⟩
      · have H : Hid (leapY y = false) := leap_no y (by omega)
        have e4 : (y : Int) % 4 = 0 := by omega
        have e100 : (y : Int) % 100 = 0 := by omega
        have e400 : ¬ (y : Int) % 400 = 0 := by omega
        clear h4 h100 h400
        go_enter Tryz.func166, Tryz.ntmps166
        go_wp2
        go_ret
        exact ⟨ret_b (by rw [H.out]; simpa using e400), rfl⟩
    · have H : Hid (leapY y = true) := leap_yes y ⟨h4, .inl h100⟩
      have e4 : (y : Int) % 4 = 0 := by omega
      have e100 : ¬ (y : Int) % 100 = 0 := by omega
      clear h4 h100
      go_enter Tryz.func166, Tryz.ntmps166
      go_wp2
      go_ret
      exact ⟨ret_b H.out.symm, rfl⟩
  · have H : Hid (leapY y = false) := leap_no y (by omega)
    have e4 : ¬ (y : Int) % 4 = 0 := by omega
    clear h4
    go_enter Tryz.func166, Tryz.ntmps166
    go_wp2
    go_ret
    exact ⟨ret_b H.out.symm, rfl⟩

set_option maxHeartbeats 400000 in
theorem refAhead (y : Nat) (w : World) (h1 : 1 ≤ y) (hy : y ≤ 10000) :
    Calls Tryz.prog 138 #[.int .i64 (y : Int)] w fun e w' => e = .returned (.int .i64 (aheadY y : Int)) ∧ w' = w := by
  obtain ⟨n, hn⟩ : ∃ n, y = n + 1 := ⟨y - 1, by omega⟩
  subst hn
  have H : Hid (aheadY (n + 1) = 365 * n + n / 4 - n / 100 + n / 400) := by unfold Hid aheadY; rw [Nat.add_sub_cancel]
  have hle : n / 100 ≤ n / 4 := by omega
  go_enter Tryz.func138, Tryz.ntmps138
  go_wp2
  go_ret
  refine ⟨ret_i ?_, rfl⟩
  rw [H.out]; omega
end Go.Proofs.YtgjmaeodgcigdaaGreatDoor
namespace Go.Proofs.YtgjmaeodgcigdaaGreatDoor
open Go.RowKit

set_option maxHeartbeats 400000 in
theorem refNear (a b c : Nat) (w : World) (ha : a < 18446744073709551616) (hb : b < 18446744073709551616) :
    Calls Tryz.prog 72 #[.int .u64 (a : Int), .int .u64 (b : Int), .int .u64 (c : Int)] w fun e w' => e = .returned (.bool (nearN a b c)) ∧ w' = w := by
  by_cases h1 : a < b
  · have H : Hid (nearN a b c = decide (b - a ≤ c)) := by unfold Hid nearN; rw [if_pos h1]
    go_enter Tryz.func72, Tryz.ntmps72
    go_wp2
    go_ret
    exact ⟨ret_b (by rw [H.out, decide_eq_decide]; omega), rfl⟩
  · have H : Hid (nearN a b c = decide (a - b ≤ c)) := by unfold Hid nearN; rw [if_neg h1]
    go_enter Tryz.func72, Tryz.ntmps72
    go_wp2
    go_ret
    exact ⟨ret_b (by rw [H.out, decide_eq_decide]; omega), rfl⟩
end Go.Proofs.YtgjmaeodgcigdaaGreatDoor
