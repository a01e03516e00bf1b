/- Plain facts of digits and of the text of a time. -/
import Derived.Test.YtjmkfkkkjcjplaaCal
namespace Go.Proofs.Ytjmkfkkkjcjplaa

def dgt (n : Nat) : UInt8 := UInt8.ofNat (48 + n % 10)
/-- a number by so many digits -/
def dgs : Nat → Nat → List UInt8
  | 0, _ => []
  | k + 1, n => dgs k (n / 10) ++ [dgt n]
def isDg (c : UInt8) : Bool := decide (48 ≤ c.toNat ∧ c.toNat ≤ 57)
def allDg (l : List UInt8) : Bool := l.all isDg
/-- the number of digits -/
def numD (l : List UInt8) : Nat := l.foldl (fun a c => a * 10 + (c.toNat - 48)) 0

theorem dgt_toNat (n : Nat) : (dgt n).toNat = 48 + n % 10 := by
  unfold dgt; rw [UInt8.toNat_ofNat']; omega
theorem dgt_is (n : Nat) : isDg (dgt n) = true := by
  unfold isDg; rw [dgt_toNat]; simp; omega
theorem dgs_length (k n : Nat) : (dgs k n).length = k := by
  induction k generalizing n with
  | zero => rfl
  | succ k ih => simp [dgs, ih]
theorem dgs_all (k n : Nat) : allDg (dgs k n) = true := by
  induction k generalizing n with
  | zero => rfl
  | succ k ih =>
    have h := ih (n / 10)
    unfold allDg at h ⊢
    rw [dgs, List.all_append, h]
    simp [dgt_is]
theorem numL_snoc (l : List UInt8) (c : UInt8) : numD (l ++ [c]) = numD l * 10 + (c.toNat - 48) := by
  simp [numD, List.foldl_append]
theorem numL_dgs (k n : Nat) (h : n < 10 ^ k) : numD (dgs k n) = n := by
  induction k generalizing n with
  | zero => simp at h; subst h; rfl
  | succ k ih =>
    rw [Nat.pow_succ] at h
    rw [dgs, numL_snoc, ih (n / 10) (by omega), dgt_toNat]; omega
theorem snoc_cases (l : List UInt8) (k : Nat) (h : l.length = k + 1) : ∃ m c, l = m ++ [c] ∧ m.length = k := by
  have hn : l ≠ [] := by rintro rfl; simp at h
  refine ⟨l.dropLast, l.getLast hn, (List.dropLast_concat_getLast hn).symm, ?_⟩
  rw [List.length_dropLast, h]; rfl
theorem dgs_numL (k : Nat) (l : List UInt8) (hk : l.length = k) (h : allDg l = true) : dgs k (numD l) = l := by
  induction k generalizing l with
  | zero => rw [List.length_eq_zero_iff.1 hk]; rfl
  | succ k ih =>
    obtain ⟨m, c, rfl, hm⟩ := snoc_cases l k hk
    unfold allDg at h
    rw [List.all_append, Bool.and_eq_true] at h
    have hc : isDg c = true := by simpa using h.2
    have hc' := of_decide_eq_true hc
    rw [numL_snoc, dgs]
    have e1 : (numD m * 10 + (c.toNat - 48)) / 10 = numD m := by omega
    rw [e1, ih m hm h.1]
    congr 2
    apply UInt8.toNat_inj.1
    rw [dgt_toNat]; omega
theorem numL_lt (k : Nat) (l : List UInt8) (hk : l.length = k) (h : allDg l = true) : numD l < 10 ^ k := by
  induction k generalizing l with
  | zero => rw [List.length_eq_zero_iff.1 hk]; decide
  | succ k ih =>
    obtain ⟨m, c, rfl, hm⟩ := snoc_cases l k hk
    unfold allDg at h
    rw [List.all_append, Bool.and_eq_true] at h
    have hc : isDg c = true := by simpa using h.2
    have hc' := of_decide_eq_true hc
    have := ih m hm h.1
    rw [numL_snoc, Nat.pow_succ]; omega
theorem dgs_inj (k a b : Nat) (ha : a < 10 ^ k) (hb : b < 10 ^ k) (h : dgs k a = dgs k b) : a = b := by
  rw [← numL_dgs k a ha, ← numL_dgs k b hb, h]

theorem less_irrefl (x : List UInt8) : Op.bytesLess x x = false := by
  induction x with
  | nil => rfl
  | cons a x ih => rw [Op.bytesLess, ih]; simp
theorem less_app (x y a b : List UInt8) (h : x.length = y.length) :
    Op.bytesLess (x ++ a) (y ++ b) = (Op.bytesLess x y || (x == y && Op.bytesLess a b)) := by
  induction x generalizing y with
  | nil =>
    have : y = [] := List.length_eq_zero_iff.1 h.symm
    subst this
    simp [Op.bytesLess]
  | cons c x ih =>
    cases y with
    | nil => simp at h
    | cons d y =>
      have h' : x.length = y.length := by simpa using h
      rw [List.cons_append, List.cons_append, Op.bytesLess, ih y h', Op.bytesLess]
      by_cases e : c = d
      · subst e; simp
      · have e' : (c == d) = false := by simpa using e
        have e2 : (c :: x == d :: y) = false := by simp [e]
        rw [e', e2]; simp
theorem less_dgt (a b : Nat) : Op.bytesLess [dgt a] [dgt b] = decide (a % 10 < b % 10) := by
  simp only [Op.bytesLess, Bool.and_false, Bool.or_false]
  rw [decide_eq_decide, UInt8.lt_iff_toNat_lt, dgt_toNat, dgt_toNat]; omega
theorem less_dgs (k a b : Nat) (ha : a < 10 ^ k) (hb : b < 10 ^ k) : Op.bytesLess (dgs k a) (dgs k b) = decide (a < b) := by
  induction k generalizing a b with
  | zero => simp at ha hb; subst ha; subst hb; rfl
  | succ k ih =>
    rw [Nat.pow_succ] at ha hb
    rw [dgs, dgs, less_app _ _ _ _ (by rw [dgs_length, dgs_length]), ih (a / 10) (b / 10) (by omega) (by omega), less_dgt]
    by_cases e : a / 10 = b / 10
    · rw [e]; simp; omega
    · have e2 : (dgs k (a / 10) == dgs k (b / 10)) = false := by
        rw [beq_eq_false_iff_ne]; intro h; exact e (dgs_inj k _ _ (by omega) (by omega) h)
      rw [e2]; simp; omega

/-- number, then the rest: the order -/
theorem less_step (k a b : Nat) (x y : List UInt8) (ha : a < 10 ^ k) (hb : b < 10 ^ k) :
    (Op.bytesLess (dgs k a ++ x) (dgs k b ++ y) = true) ↔ (a < b ∨ (a = b ∧ Op.bytesLess x y = true)) := by
  rw [less_app _ _ _ _ (by rw [dgs_length, dgs_length]), less_dgs k a b ha hb, Bool.or_eq_true, Bool.and_eq_true, decide_eq_true_eq, beq_iff_eq]
  constructor
  · rintro (h | ⟨h1, h2⟩)
    · exact .inl h
    · exact .inr ⟨dgs_inj k a b ha hb h1, h2⟩
  · rintro (h | ⟨rfl, h2⟩)
    · exact .inl h
    · exact .inr ⟨rfl, h2⟩
theorem less_sign (c : UInt8) (x y : List UInt8) : Op.bytesLess (c :: x) (c :: y) = Op.bytesLess x y := by
  rw [Op.bytesLess]; simp

/-- the text of a date and a time of the day -/
def txt (y m d h i c : Nat) : List UInt8 := dgs 4 y ++ (dgs 2 m ++ (dgs 2 d ++ (84 :: (dgs 2 h ++ (dgs 2 i ++ (dgs 2 c ++ [90]))))))
theorem txt_length (y m d h i c : Nat) : (txt y m d h i c).length = 16 := by simp [txt, dgs_length]

/-- l is the text of the time t, in seconds from 1970 on -/
def IsTime (l : List UInt8) (t : Nat) : Prop :=
  ∃ n y m d h i c : Nat, IsDate n y m d ∧ 719162 ≤ n ∧ h < 24 ∧ i < 60 ∧ c < 60 ∧ l = txt y m d h i c ∧ t = (n - 719162) * 86400 + (h * 3600 + i * 60 + c)

theorem IsDate.y4 {n y m d : Nat} (h : IsDate n y m d) : y < 10 ^ 4 := by have := h.y2; omega
theorem IsDate.m4 {n y m d : Nat} (h : IsDate n y m d) : m < 10 ^ 2 := by have := h.m2; omega
theorem IsDate.d4 {n y m d : Nat} (h : IsDate n y m d) : d < 10 ^ 2 := by have := h.d2; have := dim_le y m; omega

theorem IsTime.le {l : List UInt8} {t : Nat} (h : IsTime l t) : t ≤ 253402300799 := by
  obtain ⟨n, y, m, d, hh, i, c, hd, h1, h2, h3, h4, -, rfl⟩ := h
  have := hd.le
  omega
theorem IsTime.length {l : List UInt8} {t : Nat} (h : IsTime l t) : l.length = 16 := by
  obtain ⟨n, y, m, d, hh, i, c, hd, h1, h2, h3, h4, rfl, -⟩ := h
  exact txt_length _ _ _ _ _ _
/-- the text of a time, made of the date of its day -/
theorem IsTime.of {t y m d : Nat} (h : IsDate (t / 86400 + 719162) y m d) :
    IsTime (txt y m d (t % 86400 / 3600) (t % 86400 / 60 % 60) (t % 86400 % 60)) t :=
  ⟨_, _, _, _, _, _, _, h, by omega, by omega, by omega, by omega, rfl, by omega⟩
theorem exists_time (t : Nat) (h : t ≤ 253402300799) : ∃ l, IsTime l t := by
  obtain ⟨y, m, d, hd⟩ := exists_date (t / 86400 + 719162) (by omega)
  exact ⟨_, IsTime.of hd⟩
theorem IsTime.uniq {l l' : List UInt8} {t : Nat} (h : IsTime l t) (h' : IsTime l' t) : l = l' := by
  obtain ⟨n, y, m, d, hh, i, c, hd, h1, h2, h3, h4, rfl, e⟩ := h
  obtain ⟨n', y', m', d', hh', i', c', hd', h1', h2', h3', h4', rfl, e'⟩ := h'
  have en : n = n' := by omega
  subst en
  obtain ⟨rfl, rfl, rfl⟩ := hd.uniq hd'
  have a1 : hh = hh' := by omega
  have a2 : i = i' := by omega
  have a3 : c = c' := by omega
  subst a1; subst a2; subst a3; rfl
/-- of two times the earlier one has the earlier text -/
theorem IsTime.less {l l' : List UInt8} {t t' : Nat} (h : IsTime l t) (h' : IsTime l' t') : Op.bytesLess l l' = decide (t < t') := by
  by_cases ht : t = t'
  · subst ht
    rw [h.uniq h', less_irrefl]; simp
  obtain ⟨n, y, m, d, hh, i, c, hd, h1, h2, h3, h4, rfl, e⟩ := h
  obtain ⟨n', y', m', d', hh', i', c', hd', h1', h2', h3', h4', rfl, e'⟩ := h'
  rw [Bool.eq_iff_iff, decide_eq_true_eq]
  unfold txt
  rw [less_step _ _ _ _ _ hd.y4 hd'.y4, less_step _ _ _ _ _ hd.m4 hd'.m4, less_step _ _ _ _ _ hd.d4 hd'.d4, less_sign, less_step _ _ _ _ _ (by omega) (by omega), less_step _ _ _ _ _ (by omega) (by omega), less_step _ _ _ _ _ (by omega) (by omega), less_irrefl]
  by_cases c1 : y < y' ∨ (y = y' ∧ (m < m' ∨ (m = m' ∧ d < d')))
  · have := hd.lt hd' c1
    constructor
    · intro _; omega
    · intro _; omega
  · by_cases c2 : y' < y ∨ (y' = y ∧ (m' < m ∨ (m' = m ∧ d' < d)))
    · have := hd'.lt hd c2
      constructor
      · intro _; omega
      · intro _; omega
    · have a1 : y = y' := by omega
      have a2 : m = m' := by omega
      have a3 : d = d' := by omega
      subst a1; subst a2; subst a3
      have en : n = n' := by have := hd.eq; have := hd'.eq; omega
      subst en
      simp only [Nat.lt_irrefl, false_or, true_and, Bool.false_eq_true, and_false, or_false]
      omega
theorem IsTime.uniqT {l : List UInt8} {t t' : Nat} (h : IsTime l t) (h' : IsTime l t') : t = t' := by
  have a := h.less h'
  have b := h'.less h
  rw [less_irrefl] at a b
  have a' := of_decide_eq_false a.symm
  have b' := of_decide_eq_false b.symm
  omega
theorem IsTime.eq_iff {l l' : List UInt8} {t t' : Nat} (h : IsTime l t) (h' : IsTime l' t') : (l == l') = decide (t = t') := by
  rw [Bool.eq_iff_iff, beq_iff_eq, decide_eq_true_eq]
  constructor
  · rintro rfl; exact h.uniqT h'
  · rintro rfl; exact h.uniq h'

/-- how a text of sixteen signs falls apart -/
theorem txt_of (l : List UInt8) (hl : l.length = 16) (h8 : nth l 8 = 84) (h15 : nth l 15 = 90)
    (a1 : allDg (l.take 4) = true) (a2 : allDg ((l.drop 4).take 2) = true) (a3 : allDg ((l.drop 6).take 2) = true)
    (a4 : allDg ((l.drop 9).take 2) = true) (a5 : allDg ((l.drop 11).take 2) = true) (a6 : allDg ((l.drop 13).take 2) = true) :
    l = txt (numD (l.take 4)) (numD ((l.drop 4).take 2)) (numD ((l.drop 6).take 2)) (numD ((l.drop 9).take 2)) (numD ((l.drop 11).take 2)) (numD ((l.drop 13).take 2)) := by
  unfold txt
  rw [dgs_numL 4 _ (by simp; omega) a1, dgs_numL 2 _ (by simp; omega) a2, dgs_numL 2 _ (by simp; omega) a3, dgs_numL 2 _ (by simp; omega) a4, dgs_numL 2 _ (by simp; omega) a5, dgs_numL 2 _ (by simp; omega) a6]
  clear a1 a2 a3 a4 a5 a6
  match l, hl with
  | [x0, x1, x2, x3, x4, x5, x6, x7, x8, x9, x10, x11, x12, x13, x14, x15], _ =>
    have e8 : x8 = 84 := h8
    have e15 : x15 = 90 := h15
    subst e8; subst e15
    rfl
end Go.Proofs.Ytjmkfkkkjcjplaa
